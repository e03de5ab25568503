/- Slices of records and of pairs of keys that came in; law 5's KeySums in the row's order of arguments. -/
import Derived.Test.YtnmnjoleebhhiaaGreatDoorLg
import Derived.Test.YtnmnjoleebhhiaaGreatDoorVp
import Derived.Test.YtnmnjoleebhhiaaGreatDoorKall
import Derived.Test.YtnmnjoleebhhiaaGreatDoorPall
namespace Go.Proofs.YtnmnjoleebhhiaaGreatDoor
open Go.ChangeShapes Go.WideShapes Go.ChangeAt Go.RowKit Go.Joins
set_option linter.unusedVariables false
set_option linter.unusedSimpArgs false
section
variable {H : Type} {enc : TypeId × Value → H}
set_option maxRecDepth 100000 in
theorem more_cells {W : World} {base fuel : Nat} {sp : Nat → Bool} {held : Bool} {cs : List Value} {x : DataW H × List MemPlace} (h : DataW.trod enc Tryz.prog W base sp held fuel 33 cs = some x) : ∃ m : Mt, cs = mc m := by
  have c1 : Tryz.prog.cellsOf 33 = 4 := by kernel_rfl
  have c2 : Tryz.prog.cellsOf 31 = 3 := by kernel_rfl
  have c3 : Tryz.prog.cellsOf 2 = 1 := by kernel_rfl
  obtain ⟨xs, n, _, _, hl, hxl, hf⟩ := DataW.trod_struct Tryz.underlying33 h
  rw [c1] at hl
  match cs, hl with
  | [v0, v1, v2, v3], _ =>
    match xs, hxl with
    | [y0, y1], _ =>
      have h0 := hf 0 _ rfl
      have h1 := hf 1 _ rfl
      simp [c2, c3] at h0 h1
      obtain ⟨k, ek⟩ := key_cells h0
      obtain ⟨a, ea, _, wa⟩ := DataW.trod_int Tryz.underlying2 h1
      unfold kc at ek
      cases ek
      cases ea
      exact ⟨⟨k, a, wa⟩, rfl⟩
set_option maxRecDepth 100000 in
theorem mores_open {W : World} {r : Reach} {b0 base : Nat} {held : Bool} {v : Value} {d : DataW H} {p : List MemPlace} (hv : Value.okWide Tryz.prog W r b0 22 v) (h : DataW.Trod enc Tryz.prog W base (fun _ => true) held 22 v d p) : ∃ zs : List Mt, Recs mc 4 W v zs :=
  recs_open mc_len (by omega) Tryz.underlying22 (by kernel_rfl) hv h more_cells
set_option maxRecDepth 100000 in
theorem pairs_open {W : World} {r : Reach} {b0 base : Nat} {held : Bool} {v : Value} {d : DataW H} {p : List MemPlace} (hv : Value.okWide Tryz.prog W r b0 46 v) (h : DataW.Trod enc Tryz.prog W base (fun _ => true) held 46 v d p) : ∃ zs : List (Kt × Kt), Recs pc 6 W v zs :=
  recs_open pc_len (by omega) Tryz.underlying46 (by kernel_rfl) hv h pair_cells
end
end Go.Proofs.YtnmnjoleebhhiaaGreatDoor

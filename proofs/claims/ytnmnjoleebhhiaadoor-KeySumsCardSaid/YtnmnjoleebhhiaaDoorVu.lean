/- Slices of records and of pairs of keys that came in; law 5's KeySums in the row's order of arguments. -/
import Derived.Test.YtnmnjoleebhhiaaDoorLg
import Derived.Test.YtnmnjoleebhhiaaDoorVq
import Derived.Test.YtnmnjoleebhhiaaDoorKall
import Derived.Test.YtnmnjoleebhhiaaDoorPall
namespace Go.Proofs.YtnmnjoleebhhiaaDoor
open Go.ChangeShapes Go.WideShapes Go.ChangeAt Go.RowKit Go.Joins
set_option linter.unusedVariables false
set_option linter.unusedSimpArgs false
section
variable {H : Type} {enc : TypeId × Value → H}
set_option maxRecDepth 100000 in
theorem more_cells {W : World} {base fuel : Nat} {sp : Nat → Bool} {held : Bool} {cs : List Value} {x : DataW H × List MemPlace} (h : DataW.trod enc Tryd.prog W base sp held fuel 38 cs = some x) : ∃ m : Mt, cs = mc m := by
  have c1 : Tryd.prog.cellsOf 38 = 4 := by kernel_rfl
  have c2 : Tryd.prog.cellsOf 25 = 3 := by kernel_rfl
  have c3 : Tryd.prog.cellsOf 2 = 1 := by kernel_rfl
  obtain ⟨xs, n, _, _, hl, hxl, hf⟩ := DataW.trod_struct Tryd.underlying38 h
  rw [c1] at hl
  match cs, hl with
  | [v0, v1, v2, v3], _ =>
    match xs, hxl with
    | [y0, y1], _ =>
      have h0 := hf 0 _ rfl
      have h1 := hf 1 _ rfl
      simp [c2, c3] at h0 h1
      obtain ⟨k, ek⟩ := key_cells h0
      obtain ⟨a, ea, _, wa⟩ := DataW.trod_int Tryd.underlying2 h1
      unfold kc at ek
      cases ek
      cases ea
      exact ⟨⟨k, a, wa⟩, rfl⟩
set_option maxRecDepth 100000 in
theorem mores_open {W : World} {r : Reach} {b0 base : Nat} {held : Bool} {v : Value} {d : DataW H} {p : List MemPlace} (hv : Value.okWide Tryd.prog W r b0 34 v) (h : DataW.Trod enc Tryd.prog W base (fun _ => true) held 34 v d p) : ∃ zs : List Mt, Recs mc 4 W v zs :=
  recs_open mc_len (by omega) Tryd.underlying34 (by kernel_rfl) hv h more_cells
set_option maxRecDepth 100000 in
theorem pairs_open {W : World} {r : Reach} {b0 base : Nat} {held : Bool} {v : Value} {d : DataW H} {p : List MemPlace} (hv : Value.okWide Tryd.prog W r b0 53 v) (h : DataW.Trod enc Tryd.prog W base (fun _ => true) held 53 v d p) : ∃ zs : List (Kt × Kt), Recs pc 6 W v zs :=
  recs_open pc_len (by omega) Tryd.underlying53 (by kernel_rfl) hv h pair_cells
end
theorem keysums_row (v : Value) (zs : List Mt) (w : World) (hI : InI w) (hR : Recs mc 4 w v zs) :
    Calls Tryd.prog 5 #[v] w fun e w' => e = .returned (.bool true) ∧ Below w.heap.size w w' := keysums_any allotC dayC keyC v zs w hI hR
end Go.Proofs.YtnmnjoleebhhiaaDoor

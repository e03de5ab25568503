/- Arguments of law 9: slices of lines. -/
import Derived.Test.YtpebdimjpnpmnaaGreatDoorGj
import Derived.Test.YtpebdimjpnpmnaaGreatDoorIall
import Derived.Test.YtpebdimjpnpmnaaGreatDoorChecked
namespace Go.Proofs.YtpebdimjpnpmnaaGreatDoor
open Go.ChangeShapes Go.WideShapes Go.ChangeAt Go.RowKit Go.Joins
set_option linter.unusedVariables false
set_option linter.unusedSimpArgs false
theorem u32_nat' {a : Int} (h : (Lit.int .u32 a).wf = true) : ∃ n : Nat, a = (n : Int) ∧ n < 4294967296 := by
  have b : 0 ≤ a ∧ a < 4294967296 := by simp [Lit.wf, IntKind.min, IntKind.max, IntKind.bits, IntKind.signed] at h; omega
  exact ⟨a.toNat, by omega, by omega⟩
section
variable {H : Type} {enc : TypeId × Value → H}
set_option maxRecDepth 100000 in
theorem ln_cells {W : World} {base fuel : Nat} {sp : Nat → Bool} {held : Bool} {cs : List Value} {x : DataW H × List MemPlace} (h : DataW.trod enc Tryz.prog W base sp held fuel 28 cs = some x) : ∃ q : Ln, cs = lc q := by
  have c1 : Tryz.prog.cellsOf 28 = 4 := by kernel_rfl
  have c2 : Tryz.prog.cellsOf 25 = 1 := by kernel_rfl
  have c3 : Tryz.prog.cellsOf 26 = 1 := by kernel_rfl
  have c4 : Tryz.prog.cellsOf 2 = 1 := by kernel_rfl
  obtain ⟨xs, n, _, _, hl, hxl, hf⟩ := DataW.trod_struct Tryz.underlying28 h
  rw [c1] at hl
  match cs, hl with
  | [v0, v1, v2, v3], _ =>
    match xs, hxl with
    | [y0, y1, y2, y3], _ =>
      have h0 := hf 0 _ rfl
      have h1 := hf 1 _ rfl
      have h2 := hf 2 _ rfl
      have h3 := hf 3 _ rfl
      simp [c2, c3, c4] at h0 h1 h2 h3
      obtain ⟨a, ea, _, wa⟩ := DataW.trod_int Tryz.underlying25 h0
      obtain ⟨b, eb, _, wb⟩ := DataW.trod_int Tryz.underlying26 h1
      obtain ⟨c, ec, _, wc⟩ := DataW.trod_int Tryz.underlying26 h2
      obtain ⟨d, ed, _, wd⟩ := DataW.trod_int Tryz.underlying2 h3
      cases ea
      cases eb
      cases ec
      cases ed
      obtain ⟨a, rfl, ba⟩ := u32_nat' wa
      obtain ⟨b, rfl, bb⟩ := u16_nat wb
      obtain ⟨c, rfl, bc⟩ := u16_nat wc
      exact ⟨⟨a, ⟨b, bb⟩, c, d, ba, bc, i64_in wd⟩, rfl⟩
set_option maxRecDepth 100000 in
theorem lines_open {W : World} {r : Reach} {b0 base : Nat} {held : Bool} {v : Value} {d : DataW H} {p : List MemPlace} (hv : Value.okWide Tryz.prog W r b0 22 v) (h : DataW.Trod enc Tryz.prog W base (fun _ => true) held 22 v d p) : ∃ zs : List Ln, Recs lc 4 W v zs :=
  recs_open lc_len (by omega) Tryz.underlying22 (by kernel_rfl) hv h ln_cells
end
end Go.Proofs.YtpebdimjpnpmnaaGreatDoor

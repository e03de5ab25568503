/- Made books as values: made, loaded. -/
import Derived.Test.YtmpefjnfelfnfaaGreatDoorXj
namespace Go.Proofs.YtmpefjnfelfnfaaGreatDoor
open Go.RowKit
set_option linter.unusedVariables false
set_option linter.unusedSimpArgs false
/-- A made book as a value. -/
def MkB (x : Bk) (w : World) (v : Value) : Prop := ∃ (vC vU vS vJ : Value) (vs : List Jm), v = bkV vC vU vS (frB x).E vJ ∧ MadeM x w vC vU vS vJ vs
theorem MkB.stay {x : Bk} {w w' : World} {v : Value} (h : MkB x w v) (hb : Below w.heap.size w w') : MkB x w' v := by
  obtain ⟨vC, vU, vS, vJ, vs, e, hM⟩ := h
  exact ⟨vC, vU, vS, vJ, vs, e, hM.stay hb⟩
theorem load_x {w : World} {b : Nat} {vCh vUn vLo vJs : Value} {n : Int} (h : HBox w b [vCh, vUn, .int .i16 n, vLo, vJs] 28) : (Instr.loadAt 28 (.pointer (some ⟨b, 0, none⟩))).run Tryz.prog w = .ok (.agg #[vCh, vUn, .int .i16 n, vLo, vJs]) w := by
  have x0 := h.cell (j := 0) rfl
  have x1 := h.cell (j := 1) rfl
  have x2 := h.cell (j := 2) rfl
  have x3 := h.cell (j := 3) rfl
  have x4 := h.cell (j := 4) rfl
  go_simp
theorem load_bk {w : World} {b : Nat} {v0 v1 v2 v3 v4 : Value} (h : HBox w b [v0, v1, v2, v3, v4] 41) : (Instr.loadAt 41 (.pointer (some ⟨b, 0, none⟩))).run Tryz.prog w = .ok (.agg #[v0, v1, v2, v3, v4]) w := by
  have x0 := h.cell (j := 0) rfl
  have x1 := h.cell (j := 1) rfl
  have x2 := h.cell (j := 2) rfl
  have x3 := h.cell (j := 3) rfl
  have x4 := h.cell (j := 4) rfl
  go_simp
theorem mk_c (x : Bk) (vCh vUn vLo vJs : Value) (js : List Jp) (w : World) (hM : BkM x vCh vUn vLo vJs js w) (hT : lightB x = true) :
    Calls Tryz.prog 11 #[.agg #[vCh, vUn, .int .i16 x.first, vLo, vJs]] w fun e w' => ∃ v, e = .returned v ∧ MkB x w' v ∧ Below w.heap.size w w' := by
  have hl := light_of hT
  refine (makeB_c x vCh vUn vLo vJs js w hM hl.1 (by have := hl.2.2.2.2; omega)).mono ?_
  rintro e w' ⟨vC, vU, vS, vJ, vs, rfl, oC, oU, oS, hJ, hm, hb⟩
  exact ⟨_, rfl, ⟨_, _, _, _, _, rfl, JOwn.made hl.1 (by have := hl.2.2.2.2; omega) oC oU oS hJ hm⟩, hb⟩
end Go.Proofs.YtmpefjnfelfnfaaGreatDoor

/- Made books as values: made, spoiled, loaded. -/
import Derived.Test.YtljjodahfomljaaGreatDoorXj
import Derived.Test.YtljjodahfomljaaGreatDoorSall
namespace Go.Proofs.YtljjodahfomljaaGreatDoor
open Go.RowKit
set_option linter.unusedVariables false
set_option linter.unusedSimpArgs false
/-- A made book as a value. -/
def MkB (x : Bk) (w : World) (v : Value) : Prop := ∃ (vC vU vS vJ : Value) (vs : List Jm), v = bkV vC vU vS (frB x).E vJ ∧ MadeM x w vC vU vS vJ vs
theorem MkB.stay {x : Bk} {w w' : World} {v : Value} (h : MkB x w v) (hb : Below w.heap.size w w') : MkB x w' v := by
  obtain ⟨vC, vU, vS, vJ, vs, e, hM⟩ := h
  exact ⟨vC, vU, vS, vJ, vs, e, hM.stay hb⟩
theorem made_ne {x : Bk} {vs : List Jm} (h8 : ∀ j ∈ x.journals, j.lines.length ≤ 8) (h : vs.map jOf = makeJ x) : ∀ p ∈ vs, p.2.2 ≠ [] := by
  intro p hp h0
  obtain ⟨_, b, _, _⟩ := stJ_ok x h8 x.journals.length (Nat.le_refl _)
  have hm : jOf p ∈ makeJ x := by rw [← h]; exact List.mem_map_of_mem hp
  have hk := (b (jOf p) hm).1.chk
  unfold jOf chkJ at hk
  rw [h0] at hk
  simp only [List.length_nil] at hk
  split at hk
  · omega
  · omega
theorem load_x {w : World} {b : Nat} {vCh vUn vLo vJs : Value} {n : Int} (h : HBox w b [vCh, vUn, .int .i16 n, vLo, vJs] 28) : (Instr.loadAt 28 (.pointer (some ⟨b, 0, none⟩))).run Tryz.prog w = .ok (.agg #[vCh, vUn, .int .i16 n, vLo, vJs]) w := by
  have x0 := h.cell (j := 0) rfl
  have x1 := h.cell (j := 1) rfl
  have x2 := h.cell (j := 2) rfl
  have x3 := h.cell (j := 3) rfl
  have x4 := h.cell (j := 4) rfl
  go_simp
theorem load_bk {w : World} {b : Nat} {v0 v1 v2 v3 v4 : Value} (h : HBox w b [v0, v1, v2, v3, v4] 41) : (Instr.loadAt 41 (.pointer (some ⟨b, 0, none⟩))).run Tryz.prog w = .ok (.agg #[v0, v1, v2, v3, v4]) w := by
  have x0 := h.cell (j := 0) rfl
  have x1 := h.cell (j := 1) rfl
  have x2 := h.cell (j := 2) rfl
  have x3 := h.cell (j := 3) rfl
  have x4 := h.cell (j := 4) rfl
  go_simp
theorem mk_c (x : Bk) (vCh vUn vLo vJs : Value) (js : List Jp) (w : World) (hM : BkM x vCh vUn vLo vJs js w) (hT : lightB x = true) :
    Calls Tryz.prog 12 #[.agg #[vCh, vUn, .int .i16 x.first, vLo, vJs]] w fun e w' => ∃ v, e = .returned v ∧ MkB x w' v ∧ Below w.heap.size w w' := by
  have hl := light_of hT
  refine (makeB_c x vCh vUn vLo vJs js w hM hl.1 (by have := hl.2.2.2.2; omega)).mono ?_
  rintro e w' ⟨vC, vU, vS, vJ, vs, rfl, oC, oU, oS, hJ, hm, hb⟩
  exact ⟨_, rfl, ⟨_, _, _, _, _, rfl, JOwn.made hl.1 (by have := hl.2.2.2.2; omega) oC oU oS hJ hm⟩, hb⟩
theorem spoil_mk {x : Bk} {w : World} {v : Value} (h : MkB x w v) (hT : lightB x = true) (wh at_ : Nat) (by_ : Int) (hwh : wh < 256) (hat : at_ < 256) (hby : -9223372036854775808 ≤ by_ ∧ by_ ≤ 9223372036854775807) :
    Calls Tryz.prog 11 #[v, .int .u8 (wh : Int), .int .u8 (at_ : Int), .int .i64 by_] w fun e w' => ∃ v, e = .returned v ∧ AnyB w.heap.size w' v ∧ Below w.heap.size w w' := by
  obtain ⟨vC, vU, vS, vJ, vs, rfl, hM⟩ := h
  have hl := light_of hT
  obtain ⟨a, b⟩ := made_lens hl.1 (by have := hl.2.2.2.2; omega) hM.js
  exact spoil_c (frB x) vC vU vS vJ vs wh at_ by_ w hM.fr (frB_in x) (frC_made x.chart).2.2 (frU_ok x.units).2.2.2 (frC_made x.chart).1.rise hM.jr (by have := hl.2.2.2.2; omega) (fun p hp => by have := b p hp; omega) (made_ne hl.1 hM.js) hwh hat hby
end Go.Proofs.YtljjodahfomljaaGreatDoor

/- Made books as values: made, spoiled, loaded. -/
import Derived.Test.YtmpefjnfelfnfaaGreatDoorXwb
import Derived.Test.YtmpefjnfelfnfaaGreatDoorSall
import Derived.Test.YtmpefjnfelfnfaaGreatDoorCdall
import Derived.Test.YtmpefjnfelfnfaaGreatDoorUall
import Derived.Test.YtmpefjnfelfnfaaGreatDoorXg
import Derived.BigQuiet
import Derived.Deep.QuietTactic
import Derived.StillTailTactics
namespace Go.Proofs.YtmpefjnfelfnfaaGreatDoor
open Go.RowKit
set_option linter.unusedVariables false
set_option linter.unusedSimpArgs false
theorem frB_names (x : Bk) : ∀ a ∈ (frB x).C, a.name.size ≤ 30 := fun a ha => ((chkA_ok (frC_chk x.chart)).2 a ha).2.1
theorem made_ne {x : Bk} {vs : List Jm} (h8 : ∀ j ∈ x.journals, j.lines.length ≤ 8) (h : vs.map jOf = makeJ x) : ∀ p ∈ vs, p.2.2 ≠ [] := by
  intro p hp h0
  obtain ⟨_, b, _, _⟩ := stJ_ok x h8 x.journals.length (Nat.le_refl _)
  have hm : jOf p ∈ makeJ x := by rw [← h]; exact List.mem_map_of_mem hp
  have hk := (b (jOf p) hm).1.chk
  unfold jOf chkJ at hk
  rw [h0] at hk
  simp only [List.length_nil] at hk
  split at hk
  · omega
  · omega
theorem spoil_mk {x : Bk} {w : World} {v : Value} (h : MkB x w v) (hT : lightB x = true) (wh at_ : Nat) (by_ : Int) (hwh : wh < 256) (hat : at_ < 256) (hby : -9223372036854775808 ≤ by_ ∧ by_ ≤ 9223372036854775807) :
    Calls Tryz.prog 18 #[v, .int .u8 (wh : Int), .int .u8 (at_ : Int), .int .i64 by_] w fun e w' => ∃ v, e = .returned v ∧ AnyB w.heap.size w' v ∧ Below w.heap.size w w' := by
  obtain ⟨vC, vU, vS, vJ, vs, rfl, hM⟩ := h
  have hl := light_of hT
  obtain ⟨a, b⟩ := made_lens hl.1 (by have := hl.2.2.2.2; omega) hM.js
  exact spoil_c (frB x) vC vU vS vJ vs wh at_ by_ w hM.fr (frB_in x) (frC_made x.chart).2.2 (frU_ok x.units).2.2.2 (frC_made x.chart).1.rise (frB_names x) hM.jr (by have := hl.2.2.2.2; omega) (fun p hp => by have := b p hp; omega) (made_ne hl.1 hM.js) hwh hat hby
end Go.Proofs.YtmpefjnfelfnfaaGreatDoor
/- Law 10's same: are two books the same, part by part. -/
namespace Go.Proofs.YtmpefjnfelfnfaaGreatDoor
open Go.RowKit
set_option linter.unusedVariables false
set_option linter.unusedSimpArgs false
theorem same_step {vs us : List Jm} {j : Nat} {x y : Jm} (hx : vs[j]? = some x) (hy : us[j]? = some y) : decide ((vs.take (j + 1)).map jOf = (us.take (j + 1)).map jOf) = (decide ((vs.take j).map jOf = (us.take j).map jOf) && (decide (x.1 = y.1) && decide (x.2.2 = y.2.2))) := by
  obtain ⟨h1, e1⟩ := List.getElem?_eq_some_iff.1 hx
  obtain ⟨h2, e2⟩ := List.getElem?_eq_some_iff.1 hy
  rw [List.take_succ_eq_append_getElem h1, List.take_succ_eq_append_getElem h2, e1, e2, List.map_append, List.map_append]
  rw [Bool.eq_iff_iff]
  simp only [Bool.and_eq_true, decide_eq_true_eq, List.map_cons, List.map_nil]
  constructor
  · intro h
    obtain ⟨h3, h4⟩ := List.append_inj h (by simp only [List.length_map, List.length_take]; omega)
    have h5 : jOf x = jOf y := by simpa using h4
    exact ⟨h3, Prod.mk.inj h5⟩
  · rintro ⟨h3, h4, h5⟩
    have h6 : jOf x = jOf y := by unfold jOf; rw [h4, h5]
    rw [h3, h6]
theorem same_last {vs us : List Jm} {n : Nat} (hn : n = min vs.length us.length) : (decide (vs.length = us.length) && decide ((vs.take n).map jOf = (us.take n).map jOf)) = decide (vs.map jOf = us.map jOf) := by
  rw [Bool.eq_iff_iff]
  simp only [Bool.and_eq_true, decide_eq_true_eq]
  constructor
  · rintro ⟨h1, h2⟩
    rwa [List.take_of_length_le (by omega), List.take_of_length_le (by omega)] at h2
  · intro h
    have h1 := congrArg List.length h
    simp only [List.length_map] at h1
    refine ⟨h1, ?_⟩
    rw [List.take_of_length_le (by omega), List.take_of_length_le (by omega)]
    exact h
end Go.Proofs.YtmpefjnfelfnfaaGreatDoor
/- The walk of law BookSames. -/
namespace Go.Proofs.YtmpefjnfelfnfaaGreatDoor
open Go.RowKit
set_option linter.unusedVariables false
set_option linter.unusedSimpArgs false
/-- A made book in rows of one's own. -/
def MkO (base : Nat) (x : Bk) (w : World) (v : Value) : Prop := ∃ (vC vU vS vJ : Value) (vs : List Jm), v = bkV vC vU vS (frB x).E vJ ∧ AnyM base w vC vU vS vJ (frB x) vs ∧ vs.map jOf = makeJ x
theorem MkO.stay {base : Nat} {x : Bk} {w w' : World} {v : Value} (h : MkO base x w v) (hb : Below w.heap.size w w') : MkO base x w' v := by
  obtain ⟨vC, vU, vS, vJ, vs, e, hM, hj⟩ := h
  exact ⟨vC, vU, vS, vJ, vs, e, hM.below hb, hj⟩
theorem MkO.mono {base base' : Nat} {x : Bk} {w : World} {v : Value} (h : MkO base x w v) (hb : base' ≤ base) : MkO base' x w v := by
  obtain ⟨vC, vU, vS, vJ, vs, e, hM, hj⟩ := h
  exact ⟨vC, vU, vS, vJ, vs, e, hM.mono hb, hj⟩
theorem MkO.mk {base : Nat} {x : Bk} {w : World} {v : Value} (h : MkO base x w v) : MkB x w v := by
  obtain ⟨vC, vU, vS, vJ, vs, e, hM, hj⟩ := h
  exact ⟨vC, vU, vS, vJ, vs, e, hM.fr, hM.jr, hj⟩
theorem mkO_c (x : Bk) (vCh vUn vLo vJs : Value) (js : List Jp) (w : World) (hM : BkM x vCh vUn vLo vJs js w) (hT : lightB x = true) :
    Calls Tryz.prog 11 #[.agg #[vCh, vUn, .int .i16 x.first, vLo, vJs]] w fun e w' => ∃ v, e = .returned v ∧ MkO w.heap.size x w' v ∧ Below w.heap.size w w' := by
  have hl := light_of hT
  refine (makeB_c x vCh vUn vLo vJs js w hM hl.1 (by have := hl.2.2.2.2; omega)).mono ?_
  rintro e w' ⟨vC, vU, vS, vJ, vs, rfl, oC, oU, oS, hJ, hm, hb⟩
  obtain ⟨a, b⟩ := made_lens hl.1 (by have := hl.2.2.2.2; omega) hm
  exact ⟨_, rfl, ⟨_, _, _, _, _, rfl, ⟨oC, oU, oS, hJ, frB_in x, ⟨by have := hl.2.2.2.2; omega, fun p hp => by have := b p hp; omega⟩, frB_names x⟩, hm⟩, hb⟩
theorem same_made {I : World → Prop} (B : BookC I) {x : Bk} (hT : lightB x = true) {base : Nat} {w : World} {vC vU vS vJ : Value} {vs : List Jm} (hA : AnyM base w vC vU vS vJ (frB x) vs) (hv : vs.map jOf = makeJ x) {wC wU wS wJ : Value} {ws : List Jm} (hm : MadeM x w wC wU wS wJ ws) :
    Calls Tryz.prog 16 #[bkV vC vU vS (frB x).E vJ, bkV wC wU wS (frB x).E wJ] w fun e w' => e = .returned (.bool true) ∧ Below w.heap.size w w' := by
  obtain ⟨a, b⟩ := made_lens (light_of hT).1 (by have := (light_of hT).2.2.2.2; omega) hm.js
  have h5 := (light_of hT).2.2.2.2
  have h := B.same vC vU vS vJ wC wU wS wJ (frB x) (frB x) vs ws w hA.fr hm.fr (frB_in x) (frB_in x) hA.jr hm.jr (Nat.le_trans hA.jl.1 (by omega)) (by omega) (fun p hp => (hA.jl.2 p hp).1) (fun p hp => by have := b p hp; omega)
  have e : (eqF (frB x) (frB x) && decide (vs.map jOf = ws.map jOf)) = true := by
    rw [hv, hm.js]; unfold eqF; simp
  rw [e] at h
  exact h
theorem load_fr {w : World} {b : Nat} {v0 v1 v2 v3 v4 : Value} (h : HBox w b [v0, v1, v2, v3, v4] 41) : (Instr.loadAt 38 (.pointer (some ⟨b, 0, none⟩))).run Tryz.prog w = .ok (.agg #[v0, v1, v2, v3]) w := by
  have x0 := h.cell (j := 0) rfl
  have x1 := h.cell (j := 1) rfl
  have x2 := h.cell (j := 2) rfl
  have x3 := h.cell (j := 3) rfl
  go_simp
def P45 (i : Nat) (u : Value) (j : Nat) (v : Value) : Prop := ((i = 4 ∧ j = 5) ∨ (i = 5 ∧ j = 4)) → u ≠ v
theorem p45_no {l : List Oper} {a : Act} {i : Nat} (h : i < 4) (n : Nat) (R : Nat → Value → World → Prop) (w : World) (v : Value) : ∀ j u, j < n → j ≠ i → depB l j i = false → R j u w → (∀ t, depB l i j = true → dstB l j = some t → a.eval (.tmp t) = u) → P45 j u i v ∧ P45 i v j u := fun j u _ _ _ _ _ => ⟨fun e => by omega, fun e => by omega⟩
/-- What holds of the values by which the two books are made. -/
def RK (B : Nat) (x y : Bk) (xv yv : Value) : Nat → Value → World → Prop
  | 0, v, _ => v = xv
  | 1, v, w => MkO B x w v
  | 2, v, _ => v = yv
  | 3, v, w => MkO B y w v
  | _, v, w => ∃ g, v = .pointer (some ⟨g, 0, none⟩) ∧ B ≤ g ∧ HBox w g [.slice none 0 0, .slice none 0 0, .slice none 0 0, .int .i32 0, .slice none 0 0] 41
theorem RK.stay {B : Nat} {x y : Bk} {xv yv : Value} {w w' : World} (hb : Below w.heap.size w w') : ∀ j u, RK B x y xv yv j u w → RK B x y xv yv j u w'
  | 0, _, h => h
  | 1, _, h => MkO.stay h hb
  | 2, _, h => h
  | 3, _, h => MkO.stay h hb
  | _ + 4, _, ⟨g, h1, h2, h3⟩ => ⟨g, h1, h2, h3.stay hb⟩
/-- What holds of the values by which law BookSames answers. -/
def R9 (x : Bk) (xv fa fb ba bb : Value) (g1 g2 : Nat) (FB AB : Bool) : Nat → Value → World → Prop
  | 0, v, _ => v = .pointer (some ⟨g1, 0, none⟩)
  | 1, v, _ => v = fa
  | 2, v, _ => v = .pointer (some ⟨g2, 0, none⟩)
  | 3, v, _ => v = fb
  | 4, v, _ => v = .bool FB
  | 5, v, _ => v = .bool FB
  | 6, v, _ => v = .bool true
  | 7, v, _ => v = .bool true
  | 8, v, _ => v = ba
  | 9, v, _ => v = bb
  | 10, v, _ => v = .bool AB
  | 11, v, _ => v = .bool AB
  | 12, v, _ => v = .bool true
  | 13, v, _ => v = .bool true
  | 14, v, _ => v = .bool true
  | 15, v, _ => v = ba
  | 16, v, _ => v = xv
  | 17, v, w => MkB x w v
  | _, v, _ => v = .bool true
theorem R9.stay {x : Bk} {xv fa fb ba bb : Value} {g1 g2 : Nat} {FB AB : Bool} {w w' : World} (hb : Below w.heap.size w w') : ∀ j u, R9 x xv fa fb ba bb g1 g2 FB AB j u w → R9 x xv fa fb ba bb g1 g2 FB AB j u w'
  | 0, _, h => h
  | 1, _, h => h
  | 2, _, h => h
  | 3, _, h => h
  | 4, _, h => h
  | 5, _, h => h
  | 6, _, h => h
  | 7, _, h => h
  | 8, _, h => h
  | 9, _, h => h
  | 10, _, h => h
  | 11, _, h => h
  | 12, _, h => h
  | 13, _, h => h
  | 14, _, h => h
  | 15, _, h => h
  | 16, _, h => h
  | 17, _, h => MkB.stay h hb
  | _ + 18, _, h => h
end Go.Proofs.YtmpefjnfelfnfaaGreatDoor

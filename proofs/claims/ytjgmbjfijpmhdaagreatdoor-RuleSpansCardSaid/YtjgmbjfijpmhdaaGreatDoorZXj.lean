/- Law 10's Awake. -/
import Derived.Test.YtjgmbjfijpmhdaaGreatDoorZXh
namespace Go.Proofs.YtjgmbjfijpmhdaaGreatDoor
open Go.RowKit
set_option linter.unusedVariables false
set_option linter.unusedSimpArgs false
theorem frB_lens (x : Bk) : (frB x).C.length ≤ 40 ∧ (frB x).U.length ≤ 9 ∧ (frB x).S.length ≤ 13 ∧ 1 ≤ (frB x).S.length := ⟨(frC_made x.chart).2.1, (frU_ok x.units).2.2.1, (mkS_lens x.first x.long).2, (mkS_lens x.first x.long).1⟩
theorem frM_owns {x : Bk} {base : Nat} {vC vU vS : Value} {w : World} (h1 : w.ownsRow base 82 4 vC (frB x).C.length ((frB x).C.flatMap cc)) (h2 : w.ownsRow base 77 1 vU (frB x).U.length ((frB x).U.flatMap uc)) (h3 : w.ownsRow base 37 1 vS (frB x).S.length ((frB x).S.flatMap dcl)) : FrM (frB x) vC vU vS w := by
  obtain ⟨a, b, c, _⟩ := frB_lens x
  exact ⟨recs_of_owns cc_len h1 rfl (by omega), recs_of_owns uc_len h2 rfl (by omega), recs_of_owns dcl_len h3 rfl (by omega)⟩
/-- A made book in memory. -/
structure MadeM (x : Bk) (w : World) (vC vU vS vJ : Value) (vs : List Jm) : Prop where
  fr : FrM (frB x) vC vU vS w
  jr : JRow w vJ vs
  js : vs.map jOf = makeJ x
theorem MadeM.stay {x : Bk} {w w' : World} {vC vU vS vJ : Value} {vs : List Jm} (h : MadeM x w vC vU vS vJ vs) (hb : Below w.heap.size w w') : MadeM x w' vC vU vS vJ vs := ⟨h.fr.stay hb, h.jr.stay hb, h.js⟩
theorem linesB_len {C : List Ac} {U : List Nat} {xs : List Sm} : (linesB C U xs).length ≤ xs.length + U.length := by
  unfold linesB
  have := pads_len C U (sumZ (xs.map (lnA C U))) U.length
  rw [List.length_append, List.length_map]
  omega
theorem stJ_lens (x : Bk) (h8 : ∀ j ∈ x.journals, j.lines.length ≤ 8) : ∀ k, k ≤ x.journals.length → ∀ p ∈ (stJ x k).2, p.2.length ≤ 17
  | 0, _, p, hp => by simp [stJ] at hp
  | k + 1, hk, p, hp => by
    have hx := List.getElem?_eq_getElem (l := x.journals) (i := k) (by omega)
    rw [stJ_step hx] at hp
    unfold stepJ at hp
    have hj8 := h8 _ (List.getElem_mem (by omega : k < x.journals.length))
    split at hp
    · exact stJ_lens x h8 k (by omega) p hp
    · rcases List.mem_append.1 hp with h | h
      · exact stJ_lens x h8 k (by omega) p h
      · simp at h
        subst h
        have := linesB_len (C := (frB x).C) (U := (frB x).U) (xs := (x.journals[k]'(by omega)).lines)
        have := (frB_lens x).2.1
        show (linesB _ _ _).length ≤ 17
        omega
/-- What the laws ask of a made book's journals. -/
theorem made_lens {x : Bk} {vs : List Jm} (h8 : ∀ j ∈ x.journals, j.lines.length ≤ 8) (hl : x.journals.length ≤ 100) (h : vs.map jOf = makeJ x) : vs.length ≤ x.journals.length ∧ ∀ p ∈ vs, p.2.2.length ≤ 17 ∧ -2147483648 ≤ p.1 ∧ p.1 ≤ 2147483647 := by
  obtain ⟨_, b, c, d⟩ := stJ_ok x h8 x.journals.length (Nat.le_refl _)
  have hE := mkE_le x.first x.long
  have hf := x.hf
  obtain ⟨a, _⟩ := stJ_ok x h8 x.journals.length (Nat.le_refl _)
  refine ⟨?_, fun p hp => ?_⟩
  · have e : vs.length = (makeJ x).length := by rw [← h, List.length_map]
    rw [e]; exact d
  · have hm : jOf p ∈ makeJ x := by rw [← h]; exact List.mem_map.2 ⟨p, hp, rfl⟩
    have h1 := b _ hm
    have h2 := stJ_lens x h8 x.journals.length (Nat.le_refl _) _ hm
    have hp1 := h1.1.per
    have h3 : (jOf p).1 = p.1 := rfl
    have h4 : (jOf p).2.length = p.2.2.length := rfl
    have h5 : (frB x).E = mkE x.first x.long := rfl
    rw [h3] at h1 hp1
    rw [h4] at h2
    refine ⟨h2, ?_, ?_⟩
    · unfold perI at hp1
      split at hp1
      · rename_i hc
        have hS0 : 0 < cntD (frB x).S p.1 := hc.2
        obtain ⟨s0, hs0⟩ : ∃ s, (frB x).S[0]? = some s := ⟨_, mkS_head x.first x.long⟩
        have := (cnt_iff (d := p.1) (mkS_rise x.first x.long) hs0).2 hS0
        have := mkS_mem (List.mem_of_getElem? hs0)
        omega
      · omega
    · omega
theorem JOwn.made {x : Bk} {base : Nat} {w : World} {vC vU vS vJ : Value} {vs : List Jm} (h8 : ∀ j ∈ x.journals, j.lines.length ≤ 8) (hl : x.journals.length ≤ 100) (h1 : w.ownsRow base 82 4 vC (frB x).C.length ((frB x).C.flatMap cc)) (h2 : w.ownsRow base 77 1 vU (frB x).U.length ((frB x).U.flatMap uc)) (h3 : w.ownsRow base 37 1 vS (frB x).S.length ((frB x).S.flatMap dcl)) (hJ : JOwn base w vJ vs) (hm : vs.map jOf = makeJ x) : MadeM x w vC vU vS vJ vs := by
  obtain ⟨a, b⟩ := made_lens h8 hl hm
  exact ⟨frM_owns h1 h2 h3, hJ.jrow (by omega) (fun p hp => by have := b p hp; omega), hm⟩
/-- Check of a made book. -/
theorem BookC.made {I : World → Prop} (B : BookC I) {x : Bk} {w : World} {vC vU vS vJ : Value} {vs : List Jm} (hI : I w) (hM : MadeM x w vC vU vS vJ vs) (h8 : ∀ j ∈ x.journals, j.lines.length ≤ 8) (hl : x.journals.length ≤ 100) :
    Calls Tryz.prog 215 #[bkV vC vU vS (frB x).E vJ] w fun e w' => e = .returned (.int .i64 0) ∧ Below w.heap.size w w' := by
  obtain ⟨a, b⟩ := made_lens h8 hl hM.js
  have := B.check vC vU vS vJ (frB x) vs w hI hM.fr (frB_in x) hM.jr (by omega) (fun p hp => by have := b p hp; omega)
  rw [hM.js, made_ok x h8 (by omega)] at this
  exact this
end Go.Proofs.YtjgmbjfijpmhdaaGreatDoor

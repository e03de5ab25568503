/- A region that draws, whose operations' values are not known ahead: of each only what holds of it, in whatever order. Speaks of any program. -/
import Derived.Test.YtmpefjnfelfnfaaGreatDoorIk
namespace Go.Proofs.YtmpefjnfelfnfaaGreatDoor
open Go.RowKit
set_option linter.unusedVariables false
set_option linter.unusedSimpArgs false
/-- The frame behind the operations that have come up. -/
def putL (s : Nat → Bool) (b : Nat → Value) : Nat → List Oper → Act → Act
  | _, [], a => a
  | i, o :: r, a => putL s b (i + 1) r (if s i = true then a.put o.dst (b i) else a)
def distB : List Oper → Bool
  | [] => true
  | o :: r => (match o.dst with | some d => r.all (fun y => y.dst != some d) | none => true) && distB r
theorem distB_head {o : Oper} {r : List Oper} (h : distB (o :: r) = true) : (∀ y ∈ r, ∀ d, o.dst = some d → y.dst ≠ some d) ∧ distB r = true := by
  unfold distB at h
  simp only [Bool.and_eq_true] at h
  refine ⟨fun y hy d hd => ?_, h.2⟩
  have h1 := h.1
  rw [hd] at h1
  have := List.all_eq_true.1 h1 y hy
  simpa using this
theorem putL_put (s : Nat → Bool) (b : Nat → Value) (x : Option Tmp) (v : Value) : ∀ (l : List Oper) (i : Nat) (a : Act), (∀ y ∈ l, ∀ d, x = some d → y.dst ≠ some d) → putL s b i l (a.put x v) = (putL s b i l a).put x v
  | [], _, _, _ => rfl
  | o :: r, i, a, h => by
    unfold putL
    have h1 := h o (List.mem_cons_self ..)
    have h2 : ∀ y ∈ r, ∀ d, x = some d → y.dst ≠ some d := fun y hy => h y (List.mem_cons_of_mem _ hy)
    by_cases hs : s i = true
    · rw [if_pos hs, if_pos hs, Act.put_comm a v (b i) h1, putL_put s b x v r (i + 1) _ h2]
    · rw [if_neg hs, if_neg hs, putL_put s b x v r (i + 1) _ h2]
theorem putL_congr {s s' : Nat → Bool} {b b' : Nat → Value} : ∀ (l : List Oper) (i : Nat) (a : Act), (∀ j, i ≤ j → s j = s' j ∧ b j = b' j) → putL s b i l a = putL s' b' i l a
  | [], _, _, _ => rfl
  | o :: r, i, a, h => by
    unfold putL
    obtain ⟨h1, h2⟩ := h i (Nat.le_refl _)
    rw [h1, h2]
    exact putL_congr r (i + 1) _ fun j hj => h j (by omega)
theorem putL_set (s : Nat → Bool) (b : Nat → Value) (v : Value) : ∀ (l : List Oper) (i k : Nat) (a : Act) (o : Oper), l[k]? = some o → s (i + k) = false → distB l = true →
    putL (fun j => if j = i + k then true else s j) (fun j => if j = i + k then v else b j) i l a = (putL s b i l a).put o.dst v
  | [], _, _, _, _, h, _, _ => by simp at h
  | y :: r, i, 0, a, o, h, hs, hd => by
    simp only [List.getElem?_cons_zero, Option.some.injEq] at h
    subst h
    rw [Nat.add_zero] at hs ⊢
    obtain ⟨h1, h2⟩ := distB_head hd
    unfold putL
    rw [hs]
    simp only [if_true, Bool.false_eq_true, if_false]
    rw [← putL_put s b y.dst v r (i + 1) a h1]
    exact putL_congr r (i + 1) _ fun j hj => by
      have : ¬ j = i := by omega
      simp [this]
  | y :: r, i, k + 1, a, o, h, hs, hd => by
    simp only [List.getElem?_cons_succ] at h
    obtain ⟨h1, h2⟩ := distB_head hd
    unfold putL
    have hne : ¬ i = i + (k + 1) := by omega
    simp only [hne, if_false]
    have e : i + (k + 1) = i + 1 + k := by omega
    rw [e] at hs ⊢
    exact putL_set s b v r (i + 1) k _ o h hs h2
theorem putL_far (s : Nat → Bool) (b : Nat → Value) (t : Tmp) : ∀ (l : List Oper) (i : Nat) (a : Act), (∀ y ∈ l, y.dst ≠ some t) → (putL s b i l a).eval (.tmp t) = a.eval (.tmp t)
  | [], _, _, _ => rfl
  | o :: r, i, a, h => by
    unfold putL
    rw [putL_far s b t r (i + 1) _ fun y hy => h y (List.mem_cons_of_mem _ hy)]
    by_cases hs : s i = true
    · rw [if_pos hs]
      exact Act.eval_put fun d hd e => h o (List.mem_cons_self ..) (by injection e with e; rw [hd, e])
    · rw [if_neg hs]
theorem put_size (a : Act) (x : Option Tmp) (v : Value) : (a.put x v).tmps.size = a.tmps.size := by
  cases x <;> simp [Act.put]
theorem putL_at (s : Nat → Bool) (b : Nat → Value) (t : Tmp) : ∀ (l : List Oper) (i k : Nat) (a : Act) (o : Oper), l[k]? = some o → o.dst = some t → s (i + k) = true → distB l = true → t < a.tmps.size → (putL s b i l a).eval (.tmp t) = b (i + k)
  | [], _, _, _, _, h, _, _, _, _ => by simp at h
  | y :: r, i, 0, a, o, h, ht, hs, hd, hz => by
    simp only [List.getElem?_cons_zero, Option.some.injEq] at h
    subst h
    rw [Nat.add_zero] at hs ⊢
    obtain ⟨h1, h2⟩ := distB_head hd
    unfold putL
    rw [if_pos hs, putL_far s b t r (i + 1) _ (fun z hz => h1 z hz t ht), ht]
    simp [Act.eval, Act.put, hz]
  | y :: r, i, k + 1, a, o, h, ht, hs, hd, hz => by
    simp only [List.getElem?_cons_succ] at h
    obtain ⟨h1, h2⟩ := distB_head hd
    unfold putL
    have e : i + (k + 1) = i + 1 + k := by omega
    rw [e] at hs ⊢
    refine putL_at s b t r (i + 1) k _ o h ht hs h2 ?_
    by_cases hs : s i = true
    · rw [if_pos hs, put_size]; exact hz
    · rw [if_neg hs]; exact hz
theorem wp_region_vals {P : Program} {Q : Exit → Act → World → Prop} {id : Nat} {a0 : Act} {w : World} {l : List Oper} (C : World → Prop) (R : Nat → Value → World → Prop) (hm : P.follows .mixedOrders = true) (hb : backB .any l.toArray = true) (hd : distB l = true)
    (hsz : l.all (fun o => match o.dst with | some t => decide (t < a0.tmps.size) | none => true) = true) (h0 : C w.drew)
    (step : ∀ (s : Nat → Bool) (a : Act) (w' : World) (i : Nat) (o : Oper), C w' → l[i]? = some o → s i = false → (∀ e ∈ o.after, Region.binds .any e = true → s e.on = true) →
      (∀ t, (∀ y ∈ l, y.dst ≠ some t) → a.eval (.tmp t) = a0.eval (.tmp t)) → (∀ j y t, s j = true → l[j]? = some y → y.dst = some t → R j (a.eval (.tmp t)) w') →
      wpOp P l.toArray Q i (fun a' w'' => ∃ v, a' = a.put o.dst v ∧ C w'' ∧ R i v w'' ∧ ∀ j u, R j u w' → R j u w'') a w')
    (done : ∀ (b : Nat → Value) (w' : World), C w' → (∀ i, i < l.length → R i (b i) w') → Q .normal (putL (fun _ => true) b 0 l a0) w') : (Code.region id l.toArray true).wp P Q a0 w := by
  have hz : ∀ (k : Nat) (o : Oper) (t : Tmp), l[k]? = some o → o.dst = some t → t < a0.tmps.size := fun k o t ho ht => by
    have := List.all_eq_true.1 hsz o (List.mem_of_getElem? ho)
    rw [ht] at this
    exact of_decide_eq_true this
  refine wp_region_inv (Inv := fun s a w => C w ∧ ∃ b : Nat → Value, (∀ i, i < l.length → s i = true → R i (b i) w) ∧ a = putL s b 0 l a0) hm hb ⟨h0, fun _ => undef, fun i _ h => by simp at h, ?_⟩ ?_ ?_
  · have : ∀ (l : List Oper) (i : Nat) (a : Act), putL (fun _ => false) (fun _ => undef) i l a = a := by
      intro l
      induction l with
      | nil => intro _ _; rfl
      | cons o r ih => intro i a; unfold putL; simp only [Bool.false_eq_true, if_false]; exact ih _ _
    exact (this _ _ _).symm
  · rintro s a w' i o ⟨hC, b, hR, rfl⟩ ho hs hdep
    have ho' : l[i]? = some o := by simpa using ho
    have hlt := (List.getElem?_eq_some_iff.1 ho').1
    refine wpOp_mono ?_ (step s _ w' i o hC ho' hs hdep (fun t ht => putL_far s b t l 0 a0 ht) (fun j y t hj hy ht => ?_))
    · rintro a' w'' ⟨v, rfl, hC', hRv, hst⟩
      refine ⟨hC', fun j => if j = i then v else b j, fun j hj hsj => ?_, ?_⟩
      · by_cases e : j = i
        · subst e; simp only [if_true]; exact hRv
        · simp only [e, if_false] at hsj ⊢
          exact hst j _ (hR j hj hsj)
      · have := putL_set s b v l 0 i a0 o ho' (by rw [Nat.zero_add]; exact hs) hd
        simp only [Nat.zero_add] at this
        exact this.symm
    · have := putL_at s b t l 0 j a0 y hy ht (by rw [Nat.zero_add]; exact hj) hd (hz j y t hy ht)
      rw [this, Nat.zero_add]
      exact hR j (List.getElem?_eq_some_iff.1 hy).1 hj
  · rintro s a w' ⟨hC, b, hR, rfl⟩ hall
    have hall' : ∀ i, i < l.length → s i = true := fun i hi => hall i (by simpa using hi)
    have hcg : ∀ (m : List Oper) (i : Nat) (a : Act), i + m.length ≤ l.length → putL s b i m a = putL (fun _ => true) b i m a := by
      intro m
      induction m with
      | nil => intro _ _ _; rfl
      | cons o r ih =>
        intro i a h
        rw [List.length_cons] at h
        unfold putL
        rw [hall' i (by omega)]
        exact ih _ _ (by omega)
    rw [hcg l 0 a0 (by omega)]
    exact done b w' hC fun i hi => hR i hi (hall' i hi)
/-- On what an operation waits; where its value goes. -/
def depB (l : List Oper) (i j : Nat) : Bool := match l[i]? with | some o => o.after.any (fun e => Region.binds .any e && e.on == j) | none => false
def dstB (l : List Oper) (i : Nat) : Option Tmp := (l[i]?).bind (fun o => o.dst)
/-- The same, in what the kernel can reckon. -/
theorem wp_region_say {P : Program} {Q : Exit → Act → World → Prop} {id : Nat} {a0 : Act} {w : World} {l : List Oper} (n : Nat) (C : World → Prop) (R : Nat → Value → World → Prop) (hm : P.follows .mixedOrders = true) (hn : l.length = n) (hb : backB .any l.toArray = true) (hd : distB l = true)
    (hsz : l.all (fun o => match o.dst with | some t => decide (t < a0.tmps.size) | none => true) = true) (h0 : C w.drew)
    (step : ∀ (s : Nat → Bool) (a : Act) (w' : World) (i : Nat), i < n → C w' → (∀ j, depB l i j = true → s j = true) →
      (∀ t, l.all (fun y => y.dst != some t) = true → a.eval (.tmp t) = a0.eval (.tmp t)) → (∀ j t, s j = true → dstB l j = some t → R j (a.eval (.tmp t)) w') →
      wpOp P l.toArray Q i (fun a' w'' => ∃ v, a' = a.put (dstB l i) v ∧ C w'' ∧ R i v w'' ∧ ∀ j u, R j u w' → R j u w'') a w')
    (done : ∀ (b : Nat → Value) (w' : World), C w' → (∀ i, i < n → R i (b i) w') → Q .normal (putL (fun _ => true) b 0 l a0) w') : (Code.region id l.toArray true).wp P Q a0 w := by
  subst hn
  refine wp_region_vals C R hm hb hd hsz h0 ?_ done
  intro s a w' i o hC ho hs hdep hfar hrd
  have hlt := (List.getElem?_eq_some_iff.1 ho).1
  have e : dstB l i = o.dst := by unfold dstB; rw [ho]; rfl
  have := step s a w' i hlt hC (fun j hj => by
    unfold depB at hj
    rw [ho] at hj
    obtain ⟨e, he, h⟩ := Array.any_eq_true'.1 hj
    simp only [Bool.and_eq_true, beq_iff_eq] at h
    rw [← h.2]
    exact hdep e he h.1) (fun t ht => hfar t fun y hy => by
      have := List.all_eq_true.1 ht y hy
      simpa using this) (fun j t hj ht => by
      unfold dstB at ht
      cases hy : l[j]? with
      | none => rw [hy] at ht; cases ht
      | some y => rw [hy] at ht; exact hrd j y t hj hy ht)
  rw [e] at this
  exact this
end Go.Proofs.YtmpefjnfelfnfaaGreatDoor

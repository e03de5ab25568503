/- Law 3's rounds in plain words: they end, each part gets one at most, and together they give what is left. -/
import Derived.Test.YtibipjncpojifaaDoorSp
namespace Go.Proofs.YtibipjncpojifaaDoor
open Go.RowKit
set_option linter.unusedVariables false
set_option linter.unusedSimpArgs false
theorem bst_free (G : Nat → Int) (r : Nat → Nat) : ∀ i, 0 ≤ bst G r i → G (bst G r i).toNat = 0
  | 0 => by simp [bst]
  | i + 1 => by
    have ih := bst_free G r i
    unfold bst
    by_cases h : G i = 0 ∧ (bst G r i < 0 ∨ r (bst G r i).toNat < r i)
    · rw [if_pos h]; intro _; simpa using h.1
    · rw [if_neg h]; exact ih
theorem bst_none (G : Nat → Int) (r : Nat → Nat) : ∀ i, bst G r i < 0 → ∀ t, t < i → G t ≠ 0
  | 0 => by intro _ t ht; omega
  | i + 1 => by
    have ih := bst_none G r i
    unfold bst
    by_cases h : G i = 0 ∧ (bst G r i < 0 ∨ r (bst G r i).toNat < r i)
    · rw [if_pos h]; intro h'; omega
    · rw [if_neg h]
      intro h' t ht
      by_cases e : t = i
      · subst e; intro hg; exact h ⟨hg, .inl h'⟩
      · exact ih h' t (by omega)
theorem bst_max (G : Nat → Int) (r : Nat → Nat) : ∀ i t, t < i → G t = 0 → r t ≤ r (bst G r i).toNat
  | 0, t, h, _ => by omega
  | i + 1, t, h, hg => by
    have ih := bst_max G r i t
    have hn := bst_none G r i
    unfold bst
    by_cases c : G i = 0 ∧ (bst G r i < 0 ∨ r (bst G r i).toNat < r i)
    · rw [if_pos c]
      by_cases e : t = i
      · subst e; simp
      · rcases c.2 with h1 | h1
        · exact absurd hg (hn h1 t (by omega))
        · have := ih (by omega) hg
          simp; omega
    · rw [if_neg c]
      by_cases e : t = i
      · subst e
        have : ¬ (bst G r t < 0 ∨ r (bst G r t).toNat < r t) := fun h2 => c ⟨hg, h2⟩
        omega
      · exact ih (by omega) hg
theorem sumTo_congr {f g : Nat → Nat} (n : Nat) (h : ∀ i, i < n → f i = g i) : sumTo f n = sumTo g n :=
  Nat.le_antisymm (sumTo_le n fun i hi => Nat.le_of_eq (h i hi)) (sumTo_le n fun i hi => Nat.le_of_eq (h i hi).symm)
theorem sumTo_add (f g : Nat → Nat) (n : Nat) : sumTo (fun i => f i + g i) n = sumTo f n + sumTo g n := by
  induction n with
  | zero => rfl
  | succ n ih => unfold sumTo; rw [ih]; omega
theorem sumTo_upd (f : Nat → Nat) (q x : Nat) : ∀ n, q < n → sumTo (fun t => if t = q then x else f t) n + f q = sumTo f n + x
  | 0, h => by omega
  | n + 1, h => by
    unfold sumTo
    by_cases e : n = q
    · subst e
      rw [if_pos rfl]
      have : sumTo (fun t => if t = n then x else f t) n = sumTo f n := sumTo_congr n fun i hi => if_neg (by omega)
      omega
    · rw [if_neg e]
      have := sumTo_upd f q x n (by omega)
      omega
/-- How many of the first parts have got nothing. -/
def freeN (G : Nat → Int) (n : Nat) : Nat := sumTo (fun t => if G t = 0 then 1 else 0) n
theorem freeN_all (n : Nat) : freeN (fun _ => 0) n = n := by
  induction n with
  | zero => rfl
  | succ n ih => show freeN (fun _ => 0) n + _ = _; rw [ih]; rfl
theorem freeN_none {G : Nat → Int} {n : Nat} (h : ∀ t, t < n → G t ≠ 0) : freeN G n = 0 := by
  have h1 : freeN G n = sumTo (fun _ => 0) n := sumTo_congr n fun i hi => if_neg (h i hi)
  rw [h1]
  have := sumTo_bound (fun _ => 0) 0 n (fun _ _ => Nat.le_refl _)
  omega
theorem freeN_upd {G : Nat → Int} {n q : Nat} (hq : q < n) (hg : G q = 0) : freeN (fun j => if j = q then 1 else G j) n + 1 = freeN G n := by
  have h := sumTo_upd (fun t => if G t = 0 then 1 else 0) q 0 n hq
  have h1 : freeN (fun j => if j = q then 1 else G j) n = sumTo (fun t => if t = q then 0 else if G t = 0 then 1 else 0) n := sumTo_congr n fun i _ => by
    by_cases e : i = q
    · simp [e]
    · simp [e]
  rw [h1]
  simp only [hg] at h
  unfold freeN
  simpa using h
/-- The rests of the parts that have got nothing. -/
def freeR (G : Nat → Int) (r : Nat → Nat) (n : Nat) : Nat := sumTo (fun t => if G t = 0 then r t else 0) n
theorem freeR_zero {G : Nat → Int} {r : Nat → Nat} : ∀ n, (∀ t, t < n → G t = 0 → r t = 0) → freeR G r n = 0
  | 0, _ => rfl
  | n + 1, h => by
    have h1 : freeR G r n = 0 := freeR_zero n fun t ht => h t (by omega)
    show freeR G r n + (if G n = 0 then r n else 0) = 0
    rw [h1]
    by_cases e : G n = 0
    · rw [if_pos e, h n (by omega) e]
    · rw [if_neg e]
theorem freeR_upd {G : Nat → Int} {r : Nat → Nat} {n q : Nat} (hq : q < n) (hg : G q = 0) : freeR (fun j => if j = q then 1 else G j) r n + r q = freeR G r n := by
  have h := sumTo_upd (fun t => if G t = 0 then r t else 0) q 0 n hq
  have h1 : freeR (fun j => if j = q then 1 else G j) r n = sumTo (fun t => if t = q then 0 else if G t = 0 then r t else 0) n := sumTo_congr n fun i _ => by
    by_cases e : i = q
    · simp [e]
    · simp [e]
  rw [h1]
  simp only [hg] at h
  unfold freeR
  simpa using h
theorem give_some (n : Nat) (r : Nat → Nat) : ∀ (m : Nat) (G O : Nat → Int), m ≤ freeN G n →
    ∃ O' : Nat → Int, ∃ d : Nat → Nat, give n r m G O = some O' ∧ (∀ t, d t ≤ 1) ∧ (∀ t, G t ≠ 0 → d t = 0) ∧ (∀ t, O' t = if d t = 1 then IntKind.u64.wrap (O t + 1) else O t) ∧ sumTo d n = m ∧
      (∀ T, (∀ t, t < n → r t < T) → m * T < freeR G r n + T → ∀ t, d t = 1 → 0 < r t)
  | 0, G, O, _ => ⟨O, fun _ => 0, rfl, fun _ => Nat.zero_le _, fun _ _ => rfl, fun _ => rfl, by
      have := sumTo_bound (fun _ => 0) 0 n (fun _ _ => Nat.le_refl _)
      omega, fun T h1 h2 t h3 => by simp at h3⟩
  | m + 1, G, O, h => by
    have hb := bst_range G r n
    by_cases hn : bst G r n < 0
    · have := freeN_none (bst_none G r n hn)
      omega
    · have hf := bst_free G r n (by omega)
      have hq : (bst G r n).toNat < n := by omega
      have hfree := freeN_upd hq hf
      have hfr := freeR_upd (r := r) hq hf
      have hmax := bst_max G r n
      unfold give
      rw [if_neg hn]
      generalize (bst G r n).toNat = q at *
      obtain ⟨O', d, h1, h2, h3, h4, h5, h6⟩ := give_some n r m (fun j => if j = q then 1 else G j) (fun j => if j = q then IntKind.u64.wrap (O j + 1) else O j) (by omega)
      have hdq : d q = 0 := h3 q (by simp)
      refine ⟨O', fun t => if t = q then 1 else d t, h1, ?_, ?_, ?_, ?_, ?_⟩
      · intro t; dsimp only; split
        · omega
        · exact h2 t
      · intro t ht
        have htq : t ≠ q := fun e => ht (e ▸ hf)
        dsimp only; rw [if_neg htq]
        exact h3 t (by simpa [htq] using ht)
      · intro t
        rw [h4 t]
        by_cases e : t = q
        · subst e; simp [hdq]
        · simp [e]
      · have := sumTo_upd d q 1 n hq
        omega
      · intro T hT hsum t ht
        rw [Nat.succ_mul] at hsum
        have hqT := hT q hq
        by_cases e : t = q
        · subst e
          by_cases h0 : 0 < r t
          · exact h0
          · have := freeR_zero (G := G) (r := r) n fun i hi hgi => by
              have := hmax i hi hgi
              omega
            omega
        · refine h6 T hT (by omega) t ?_
          simpa [e] using ht
/-- The rests together are as many wholes as are left. -/
theorem rests_sum (S T n : Nat) (W : Nat → Nat) (hT : T = sumTo W n) (h0 : 0 < T) : sumTo (fun i => S * W i % T) n = T * (S - sumTo (fun i => S * W i / T) n) := by
  have h1 : sumTo (fun i => T * (S * W i / T) + S * W i % T) n = sumTo (fun i => S * W i) n := sumTo_congr n fun i _ => Nat.div_add_mod _ _
  rw [sumTo_add, sumTo_mul, sumTo_mul W S, ← hT] at h1
  rw [Nat.mul_sub, Nat.mul_comm T S]
  omega
theorem left_lt (S T n : Nat) (W : Nat → Nat) (hT : T = sumTo W n) (h0 : 0 < T) : S - sumTo (fun i => S * W i / T) n ≤ n := by
  have h1 := rests_sum S T n W hT h0
  have h2 := sumTo_bound (fun i => S * W i % T) T n (fun i _ => Nat.le_of_lt (Nat.mod_lt _ h0))
  rw [h1, Nat.mul_comm n T] at h2
  exact Nat.le_of_mul_le_mul_left h2 h0
/-- Law 3's shares: there always are some; each is its quotient, or one more; together they are the whole. -/
theorem shares_some (S n : Nat) (W : Nat → Nat) (h0 : 0 < sumTo W n) (hS : S ≤ 9223372036854775808) (hW : ∀ i, i < n → W i ≤ sumTo W n) :
    ∃ P : Nat → Nat, ∃ d : Nat → Nat, (∃ O, sharesL S n W = some O ∧ ∀ t, t < n → O t = (P t : Int)) ∧ ((∀ t, d t ≤ 1) ∧ ∀ t, d t = 1 → 0 < S * W t % sumTo W n) ∧ (∀ t, P t = S * W t / sumTo W n + d t) ∧ sumTo P n = S ∧ ∀ t, t < n → P t ≤ S := by
  have hl := left_lt S (sumTo W n) n W rfl h0
  have hq := quos_le S (sumTo W n) n W rfl h0
  obtain ⟨O, d, h1, h2, h3, h4, h5, h6⟩ := give_some n (fun t => S * W t % sumTo W n) (S - sumTo (fun t => S * W t / sumTo W n) n) (fun _ => 0) (fun t => ((S * W t / sumTo W n : Nat) : Int)) (by rw [freeN_all]; exact hl)
  have hs : sumTo (fun t => S * W t / sumTo W n + d t) n = S := by
    rw [sumTo_add, h5]; omega
  have hle : ∀ t, t < n → S * W t / sumTo W n + d t ≤ S := by
    intro t ht
    have h6 : sumTo (fun t => S * W t / sumTo W n + d t) (t + 1) ≤ sumTo (fun t => S * W t / sumTo W n + d t) n := sumTo_mono _ ht
    rw [hs] at h6
    have h7 : sumTo (fun t => S * W t / sumTo W n + d t) (t + 1) = sumTo (fun t => S * W t / sumTo W n + d t) t + (S * W t / sumTo W n + d t) := rfl
    omega
  have h7 := h6 (sumTo W n) (fun t _ => Nat.mod_lt _ h0) (by
    have h8 : freeR (fun _ => 0) (fun t => S * W t % sumTo W n) n = sumTo (fun t => S * W t % sumTo W n) n := sumTo_congr n fun i _ => by simp
    rw [h8, rests_sum S (sumTo W n) n W rfl h0, Nat.mul_comm]
    omega)
  refine ⟨fun t => S * W t / sumTo W n + d t, d, ⟨O, h1, ?_⟩, ⟨h2, h7⟩, fun _ => rfl, hs, hle⟩
  intro t ht
  have h8 := hle t ht
  have h9 := h2 t
  have h4' := h4 t
  rw [h4']
  dsimp only
  generalize S * W t / sumTo W n = x at *
  by_cases e : d t = 1
  · rw [if_pos e, e]
    simp only [IntKind.wrap, IntKind.signed, IntKind.bits]
    simp
    omega
  · rw [if_neg e]
    have : d t = 0 := by omega
    rw [this]; simp
end Go.Proofs.YtibipjncpojifaaDoor

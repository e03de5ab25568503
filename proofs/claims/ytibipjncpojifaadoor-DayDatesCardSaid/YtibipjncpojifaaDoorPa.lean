/- The order in which units are given away: the parts sorted by their rests, the greatest first, of like ones the first: it is the order of law 3's rounds. -/
import Derived.Test.YtibipjncpojifaaDoorSf
import Derived.Sort.LotA
namespace Go.Proofs.YtibipjncpojifaaDoor
open Go.RowKit
set_option linter.unusedVariables false
set_option linter.unusedSimpArgs false
/-- An order of n parts: the greatest rest first, of like ones the first part. -/
structure Ordered (R : Nat → Nat) (n : Nat) (p : Nat → Nat) : Prop where
  lt : ∀ k, k < n → p k < n
  inj : ∀ i j, i < n → j < n → p i = p j → i = j
  surj : ∀ t, t < n → ∃ k, k < n ∧ p k = t
  ord : ∀ i j, i < j → j < n → R (p j) < R (p i) ∨ (R (p j) = R (p i) ∧ p i < p j)
theorem bst_first (G : Nat → Int) (r : Nat → Nat) : ∀ i t, t < i → G t = 0 → (t : Int) < bst G r i → r t < r (bst G r i).toNat
  | 0, t, h, _, _ => by omega
  | i + 1, t, h, hg, hb => by
    have ih := bst_first G r i t
    have hm := bst_max G r i t
    have hn := bst_none G r i
    have hr := bst_range G r i
    unfold bst at hb ⊢
    by_cases c : G i = 0 ∧ (bst G r i < 0 ∨ r (bst G r i).toNat < r i)
    · rw [if_pos c] at hb ⊢
      have ht : t < i := by omega
      rcases c.2 with h1 | h1
      · exact absurd hg (hn h1 t ht)
      · have := hm ht hg
        simp; omega
    · rw [if_neg c] at hb ⊢
      exact ih (by omega) hg hb
/-- Who has got one, and what all have, when k parts of the order have got theirs. -/
def Gg (p : Nat → Nat) : Nat → Nat → Int
  | 0 => fun _ => 0
  | k + 1 => fun t => if t = p k then 1 else Gg p k t
def Og (p : Nat → Nat) (O : Nat → Int) : Nat → Nat → Int
  | 0 => O
  | k + 1 => fun t => if t = p k then IntKind.u64.wrap (Og p O k t + 1) else Og p O k t
theorem Gg_zero (p : Nat → Nat) : ∀ k t, Gg p k t = 0 ↔ ∀ i, i < k → p i ≠ t
  | 0, t => ⟨fun _ i hi => by omega, fun _ => rfl⟩
  | k + 1, t => by
    have ih := Gg_zero p k t
    unfold Gg
    by_cases e : t = p k
    · rw [if_pos e]
      exact ⟨fun h => by omega, fun h => absurd e.symm (h k (by omega))⟩
    · rw [if_neg e, ih]
      refine ⟨fun h i hi => ?_, fun h i hi => h i (by omega)⟩
      by_cases hk : i = k
      · subst hk; exact fun h' => e h'.symm
      · exact h i (by omega)
theorem bst_ord {R : Nat → Nat} {n : Nat} {p : Nat → Nat} (h : Ordered R n p) (k : Nat) (hk : k < n) : bst (Gg p k) R n = (p k : Int) := by
  have hfree : Gg p k (p k) = 0 := (Gg_zero p k (p k)).2 fun i hi e => by
    have := h.inj i k (by omega) hk e
    omega
  have hr := bst_range (Gg p k) R n
  have hn := bst_none (Gg p k) R n
  have hf := bst_free (Gg p k) R n
  have hm := bst_max (Gg p k) R n (p k) (h.lt k hk) hfree
  have h1 := bst_first (Gg p k) R n (p k) (h.lt k hk) hfree
  have h0 : 0 ≤ bst (Gg p k) R n := by
    by_cases e : bst (Gg p k) R n < 0
    · exact absurd hfree (hn e (p k) (h.lt k hk))
    · omega
  have hb := hf h0
  generalize bst (Gg p k) R n = b at *
  obtain ⟨q, rfl⟩ : ∃ q : Nat, b = q := ⟨b.toNat, by omega⟩
  simp only [Int.toNat_natCast] at *
  obtain ⟨j, hj, rfl⟩ := h.surj q (by omega)
  have hjk : ¬ j < k := fun e => (Gg_zero p k (p j)).1 hb j e rfl
  by_cases e : j = k
  · rw [e]
  · have := h.ord k j (by omega) hj
    by_cases hlt : p k < p j
    · have := h1 (by omega)
      omega
    · omega
theorem give_ord {R : Nat → Nat} {n : Nat} {p : Nat → Nat} (h : Ordered R n p) (O : Nat → Int) : ∀ m k, k + m ≤ n → give n R m (Gg p k) (Og p O k) = some (Og p O (k + m))
  | 0, k, _ => rfl
  | m + 1, k, hk => by
    have hb := bst_ord h k (by omega)
    unfold give
    rw [hb, if_neg (by omega)]
    have := give_ord h O m (k + 1) (by omega)
    rw [show k + 1 + m = k + (m + 1) by omega] at this
    rw [Int.toNat_natCast]
    exact this
/-- Of like rests the lesser part stands ahead. -/
def Stb (R : Nat → Nat) {m : Nat} (d : Array (Fin (m + 1))) : Prop := ∀ i j, i < j → j < d.size → R d[i]!.val = R d[j]!.val → d[i]!.val < d[j]!.val
theorem stb_swp {R : Nat → Nat} {m : Nat} {d : Array (Fin (m + 1))} (h : Stb R d) {j : Nat} (hj : j + 1 < d.size) (hl : R d[j]!.val < R d[j + 1]!.val) : Stb R (Sort.swp d (j + 1) j) := by
  have g := Sort.swp_get d hj (show j < d.size by omega)
  intro a b hab hb he
  rw [Sort.swp_size] at hb
  rw [g, g] at he ⊢
  by_cases a1 : a = j
  · subst a1
    rw [if_pos rfl] at he ⊢
    rw [if_neg (show b ≠ a by omega)] at he ⊢
    by_cases b2 : b = a + 1
    · subst b2
      rw [if_pos rfl] at he
      omega
    · rw [if_neg b2] at he ⊢
      exact h (a + 1) b (by omega) hb he
  · rw [if_neg a1] at he ⊢
    by_cases a2 : a = j + 1
    · subst a2
      rw [if_pos rfl, if_neg (show b ≠ j by omega), if_neg (show b ≠ j + 1 by omega)] at he ⊢
      exact h j b (by omega) hb he
    · rw [if_neg a2] at he ⊢
      by_cases b1 : b = j
      · subst b1
        rw [if_pos rfl] at he ⊢
        exact h a (b + 1) (by omega) hj he
      · rw [if_neg b1] at he ⊢
        by_cases b2 : b = j + 1
        · subst b2
          rw [if_pos rfl] at he ⊢
          exact h a j (by omega) (by omega) he
        · rw [if_neg b2] at he ⊢
          exact h a b hab hb he
theorem stb_inner {R : Nat → Nat} {m : Nat} {lt : Fin (m + 1) → Fin (m + 1) → Bool} (hlt : ∀ x y, lt x y = decide (R y.val < R x.val)) (a : Nat) : ∀ (j : Nat) (d : Array (Fin (m + 1))), j < d.size → Stb R d → Stb R (Sort.insInner lt a j d) ∧ (Sort.insInner lt a j d).size = d.size
  | 0, d, _, h => ⟨h, rfl⟩
  | j + 1, d, hj, h => by
    unfold Sort.insInner
    split
    · rename_i hc
      simp only [Bool.and_eq_true, decide_eq_true_eq, hlt] at hc
      have := stb_inner hlt a j (Sort.swp d (j + 1) j) (by rw [Sort.swp_size]; omega) (stb_swp h hj hc.2)
      rw [Sort.swp_size] at this
      exact this
    · exact ⟨h, rfl⟩
theorem stb_outer {R : Nat → Nat} {m : Nat} {lt : Fin (m + 1) → Fin (m + 1) → Bool} (hlt : ∀ x y, lt x y = decide (R y.val < R x.val)) (a b : Nat) : ∀ (k i : Nat) (d : Array (Fin (m + 1))), b - i = k → b ≤ d.size → Stb R d → Stb R (Sort.insOuter lt a b i d)
  | 0, i, d, hk, _, h => by rw [Sort.insOuter, if_neg (by omega)]; exact h
  | k + 1, i, d, hk, hb, h => by
    rw [Sort.insOuter, if_pos (by omega)]
    obtain ⟨h1, h2⟩ := stb_inner hlt a i d (by omega) h
    exact stb_outer hlt a b k (i + 1) _ (by omega) (by omega) h1
theorem swo_rest {R : Nat → Nat} {m : Nat} {lt : Fin (m + 1) → Fin (m + 1) → Bool} (hlt : ∀ x y, lt x y = decide (R y.val < R x.val)) : Sort.SWO lt := by
  constructor
  · intro x; rw [hlt]; simp
  · intro x y z h1 h2; rw [hlt] at *; simp only [decide_eq_true_eq] at *; omega
  · intro x y z h1 h2; rw [hlt] at *; simp only [decide_eq_false_iff_not] at *; omega
/-- All parts, in their order. -/
def parts (m : Nat) : Array (Fin (m + 1)) := Array.ofFn fun i => i
theorem parts_size (m : Nat) : (parts m).size = m + 1 := by unfold parts; simp
theorem parts_get (m k : Nat) (hk : k < m + 1) : (parts m)[k]! = ⟨k, hk⟩ := by
  rw [getElem!_pos (parts m) k (by rw [parts_size]; exact hk)]
  unfold parts; simp
theorem sorted_ordered (R : Nat → Nat) (m : Nat) (lt : Fin (m + 1) → Fin (m + 1) → Bool) (hlt : ∀ x y, lt x y = decide (R y.val < R x.val)) :
    Ordered R (m + 1) (fun k => (Sort.insertionSort lt (parts m) 0 (m + 1))[k]!.val) ∧ (Sort.insertionSort lt (parts m) 0 (m + 1)).size = m + 1 := by
  have hp := Sort.insertionSort_holds (lt := lt) (swo_rest hlt) (parts m) 0 (m + 1) (by omega) (by rw [parts_size]; exact Nat.le_refl _)
  have hs : Stb R (Sort.insertionSort lt (parts m) 0 (m + 1)) := by
    unfold Sort.insertionSort
    refine stb_outer hlt 0 (m + 1) _ _ _ rfl (by rw [parts_size]; exact Nat.le_refl _) ?_
    intro i j hij hj _
    rw [parts_size] at hj
    rw [parts_get m i (by omega), parts_get m j hj]
    exact hij
  generalize Sort.insertionSort lt (parts m) 0 (m + 1) = d at *
  obtain ⟨⟨h1, _, h2⟩, h3⟩ := hp
  rw [parts_size] at h1
  have e1 : d.extract 0 (m + 1) = d := by
    have h := @Array.extract_size _ d
    rw [h1] at h
    exact h
  have e2 : (parts m).extract 0 (m + 1) = parts m := by
    have h := @Array.extract_size _ (parts m)
    rw [parts_size] at h
    exact h
  rw [e1, e2] at h2
  have nd0 : (parts m).toList.Nodup := by
    refine List.pairwise_iff_getElem.2 fun i j hi hj hij => ?_
    have hi' : i < m + 1 := by simpa [parts_size] using hi
    have hj' : j < m + 1 := by simpa [parts_size] using hj
    have gi : ∀ (k : Nat) (hk : k < (parts m).toList.length), ((parts m).toList[k]).val = k := by
      intro k hk
      rw [Array.getElem_toList]
      simp only [parts, Array.getElem_ofFn]
    intro e
    have := congrArg Fin.val e
    rw [gi, gi] at this
    omega
  have nd : d.toList.Nodup := h2.nodup_iff.2 nd0
  refine ⟨⟨fun k _ => d[k]!.isLt, fun i j hi hj e => ?_, fun t ht => ?_, fun i j hij hj => ?_⟩, h1⟩
  · have nn := List.pairwise_iff_getElem.1 nd
    rw [getElem!_pos d i (by omega), getElem!_pos d j (by omega)] at e
    have e' : d[i]'(by omega) = d[j]'(by omega) := Fin.ext e
    rcases Nat.lt_trichotomy i j with hlt' | heq | hgt
    · exact absurd e' (nn i j (by simpa [h1] using hi) (by simpa [h1] using hj) hlt')
    · exact heq
    · exact absurd e'.symm (nn j i (by simpa [h1] using hj) (by simpa [h1] using hi) hgt)
  · have hm : (⟨t, ht⟩ : Fin (m + 1)) ∈ (parts m).toList := by
      have hl : t < (parts m).toList.length := by simpa [parts_size] using ht
      have he : (parts m).toList[t] = (⟨t, ht⟩ : Fin (m + 1)) := by
        rw [Array.getElem_toList]
        simp only [parts, Array.getElem_ofFn]
      rw [← he]; exact List.getElem_mem hl
    have hm' := h2.mem_iff.2 hm
    obtain ⟨k, hk, he⟩ := List.getElem_of_mem hm'
    have hk' : k < d.size := by simpa using hk
    refine ⟨k, by omega, ?_⟩
    rw [getElem!_pos d k hk']
    rw [Array.getElem_toList] at he
    rw [he]
  · have h4 := h3 i j (by omega) hij hj
    rw [hlt] at h4
    simp only [decide_eq_false_iff_not] at h4
    by_cases e : R d[j]!.val = R d[i]!.val
    · exact .inr ⟨e, hs i j hij (by omega) e.symm⟩
    · exact .inl (by omega)
end Go.Proofs.YtibipjncpojifaaDoor

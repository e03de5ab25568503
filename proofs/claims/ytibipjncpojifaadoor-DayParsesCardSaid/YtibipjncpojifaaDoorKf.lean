/- Texts of dates rise as dates do. -/
import Derived.Test.YtibipjncpojifaaDoorKe
namespace Go.Proofs.YtibipjncpojifaaDoor
open Go.RowKit
set_option linter.unusedVariables false
set_option linter.unusedSimpArgs false
theorem less_cons (x y : UInt8) (a b : List UInt8) : Go.Op.bytesLess (x :: a) (y :: b) = (decide (x < y) || (x == y && Go.Op.bytesLess a b)) := by
  rw [Go.Op.bytesLess]
theorem less_app : ∀ {a b : List UInt8}, a.length = b.length → Go.Op.bytesLess a b = true → ∀ c d : List UInt8, Go.Op.bytesLess (a ++ c) (b ++ d) = true
  | [], [], _, h, _, _ => by simp [Go.Op.bytesLess] at h
  | [], _ :: _, hl, _, _, _ => by simp at hl
  | _ :: _, [], hl, _, _, _ => by simp at hl
  | x :: a, y :: b, hl, h, c, d => by
    rw [less_cons] at h
    rw [List.cons_append, List.cons_append, less_cons]
    simp only [Bool.or_eq_true, Bool.and_eq_true, decide_eq_true_eq] at h ⊢
    rcases h with h | ⟨h1, h2⟩
    · exact .inl h
    · exact .inr ⟨h1, less_app (by simpa using hl) h2 c d⟩
theorem less_same : ∀ (a : List UInt8) {c d : List UInt8}, Go.Op.bytesLess c d = true → Go.Op.bytesLess (a ++ c) (a ++ d) = true
  | [], _, _, h => h
  | x :: a, c, d, h => by
    rw [List.cons_append, List.cons_append, less_cons]
    simp [less_same a h]
theorem digit_lt {p q : Nat} (h : p < q) (hq : q < 10) : UInt8.ofNat (48 + p) < UInt8.ofNat (48 + q) := by
  rw [UInt8.lt_iff_toNat_lt]
  simp
  omega
theorem pow_split (k j : Nat) (h : k ≤ j) : 10 ^ j = 10 ^ k * 10 ^ (j - k) := by
  rw [← Nat.pow_add]; congr 1; omega
theorem digL_mod (n j : Nat) : ∀ k, k ≤ j → digL n k = digL (n % 10 ^ j) k
  | 0, _ => rfl
  | k + 1, h => by
    have ih := digL_mod n j k (by omega)
    have e : n % 10 ^ j / 10 ^ k % 10 = n / 10 ^ k % 10 := by
      rw [pow_split k j (by omega), Nat.mod_mul_right_div_self]
      obtain ⟨q, hq⟩ : ∃ q, 10 ^ (j - k) = 10 * q := ⟨10 ^ (j - k - 1), by rw [← Nat.pow_succ']; congr 1; omega⟩
      rw [hq, Nat.mod_mul_right_mod]
    unfold digL
    rw [e, ih]
theorem digL_lt : ∀ (k n m : Nat), n < m → m < 10 ^ k → Go.Op.bytesLess (digL n k) (digL m k) = true
  | 0, n, m, h, hm => by simp at hm; omega
  | k + 1, n, m, h, hm => by
    have hk : 0 < 10 ^ k := Nat.pos_of_ne_zero (by simp)
    have e : 10 ^ (k + 1) = 10 ^ k * 10 := Nat.pow_succ 10 k
    have qm : m / 10 ^ k < 10 := by rw [Nat.div_lt_iff_lt_mul hk]; omega
    have qn : n / 10 ^ k ≤ m / 10 ^ k := Nat.div_le_div_right (Nat.le_of_lt h)
    have dn := Nat.div_add_mod n (10 ^ k)
    have dm := Nat.div_add_mod m (10 ^ k)
    have rn := Nat.mod_lt n hk
    have rm := Nat.mod_lt m hk
    show Go.Op.bytesLess (UInt8.ofNat (48 + n / 10 ^ k % 10) :: digL n k) (UInt8.ofNat (48 + m / 10 ^ k % 10) :: digL m k) = true
    rw [less_cons]
    simp only [Bool.or_eq_true, Bool.and_eq_true, decide_eq_true_eq]
    by_cases hq : n / 10 ^ k < m / 10 ^ k
    · refine .inl ?_
      rw [Nat.mod_eq_of_lt qm, Nat.mod_eq_of_lt (by omega)]
      exact digit_lt hq qm
    · have eq : n / 10 ^ k = m / 10 ^ k := by omega
      refine .inr ⟨by rw [eq]; simp, ?_⟩
      rw [digL_mod n k k (Nat.le_refl _), digL_mod m k k (Nat.le_refl _)]
      refine digL_lt k _ _ ?_ rm
      rw [eq] at dn
      omega
theorem text_rises {y m d y' m' d' : Int} (h : RightD y m d) (h' : RightD y' m' d') (ha : Ahead y m d y' m' d') : Go.Op.bytesLess (dateL y m d) (dateL y' m' d') = true := by
  have b := ml_bd y m
  have b' := ml_bd y' m'
  obtain ⟨a1, a2, a3, a4, a5, a6⟩ := h
  obtain ⟨c1, c2, c3, c4, c5, c6⟩ := h'
  unfold dateL
  rcases ha with ha | ⟨rfl, ha | ⟨rfl, ha⟩⟩
  · have := digL_lt 4 y.toNat y'.toNat (by omega) (by omega)
    simp only [List.append_assoc]
    exact less_app (by rw [digL_len, digL_len]) this _ _
  · have := digL_lt 2 m.toNat m'.toNat (by omega) (by omega)
    simp only [List.append_assoc]
    exact less_same _ (less_same _ (less_app (by rw [digL_len, digL_len]) this _ _))
  · have := digL_lt 2 d.toNat d'.toNat (by omega) (by omega)
    exact less_same _ this
end Go.Proofs.YtibipjncpojifaaDoor

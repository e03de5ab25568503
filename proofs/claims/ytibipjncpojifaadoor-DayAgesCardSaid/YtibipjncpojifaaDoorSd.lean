/- Law 3's Allot: plain words for its rounds; its first loop. -/
import Derived.Test.YtibipjncpojifaaDoorAb
import Derived.Deep.OwnRows
namespace Go.Proofs.YtibipjncpojifaaDoor
open Go.RowKit
set_option linter.unusedVariables false
set_option linter.unusedSimpArgs false
/-- The sum of the first j values of a function. -/
def sumTo (f : Nat → Nat) : Nat → Nat
  | 0 => 0
  | j + 1 => sumTo f j + f j
/-- The greatest rest, the first of like ones, among the first parts that have got nothing. -/
def bst (G : Nat → Int) (r : Nat → Nat) : Nat → Int
  | 0 => -1
  | i + 1 => if G i = 0 ∧ (bst G r i < 0 ∨ r (bst G r i).toNat < r i) then (i : Int) else bst G r i
theorem bst_range (G : Nat → Int) (r : Nat → Nat) : ∀ i, -1 ≤ bst G r i ∧ bst G r i < i
  | 0 => by simp [bst]
  | i + 1 => by
    have h := bst_range G r i
    unfold bst
    split <;> omega
/-- What is left, one by one. -/
def give (n : Nat) (r : Nat → Nat) : Nat → (Nat → Int) → (Nat → Int) → Option (Nat → Int)
  | 0, _, O => some O
  | m + 1, G, O => if bst G r n < 0 then none else give n r m (fun j => if j = (bst G r n).toNat then 1 else G j) (fun j => if j = (bst G r n).toNat then IntKind.u64.wrap (O j + 1) else O j)
theorem sumTo_le {f g : Nat → Nat} (n : Nat) (h : ∀ i, i < n → f i ≤ g i) : sumTo f n ≤ sumTo g n := by
  induction n with
  | zero => exact Nat.le_refl _
  | succ n ih =>
    have := ih (fun i hi => h i (by omega))
    have := h n (by omega)
    unfold sumTo; omega
theorem sumTo_mul (f : Nat → Nat) (c : Nat) (n : Nat) : sumTo (fun i => c * f i) n = c * sumTo f n := by
  induction n with
  | zero => rfl
  | succ n ih => unfold sumTo; rw [ih, Nat.mul_add]
theorem sumTo_mono (f : Nat → Nat) {i j : Nat} (h : i ≤ j) : sumTo f i ≤ sumTo f j := by
  induction j with
  | zero => have : i = 0 := by omega
            subst this; exact Nat.le_refl _
  | succ j ih =>
    by_cases e : i = j + 1
    · subst e; exact Nat.le_refl _
    · have := ih (by omega)
      show sumTo f i ≤ sumTo f j + f j
      omega
theorem sumTo_bound (f : Nat → Nat) (c n : Nat) (h : ∀ i, i < n → f i ≤ c) : sumTo f n ≤ n * c := by
  induction n with
  | zero => simp [sumTo]
  | succ n ih =>
    have := ih (fun i hi => h i (by omega))
    have := h n (by omega)
    unfold sumTo; rw [Nat.succ_mul]; omega
/-- The parts' quotients together are no more than the whole. -/
theorem quos_le (S T n : Nat) (W : Nat → Nat) (hT : T = sumTo W n) (h0 : 0 < T) : sumTo (fun i => S * W i / T) n ≤ S := by
  have h1 : T * sumTo (fun i => S * W i / T) n ≤ T * S := by
    rw [← sumTo_mul]
    have h2 : sumTo (fun i => T * (S * W i / T)) n ≤ sumTo (fun i => S * W i) n := sumTo_le n (fun i _ => Nat.mul_div_le _ _)
    rw [sumTo_mul W S, ← hT, Nat.mul_comm S T] at h2
    exact h2
  exact Nat.le_of_mul_le_mul_left h1 h0
/-- The weights of a row, as numbers without a sign. -/
def wOf (zs : List Int) (i : Nat) : Nat := (zs.getD i 0).toNat
/-- Allot's answer of what its rounds leave. -/
def allotL (neg : Bool) (n : Nat) (O : Nat → Int) : List Int := (List.range n).map fun i => wrap64 (if neg then IntKind.u64.wrap (-(O i)) else O i)
end Go.Proofs.YtibipjncpojifaaDoor

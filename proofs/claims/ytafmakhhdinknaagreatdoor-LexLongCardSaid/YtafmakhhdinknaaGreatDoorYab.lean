/- Contracts of the document's answer for layer 1: Bits. -/
import Derived.Test.YtafmakhhdinknaaGreatDoorOne
import Derived.LoopTactic
import Derived.Laws.Rows
import Derived.Laws.Tables
import Derived.Deep.QuietTactic
import Derived.BigQuiet
namespace Go.Proofs.YtafmakhhdinknaaGreatDoor
open Go.RowKit
set_option linter.unusedVariables false
set_option linter.unusedSimpArgs false
theorem below_setRow {B : Nat} {a w : World} (h : Below B a w) {g : Nat} (hg : B ≤ g) (cs : Array Value) : Below B a (w.setRow g cs) :=
  h.trans ⟨rfl, rfl, rfl, by simp, fun k hk => setRow_other w g k cs (by omega)⟩
/-- Bits in the making: k of the low half, k of the high one. -/
def mkBits (h l : Int) (k j : Nat) : Int := if j < k then l / 2 ^ j % 2 else if 64 ≤ j ∧ j < 64 + k then h / 2 ^ (j - 64) % 2 else 0
theorem mkBits_step (h l : Int) (k : Nat) (hk : k < 64) (j : Nat) : (if j = 64 + k then h / 2 ^ k % 2 else if j = k then l / 2 ^ k % 2 else mkBits h l k j) = mkBits h l (k + 1) j := by
  unfold mkBits
  by_cases h1 : j = 64 + k
  · subst h1
    rw [if_pos rfl, if_neg (by omega : ¬ 64 + k < k + 1), if_pos (by omega : 64 ≤ 64 + k ∧ 64 + k < 64 + (k + 1)), show 64 + k - 64 = k by omega]
  · rw [if_neg h1]
    by_cases h2 : j = k
    · subst h2; rw [if_pos rfl, if_pos (by omega : j < j + 1)]
    · rw [if_neg h2]
      by_cases h3 : j < k
      · rw [if_pos h3, if_pos (by omega : j < k + 1)]
      · rw [if_neg h3, if_neg (by omega : ¬ j < k + 1)]
        by_cases h4 : 64 ≤ j ∧ j < 64 + k
        · rw [if_pos h4, if_pos (by omega : 64 ≤ j ∧ j < 64 + (k + 1))]
        · rw [if_neg h4, if_neg (by omega : ¬ (64 ≤ j ∧ j < 64 + (k + 1)))]
theorem mkBits_zero (h l : Int) (j : Nat) : 0 = mkBits h l 0 j := by
  unfold mkBits; rw [if_neg (by omega), if_neg (by omega)]
theorem quo_pow_nonneg {x : Int} (h : 0 ≤ x) (k : Nat) : 0 ≤ x / 2 ^ k := Int.ediv_nonneg h (Int.le_of_lt (Int.pow_pos (by omega)))
end Go.Proofs.YtafmakhhdinknaaGreatDoor
/- Contracts of the document's answer for layer 1: Bits, Number, Add. -/
namespace Go.Proofs.YtafmakhhdinknaaGreatDoor
open Go.RowKit
set_option linter.unusedVariables false
set_option linter.unusedSimpArgs false
theorem mkBits_bit (v : Int) : arr (mkBits (IntKind.u64.wrap (hiW v)) (loW v) 64) = arr (bitZ v) := by
  refine arr_congr fun j hj => ?_
  unfold mkBits
  by_cases h : j < 64
  · rw [if_pos h]; exact bit_lo v j h
  · rw [if_neg h, if_pos (by omega)]
    have := bit_hi v (j - 64) (by omega)
    rw [show 64 + (j - 64) = j by omega] at this
    exact this
theorem num_hi (v : Int) : wrap64 (v / 18446744073709551616 % 18446744073709551616) = hiW v := by
  unfold hiW; simp only [i64w, w64w]; omega
theorem num_lo (v : Int) : v % 18446744073709551616 = loW v := rfl
theorem ret_two {k l : IntKind} {a b c d : Int} (h : a = b) (g : c = d) : Ending.returned (.tuple #[.int k a, .int l c]) = .returned (.tuple #[.int k b, .int l d]) := by rw [h, g]
theorem num_step (v : Int) (k : Nat) (hk : k < 64) : IntKind.u64.wrap (v % 2 ^ k + IntKind.u64.wrap (IntKind.u64.wrap (bitZ v k) * 2 ^ k)) = v % 2 ^ (k + 1) := by
  have h := pp k
  have hs := mod_step v k
  have b := bit_01 v k
  have b0 : 0 ≤ v % 2 ^ (k + 1) := Int.emod_nonneg _ (by have := pp (k + 1); omega)
  have b1 : v % 2 ^ (k + 1) < 2 ^ (k + 1) := Int.emod_lt_of_pos _ (pp (k + 1))
  have c0 : 0 ≤ v % 2 ^ k := Int.emod_nonneg _ (by omega)
  have hp : (2 : Int) ^ (k + 1) ≤ 18446744073709551616 := by
    have h1 : (2 : Nat) ^ (k + 1) ≤ 2 ^ 64 := Nat.pow_le_pow_right (by omega) (by omega)
    have h2 : ((2 ^ (k + 1) : Nat) : Int) ≤ ((2 ^ 64 : Nat) : Int) := by omega
    simpa using h2
  simp only [IntKind.wrap_u64]
  rcases (by omega : bitZ v k = 0 ∨ bitZ v k = 1) with e | e <;> rw [e] at hs ⊢ <;> omega
theorem bitZ_up (v : Int) (k : Nat) : bitZ v (64 + k) = bitZ (v / 18446744073709551616) k := by
  unfold bitZ; rw [← div_div]; rfl
set_option maxHeartbeats 1000000 in
/-- An array in the making: k places are filled. -/
def mkArr (F : Nat → Int) (k j : Nat) : Int := if j < k then F j else 0
theorem mkArr_step (F : Nat → Int) (k j : Nat) (x : Int) (h : x = F k) : (if j = k then x else mkArr F k j) = mkArr F (k + 1) j := by
  unfold mkArr
  by_cases h2 : j = k
  · subst h2; rw [if_pos rfl, if_pos (by omega : j < j + 1), h]
  · rw [if_neg h2]
    by_cases h3 : j < k
    · rw [if_pos h3, if_pos (by omega : j < k + 1)]
    · rw [if_neg h3, if_neg (by omega : ¬ j < k + 1)]
theorem mkArr_zero (F : Nat → Int) (j : Nat) : 0 = mkArr F 0 j := by unfold mkArr; rw [if_neg (by omega)]
theorem mkArr_all (F : Nat → Int) : arr (mkArr F 128) = arr F := arr_congr fun j hj => by unfold mkArr; rw [if_pos hj]
end Go.Proofs.YtafmakhhdinknaaGreatDoor

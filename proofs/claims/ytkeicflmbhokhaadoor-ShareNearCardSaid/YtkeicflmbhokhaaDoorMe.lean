/- Plain arithmetic of bits. -/
import Derived.Test.YtkeicflmbhokhaaDoorMd
namespace Go.Proofs.YtkeicflmbhokhaaDoor
open Go.RowKit
set_option linter.unusedVariables false
set_option linter.unusedSimpArgs false
theorem pp (k : Nat) : (0 : Int) < 2 ^ k := Int.pow_pos (by omega)
theorem pow_add_one (k : Nat) : (2 : Int) ^ (k + 1) = 2 * 2 ^ k := by rw [Int.pow_succ, Int.mul_comm]
theorem pow_sum (a b : Nat) : (2 : Int) ^ (a + b) = 2 ^ a * 2 ^ b := Int.pow_add 2 a b
theorem div_div (v : Int) (a b : Nat) : v / 2 ^ a / 2 ^ b = v / 2 ^ (a + b) := by rw [pow_sum, Int.ediv_ediv_of_nonneg (Int.le_of_lt (pp a))]
theorem bit_01 (v : Int) (i : Nat) : 0 ≤ bitZ v i ∧ bitZ v i ≤ 1 := by unfold bitZ; omega
/-- The low n bits of a number have its bits. -/
theorem bit_mod (v : Int) (n i : Nat) (h : i < n) : v % 2 ^ n / 2 ^ i % 2 = v / 2 ^ i % 2 := by
  have e : v = v % 2 ^ n + (v / 2 ^ n * 2 ^ (n - i)) * 2 ^ i := by
    rw [Int.mul_assoc, ← pow_sum, show n - i + i = n by omega]
    have := Int.emod_add_mul_ediv v (2 ^ n)
    rw [Int.mul_comm (v / 2 ^ n)]; omega
  have e2 : v / 2 ^ i = v % 2 ^ n / 2 ^ i + v / 2 ^ n * 2 ^ (n - i) := by
    conv => lhs; rw [e]
    exact Int.add_mul_ediv_right _ _ (by have := pp i; omega)
  rw [e2, show n - i = (n - i - 1) + 1 by omega, pow_add_one, show v / 2 ^ n * (2 * 2 ^ (n - i - 1)) = 2 * (v / 2 ^ n * 2 ^ (n - i - 1)) by ac_rfl]
  omega
/-- One bit more. -/
theorem mod_step (v : Int) (k : Nat) : v % 2 ^ (k + 1) = v % 2 ^ k + bitZ v k * 2 ^ k := by
  unfold bitZ
  have h := pp k
  have e0 := Int.emod_add_mul_ediv v (2 ^ k)
  have e1 : v / 2 ^ k = 2 * (v / 2 ^ k / 2) + v / 2 ^ k % 2 := by omega
  have e2 : v = (v % 2 ^ k + v / 2 ^ k % 2 * 2 ^ k) + 2 ^ (k + 1) * (v / 2 ^ k / 2) := by
    rw [pow_add_one]
    have : 2 ^ k * (v / 2 ^ k) = 2 * 2 ^ k * (v / 2 ^ k / 2) + v / 2 ^ k % 2 * 2 ^ k := by
      conv => lhs; rw [e1]
      rw [Int.mul_add, Int.mul_comm (2 ^ k) (v / 2 ^ k % 2)]
      congr 1
      ac_rfl
    omega
  have b0 : 0 ≤ v % 2 ^ k := Int.emod_nonneg _ (by omega)
  have b1 : v % 2 ^ k < 2 ^ k := Int.emod_lt_of_pos _ h
  have b2 : v / 2 ^ k % 2 = 0 ∨ v / 2 ^ k % 2 = 1 := by omega
  conv => lhs; rw [e2]
  rw [Int.add_mul_emod_self_left]
  apply Int.emod_eq_of_lt
  · rcases b2 with b | b <;> rw [b] <;> omega
  · rw [pow_add_one]; rcases b2 with b | b <;> rw [b] <;> omega
/-- What is carried to place k. -/
def car (u v : Int) (k : Nat) : Int := (u % 2 ^ k + v % 2 ^ k) / 2 ^ k
theorem car_zero (u v : Int) : car u v 0 = 0 := by unfold car; simp
theorem car_01 (u v : Int) (k : Nat) : 0 ≤ car u v k ∧ car u v k ≤ 1 := by
  unfold car
  have h := pp k
  have b0 : 0 ≤ u % 2 ^ k := Int.emod_nonneg _ (by omega)
  have b1 : u % 2 ^ k < 2 ^ k := Int.emod_lt_of_pos _ h
  have c0 : 0 ≤ v % 2 ^ k := Int.emod_nonneg _ (by omega)
  have c1 : v % 2 ^ k < 2 ^ k := Int.emod_lt_of_pos _ h
  refine ⟨Int.ediv_nonneg (by omega) (by omega), ?_⟩
  have : (u % 2 ^ k + v % 2 ^ k) / 2 ^ k < 2 := Int.ediv_lt_of_lt_mul h (by omega)
  omega
theorem car_step (u v : Int) (k : Nat) : (bitZ u k + bitZ v k + car u v k) / 2 = car u v (k + 1) := by
  unfold car
  have h := pp k
  rw [mod_step, mod_step, pow_add_one, Int.mul_comm 2 (2 ^ k), ← Int.ediv_ediv_of_nonneg (Int.le_of_lt h)]
  congr 1
  rw [show u % 2 ^ k + bitZ u k * 2 ^ k + (v % 2 ^ k + bitZ v k * 2 ^ k) = (u % 2 ^ k + v % 2 ^ k) + (bitZ u k + bitZ v k) * 2 ^ k by rw [Int.add_mul]; omega]
  rw [Int.add_mul_ediv_right _ _ (by omega)]
  omega
theorem sum_bit (u v : Int) (k : Nat) : (bitZ u k + bitZ v k + car u v k) % 2 = bitZ (u + v) k := by
  have h := pp k
  have e : (u + v) / 2 ^ k = u / 2 ^ k + v / 2 ^ k + car u v k := by
    unfold car
    have e0 := Int.emod_add_mul_ediv u (2 ^ k)
    have e1 := Int.emod_add_mul_ediv v (2 ^ k)
    have e2 : u + v = (u % 2 ^ k + v % 2 ^ k) + (u / 2 ^ k + v / 2 ^ k) * 2 ^ k := by
      rw [Int.add_mul, Int.mul_comm (u / 2 ^ k), Int.mul_comm (v / 2 ^ k)]; omega
    conv => lhs; rw [e2]
    rw [Int.add_mul_ediv_right _ _ (by omega)]
    omega
  unfold bitZ
  rw [e]; omega
theorem bit_not (v : Int) (k : Nat) : 1 - bitZ v k = bitZ (-v - 1) k := by
  have h := pp k
  have e : (-v - 1) / 2 ^ k = -(v / 2 ^ k) - 1 := by
    have e0 := Int.emod_add_mul_ediv v (2 ^ k)
    have b0 : 0 ≤ v % 2 ^ k := Int.emod_nonneg _ (by omega)
    have b1 : v % 2 ^ k < 2 ^ k := Int.emod_lt_of_pos _ h
    have e2 : -v - 1 = (2 ^ k - 1 - v % 2 ^ k) + (-(v / 2 ^ k) - 1) * 2 ^ k := by
      rw [Int.sub_mul, Int.neg_mul, Int.mul_comm (v / 2 ^ k)]; omega
    conv => lhs; rw [e2]
    rw [Int.add_mul_ediv_right _ _ (by omega), Int.ediv_eq_zero_of_lt (by omega) (by omega)]
    omega
  unfold bitZ
  rw [e]; omega
theorem bit_one (k : Nat) : bitZ 1 k = if k = 0 then 1 else 0 := by
  unfold bitZ
  by_cases h : k = 0
  · subst h; rfl
  · rw [if_neg h]
    obtain ⟨j, rfl⟩ : ∃ j, k = j + 1 := ⟨k - 1, by omega⟩
    rw [pow_add_one]
    have := pp j
    rw [Int.ediv_eq_zero_of_lt (by omega) (by omega)]; rfl
theorem bit_shift (v : Int) (i k : Nat) (h : i ≤ k) : bitZ (v * 2 ^ i) k = bitZ v (k - i) := by
  unfold bitZ
  conv => lhs; rw [show k = i + (k - i) by omega]
  rw [← div_div, Int.mul_ediv_cancel _ (by have := pp i; omega)]
theorem bit_shift_low (v : Int) (i k : Nat) (h : k < i) : bitZ (v * 2 ^ i) k = 0 := by
  unfold bitZ
  conv => lhs; rw [show i = (i - k - 1 + 1) + k by omega]
  rw [pow_sum, ← Int.mul_assoc, Int.mul_ediv_cancel _ (by have := pp k; omega), pow_add_one, show v * (2 * 2 ^ (i - k - 1)) = 2 * (v * 2 ^ (i - k - 1)) by ac_rfl]
  omega
theorem bit_lo (v : Int) (j : Nat) (h : j < 64) : loW v / 2 ^ j % 2 = bitZ v j := by
  have := bit_mod v 64 j h
  unfold loW bitZ
  exact this
theorem bit_hi (v : Int) (j : Nat) (h : j < 64) : IntKind.u64.wrap (hiW v) / 2 ^ j % 2 = bitZ v (64 + j) := by
  have e : IntKind.u64.wrap (hiW v) = v / 18446744073709551616 % 18446744073709551616 := by
    unfold hiW; rw [IntKind.wrap_u64, i64w]; omega
  have := bit_mod (v / 2 ^ 64) 64 j h
  unfold bitZ
  rw [e, ← div_div]
  exact this
end Go.Proofs.YtkeicflmbhokhaaDoor

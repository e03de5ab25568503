/- Plain arithmetic: wide numbers in order, by their bits from the top. -/
import Derived.Test.YthgkfgjdlpjnmaaMe
namespace Go.Proofs.Ythgkfgjdlpjnmaa
open Go.RowKit
set_option linter.unusedVariables false
set_option linter.unusedSimpArgs false
/-- A wide number, moved so that its order is that of its bits. -/
def ordU (a : Int) : Int := (a + 170141183460469231731687303715884105728) % 340282366920938463463374607431768211456
theorem ordU_bd (a : Int) : 0 ≤ ordU a ∧ ordU a < 340282366920938463463374607431768211456 := by unfold ordU; omega
theorem ordU_halves (a : Int) : ordU a = (hiW a + 9223372036854775808) * 18446744073709551616 + loW a := by
  unfold ordU hiW loW; rw [i64w]; omega
theorem p127 : (2 : Int) ^ 127 = 170141183460469231731687303715884105728 := by decide
theorem p128 : (2 : Int) ^ 128 = 340282366920938463463374607431768211456 := by decide
/-- The bits, the top one turned. -/
def topTurned (a : Int) (j : Nat) : Int := if j = 127 then 1 - bitZ a 127 else bitZ a j
theorem topTurned_bit (a : Int) (j : Nat) (h : j < 128) : topTurned a j = bitZ (ordU a) j := by
  have e1 : bitZ (ordU a) j = bitZ (a + 2 ^ 127) j := by
    have := bit_mod (a + 2 ^ 127) 128 j h
    unfold bitZ ordU
    rw [p128, p127] at this
    rw [p127]; exact this
  rw [e1]
  unfold topTurned
  by_cases h2 : j = 127
  · subst h2
    rw [if_pos rfl]
    have e2 : (a + 2 ^ 127) / 2 ^ 127 = a / 2 ^ 127 + 1 := by
      have := Int.add_mul_ediv_right a 1 (c := 2 ^ 127) (by rw [p127]; omega)
      rw [Int.one_mul] at this; exact this
    unfold bitZ
    rw [e2]; omega
  · rw [if_neg h2]
    have e2 : (a + 2 ^ 127) / 2 ^ j = a / 2 ^ j + 2 ^ (127 - j) := by
      have := Int.add_mul_ediv_right a (2 ^ (127 - j)) (c := 2 ^ j) (by have := pp j; omega)
      rw [← pow_sum, show 127 - j + j = 127 by omega] at this; exact this
    unfold bitZ
    rw [e2, show 127 - j = (127 - j - 1) + 1 by omega, pow_add_one]; omega
theorem top_bit_step (x : Int) (k : Nat) : x / 2 ^ k = 2 * (x / 2 ^ (k + 1)) + bitZ x k := by
  unfold bitZ
  rw [← div_div]; omega
theorem div_lt {x y : Int} {k : Nat} (h : x / 2 ^ k < y / 2 ^ k) : x < y := by
  rcases Int.lt_or_le x y with g | g
  · exact g
  · have := Int.ediv_le_ediv (pp k) g; omega
/-- What the loop knows: nothing parted yet, or which is more. -/
def Parted (U V v : Int) (k : Nat) : Prop := (v = 0 ∧ U / 2 ^ k = V / 2 ^ k) ∨ (v = 1 ∧ V < U) ∨ (v = -1 ∧ U < V)
theorem parted_start (U V : Int) (hu : 0 ≤ U ∧ U < 340282366920938463463374607431768211456) (hv : 0 ≤ V ∧ V < 340282366920938463463374607431768211456) : Parted U V 0 128 := by
  refine .inl ⟨rfl, ?_⟩
  rw [p128]; omega
theorem parted_step {U V : Int} {k : Nat} (h : Parted U V 0 (k + 1)) : Parted U V (bitZ U k - bitZ V k) k := by
  have h0 : U / 2 ^ (k + 1) = V / 2 ^ (k + 1) := by
    rcases h with ⟨_, h⟩ | ⟨h, _⟩ | ⟨h, _⟩
    · exact h
    · omega
    · omega
  have e1 := top_bit_step U k
  have e2 := top_bit_step V k
  have b1 := bit_01 U k
  have b2 := bit_01 V k
  rcases (by omega : bitZ U k - bitZ V k = 0 ∨ bitZ U k - bitZ V k = 1 ∨ bitZ U k - bitZ V k = -1) with e | e | e
  · exact .inl ⟨e, by omega⟩
  · exact .inr (.inl ⟨e, div_lt (k := k) (by omega)⟩)
  · exact .inr (.inr ⟨e, div_lt (k := k) (by omega)⟩)
theorem parted_bd {U V v : Int} {k : Nat} (h : Parted U V v k) : -1 ≤ v ∧ v ≤ 1 := by
  rcases h with ⟨h, _⟩ | ⟨h, _⟩ | ⟨h, _⟩ <;> omega
end Go.Proofs.Ythgkfgjdlpjnmaa

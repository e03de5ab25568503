/- Plain arithmetic of a division bit by bit. -/
import Derived.Test.YtibipjncpojifaaDoorMa
import Derived.WalkSmall
namespace Go.Proofs.YtibipjncpojifaaDoor
open Go.RowKit
/-- What has been read of the number h * 2^64 + l when k bits are left. -/
def top (h l k : Nat) : Nat := h * 2 ^ (64 - k) + l / 2 ^ k
/-- The quotient so far, at its place. -/
def quoN (h l d k : Nat) : Nat := top h l k / d * 2 ^ k
/-- The rest so far. -/
def remN (h l d k : Nat) : Nat := top h l k % d
theorem top_step (h l j : Nat) (hj : j < 64) : top h l j = 2 * top h l (j + 1) + l / 2 ^ j % 2 := by
  unfold top
  have e1 : 2 ^ (64 - j) = 2 * 2 ^ (64 - (j + 1)) := by
    rw [show 64 - j = (64 - (j + 1)) + 1 by omega, Nat.pow_succ]; omega
  have e2 : l / 2 ^ (j + 1) = l / 2 ^ j / 2 := by rw [Nat.pow_succ, Nat.div_div_eq_div_mul]
  rw [e1, e2, show h * (2 * 2 ^ (64 - (j + 1))) = 2 * (h * 2 ^ (64 - (j + 1))) by ac_rfl]
  omega
theorem top_lt (h l d k : Nat) (hk : k ≤ 64) (hh : h < d) (hl : l < 2 ^ 64) : top h l k < d * 2 ^ (64 - k) := by
  unfold top
  have e : (2 : Nat) ^ 64 = 2 ^ k * 2 ^ (64 - k) := by rw [← Nat.pow_add]; congr 1; omega
  have h1 : l / 2 ^ k < 2 ^ (64 - k) := Nat.div_lt_of_lt_mul (by rw [← e]; exact hl)
  have h2 : (h + 1) * 2 ^ (64 - k) ≤ d * 2 ^ (64 - k) := Nat.mul_le_mul_right _ hh
  rw [Nat.add_mul] at h2
  omega
theorem quoN_lt (h l d k : Nat) (hk : k ≤ 64) (hh : h < d) (hl : l < 2 ^ 64) : quoN h l d k < 2 ^ 64 := by
  unfold quoN
  have h1 : top h l k / d < 2 ^ (64 - k) := Nat.div_lt_of_lt_mul (top_lt h l d k hk hh hl)
  have e : (2 : Nat) ^ 64 = 2 ^ (64 - k) * 2 ^ k := by rw [← Nat.pow_add]; congr 1; omega
  rw [e]; exact Nat.mul_lt_mul_of_pos_right h1 (Nat.two_pow_pos k)
theorem quoN_mod (h l d k : Nat) : quoN h l d k % 2 ^ k = 0 := by unfold quoN; exact Nat.mul_mod_left _ _
theorem step_div (n b d : Nat) (hd : 0 < d) (hb : b < 2) : ((2 * n + b) / d = 2 * (n / d) + (if d ≤ 2 * (n % d) + b then 1 else 0)) ∧ ((2 * n + b) % d = 2 * (n % d) + b - (if d ≤ 2 * (n % d) + b then d else 0)) := by
  have hr := Nat.mod_lt n hd
  have e0 : 2 * n + b = d * (2 * (n / d)) + (2 * (n % d) + b) := by
    have h := Nat.div_add_mod n d
    have : 2 * n = 2 * (d * (n / d)) + 2 * (n % d) := by omega
    rw [this, show d * (2 * (n / d)) = 2 * (d * (n / d)) by ac_rfl]; omega
  by_cases hc : d ≤ 2 * (n % d) + b
  · rw [if_pos hc, if_pos hc]
    have e1 : 2 * n + b = d * (2 * (n / d) + 1) + (2 * (n % d) + b - d) := by
      rw [e0, Nat.mul_add]; omega
    rw [e1, Nat.mul_add_div hd, Nat.mul_add_mod]
    have hlt : 2 * (n % d) + b - d < d := by omega
    rw [Nat.div_eq_of_lt hlt, Nat.mod_eq_of_lt hlt]
    constructor <;> omega
  · rw [if_neg hc, if_neg hc]
    have hlt : 2 * (n % d) + b < d := by omega
    rw [e0, Nat.mul_add_div hd, Nat.mul_add_mod, Nat.div_eq_of_lt hlt, Nat.mod_eq_of_lt hlt]
    constructor <;> omega
theorem quo_step_yes (h l d j : Nat) (hj : j < 64) (hd : 0 < d) (hc : d ≤ 2 * remN h l d (j + 1) + l / 2 ^ j % 2) :
    quoN h l d j = quoN h l d (j + 1) + 2 ^ j ∧ remN h l d j = 2 * remN h l d (j + 1) + l / 2 ^ j % 2 - d := by
  have := step_div (top h l (j + 1)) (l / 2 ^ j % 2) d hd (by omega)
  unfold remN at hc
  rw [if_pos hc, if_pos hc] at this
  unfold quoN remN
  rw [top_step h l j hj, this.1, this.2]
  refine ⟨?_, rfl⟩
  rw [Nat.add_mul, Nat.pow_succ]
  rw [show 2 * (top h l (j + 1) / d) * 2 ^ j = top h l (j + 1) / d * (2 ^ j * 2) by ac_rfl]; omega
theorem quo_step_no (h l d j : Nat) (hj : j < 64) (hd : 0 < d) (hc : ¬ d ≤ 2 * remN h l d (j + 1) + l / 2 ^ j % 2) :
    quoN h l d j = quoN h l d (j + 1) ∧ remN h l d j = 2 * remN h l d (j + 1) + l / 2 ^ j % 2 := by
  have := step_div (top h l (j + 1)) (l / 2 ^ j % 2) d hd (by omega)
  unfold remN at hc
  rw [if_neg hc, if_neg hc] at this
  unfold quoN remN
  rw [top_step h l j hj, this.1, this.2]
  refine ⟨?_, by omega⟩
  rw [Nat.pow_succ, Nat.add_zero]
  ac_rfl
/-- The bit that comes next, in the program's words. -/
theorem next_bits (r l j : Nat) (hr : r < 9223372036854775808) (hl : l < 18446744073709551616) :
    bits .or .u64 (IntKind.u64.wrap ((r : Int) * 2)) (bits .and .u64 ((l : Int) / 2 ^ j) 1) = ((2 * r + l / 2 ^ j % 2 : Nat) : Int) := by
  have hp : ((l : Int) / 2 ^ j) = ((l / 2 ^ j : Nat) : Int) := by push_cast; rfl
  have hle : l / 2 ^ j ≤ l := Nat.div_le_self _ _
  rw [hp]
  generalize l / 2 ^ j = t at *
  rw [and_one_u64 _ (by omega) (by omega), IntKind.wrap_u64]
  have h1 : ((r : Int) * 2 % 18446744073709551616) = ((r * 2 : Nat) : Int) := by omega
  have h2 : ((t : Int) % 2) = ((t % 2 : Nat) : Int) := by omega
  rw [h1, h2, u64_or_nat _ _ (by omega) (by omega), nat_join 1 (r * 2) _ (by omega) (by omega)]
  omega
theorem pow_lt64 (j : Nat) (hj : j < 64) : 2 ^ j < 18446744073709551616 := Nat.pow_lt_pow_right (a := 2) (m := j) (n := 64) (by omega) hj
theorem set_bit (q j : Nat) (hj : j < 64) (hq : q < 18446744073709551616) (hm : q % 2 ^ (j + 1) = 0) :
    bits .or .u64 (q : Int) (IntKind.u64.wrap (2 ^ j)) = ((q + 2 ^ j : Nat) : Int) := by
  have hp := pow_lt64 j hj
  have h1 : IntKind.u64.wrap (2 ^ j) = ((2 ^ j : Nat) : Int) := by
    rw [IntKind.wrap_u64, show ((2 : Int) ^ j) = ((2 ^ j : Nat) : Int) by push_cast; rfl]; omega
  rw [h1, u64_or_nat _ _ hq hp, nat_join (j + 1) q _ hm (by rw [Nat.pow_succ]; have := Nat.two_pow_pos j; omega)]
end Go.Proofs.YtibipjncpojifaaDoor

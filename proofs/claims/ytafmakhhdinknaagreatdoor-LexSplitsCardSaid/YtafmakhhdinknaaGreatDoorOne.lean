/- Plain arithmetic on wide numbers: a wide number is an integer modulo 2^128; its high half is read with a sign, its low half without one. -/
import Derived.WalkKit
import Derived.Laws.Bits64
import Derived.Laws.BitsAllLaws
import Derived.WalkSmall
import Derived.Laws.Rows
import Derived.Laws.Tables
import Derived.Test.YtafmakhhdinknaaGreatDoorChecked
import Derived.Lib.Hide
import Derived.Below
import Derived.Outline
import Derived.Deep.RegionHeld3
import Derived.LoopTactic
namespace Go.Proofs.YtafmakhhdinknaaGreatDoor
open Go.RowKit
set_option linter.unusedVariables false
set_option linter.unusedSimpArgs false
/-- The high half of an integer, as 64 bits with a sign. -/
def hiW (a : Int) : Int := IntKind.i64.wrap (a / 18446744073709551616)
/-- The low half of an integer, as 64 bits without a sign. -/
def loW (a : Int) : Int := a % 18446744073709551616

theorem i64w (n : Int) : IntKind.i64.wrap n = (n + 9223372036854775808) % 18446744073709551616 - 9223372036854775808 := by
  simp only [IntKind.wrap, IntKind.bits, IntKind.signed]; simp; omega
theorem w64w (n : Int) : wrap64 n = (n + 9223372036854775808) % 18446744073709551616 - 9223372036854775808 := by
  unfold wrap64; simp
theorem wf_bd_i64 {n : Int} (h : (Lit.int .i64 n).wf = true) : -9223372036854775808 ≤ n ∧ n < 9223372036854775808 := by
  simp [Lit.wf, IntKind.min, IntKind.max, IntKind.signed, IntKind.bits] at h; omega
theorem wf_bd_u64 {n : Int} (h : (Lit.int .u64 n).wf = true) : 0 ≤ n ∧ n < 18446744073709551616 := by
  simp [Lit.wf, IntKind.min, IntKind.max, IntKind.signed, IntKind.bits] at h; omega
theorem wf_hi (a : Int) : (Lit.int .i64 (hiW a)).wf = true := by
  refine WalkArith.wf_i64 ?_; unfold hiW; rw [i64w]; omega
theorem wf_lo (a : Int) : (Lit.int .u64 (loW a)).wf = true := by
  refine WalkArith.wf_u64 ?_; unfold loW; omega
theorem of_hi {n : Int} (h : (Lit.int .i64 n).wf = true) : n / 9223372036854775808 = hiW n := by
  have := wf_bd_i64 h
  unfold hiW; rw [i64w]; omega
theorem u64_lo (n : Int) : IntKind.u64.wrap n = loW n := by rw [IntKind.wrap_u64]; rfl
theorem size_neg {n : Int} (h : (Lit.int .i64 n).wf = true) (h0 : n < 0) : IntKind.u64.wrap (-IntKind.u64.wrap n) = n.natAbs := by
  have := wf_bd_i64 h
  simp only [IntKind.wrap_u64]; omega
theorem size_pos {n : Int} (h : (Lit.int .i64 n).wf = true) (h0 : 0 ≤ n) : IntKind.u64.wrap n = n.natAbs := by
  have := wf_bd_i64 h
  simp only [IntKind.wrap_u64]; omega
/-- Every pair of halves is an integer's. -/
theorem halves_of {h l : Int} (hh : (Lit.int .i64 h).wf = true) (hl : (Lit.int .u64 l).wf = true) : ∃ a, h = hiW a ∧ l = loW a := by
  have b1 := wf_bd_i64 hh
  have b2 := wf_bd_u64 hl
  refine ⟨h * 18446744073709551616 + l, ?_, ?_⟩
  · unfold hiW; rw [i64w]; omega
  · unfold loW; omega
theorem add_lo (a b : Int) : IntKind.u64.wrap (loW a + loW b) = loW (a + b) := by
  rw [IntKind.wrap_u64]; unfold loW; omega
theorem add_carry {a b : Int} (h : loW (a + b) < loW a) : wrap64 (wrap64 (hiW a + hiW b) + 1) = hiW (a + b) := by
  unfold loW at h; unfold hiW; simp only [i64w, w64w]; omega
theorem add_plain {a b : Int} (h : ¬ loW (a + b) < loW a) : wrap64 (hiW a + hiW b) = hiW (a + b) := by
  unfold loW at h; unfold hiW; simp only [i64w, w64w]; omega
theorem lo_wrap (a : Int) : loW (wrap64 (loW a)) = loW a := by
  unfold loW; simp only [w64w]; omega
theorem nat_int {k : IntKind} {a b : Nat} (h : a = b) : Value.int k (a : Int) = Value.int k (b : Int) := by rw [h]
theorem int_int {k : IntKind} {a b : Int} (h : a = b) : Value.int k a = Value.int k b := by rw [h]
theorem ret_int {k : IntKind} {a b : Int} (h : a = b) : Ending.returned (.int k a) = .returned (.int k b) := by rw [h]
theorem not_bv (x : Int) : (BitVec.ofInt 64 (-1) ^^^ BitVec.ofInt 64 x).toNat = 18446744073709551615 - (x % 18446744073709551616).toNat := by
  have h1 : BitVec.ofInt 64 (-1) = BitVec.allOnes 64 := by decide
  rw [h1, BitVec.allOnes_xor, BitVec.toNat_not, BitVec.toNat_ofInt]
  rfl
theorem not_hi (a : Int) : bits .xor .i64 (-1) (hiW a) = hiW (-a - 1) := by
  show IntKind.i64.wrap ((BitVec.ofInt 64 (-1) ^^^ BitVec.ofInt 64 (hiW a)).toNat : Int) = _
  rw [not_bv]
  unfold hiW; simp only [i64w]; omega
theorem not_lo (a : Int) : bits .xor .u64 IntKind.u64.max (loW a) = loW (-a - 1) := by
  show IntKind.u64.wrap ((BitVec.ofInt 64 IntKind.u64.max ^^^ BitVec.ofInt 64 (loW a)).toNat : Int) = _
  have h1 : BitVec.ofInt 64 IntKind.u64.max = BitVec.ofInt 64 (-1) := by decide
  rw [h1, not_bv, IntKind.wrap_u64]
  unfold loW; omega
theorem same_of {a b : Int} : (hiW a = hiW b ∧ loW a = loW b) ↔ a % 340282366920938463463374607431768211456 = b % 340282366920938463463374607431768211456 := by
  unfold hiW loW; simp only [i64w]; omega
end Go.Proofs.YtafmakhhdinknaaGreatDoor
/- Plain arithmetic of a product by halves. -/
namespace Go.Proofs.YtafmakhhdinknaaGreatDoor
open Go.RowKit
set_option linter.unusedVariables false
set_option linter.unusedSimpArgs false
theorem mul_bd {x y : Int} (hx : 0 ≤ x) (hx' : x < 4294967296) (hy : 0 ≤ y) (hy' : y < 4294967296) : 0 ≤ x * y ∧ x * y ≤ 18446744065119617025 := by
  refine ⟨Int.mul_nonneg hx hy, ?_⟩
  have h1 : x * y ≤ 4294967295 * y := Int.mul_le_mul_of_nonneg_right (by omega) hy
  omega
/-- The product of two numbers by their halves. -/
theorem mul_halves (a b : Int) : a * b = a / 4294967296 * (b / 4294967296) * 18446744073709551616 + (a / 4294967296 * (b % 4294967296) + a % 4294967296 * (b / 4294967296)) * 4294967296 + a % 4294967296 * (b % 4294967296) := by
  have ha : a = 4294967296 * (a / 4294967296) + a % 4294967296 := by omega
  have hb : b = 4294967296 * (b / 4294967296) + b % 4294967296 := by omega
  generalize a / 4294967296 = x at *
  generalize a % 4294967296 = y at *
  generalize b / 4294967296 = z at *
  generalize b % 4294967296 = t at *
  subst ha; subst hb
  simp only [Int.add_mul, Int.mul_add]
  have e1 : 4294967296 * x * (4294967296 * z) = x * z * 18446744073709551616 := by
    rw [show 4294967296 * x * (4294967296 * z) = (4294967296 * 4294967296) * (x * z) by ac_rfl, Int.mul_comm]; rfl
  have e2 : 4294967296 * x * t = x * t * 4294967296 := by ac_rfl
  have e3 : y * (4294967296 * z) = y * z * 4294967296 := by ac_rfl
  rw [e1, e2, e3]; omega
theorem or_join {x y : Int} (hx : 0 ≤ x) (hx' : x < 4294967296) (hy : 0 ≤ y) (hy' : y < 4294967296) : bits .or .u64 (x * 4294967296) y = x * 4294967296 + y := by
  obtain ⟨n, rfl⟩ := Int.eq_ofNat_of_zero_le hx
  obtain ⟨m, rfl⟩ := Int.eq_ofNat_of_zero_le hy
  have := u64_or_nat (n * 4294967296) m (by omega) (by omega)
  rw [show ((n : Int) * 4294967296) = ((n * 4294967296 : Nat) : Int) by omega, this, nat_join 32 (n * 4294967296) m (by omega) (by omega)]
  omega
/-- All that the walk of a product by halves asks. -/
theorem mul_facts {a b L M1 M2 H : Int} (ha : (Lit.int .u64 a).wf = true) (hb : (Lit.int .u64 b).wf = true)
    (e1 : a % 4294967296 * (b % 4294967296) = L) (e2 : a / 4294967296 * (b % 4294967296) = M1) (e3 : a % 4294967296 * (b / 4294967296) = M2) (e4 : a / 4294967296 * (b / 4294967296) = H) :
    IntKind.u64.wrap L = L ∧ IntKind.u64.wrap M1 = M1 ∧ IntKind.u64.wrap M2 = M2 ∧ IntKind.u64.wrap H = H ∧
    IntKind.u64.wrap (M1 + L / 4294967296) = M1 + L / 4294967296 ∧ IntKind.u64.wrap (M2 + (M1 + L / 4294967296) % 4294967296) = M2 + (M1 + L / 4294967296) % 4294967296 ∧
    wrap64 (IntKind.u64.wrap (IntKind.u64.wrap (H + (M1 + L / 4294967296) / 4294967296) + (M2 + (M1 + L / 4294967296) % 4294967296) / 4294967296)) = hiW (a * b) ∧
    bits .or .u64 ((M2 + (M1 + L / 4294967296)) % 4294967296 * 4294967296) (L % 4294967296) = loW (a * b) := by
  have ba := wf_bd_u64 ha
  have bb := wf_bd_u64 hb
  have m := mul_halves a b
  have b1 := mul_bd (x := a % 4294967296) (y := b % 4294967296) (by omega) (by omega) (by omega) (by omega)
  have b2 := mul_bd (x := a / 4294967296) (y := b % 4294967296) (by omega) (by omega) (by omega) (by omega)
  have b3 := mul_bd (x := a % 4294967296) (y := b / 4294967296) (by omega) (by omega) (by omega) (by omega)
  have b4 := mul_bd (x := a / 4294967296) (y := b / 4294967296) (by omega) (by omega) (by omega) (by omega)
  rw [e1] at b1 m
  rw [e2] at b2 m
  rw [e3] at b3 m
  rw [e4] at b4 m
  clear e1 e2 e3 e4 ha hb ba bb
  rw [or_join (by omega) (by omega) (by omega) (by omega), m]
  unfold hiW loW
  simp only [IntKind.wrap_u64, i64w, w64w]
  generalize a * b = p at *
  refine ⟨by omega, by omega, by omega, by omega, by omega, by omega, by omega, by omega⟩
end Go.Proofs.YtafmakhhdinknaaGreatDoor
/- Plain arithmetic of a division bit by bit. -/
namespace Go.Proofs.YtafmakhhdinknaaGreatDoor
open Go.RowKit
/-- What has been read of the number h * 2^64 + l when k bits are left. -/
def top (h l k : Nat) : Nat := h * 2 ^ (64 - k) + l / 2 ^ k
/-- The quotient so far, at its place. -/
def quoN (h l d k : Nat) : Nat := top h l k / d * 2 ^ k
/-- The rest so far. -/
def remN (h l d k : Nat) : Nat := top h l k % d
theorem top_step (h l j : Nat) (hj : j < 64) : top h l j = 2 * top h l (j + 1) + l / 2 ^ j % 2 := by
  unfold top
  have e1 : 2 ^ (64 - j) = 2 * 2 ^ (64 - (j + 1)) := by
    rw [show 64 - j = (64 - (j + 1)) + 1 by omega, Nat.pow_succ]; omega
  have e2 : l / 2 ^ (j + 1) = l / 2 ^ j / 2 := by rw [Nat.pow_succ, Nat.div_div_eq_div_mul]
  rw [e1, e2, show h * (2 * 2 ^ (64 - (j + 1))) = 2 * (h * 2 ^ (64 - (j + 1))) by ac_rfl]
  omega
theorem top_lt (h l d k : Nat) (hk : k ≤ 64) (hh : h < d) (hl : l < 2 ^ 64) : top h l k < d * 2 ^ (64 - k) := by
  unfold top
  have e : (2 : Nat) ^ 64 = 2 ^ k * 2 ^ (64 - k) := by rw [← Nat.pow_add]; congr 1; omega
  have h1 : l / 2 ^ k < 2 ^ (64 - k) := Nat.div_lt_of_lt_mul (by rw [← e]; exact hl)
  have h2 : (h + 1) * 2 ^ (64 - k) ≤ d * 2 ^ (64 - k) := Nat.mul_le_mul_right _ hh
  rw [Nat.add_mul] at h2
  omega
theorem quoN_lt (h l d k : Nat) (hk : k ≤ 64) (hh : h < d) (hl : l < 2 ^ 64) : quoN h l d k < 2 ^ 64 := by
  unfold quoN
  have h1 : top h l k / d < 2 ^ (64 - k) := Nat.div_lt_of_lt_mul (top_lt h l d k hk hh hl)
  have e : (2 : Nat) ^ 64 = 2 ^ (64 - k) * 2 ^ k := by rw [← Nat.pow_add]; congr 1; omega
  rw [e]; exact Nat.mul_lt_mul_of_pos_right h1 (Nat.two_pow_pos k)
theorem quoN_mod (h l d k : Nat) : quoN h l d k % 2 ^ k = 0 := by unfold quoN; exact Nat.mul_mod_left _ _
theorem step_div (n b d : Nat) (hd : 0 < d) (hb : b < 2) : ((2 * n + b) / d = 2 * (n / d) + (if d ≤ 2 * (n % d) + b then 1 else 0)) ∧ ((2 * n + b) % d = 2 * (n % d) + b - (if d ≤ 2 * (n % d) + b then d else 0)) := by
  have hr := Nat.mod_lt n hd
  have e0 : 2 * n + b = d * (2 * (n / d)) + (2 * (n % d) + b) := by
    have h := Nat.div_add_mod n d
    have : 2 * n = 2 * (d * (n / d)) + 2 * (n % d) := by omega
    rw [this, show d * (2 * (n / d)) = 2 * (d * (n / d)) by ac_rfl]; omega
  by_cases hc : d ≤ 2 * (n % d) + b
  · rw [if_pos hc, if_pos hc]
    have e1 : 2 * n + b = d * (2 * (n / d) + 1) + (2 * (n % d) + b - d) := by
      rw [e0, Nat.mul_add]; omega
    rw [e1, Nat.mul_add_div hd, Nat.mul_add_mod]
    have hlt : 2 * (n % d) + b - d < d := by omega
    rw [Nat.div_eq_of_lt hlt, Nat.mod_eq_of_lt hlt]
    constructor <;> omega
  · rw [if_neg hc, if_neg hc]
    have hlt : 2 * (n % d) + b < d := by omega
    rw [e0, Nat.mul_add_div hd, Nat.mul_add_mod, Nat.div_eq_of_lt hlt, Nat.mod_eq_of_lt hlt]
    constructor <;> omega
theorem quo_step_yes (h l d j : Nat) (hj : j < 64) (hd : 0 < d) (hc : d ≤ 2 * remN h l d (j + 1) + l / 2 ^ j % 2) :
    quoN h l d j = quoN h l d (j + 1) + 2 ^ j ∧ remN h l d j = 2 * remN h l d (j + 1) + l / 2 ^ j % 2 - d := by
  have := step_div (top h l (j + 1)) (l / 2 ^ j % 2) d hd (by omega)
  unfold remN at hc
  rw [if_pos hc, if_pos hc] at this
  unfold quoN remN
  rw [top_step h l j hj, this.1, this.2]
  refine ⟨?_, rfl⟩
  rw [Nat.add_mul, Nat.pow_succ]
  rw [show 2 * (top h l (j + 1) / d) * 2 ^ j = top h l (j + 1) / d * (2 ^ j * 2) by ac_rfl]; omega
theorem quo_step_no (h l d j : Nat) (hj : j < 64) (hd : 0 < d) (hc : ¬ d ≤ 2 * remN h l d (j + 1) + l / 2 ^ j % 2) :
    quoN h l d j = quoN h l d (j + 1) ∧ remN h l d j = 2 * remN h l d (j + 1) + l / 2 ^ j % 2 := by
  have := step_div (top h l (j + 1)) (l / 2 ^ j % 2) d hd (by omega)
  unfold remN at hc
  rw [if_neg hc, if_neg hc] at this
  unfold quoN remN
  rw [top_step h l j hj, this.1, this.2]
  refine ⟨?_, by omega⟩
  rw [Nat.pow_succ, Nat.add_zero]
  ac_rfl
/-- The bit that comes next, in the program's words. -/
theorem next_bits (r l j : Nat) (hr : r < 9223372036854775808) (hl : l < 18446744073709551616) :
    bits .or .u64 (IntKind.u64.wrap ((r : Int) * 2)) (bits .and .u64 ((l : Int) / 2 ^ j) 1) = ((2 * r + l / 2 ^ j % 2 : Nat) : Int) := by
  have hp : ((l : Int) / 2 ^ j) = ((l / 2 ^ j : Nat) : Int) := by push_cast; rfl
  have hle : l / 2 ^ j ≤ l := Nat.div_le_self _ _
  rw [hp]
  generalize l / 2 ^ j = t at *
  rw [and_one_u64 _ (by omega) (by omega), IntKind.wrap_u64]
  have h1 : ((r : Int) * 2 % 18446744073709551616) = ((r * 2 : Nat) : Int) := by omega
  have h2 : ((t : Int) % 2) = ((t % 2 : Nat) : Int) := by omega
  rw [h1, h2, u64_or_nat _ _ (by omega) (by omega), nat_join 1 (r * 2) _ (by omega) (by omega)]
  omega
theorem pow_lt64 (j : Nat) (hj : j < 64) : 2 ^ j < 18446744073709551616 := Nat.pow_lt_pow_right (a := 2) (m := j) (n := 64) (by omega) hj
theorem set_bit (q j : Nat) (hj : j < 64) (hq : q < 18446744073709551616) (hm : q % 2 ^ (j + 1) = 0) :
    bits .or .u64 (q : Int) (IntKind.u64.wrap (2 ^ j)) = ((q + 2 ^ j : Nat) : Int) := by
  have hp := pow_lt64 j hj
  have h1 : IntKind.u64.wrap (2 ^ j) = ((2 ^ j : Nat) : Int) := by
    rw [IntKind.wrap_u64, show ((2 : Int) ^ j) = ((2 ^ j : Nat) : Int) by push_cast; rfl]; omega
  rw [h1, u64_or_nat _ _ hq hp, nat_join (j + 1) q _ hm (by rw [Nat.pow_succ]; have := Nat.two_pow_pos j; omega)]
end Go.Proofs.YtafmakhhdinknaaGreatDoor
/- An array of 128 numbers as a value: what lies at each place. -/
namespace Go.Proofs.YtafmakhhdinknaaGreatDoor
open Go.RowKit
set_option linter.unusedVariables false
set_option linter.unusedSimpArgs false
/-- The cells of an array of 128 whole numbers. -/
def arr (f : Nat → Int) : Array Value := Array.ofFn (n := 128) fun i => Value.int .i64 (f i)
theorem arr_size (f : Nat → Int) : (arr f).size = 128 := by unfold arr; simp
theorem arr_get {f : Nat → Int} {j : Nat} (h : j < 128) : (arr f)[j]? = some (.int .i64 (f j)) := by unfold arr; simp [h]
theorem arr_set (f : Nat → Int) (j : Nat) (x : Int) : (arr f).setIfInBounds j (.int .i64 x) = arr (fun i => if i = j then x else f i) := by
  apply Array.ext_getElem?
  intro i
  rw [Array.getElem?_setIfInBounds]
  by_cases hi : i < 128
  · rw [arr_get hi, arr_get hi]
    by_cases e : j = i
    · subst e; simp [arr_size, hi]
    · simp [e, Ne.symm e]
  · have h1 : (arr f)[i]? = none := by simp [arr_size]; omega
    have h2 : (arr (fun i => if i = j then x else f i))[i]? = none := by simp [arr_size]; omega
    rw [h1, h2, arr_size]
    by_cases e : j = i
    · subst e; simp [hi]
    · simp [e]
theorem arr_congr {f g : Nat → Int} (h : ∀ j, j < 128 → f j = g j) : arr f = arr g := by
  unfold arr; congr 1; funext i; rw [h i i.2]
theorem arr_one (f : Nat → Int) : (arr f).all (·.oneCell') = true := by
  rw [Array.all_eq_true]; intro i hi; simp [arr, Value.oneCell']
/-- Bit i of an integer. -/
def bitZ (v : Int) (i : Nat) : Int := v / 2 ^ i % 2
end Go.Proofs.YtafmakhhdinknaaGreatDoor
/- Plain arithmetic of bits. -/
namespace Go.Proofs.YtafmakhhdinknaaGreatDoor
open Go.RowKit
set_option linter.unusedVariables false
set_option linter.unusedSimpArgs false
theorem pp (k : Nat) : (0 : Int) < 2 ^ k := Int.pow_pos (by omega)
theorem pow_add_one (k : Nat) : (2 : Int) ^ (k + 1) = 2 * 2 ^ k := by rw [Int.pow_succ, Int.mul_comm]
theorem pow_sum (a b : Nat) : (2 : Int) ^ (a + b) = 2 ^ a * 2 ^ b := Int.pow_add 2 a b
theorem div_div (v : Int) (a b : Nat) : v / 2 ^ a / 2 ^ b = v / 2 ^ (a + b) := by rw [pow_sum, Int.ediv_ediv_of_nonneg (Int.le_of_lt (pp a))]
theorem bit_01 (v : Int) (i : Nat) : 0 ≤ bitZ v i ∧ bitZ v i ≤ 1 := by unfold bitZ; omega
/-- The low n bits of a number have its bits. -/
theorem bit_mod (v : Int) (n i : Nat) (h : i < n) : v % 2 ^ n / 2 ^ i % 2 = v / 2 ^ i % 2 := by
  have e : v = v % 2 ^ n + (v / 2 ^ n * 2 ^ (n - i)) * 2 ^ i := by
    rw [Int.mul_assoc, ← pow_sum, show n - i + i = n by omega]
    have := Int.emod_add_mul_ediv v (2 ^ n)
    rw [Int.mul_comm (v / 2 ^ n)]; omega
  have e2 : v / 2 ^ i = v % 2 ^ n / 2 ^ i + v / 2 ^ n * 2 ^ (n - i) := by
    conv => lhs; rw [e]
    exact Int.add_mul_ediv_right _ _ (by have := pp i; omega)
  rw [e2, show n - i = (n - i - 1) + 1 by omega, pow_add_one, show v / 2 ^ n * (2 * 2 ^ (n - i - 1)) = 2 * (v / 2 ^ n * 2 ^ (n - i - 1)) by ac_rfl]
  omega
/-- One bit more. -/
theorem mod_step (v : Int) (k : Nat) : v % 2 ^ (k + 1) = v % 2 ^ k + bitZ v k * 2 ^ k := by
  unfold bitZ
  have h := pp k
  have e0 := Int.emod_add_mul_ediv v (2 ^ k)
  have e1 : v / 2 ^ k = 2 * (v / 2 ^ k / 2) + v / 2 ^ k % 2 := by omega
  have e2 : v = (v % 2 ^ k + v / 2 ^ k % 2 * 2 ^ k) + 2 ^ (k + 1) * (v / 2 ^ k / 2) := by
    rw [pow_add_one]
    have : 2 ^ k * (v / 2 ^ k) = 2 * 2 ^ k * (v / 2 ^ k / 2) + v / 2 ^ k % 2 * 2 ^ k := by
      conv => lhs; rw [e1]
      rw [Int.mul_add, Int.mul_comm (2 ^ k) (v / 2 ^ k % 2)]
      congr 1
      ac_rfl
    omega
  have b0 : 0 ≤ v % 2 ^ k := Int.emod_nonneg _ (by omega)
  have b1 : v % 2 ^ k < 2 ^ k := Int.emod_lt_of_pos _ h
  have b2 : v / 2 ^ k % 2 = 0 ∨ v / 2 ^ k % 2 = 1 := by omega
  conv => lhs; rw [e2]
  rw [Int.add_mul_emod_self_left]
  apply Int.emod_eq_of_lt
  · rcases b2 with b | b <;> rw [b] <;> omega
  · rw [pow_add_one]; rcases b2 with b | b <;> rw [b] <;> omega
/-- What is carried to place k. -/
def car (u v : Int) (k : Nat) : Int := (u % 2 ^ k + v % 2 ^ k) / 2 ^ k
theorem car_zero (u v : Int) : car u v 0 = 0 := by unfold car; simp
theorem car_01 (u v : Int) (k : Nat) : 0 ≤ car u v k ∧ car u v k ≤ 1 := by
  unfold car
  have h := pp k
  have b0 : 0 ≤ u % 2 ^ k := Int.emod_nonneg _ (by omega)
  have b1 : u % 2 ^ k < 2 ^ k := Int.emod_lt_of_pos _ h
  have c0 : 0 ≤ v % 2 ^ k := Int.emod_nonneg _ (by omega)
  have c1 : v % 2 ^ k < 2 ^ k := Int.emod_lt_of_pos _ h
  refine ⟨Int.ediv_nonneg (by omega) (by omega), ?_⟩
  have : (u % 2 ^ k + v % 2 ^ k) / 2 ^ k < 2 := Int.ediv_lt_of_lt_mul h (by omega)
  omega
theorem car_step (u v : Int) (k : Nat) : (bitZ u k + bitZ v k + car u v k) / 2 = car u v (k + 1) := by
  unfold car
  have h := pp k
  rw [mod_step, mod_step, pow_add_one, Int.mul_comm 2 (2 ^ k), ← Int.ediv_ediv_of_nonneg (Int.le_of_lt h)]
  congr 1
  rw [show u % 2 ^ k + bitZ u k * 2 ^ k + (v % 2 ^ k + bitZ v k * 2 ^ k) = (u % 2 ^ k + v % 2 ^ k) + (bitZ u k + bitZ v k) * 2 ^ k by rw [Int.add_mul]; omega]
  rw [Int.add_mul_ediv_right _ _ (by omega)]
  omega
theorem sum_bit (u v : Int) (k : Nat) : (bitZ u k + bitZ v k + car u v k) % 2 = bitZ (u + v) k := by
  have h := pp k
  have e : (u + v) / 2 ^ k = u / 2 ^ k + v / 2 ^ k + car u v k := by
    unfold car
    have e0 := Int.emod_add_mul_ediv u (2 ^ k)
    have e1 := Int.emod_add_mul_ediv v (2 ^ k)
    have e2 : u + v = (u % 2 ^ k + v % 2 ^ k) + (u / 2 ^ k + v / 2 ^ k) * 2 ^ k := by
      rw [Int.add_mul, Int.mul_comm (u / 2 ^ k), Int.mul_comm (v / 2 ^ k)]; omega
    conv => lhs; rw [e2]
    rw [Int.add_mul_ediv_right _ _ (by omega)]
    omega
  unfold bitZ
  rw [e]; omega
theorem bit_not (v : Int) (k : Nat) : 1 - bitZ v k = bitZ (-v - 1) k := by
  have h := pp k
  have e : (-v - 1) / 2 ^ k = -(v / 2 ^ k) - 1 := by
    have e0 := Int.emod_add_mul_ediv v (2 ^ k)
    have b0 : 0 ≤ v % 2 ^ k := Int.emod_nonneg _ (by omega)
    have b1 : v % 2 ^ k < 2 ^ k := Int.emod_lt_of_pos _ h
    have e2 : -v - 1 = (2 ^ k - 1 - v % 2 ^ k) + (-(v / 2 ^ k) - 1) * 2 ^ k := by
      rw [Int.sub_mul, Int.neg_mul, Int.mul_comm (v / 2 ^ k)]; omega
    conv => lhs; rw [e2]
    rw [Int.add_mul_ediv_right _ _ (by omega), Int.ediv_eq_zero_of_lt (by omega) (by omega)]
    omega
  unfold bitZ
  rw [e]; omega
theorem bit_one (k : Nat) : bitZ 1 k = if k = 0 then 1 else 0 := by
  unfold bitZ
  by_cases h : k = 0
  · subst h; rfl
  · rw [if_neg h]
    obtain ⟨j, rfl⟩ : ∃ j, k = j + 1 := ⟨k - 1, by omega⟩
    rw [pow_add_one]
    have := pp j
    rw [Int.ediv_eq_zero_of_lt (by omega) (by omega)]; rfl
theorem bit_shift (v : Int) (i k : Nat) (h : i ≤ k) : bitZ (v * 2 ^ i) k = bitZ v (k - i) := by
  unfold bitZ
  conv => lhs; rw [show k = i + (k - i) by omega]
  rw [← div_div, Int.mul_ediv_cancel _ (by have := pp i; omega)]
theorem bit_shift_low (v : Int) (i k : Nat) (h : k < i) : bitZ (v * 2 ^ i) k = 0 := by
  unfold bitZ
  conv => lhs; rw [show i = (i - k - 1 + 1) + k by omega]
  rw [pow_sum, ← Int.mul_assoc, Int.mul_ediv_cancel _ (by have := pp k; omega), pow_add_one, show v * (2 * 2 ^ (i - k - 1)) = 2 * (v * 2 ^ (i - k - 1)) by ac_rfl]
  omega
theorem bit_lo (v : Int) (j : Nat) (h : j < 64) : loW v / 2 ^ j % 2 = bitZ v j := by
  have := bit_mod v 64 j h
  unfold loW bitZ
  exact this
theorem bit_hi (v : Int) (j : Nat) (h : j < 64) : IntKind.u64.wrap (hiW v) / 2 ^ j % 2 = bitZ v (64 + j) := by
  have e : IntKind.u64.wrap (hiW v) = v / 18446744073709551616 % 18446744073709551616 := by
    unfold hiW; rw [IntKind.wrap_u64, i64w]; omega
  have := bit_mod (v / 2 ^ 64) 64 j h
  unfold bitZ
  rw [e, ← div_div]
  exact this
end Go.Proofs.YtafmakhhdinknaaGreatDoor
/- Contracts of package wide, the leaves: halves, Size, Of, Add. -/
namespace Go.Proofs.YtafmakhhdinknaaGreatDoor
open Go.RowKit
set_option linter.unusedVariables false
set_option linter.unusedSimpArgs false
theorem halves_any (n : Int) (w : World) (hn : (Lit.int .u64 n).wf = true) :
    Calls Tryz.prog 226 #[.int .u64 n] w fun e w' => e = .returned (.tuple #[.int .u64 (n / 4294967296), .int .u64 (n % 4294967296)]) ∧ w = w' := by
  go_enter Tryz.func226, Tryz.ntmps226
  go_wp2
  go_ret2
  exact ⟨rfl, rfl⟩
theorem size_any (n : Int) (w : World) (hn : (Lit.int .i64 n).wf = true) :
    Calls Tryz.prog 206 #[.int .i64 n] w fun e w' => e = .returned (.int .u64 n.natAbs) ∧ w = w' := by
  have h1 : n < 0 → IntKind.u64.wrap (-IntKind.u64.wrap n) = n.natAbs := fun h => size_neg hn h
  have h2 : 0 ≤ n → IntKind.u64.wrap n = n.natAbs := fun h => size_pos hn h
  go_enter Tryz.func206, Tryz.ntmps206
  go_wp2
  · have := h1 (by assumption)
    go_ret
    exact ⟨rfl, rfl⟩
  · have := h2 (by assumption)
    go_ret
    exact ⟨rfl, rfl⟩
theorem of_any (n : Int) (w : World) (hn : (Lit.int .i64 n).wf = true) :
    Calls Tryz.prog 94 #[.int .i64 n] w fun e w' => e = .returned (.agg #[.int .i64 (hiW n), .int .u64 (loW n)]) ∧ Below w.heap.size w w' := by
  have h1 := of_hi hn
  have h2 := u64_lo n
  go_enter Tryz.func94, Tryz.ntmps94
  go_wp2
  exact bodyPost_ret (v := .agg #[.int .i64 (hiW n), .int .u64 (loW n)]) (by simp [results, Tryz.results94, go_sem]) rfl ⟨rfl, (Below.refl _ _).alloc (Nat.le_refl _) _⟩
theorem add_any (a b : Int) (w : World) :
    Calls Tryz.prog 93 #[.agg #[.int .i64 (hiW a), .int .u64 (loW a)], .agg #[.int .i64 (hiW b), .int .u64 (loW b)]] w fun e w' => e = .returned (.agg #[.int .i64 (hiW (a + b)), .int .u64 (loW (a + b))]) ∧ Below w.heap.size w w' := by
  have h1 := add_lo a b
  by_cases hc : loW (a + b) < loW a
  · have h2 := add_carry hc
    go_enter Tryz.func93, Tryz.ntmps93
    go_wp2
    exact bodyPost_ret (v := .agg #[.int .i64 (hiW (a + b)), .int .u64 (loW (a + b))]) (by simp [results, Tryz.results93, go_sem]) rfl ⟨rfl, ((((Below.refl _ _).alloc (Nat.le_refl _) _).alloc (by simp) _).alloc (by simp; omega) _).alloc (by simp; omega) _⟩
  · have h2 := add_plain hc
    go_enter Tryz.func93, Tryz.ntmps93
    go_wp2
    exact bodyPost_ret (v := .agg #[.int .i64 (hiW (a + b)), .int .u64 (loW (a + b))]) (by simp [results, Tryz.results93, go_sem]) rfl ⟨rfl, ((((Below.refl _ _).alloc (Nat.le_refl _) _).alloc (by simp) _).alloc (by simp; omega) _).alloc (by simp; omega) _⟩
end Go.Proofs.YtafmakhhdinknaaGreatDoor
/- Contracts of package wide: Neg, Sub. -/
namespace Go.Proofs.YtafmakhhdinknaaGreatDoor
open Go.RowKit
set_option linter.unusedVariables false
set_option linter.unusedSimpArgs false
/-- Two cells that a world holds are held behind a call that makes memory alone; and the blocks that were there still are. -/
theorem keep2 {w0 w w1 : World} {A B : Nat} {p q : Addr} {u v : Option Value} (h : w.cell? p = u ∧ w.cell? q = v ∧ B < w.heap.size ∧ Below A w0 w) (hb : Below w.heap.size w w1) (hA : A ≤ B) (hp : p.block ≤ B) (hq : q.block ≤ B) :
    w1.cell? p = u ∧ w1.cell? q = v ∧ B < w1.heap.size ∧ Below A w0 w1 := by
  obtain ⟨h1, h2, h3, h4⟩ := h
  refine ⟨?_, ?_, Nat.lt_of_lt_of_le h3 hb.size, h4.trans (hb.mono (by omega))⟩
  · rw [hb.cell (by omega)]; exact h1
  · rw [hb.cell (by omega)]; exact h2
theorem keep4 {w0 w w1 : World} {A B : Nat} {p q p' q' : Addr} {u v u' v' : Option Value} (h : w.cell? p = u ∧ w.cell? q = v ∧ w.cell? p' = u' ∧ w.cell? q' = v' ∧ B < w.heap.size ∧ Below A w0 w) (hb : Below w.heap.size w w1) (hA : A ≤ B) (hp : p.block ≤ B) (hq : q.block ≤ B) (hp' : p'.block ≤ B) (hq' : q'.block ≤ B) :
    w1.cell? p = u ∧ w1.cell? q = v ∧ w1.cell? p' = u' ∧ w1.cell? q' = v' ∧ B < w1.heap.size ∧ Below A w0 w1 := by
  obtain ⟨h1, h2, h5, h6, h3, h4⟩ := h
  refine ⟨?_, ?_, ?_, ?_, Nat.lt_of_lt_of_le h3 hb.size, h4.trans (hb.mono (by omega))⟩
  · rw [hb.cell (by omega)]; exact h1
  · rw [hb.cell (by omega)]; exact h2
  · rw [hb.cell (by omega)]; exact h5
  · rw [hb.cell (by omega)]; exact h6
theorem bcell {W w1 : World} (hb : Below W.heap.size W w1) : (∀ b o, b < W.heap.size → w1.cell? ⟨b, o, none⟩ = W.cell? ⟨b, o, none⟩) ∧ (∀ b o, b < W.heap.size → w1.frozen? ⟨b, o, none⟩ = W.frozen? ⟨b, o, none⟩) :=
  ⟨fun b o h => hb.cell (p := ⟨b, o, none⟩) h, fun b o h => hb.frozen (p := ⟨b, o, none⟩) h⟩
theorem neg_any (a : Int) (w : World) :
    Calls Tryz.prog 215 #[.agg #[.int .i64 (hiW a), .int .u64 (loW a)]] w fun e w' => e = .returned (.agg #[.int .i64 (hiW (-a)), .int .u64 (loW (-a))]) ∧ Below w.heap.size w w' := by
  have q1 := not_hi a
  have q2 := not_lo a
  have q3 : -a - 1 + 1 = -a := by omega
  go_enter Tryz.func215, Tryz.ntmps215
  go_wp2
  go_region_held3 (fun w' => w'.cell? ⟨w.heap.size, 0, none⟩ = some (.int .i64 (hiW a)) ∧ w'.cell? ⟨w.heap.size, 1, none⟩ = some (.int .u64 (loW a)) ∧ w.heap.size + 1 < w'.heap.size ∧ Below w.heap.size w w') (first | assumption | (refine ⟨by simp, by simp, by simp, ?_⟩; exact (((Below.refl _ _).alloc (Nat.le_refl _) _).alloc (by simp) _).drew) | (refine ⟨by go_simp, by go_simp, by go_simp, ?_⟩; exact (hS2.2.2.2.setCell (by simp) _).setCell (by simp) _))
    (first | (go_at_call 94; refine (of_any 1 _ (by decide)).mono ?_; rintro e w1 ⟨rfl, hb1⟩; have hS1 := keep2 (by assumption) hb1 (by simp) (by simp) (by simp); obtain ⟨hc1, hf1⟩ := bcell hb1) | (go_at_call 93; refine (add_any (-a - 1) 1 _).mono ?_; rintro e w2 ⟨rfl, hb2⟩; have hS2 := keep2 (by assumption) hb2 (by simp) (by simp) (by simp); obtain ⟨hc2, hf2⟩ := bcell hb2))
  go_wp2
  exact bodyPost_ret (v := .agg #[.int .i64 (hiW (-a)), .int .u64 (loW (-a))]) (by simp [results, Tryz.results215, go_sem, *]) rfl ⟨rfl, (hS2.2.2.2.setCell (by simp) _).setCell (by simp) _⟩
end Go.Proofs.YtafmakhhdinknaaGreatDoor
/- Contracts of package wide: product. -/
namespace Go.Proofs.YtafmakhhdinknaaGreatDoor
open Go.RowKit
set_option linter.unusedVariables false
set_option linter.unusedSimpArgs false
set_option maxHeartbeats 1000000 in
theorem product_core (a b L M1 M2 H : Int) (w : World) (ha : (Lit.int .u64 a).wf = true) (hb : (Lit.int .u64 b).wf = true)
    (e1 : a % 4294967296 * (b % 4294967296) = L) (e2 : a / 4294967296 * (b % 4294967296) = M1) (e3 : a % 4294967296 * (b / 4294967296) = M2) (e4 : a / 4294967296 * (b / 4294967296) = H) :
    Calls Tryz.prog 222 #[.int .u64 a, .int .u64 b] w fun e w' => e = .returned (.agg #[.int .i64 (hiW (a * b)), .int .u64 (loW (a * b))]) ∧ Below w.heap.size w w' := by
  obtain ⟨g1, g2, g3, g4, k1, k2, f1, f2⟩ := mul_facts ha hb e1 e2 e3 e4
  go_enter Tryz.func222, Tryz.ntmps222
  go_wp2
  exact bodyPost_ret (v := .agg #[.int .i64 (hiW (a * b)), .int .u64 (loW (a * b))]) (by simp [results, Tryz.results222, go_sem]) rfl ⟨rfl, (Below.refl _ _).alloc (Nat.le_refl _) _⟩
theorem product_any (a b : Int) (w : World) (ha : (Lit.int .u64 a).wf = true) (hb : (Lit.int .u64 b).wf = true) :
    Calls Tryz.prog 222 #[.int .u64 a, .int .u64 b] w fun e w' => e = .returned (.agg #[.int .i64 (hiW (a * b)), .int .u64 (loW (a * b))]) ∧ Below w.heap.size w w' :=
  product_core a b _ _ _ _ w ha hb rfl rfl rfl rfl
end Go.Proofs.YtafmakhhdinknaaGreatDoor
/- Contracts of package wide: Mul. -/
namespace Go.Proofs.YtafmakhhdinknaaGreatDoor
open Go.RowKit
set_option linter.unusedVariables false
set_option linter.unusedSimpArgs false
theorem abs_wf {n : Int} (h : (Lit.int .i64 n).wf = true) : (Lit.int .u64 (n.natAbs : Int)).wf = true := by
  have := wf_bd_i64 h
  exact WalkArith.wf_u64 (by omega)
theorem abs_neg {n : Int} (h : n < 0) : (n.natAbs : Int) = -n := by omega
theorem abs_pos {n : Int} (h : ¬ n < 0) : (n.natAbs : Int) = n := by omega
set_option maxHeartbeats 1000000 in
theorem mul_same (a b : Int) (w : World) (ha : (Lit.int .i64 a).wf = true) (hb : (Lit.int .i64 b).wf = true) (s : Bool) (h1 : decide (a < 0) = s) (h2 : decide (b < 0) = s) :
    Calls Tryz.prog 214 #[.int .i64 a, .int .i64 b] w fun e w' => e = .returned (.agg #[.int .i64 (hiW (a * b)), .int .u64 (loW (a * b))]) ∧ Below w.heap.size w w' := by
  have q : (a.natAbs : Int) * (b.natAbs : Int) = a * b := by
    cases s
    · rw [abs_pos (of_decide_eq_false h1), abs_pos (of_decide_eq_false h2)]
    · rw [abs_neg (of_decide_eq_true h1), abs_neg (of_decide_eq_true h2), Int.neg_mul_neg]
  have wa := abs_wf ha
  have wb := abs_wf hb
  go_enter Tryz.func214, Tryz.ntmps214
  go_wp2_with (first | (go_at_call 206; refine (size_any _ _ (by first | exact ha | exact hb)).mono ?_; rintro e w' ⟨rfl, rfl⟩) | (go_at_call 222; refine (product_any _ _ _ wa wb).mono ?_; rintro e w1 ⟨rfl, hb1⟩; obtain ⟨hc1, hf1⟩ := bcell hb1; have hz1 : w.heap.size < w1.heap.size := by (have := hb1.size; simp at this; omega)))
  exact bodyPost_ret (v := .agg #[.int .i64 (hiW (a * b)), .int .u64 (loW (a * b))]) (by simp [results, Tryz.results214, go_sem, *]) rfl ⟨rfl, (((((Below.refl _ _).alloc (Nat.le_refl _) _).trans (hb1.mono (by simp))).setCell (by simp) _).setCell (by simp) _).alloc (by simp; omega) _⟩
set_option maxHeartbeats 1000000 in
theorem mul_diff (a b : Int) (w : World) (ha : (Lit.int .i64 a).wf = true) (hb : (Lit.int .i64 b).wf = true) (s : Bool) (h1 : decide (a < 0) = s) (h2 : decide (b < 0) = !s) :
    Calls Tryz.prog 214 #[.int .i64 a, .int .i64 b] w fun e w' => e = .returned (.agg #[.int .i64 (hiW (a * b)), .int .u64 (loW (a * b))]) ∧ Below w.heap.size w w' := by
  have q : -((a.natAbs : Int) * (b.natAbs : Int)) = a * b := by
    cases s
    · rw [abs_pos (of_decide_eq_false h1), abs_neg (of_decide_eq_true h2), Int.mul_neg, Int.neg_neg]
    · rw [abs_neg (of_decide_eq_true h1), abs_pos (of_decide_eq_false h2), Int.neg_mul, Int.neg_neg]
  have wa := abs_wf ha
  have wb := abs_wf hb
  go_enter Tryz.func214, Tryz.ntmps214
  go_wp2_with (first | (go_at_call 206; refine (size_any _ _ (by first | exact ha | exact hb)).mono ?_; rintro e w' ⟨rfl, rfl⟩) | (go_at_call 222; refine (product_any _ _ _ wa wb).mono ?_; rintro e w1 ⟨rfl, hb1⟩; obtain ⟨hc1, hf1⟩ := bcell hb1; have hz1 : w.heap.size < w1.heap.size := by (have := hb1.size; simp at this; omega)) | (go_at_call 215; refine (neg_any _ _).mono ?_; rintro e w2 ⟨rfl, hb2⟩; obtain ⟨hc2, hf2⟩ := bcell hb2; have hz2 : w1.heap.size < w2.heap.size := by (have := hb2.size; simp at this; omega)))
  have z1 : w.heap.size < w1.heap.size + 1 := by omega
  have z2 : w.heap.size < w2.heap.size := by omega
  exact bodyPost_ret (v := .agg #[.int .i64 (hiW (a * b)), .int .u64 (loW (a * b))]) (by simp [results, Tryz.results214, go_sem, *]) rfl ⟨rfl, ((((((Below.refl _ _).alloc (Nat.le_refl _) _).trans (hb1.mono (by simp))).alloc (by omega) _).trans (hb2.mono (by simp; omega))).setCell (by simp) _).setCell (by simp) _⟩
theorem mul_any (a b : Int) (w : World) (ha : (Lit.int .i64 a).wf = true) (hb : (Lit.int .i64 b).wf = true) :
    Calls Tryz.prog 214 #[.int .i64 a, .int .i64 b] w fun e w' => e = .returned (.agg #[.int .i64 (hiW (a * b)), .int .u64 (loW (a * b))]) ∧ Below w.heap.size w w' := by
  by_cases h1 : a < 0
  · by_cases h2 : b < 0
    · exact mul_same a b w ha hb true (decide_eq_true h1) (decide_eq_true h2)
    · exact mul_diff a b w ha hb true (decide_eq_true h1) (decide_eq_false h2)
  · by_cases h2 : b < 0
    · exact mul_diff a b w ha hb false (decide_eq_false h1) (decide_eq_true h2)
    · exact mul_same a b w ha hb false (decide_eq_false h1) (decide_eq_false h2)
end Go.Proofs.YtafmakhhdinknaaGreatDoor
/- The contract of wide.Quo. -/
namespace Go.Proofs.YtafmakhhdinknaaGreatDoor
open Go.RowKit
set_option linter.unusedVariables false
set_option linter.unusedSimpArgs false
set_option maxHeartbeats 1000000 in
theorem quo_core (h l d : Nat) (w : World) (h1 : h < d) (hl : l < 18446744073709551616) (hd : d < 9223372036854775808) :
    Calls Tryz.prog 216 #[.agg #[.int .i64 (h : Int), .int .u64 (l : Int)], .int .i64 (d : Int)] w fun e w' => e = .returned (.tuple #[.int .u64 (quoN h l d 0 : Nat), .int .u64 (remN h l d 0 : Nat)]) ∧ Below w.heap.size w w' := by
  have g1 : IntKind.u64.wrap (h : Int) = h := by rw [IntKind.wrap_u64]; omega
  have g2 : IntKind.u64.wrap (d : Int) = d := by rw [IntKind.wrap_u64]; omega
  have t1 : (h : Int) < d := by omega
  have t0 : (0 : Int) ≤ h := by omega
  have t2 : (0 : Int) ≤ l := by omega
  have HD := Lib.hid hd
  have HL := Lib.hid hl
  clear hd hl
  go_enter Tryz.func216, Tryz.ntmps216
  go_wp2
  go_loop [4, 5, 7] (fun q r b => ∃ k : Nat, k ≤ 64 ∧ b = .int .i64 ((k : Int) - 1) ∧ q = .int .u64 (quoN h l d k : Nat) ∧ r = .int .u64 (remN h l d k : Nat)) (fun _ _ b => (intOf b + 1).toNat)
  case atStart =>
    have e1 : top h l 64 = h := by
      unfold top; rw [Nat.div_eq_of_lt (by have := HL.out; omega)]; simp
    exact ⟨64, by omega, rfl, int_int (by unfold quoN; rw [e1, Nat.div_eq_of_lt h1]; simp), int_int (by unfold remN; rw [e1, Nat.mod_eq_of_lt h1])⟩
  case round =>
    obtain ⟨k, hk, rfl, rfl, rfl⟩ := hrel
    by_cases hz : k = 0
    · subst hz
      go_wp2
      go_ret2
      exact ⟨rfl, (Below.refl _ _).alloc (Nat.le_refl _) _⟩
    · obtain ⟨j, rfl⟩ : ∃ j, k = j + 1 := ⟨k - 1, by omega⟩
      have e : ((j + 1 : Nat) : Int) - 1 = (j : Int) := by omega
      have hj : j < 64 := by omega
      have hdp : 0 < d := by omega
      have hr : remN h l d (j + 1) < d := Nat.mod_lt _ hdp
      have n1 := next_bits (remN h l d (j + 1)) l j (by have := HD.out; omega) HL.out
      have s1 := set_bit (quoN h l d (j + 1)) j hj (quoN_lt h l d (j + 1) hk h1 HL.out) (quoN_mod h l d (j + 1))
      rw [e]
      by_cases hc : d ≤ 2 * remN h l d (j + 1) + l / 2 ^ j % 2
      · obtain ⟨x1, x2⟩ := quo_step_yes h l d j hj hdp hc
        have c1 : (d : Int) ≤ ((2 * remN h l d (j + 1) + l / 2 ^ j % 2 : Nat) : Int) := by omega
        have c2 : IntKind.u64.wrap (((2 * remN h l d (j + 1) + l / 2 ^ j % 2 : Nat) : Int) - d) = (remN h l d j : Nat) := by
          have := HD.out
          rw [x2, IntKind.wrap_u64]; omega
        have X1 := Lib.hid x1
        have X2 := Lib.hid x2
        generalize 2 * remN h l d (j + 1) + l / 2 ^ j % 2 = m at *
        clear x1 x2 hc
        go_wp2
        go_round
        case rel => exact ⟨j, by omega, rfl, nat_int X1.out.symm, rfl⟩
        case measure => simp [intOf]
      · obtain ⟨x1, x2⟩ := quo_step_no h l d j hj hdp hc
        have c1 : ((2 * remN h l d (j + 1) + l / 2 ^ j % 2 : Nat) : Int) < d := by omega
        have X1 := Lib.hid x1
        have X2 := Lib.hid x2
        generalize 2 * remN h l d (j + 1) + l / 2 ^ j % 2 = m at *
        clear x1 x2 hc
        go_wp2
        go_round
        case rel => exact ⟨j, by omega, rfl, nat_int X1.out.symm, nat_int X2.out.symm⟩
        case measure => simp [intOf]
theorem cast_div (H K L D : Nat) : (((H * K + L) / D : Nat) : Int) = ((H : Int) * K + L) / D := by push_cast; rfl
theorem cast_mod (H K L D : Nat) : (((H * K + L) % D : Nat) : Int) = ((H : Int) * K + L) % D := by push_cast; rfl
theorem quo_yes (h l d : Int) (w : World) (h0 : 0 ≤ h) (h1 : h < d) (wl : (Lit.int .u64 l).wf = true) (wd : (Lit.int .i64 d).wf = true) :
    Calls Tryz.prog 216 #[.agg #[.int .i64 h, .int .u64 l], .int .i64 d] w fun e w' => e = .returned (.tuple #[.int .u64 ((h * 18446744073709551616 + l) / d), .int .u64 ((h * 18446744073709551616 + l) % d)]) ∧ Below w.heap.size w w' := by
  have bl := wf_bd_u64 wl
  have bd := wf_bd_i64 wd
  obtain ⟨H, rfl⟩ := Int.eq_ofNat_of_zero_le h0
  obtain ⟨L, rfl⟩ := Int.eq_ofNat_of_zero_le bl.1
  obtain ⟨D, rfl⟩ := Int.eq_ofNat_of_zero_le (by omega : 0 ≤ d)
  refine (quo_core H L D w (by omega) (by omega) (by omega)).mono ?_
  rintro e w' ⟨rfl, hb⟩
  have e0 : top H L 0 = H * 18446744073709551616 + L := by unfold top; simp
  have e1 : ((quoN H L D 0 : Nat) : Int) = ((H : Int) * 18446744073709551616 + L) / D := by
    unfold quoN; rw [e0, Nat.pow_zero, Nat.mul_one]; exact cast_div H 18446744073709551616 L D
  have e2 : ((remN H L D 0 : Nat) : Int) = ((H : Int) * 18446744073709551616 + L) % D := by
    unfold remN; rw [e0]; exact cast_mod H 18446744073709551616 L D
  exact ⟨by rw [e1, e2], hb⟩
theorem quo_no1 (h l d : Int) (w : World) (h0 : h < 0) :
    Calls Tryz.prog 216 #[.agg #[.int .i64 h, .int .u64 l], .int .i64 d] w fun e w' => e = .returned (.tuple #[.int .u64 0, .int .u64 0]) ∧ Below w.heap.size w w' := by
  go_enter Tryz.func216, Tryz.ntmps216
  go_wp2
  go_ret2
  exact ⟨rfl, (Below.refl _ _).alloc (Nat.le_refl _) _⟩
theorem quo_no2 (h l d : Int) (w : World) (h0 : 0 ≤ h) (h1 : d ≤ h) :
    Calls Tryz.prog 216 #[.agg #[.int .i64 h, .int .u64 l], .int .i64 d] w fun e w' => e = .returned (.tuple #[.int .u64 0, .int .u64 0]) ∧ Below w.heap.size w w' := by
  go_enter Tryz.func216, Tryz.ntmps216
  go_wp2
  go_ret2
  exact ⟨rfl, (Below.refl _ _).alloc (Nat.le_refl _) _⟩
theorem quo_no (h l d : Int) (w : World) (hn : ¬ (0 ≤ h ∧ h < d)) :
    Calls Tryz.prog 216 #[.agg #[.int .i64 h, .int .u64 l], .int .i64 d] w fun e w' => e = .returned (.tuple #[.int .u64 0, .int .u64 0]) ∧ Below w.heap.size w w' := by
  by_cases h0 : h < 0
  · exact quo_no1 h l d w h0
  · exact quo_no2 h l d w (by omega) (by omega)
end Go.Proofs.YtafmakhhdinknaaGreatDoor
/- Contract of law 1 Awake. -/
namespace Go.Proofs.YtafmakhhdinknaaGreatDoor
open Go.RowKit
set_option linter.unusedVariables false
set_option linter.unusedSimpArgs false
theorem aw1 : hiW (-5) = -1 := by unfold hiW; rw [i64w]; decide
theorem aw2 : loW (-5) = 18446744073709551611 := by unfold loW; decide
theorem aw3 : hiW (-1) = -1 := by unfold hiW; rw [i64w]; decide
theorem aw4 : loW (-1) = 18446744073709551615 := by unfold loW; decide
theorem awake_any (w : World) :
    Calls Tryz.prog 212 #[] w fun e w' => e = .returned (.bool true) ∧ Below w.heap.size w w' := by
  have h1 := aw1
  have h2 := aw2
  have h3 := aw3
  have h4 := aw4
  go_enter Tryz.func212, Tryz.ntmps212
  go_wp2_with (first | (go_at_call 214; refine (mul_any (-1) 5 _ (by decide) (by decide)).mono ?_; rintro e w1 ⟨rfl, hb1⟩) | (go_at_call 94; refine (of_any (-1) _ (by decide)).mono ?_; rintro e w2 ⟨rfl, hb2⟩))
  go_ret
  exact ⟨rfl, hb1.trans (hb2.mono hb1.size)⟩
end Go.Proofs.YtafmakhhdinknaaGreatDoor

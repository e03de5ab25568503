/- Plain arithmetic on wide numbers: a wide number is an integer modulo 2^128; its high half is read with a sign, its low half without one. -/
import Derived.WalkKit
import Derived.Laws.Bits64
import Derived.Laws.BitsAllLaws
namespace Go.Proofs.YtibipjncpojifaaDoor
open Go.RowKit
set_option linter.unusedVariables false
set_option linter.unusedSimpArgs false
/-- The high half of an integer, as 64 bits with a sign. -/
def hiW (a : Int) : Int := IntKind.i64.wrap (a / 18446744073709551616)
/-- The low half of an integer, as 64 bits without a sign. -/
def loW (a : Int) : Int := a % 18446744073709551616

theorem i64w (n : Int) : IntKind.i64.wrap n = (n + 9223372036854775808) % 18446744073709551616 - 9223372036854775808 := by
  simp only [IntKind.wrap, IntKind.bits, IntKind.signed]; simp; omega
theorem w64w (n : Int) : wrap64 n = (n + 9223372036854775808) % 18446744073709551616 - 9223372036854775808 := by
  unfold wrap64; simp
theorem wf_bd_i64 {n : Int} (h : (Lit.int .i64 n).wf = true) : -9223372036854775808 ≤ n ∧ n < 9223372036854775808 := by
  simp [Lit.wf, IntKind.min, IntKind.max, IntKind.signed, IntKind.bits] at h; omega
theorem wf_bd_u64 {n : Int} (h : (Lit.int .u64 n).wf = true) : 0 ≤ n ∧ n < 18446744073709551616 := by
  simp [Lit.wf, IntKind.min, IntKind.max, IntKind.signed, IntKind.bits] at h; omega
theorem wf_hi (a : Int) : (Lit.int .i64 (hiW a)).wf = true := by
  refine WalkArith.wf_i64 ?_; unfold hiW; rw [i64w]; omega
theorem wf_lo (a : Int) : (Lit.int .u64 (loW a)).wf = true := by
  refine WalkArith.wf_u64 ?_; unfold loW; omega
theorem of_hi {n : Int} (h : (Lit.int .i64 n).wf = true) : n / 9223372036854775808 = hiW n := by
  have := wf_bd_i64 h
  unfold hiW; rw [i64w]; omega
theorem u64_lo (n : Int) : IntKind.u64.wrap n = loW n := by rw [IntKind.wrap_u64]; rfl
theorem size_neg {n : Int} (h : (Lit.int .i64 n).wf = true) (h0 : n < 0) : IntKind.u64.wrap (-IntKind.u64.wrap n) = n.natAbs := by
  have := wf_bd_i64 h
  simp only [IntKind.wrap_u64]; omega
theorem size_pos {n : Int} (h : (Lit.int .i64 n).wf = true) (h0 : 0 ≤ n) : IntKind.u64.wrap n = n.natAbs := by
  have := wf_bd_i64 h
  simp only [IntKind.wrap_u64]; omega
/-- Every pair of halves is an integer's. -/
theorem halves_of {h l : Int} (hh : (Lit.int .i64 h).wf = true) (hl : (Lit.int .u64 l).wf = true) : ∃ a, h = hiW a ∧ l = loW a := by
  have b1 := wf_bd_i64 hh
  have b2 := wf_bd_u64 hl
  refine ⟨h * 18446744073709551616 + l, ?_, ?_⟩
  · unfold hiW; rw [i64w]; omega
  · unfold loW; omega
theorem add_lo (a b : Int) : IntKind.u64.wrap (loW a + loW b) = loW (a + b) := by
  rw [IntKind.wrap_u64]; unfold loW; omega
theorem add_carry {a b : Int} (h : loW (a + b) < loW a) : wrap64 (wrap64 (hiW a + hiW b) + 1) = hiW (a + b) := by
  unfold loW at h; unfold hiW; simp only [i64w, w64w]; omega
theorem add_plain {a b : Int} (h : ¬ loW (a + b) < loW a) : wrap64 (hiW a + hiW b) = hiW (a + b) := by
  unfold loW at h; unfold hiW; simp only [i64w, w64w]; omega
theorem lo_wrap (a : Int) : loW (wrap64 (loW a)) = loW a := by
  unfold loW; simp only [w64w]; omega
theorem nat_int {k : IntKind} {a b : Nat} (h : a = b) : Value.int k (a : Int) = Value.int k (b : Int) := by rw [h]
theorem int_int {k : IntKind} {a b : Int} (h : a = b) : Value.int k a = Value.int k b := by rw [h]
theorem ret_int {k : IntKind} {a b : Int} (h : a = b) : Ending.returned (.int k a) = .returned (.int k b) := by rw [h]
theorem not_bv (x : Int) : (BitVec.ofInt 64 (-1) ^^^ BitVec.ofInt 64 x).toNat = 18446744073709551615 - (x % 18446744073709551616).toNat := by
  have h1 : BitVec.ofInt 64 (-1) = BitVec.allOnes 64 := by decide
  rw [h1, BitVec.allOnes_xor, BitVec.toNat_not, BitVec.toNat_ofInt]
  rfl
theorem not_hi (a : Int) : bits .xor .i64 (-1) (hiW a) = hiW (-a - 1) := by
  show IntKind.i64.wrap ((BitVec.ofInt 64 (-1) ^^^ BitVec.ofInt 64 (hiW a)).toNat : Int) = _
  rw [not_bv]
  unfold hiW; simp only [i64w]; omega
theorem not_lo (a : Int) : bits .xor .u64 IntKind.u64.max (loW a) = loW (-a - 1) := by
  show IntKind.u64.wrap ((BitVec.ofInt 64 IntKind.u64.max ^^^ BitVec.ofInt 64 (loW a)).toNat : Int) = _
  have h1 : BitVec.ofInt 64 IntKind.u64.max = BitVec.ofInt 64 (-1) := by decide
  rw [h1, not_bv, IntKind.wrap_u64]
  unfold loW; omega
theorem same_of {a b : Int} : (hiW a = hiW b ∧ loW a = loW b) ↔ a % 340282366920938463463374607431768211456 = b % 340282366920938463463374607431768211456 := by
  unfold hiW loW; simp only [i64w]; omega
end Go.Proofs.YtibipjncpojifaaDoor

/- Plain arithmetic on wide numbers: a wide number is an integer modulo 2^128; its high half is read with a sign, its low half without one. -/
import Derived.WalkKit
import Derived.Laws.Bits64
import Derived.Laws.BitsAllLaws
import Derived.Test.YtffhnedladiaoaaGreatDoorChecked
import Derived.Lib.Hide
import Derived.Below
import Derived.Outline
import Derived.Deep.RegionHeld3
import Derived.WalkSmall
namespace Go.Proofs.YtffhnedladiaoaaGreatDoor
open Go.RowKit
set_option linter.unusedVariables false
set_option linter.unusedSimpArgs false
/-- The high half of an integer, as 64 bits with a sign. -/
def hiW (a : Int) : Int := IntKind.i64.wrap (a / 18446744073709551616)
/-- The low half of an integer, as 64 bits without a sign. -/
def loW (a : Int) : Int := a % 18446744073709551616

theorem i64w (n : Int) : IntKind.i64.wrap n = (n + 9223372036854775808) % 18446744073709551616 - 9223372036854775808 := by
  simp only [IntKind.wrap, IntKind.bits, IntKind.signed]; simp; omega
theorem w64w (n : Int) : wrap64 n = (n + 9223372036854775808) % 18446744073709551616 - 9223372036854775808 := by
  unfold wrap64; simp
theorem wf_bd_i64 {n : Int} (h : (Lit.int .i64 n).wf = true) : -9223372036854775808 ≤ n ∧ n < 9223372036854775808 := by
  simp [Lit.wf, IntKind.min, IntKind.max, IntKind.signed, IntKind.bits] at h; omega
theorem wf_bd_u64 {n : Int} (h : (Lit.int .u64 n).wf = true) : 0 ≤ n ∧ n < 18446744073709551616 := by
  simp [Lit.wf, IntKind.min, IntKind.max, IntKind.signed, IntKind.bits] at h; omega
theorem wf_hi (a : Int) : (Lit.int .i64 (hiW a)).wf = true := by
  refine WalkArith.wf_i64 ?_; unfold hiW; rw [i64w]; omega
theorem wf_lo (a : Int) : (Lit.int .u64 (loW a)).wf = true := by
  refine WalkArith.wf_u64 ?_; unfold loW; omega
theorem of_hi {n : Int} (h : (Lit.int .i64 n).wf = true) : n / 9223372036854775808 = hiW n := by
  have := wf_bd_i64 h
  unfold hiW; rw [i64w]; omega
theorem u64_lo (n : Int) : IntKind.u64.wrap n = loW n := by rw [IntKind.wrap_u64]; rfl
theorem size_neg {n : Int} (h : (Lit.int .i64 n).wf = true) (h0 : n < 0) : IntKind.u64.wrap (-IntKind.u64.wrap n) = n.natAbs := by
  have := wf_bd_i64 h
  simp only [IntKind.wrap_u64]; omega
theorem size_pos {n : Int} (h : (Lit.int .i64 n).wf = true) (h0 : 0 ≤ n) : IntKind.u64.wrap n = n.natAbs := by
  have := wf_bd_i64 h
  simp only [IntKind.wrap_u64]; omega
/-- Every pair of halves is an integer's. -/
theorem halves_of {h l : Int} (hh : (Lit.int .i64 h).wf = true) (hl : (Lit.int .u64 l).wf = true) : ∃ a, h = hiW a ∧ l = loW a := by
  have b1 := wf_bd_i64 hh
  have b2 := wf_bd_u64 hl
  refine ⟨h * 18446744073709551616 + l, ?_, ?_⟩
  · unfold hiW; rw [i64w]; omega
  · unfold loW; omega
theorem add_lo (a b : Int) : IntKind.u64.wrap (loW a + loW b) = loW (a + b) := by
  rw [IntKind.wrap_u64]; unfold loW; omega
theorem add_carry {a b : Int} (h : loW (a + b) < loW a) : wrap64 (wrap64 (hiW a + hiW b) + 1) = hiW (a + b) := by
  unfold loW at h; unfold hiW; simp only [i64w, w64w]; omega
theorem add_plain {a b : Int} (h : ¬ loW (a + b) < loW a) : wrap64 (hiW a + hiW b) = hiW (a + b) := by
  unfold loW at h; unfold hiW; simp only [i64w, w64w]; omega
theorem lo_wrap (a : Int) : loW (wrap64 (loW a)) = loW a := by
  unfold loW; simp only [w64w]; omega
theorem nat_int {k : IntKind} {a b : Nat} (h : a = b) : Value.int k (a : Int) = Value.int k (b : Int) := by rw [h]
theorem int_int {k : IntKind} {a b : Int} (h : a = b) : Value.int k a = Value.int k b := by rw [h]
theorem ret_int {k : IntKind} {a b : Int} (h : a = b) : Ending.returned (.int k a) = .returned (.int k b) := by rw [h]
theorem not_bv (x : Int) : (BitVec.ofInt 64 (-1) ^^^ BitVec.ofInt 64 x).toNat = 18446744073709551615 - (x % 18446744073709551616).toNat := by
  have h1 : BitVec.ofInt 64 (-1) = BitVec.allOnes 64 := by decide
  rw [h1, BitVec.allOnes_xor, BitVec.toNat_not, BitVec.toNat_ofInt]
  rfl
theorem not_hi (a : Int) : bits .xor .i64 (-1) (hiW a) = hiW (-a - 1) := by
  show IntKind.i64.wrap ((BitVec.ofInt 64 (-1) ^^^ BitVec.ofInt 64 (hiW a)).toNat : Int) = _
  rw [not_bv]
  unfold hiW; simp only [i64w]; omega
theorem not_lo (a : Int) : bits .xor .u64 IntKind.u64.max (loW a) = loW (-a - 1) := by
  show IntKind.u64.wrap ((BitVec.ofInt 64 IntKind.u64.max ^^^ BitVec.ofInt 64 (loW a)).toNat : Int) = _
  have h1 : BitVec.ofInt 64 IntKind.u64.max = BitVec.ofInt 64 (-1) := by decide
  rw [h1, not_bv, IntKind.wrap_u64]
  unfold loW; omega
theorem same_of {a b : Int} : (hiW a = hiW b ∧ loW a = loW b) ↔ a % 340282366920938463463374607431768211456 = b % 340282366920938463463374607431768211456 := by
  unfold hiW loW; simp only [i64w]; omega
end Go.Proofs.YtffhnedladiaoaaGreatDoor
/- Plain arithmetic of a product by halves. -/
namespace Go.Proofs.YtffhnedladiaoaaGreatDoor
open Go.RowKit
set_option linter.unusedVariables false
set_option linter.unusedSimpArgs false
theorem mul_bd {x y : Int} (hx : 0 ≤ x) (hx' : x < 4294967296) (hy : 0 ≤ y) (hy' : y < 4294967296) : 0 ≤ x * y ∧ x * y ≤ 18446744065119617025 := by
  refine ⟨Int.mul_nonneg hx hy, ?_⟩
  have h1 : x * y ≤ 4294967295 * y := Int.mul_le_mul_of_nonneg_right (by omega) hy
  omega
/-- The product of two numbers by their halves. -/
theorem mul_halves (a b : Int) : a * b = a / 4294967296 * (b / 4294967296) * 18446744073709551616 + (a / 4294967296 * (b % 4294967296) + a % 4294967296 * (b / 4294967296)) * 4294967296 + a % 4294967296 * (b % 4294967296) := by
  have ha : a = 4294967296 * (a / 4294967296) + a % 4294967296 := by omega
  have hb : b = 4294967296 * (b / 4294967296) + b % 4294967296 := by omega
  generalize a / 4294967296 = x at *
  generalize a % 4294967296 = y at *
  generalize b / 4294967296 = z at *
  generalize b % 4294967296 = t at *
  subst ha; subst hb
  simp only [Int.add_mul, Int.mul_add]
  have e1 : 4294967296 * x * (4294967296 * z) = x * z * 18446744073709551616 := by
    rw [show 4294967296 * x * (4294967296 * z) = (4294967296 * 4294967296) * (x * z) by ac_rfl, Int.mul_comm]; rfl
  have e2 : 4294967296 * x * t = x * t * 4294967296 := by ac_rfl
  have e3 : y * (4294967296 * z) = y * z * 4294967296 := by ac_rfl
  rw [e1, e2, e3]; omega
theorem or_join {x y : Int} (hx : 0 ≤ x) (hx' : x < 4294967296) (hy : 0 ≤ y) (hy' : y < 4294967296) : bits .or .u64 (x * 4294967296) y = x * 4294967296 + y := by
  obtain ⟨n, rfl⟩ := Int.eq_ofNat_of_zero_le hx
  obtain ⟨m, rfl⟩ := Int.eq_ofNat_of_zero_le hy
  have := u64_or_nat (n * 4294967296) m (by omega) (by omega)
  rw [show ((n : Int) * 4294967296) = ((n * 4294967296 : Nat) : Int) by omega, this, nat_join 32 (n * 4294967296) m (by omega) (by omega)]
  omega
/-- All that the walk of a product by halves asks. -/
theorem mul_facts {a b L M1 M2 H : Int} (ha : (Lit.int .u64 a).wf = true) (hb : (Lit.int .u64 b).wf = true)
    (e1 : a % 4294967296 * (b % 4294967296) = L) (e2 : a / 4294967296 * (b % 4294967296) = M1) (e3 : a % 4294967296 * (b / 4294967296) = M2) (e4 : a / 4294967296 * (b / 4294967296) = H) :
    IntKind.u64.wrap L = L ∧ IntKind.u64.wrap M1 = M1 ∧ IntKind.u64.wrap M2 = M2 ∧ IntKind.u64.wrap H = H ∧
    IntKind.u64.wrap (M1 + L / 4294967296) = M1 + L / 4294967296 ∧ IntKind.u64.wrap (M2 + (M1 + L / 4294967296) % 4294967296) = M2 + (M1 + L / 4294967296) % 4294967296 ∧
    wrap64 (IntKind.u64.wrap (IntKind.u64.wrap (H + (M1 + L / 4294967296) / 4294967296) + (M2 + (M1 + L / 4294967296) % 4294967296) / 4294967296)) = hiW (a * b) ∧
    bits .or .u64 ((M2 + (M1 + L / 4294967296)) % 4294967296 * 4294967296) (L % 4294967296) = loW (a * b) := by
  have ba := wf_bd_u64 ha
  have bb := wf_bd_u64 hb
  have m := mul_halves a b
  have b1 := mul_bd (x := a % 4294967296) (y := b % 4294967296) (by omega) (by omega) (by omega) (by omega)
  have b2 := mul_bd (x := a / 4294967296) (y := b % 4294967296) (by omega) (by omega) (by omega) (by omega)
  have b3 := mul_bd (x := a % 4294967296) (y := b / 4294967296) (by omega) (by omega) (by omega) (by omega)
  have b4 := mul_bd (x := a / 4294967296) (y := b / 4294967296) (by omega) (by omega) (by omega) (by omega)
  rw [e1] at b1 m
  rw [e2] at b2 m
  rw [e3] at b3 m
  rw [e4] at b4 m
  clear e1 e2 e3 e4 ha hb ba bb
  rw [or_join (by omega) (by omega) (by omega) (by omega), m]
  unfold hiW loW
  simp only [IntKind.wrap_u64, i64w, w64w]
  generalize a * b = p at *
  refine ⟨by omega, by omega, by omega, by omega, by omega, by omega, by omega, by omega⟩
end Go.Proofs.YtffhnedladiaoaaGreatDoor
/- Contracts of package wide, the leaves: halves, Size, Of, Add. -/
namespace Go.Proofs.YtffhnedladiaoaaGreatDoor
open Go.RowKit
set_option linter.unusedVariables false
set_option linter.unusedSimpArgs false
theorem halves_any (n : Int) (w : World) (hn : (Lit.int .u64 n).wf = true) :
    Calls Tryz.prog 279 #[.int .u64 n] w fun e w' => e = .returned (.tuple #[.int .u64 (n / 4294967296), .int .u64 (n % 4294967296)]) ∧ w = w' := by
  go_enter Tryz.func279, Tryz.ntmps279
  go_wp2
  go_ret2
  exact ⟨rfl, rfl⟩
theorem size_any (n : Int) (w : World) (hn : (Lit.int .i64 n).wf = true) :
    Calls Tryz.prog 261 #[.int .i64 n] w fun e w' => e = .returned (.int .u64 n.natAbs) ∧ w = w' := by
  have h1 : n < 0 → IntKind.u64.wrap (-IntKind.u64.wrap n) = n.natAbs := fun h => size_neg hn h
  have h2 : 0 ≤ n → IntKind.u64.wrap n = n.natAbs := fun h => size_pos hn h
  go_enter Tryz.func261, Tryz.ntmps261
  go_wp2
  · have := h1 (by assumption)
    go_ret
    exact ⟨rfl, rfl⟩
  · have := h2 (by assumption)
    go_ret
    exact ⟨rfl, rfl⟩
theorem of_any (n : Int) (w : World) (hn : (Lit.int .i64 n).wf = true) :
    Calls Tryz.prog 171 #[.int .i64 n] w fun e w' => e = .returned (.agg #[.int .i64 (hiW n), .int .u64 (loW n)]) ∧ Below w.heap.size w w' := by
  have h1 := of_hi hn
  have h2 := u64_lo n
  go_enter Tryz.func171, Tryz.ntmps171
  go_wp2
  exact bodyPost_ret (v := .agg #[.int .i64 (hiW n), .int .u64 (loW n)]) (by simp [results, Tryz.results171, go_sem]) rfl ⟨rfl, (Below.refl _ _).alloc (Nat.le_refl _) _⟩
theorem add_any (a b : Int) (w : World) :
    Calls Tryz.prog 170 #[.agg #[.int .i64 (hiW a), .int .u64 (loW a)], .agg #[.int .i64 (hiW b), .int .u64 (loW b)]] w fun e w' => e = .returned (.agg #[.int .i64 (hiW (a + b)), .int .u64 (loW (a + b))]) ∧ Below w.heap.size w w' := by
  have h1 := add_lo a b
  by_cases hc : loW (a + b) < loW a
  · have h2 := add_carry hc
    go_enter Tryz.func170, Tryz.ntmps170
    go_wp2
    exact bodyPost_ret (v := .agg #[.int .i64 (hiW (a + b)), .int .u64 (loW (a + b))]) (by simp [results, Tryz.results170, go_sem]) rfl ⟨rfl, ((((Below.refl _ _).alloc (Nat.le_refl _) _).alloc (by simp) _).alloc (by simp; omega) _).alloc (by simp; omega) _⟩
  · have h2 := add_plain hc
    go_enter Tryz.func170, Tryz.ntmps170
    go_wp2
    exact bodyPost_ret (v := .agg #[.int .i64 (hiW (a + b)), .int .u64 (loW (a + b))]) (by simp [results, Tryz.results170, go_sem]) rfl ⟨rfl, ((((Below.refl _ _).alloc (Nat.le_refl _) _).alloc (by simp) _).alloc (by simp; omega) _).alloc (by simp; omega) _⟩
end Go.Proofs.YtffhnedladiaoaaGreatDoor
/- Contracts of package wide: Neg, Sub. -/
namespace Go.Proofs.YtffhnedladiaoaaGreatDoor
open Go.RowKit
set_option linter.unusedVariables false
set_option linter.unusedSimpArgs false
/-- Two cells that a world holds are held behind a call that makes memory alone; and the blocks that were there still are. -/
theorem keep2 {w0 w w1 : World} {A B : Nat} {p q : Addr} {u v : Option Value} (h : w.cell? p = u ∧ w.cell? q = v ∧ B < w.heap.size ∧ Below A w0 w) (hb : Below w.heap.size w w1) (hA : A ≤ B) (hp : p.block ≤ B) (hq : q.block ≤ B) :
    w1.cell? p = u ∧ w1.cell? q = v ∧ B < w1.heap.size ∧ Below A w0 w1 := by
  obtain ⟨h1, h2, h3, h4⟩ := h
  refine ⟨?_, ?_, Nat.lt_of_lt_of_le h3 hb.size, h4.trans (hb.mono (by omega))⟩
  · rw [hb.cell (by omega)]; exact h1
  · rw [hb.cell (by omega)]; exact h2
theorem keep4 {w0 w w1 : World} {A B : Nat} {p q p' q' : Addr} {u v u' v' : Option Value} (h : w.cell? p = u ∧ w.cell? q = v ∧ w.cell? p' = u' ∧ w.cell? q' = v' ∧ B < w.heap.size ∧ Below A w0 w) (hb : Below w.heap.size w w1) (hA : A ≤ B) (hp : p.block ≤ B) (hq : q.block ≤ B) (hp' : p'.block ≤ B) (hq' : q'.block ≤ B) :
    w1.cell? p = u ∧ w1.cell? q = v ∧ w1.cell? p' = u' ∧ w1.cell? q' = v' ∧ B < w1.heap.size ∧ Below A w0 w1 := by
  obtain ⟨h1, h2, h5, h6, h3, h4⟩ := h
  refine ⟨?_, ?_, ?_, ?_, Nat.lt_of_lt_of_le h3 hb.size, h4.trans (hb.mono (by omega))⟩
  · rw [hb.cell (by omega)]; exact h1
  · rw [hb.cell (by omega)]; exact h2
  · rw [hb.cell (by omega)]; exact h5
  · rw [hb.cell (by omega)]; exact h6
theorem bcell {W w1 : World} (hb : Below W.heap.size W w1) : (∀ b o, b < W.heap.size → w1.cell? ⟨b, o, none⟩ = W.cell? ⟨b, o, none⟩) ∧ (∀ b o, b < W.heap.size → w1.frozen? ⟨b, o, none⟩ = W.frozen? ⟨b, o, none⟩) :=
  ⟨fun b o h => hb.cell (p := ⟨b, o, none⟩) h, fun b o h => hb.frozen (p := ⟨b, o, none⟩) h⟩
theorem neg_any (a : Int) (w : World) :
    Calls Tryz.prog 270 #[.agg #[.int .i64 (hiW a), .int .u64 (loW a)]] w fun e w' => e = .returned (.agg #[.int .i64 (hiW (-a)), .int .u64 (loW (-a))]) ∧ Below w.heap.size w w' := by
  have q1 := not_hi a
  have q2 := not_lo a
  have q3 : -a - 1 + 1 = -a := by omega
  go_enter Tryz.func270, Tryz.ntmps270
  go_wp2
  go_region_held3 (fun w' => w'.cell? ⟨w.heap.size, 0, none⟩ = some (.int .i64 (hiW a)) ∧ w'.cell? ⟨w.heap.size, 1, none⟩ = some (.int .u64 (loW a)) ∧ w.heap.size + 1 < w'.heap.size ∧ Below w.heap.size w w') (first | assumption | (refine ⟨by simp, by simp, by simp, ?_⟩; exact (((Below.refl _ _).alloc (Nat.le_refl _) _).alloc (by simp) _).drew) | (refine ⟨by go_simp, by go_simp, by go_simp, ?_⟩; exact (hS2.2.2.2.setCell (by simp) _).setCell (by simp) _))
    (first | (go_at_call 171; refine (of_any 1 _ (by decide)).mono ?_; rintro e w1 ⟨rfl, hb1⟩; have hS1 := keep2 (by assumption) hb1 (by simp) (by simp) (by simp); obtain ⟨hc1, hf1⟩ := bcell hb1) | (go_at_call 170; refine (add_any (-a - 1) 1 _).mono ?_; rintro e w2 ⟨rfl, hb2⟩; have hS2 := keep2 (by assumption) hb2 (by simp) (by simp) (by simp); obtain ⟨hc2, hf2⟩ := bcell hb2))
  go_wp2
  exact bodyPost_ret (v := .agg #[.int .i64 (hiW (-a)), .int .u64 (loW (-a))]) (by simp [results, Tryz.results270, go_sem, *]) rfl ⟨rfl, (hS2.2.2.2.setCell (by simp) _).setCell (by simp) _⟩
end Go.Proofs.YtffhnedladiaoaaGreatDoor
/- Contracts of package wide: product. -/
namespace Go.Proofs.YtffhnedladiaoaaGreatDoor
open Go.RowKit
set_option linter.unusedVariables false
set_option linter.unusedSimpArgs false
set_option maxHeartbeats 1000000 in
theorem product_core (a b L M1 M2 H : Int) (w : World) (ha : (Lit.int .u64 a).wf = true) (hb : (Lit.int .u64 b).wf = true)
    (e1 : a % 4294967296 * (b % 4294967296) = L) (e2 : a / 4294967296 * (b % 4294967296) = M1) (e3 : a % 4294967296 * (b / 4294967296) = M2) (e4 : a / 4294967296 * (b / 4294967296) = H) :
    Calls Tryz.prog 276 #[.int .u64 a, .int .u64 b] w fun e w' => e = .returned (.agg #[.int .i64 (hiW (a * b)), .int .u64 (loW (a * b))]) ∧ Below w.heap.size w w' := by
  obtain ⟨g1, g2, g3, g4, k1, k2, f1, f2⟩ := mul_facts ha hb e1 e2 e3 e4
  go_enter Tryz.func276, Tryz.ntmps276
  go_wp2
  exact bodyPost_ret (v := .agg #[.int .i64 (hiW (a * b)), .int .u64 (loW (a * b))]) (by simp [results, Tryz.results276, go_sem]) rfl ⟨rfl, (Below.refl _ _).alloc (Nat.le_refl _) _⟩
theorem product_any (a b : Int) (w : World) (ha : (Lit.int .u64 a).wf = true) (hb : (Lit.int .u64 b).wf = true) :
    Calls Tryz.prog 276 #[.int .u64 a, .int .u64 b] w fun e w' => e = .returned (.agg #[.int .i64 (hiW (a * b)), .int .u64 (loW (a * b))]) ∧ Below w.heap.size w w' :=
  product_core a b _ _ _ _ w ha hb rfl rfl rfl rfl
end Go.Proofs.YtffhnedladiaoaaGreatDoor
/- Contracts of package wide: Mul. -/
namespace Go.Proofs.YtffhnedladiaoaaGreatDoor
open Go.RowKit
set_option linter.unusedVariables false
set_option linter.unusedSimpArgs false
theorem abs_wf {n : Int} (h : (Lit.int .i64 n).wf = true) : (Lit.int .u64 (n.natAbs : Int)).wf = true := by
  have := wf_bd_i64 h
  exact WalkArith.wf_u64 (by omega)
theorem abs_neg {n : Int} (h : n < 0) : (n.natAbs : Int) = -n := by omega
theorem abs_pos {n : Int} (h : ¬ n < 0) : (n.natAbs : Int) = n := by omega
set_option maxHeartbeats 1000000 in
theorem mul_same (a b : Int) (w : World) (ha : (Lit.int .i64 a).wf = true) (hb : (Lit.int .i64 b).wf = true) (s : Bool) (h1 : decide (a < 0) = s) (h2 : decide (b < 0) = s) :
    Calls Tryz.prog 269 #[.int .i64 a, .int .i64 b] w fun e w' => e = .returned (.agg #[.int .i64 (hiW (a * b)), .int .u64 (loW (a * b))]) ∧ Below w.heap.size w w' := by
  have q : (a.natAbs : Int) * (b.natAbs : Int) = a * b := by
    cases s
    · rw [abs_pos (of_decide_eq_false h1), abs_pos (of_decide_eq_false h2)]
    · rw [abs_neg (of_decide_eq_true h1), abs_neg (of_decide_eq_true h2), Int.neg_mul_neg]
  have wa := abs_wf ha
  have wb := abs_wf hb
  go_enter Tryz.func269, Tryz.ntmps269
  go_wp2_with (first | (go_at_call 261; refine (size_any _ _ (by first | exact ha | exact hb)).mono ?_; rintro e w' ⟨rfl, rfl⟩) | (go_at_call 276; refine (product_any _ _ _ wa wb).mono ?_; rintro e w1 ⟨rfl, hb1⟩; obtain ⟨hc1, hf1⟩ := bcell hb1; have hz1 : w.heap.size < w1.heap.size := by (have := hb1.size; simp at this; omega)))
  exact bodyPost_ret (v := .agg #[.int .i64 (hiW (a * b)), .int .u64 (loW (a * b))]) (by simp [results, Tryz.results269, go_sem, *]) rfl ⟨rfl, (((((Below.refl _ _).alloc (Nat.le_refl _) _).trans (hb1.mono (by simp))).setCell (by simp) _).setCell (by simp) _).alloc (by simp; omega) _⟩
set_option maxHeartbeats 1000000 in
theorem mul_diff (a b : Int) (w : World) (ha : (Lit.int .i64 a).wf = true) (hb : (Lit.int .i64 b).wf = true) (s : Bool) (h1 : decide (a < 0) = s) (h2 : decide (b < 0) = !s) :
    Calls Tryz.prog 269 #[.int .i64 a, .int .i64 b] w fun e w' => e = .returned (.agg #[.int .i64 (hiW (a * b)), .int .u64 (loW (a * b))]) ∧ Below w.heap.size w w' := by
  have q : -((a.natAbs : Int) * (b.natAbs : Int)) = a * b := by
    cases s
    · rw [abs_pos (of_decide_eq_false h1), abs_neg (of_decide_eq_true h2), Int.mul_neg, Int.neg_neg]
    · rw [abs_neg (of_decide_eq_true h1), abs_pos (of_decide_eq_false h2), Int.neg_mul, Int.neg_neg]
  have wa := abs_wf ha
  have wb := abs_wf hb
  go_enter Tryz.func269, Tryz.ntmps269
  go_wp2_with (first | (go_at_call 261; refine (size_any _ _ (by first | exact ha | exact hb)).mono ?_; rintro e w' ⟨rfl, rfl⟩) | (go_at_call 276; refine (product_any _ _ _ wa wb).mono ?_; rintro e w1 ⟨rfl, hb1⟩; obtain ⟨hc1, hf1⟩ := bcell hb1; have hz1 : w.heap.size < w1.heap.size := by (have := hb1.size; simp at this; omega)) | (go_at_call 270; refine (neg_any _ _).mono ?_; rintro e w2 ⟨rfl, hb2⟩; obtain ⟨hc2, hf2⟩ := bcell hb2; have hz2 : w1.heap.size < w2.heap.size := by (have := hb2.size; simp at this; omega)))
  have z1 : w.heap.size < w1.heap.size + 1 := by omega
  have z2 : w.heap.size < w2.heap.size := by omega
  exact bodyPost_ret (v := .agg #[.int .i64 (hiW (a * b)), .int .u64 (loW (a * b))]) (by simp [results, Tryz.results269, go_sem, *]) rfl ⟨rfl, ((((((Below.refl _ _).alloc (Nat.le_refl _) _).trans (hb1.mono (by simp))).alloc (by omega) _).trans (hb2.mono (by simp; omega))).setCell (by simp) _).setCell (by simp) _⟩
theorem mul_any (a b : Int) (w : World) (ha : (Lit.int .i64 a).wf = true) (hb : (Lit.int .i64 b).wf = true) :
    Calls Tryz.prog 269 #[.int .i64 a, .int .i64 b] w fun e w' => e = .returned (.agg #[.int .i64 (hiW (a * b)), .int .u64 (loW (a * b))]) ∧ Below w.heap.size w w' := by
  by_cases h1 : a < 0
  · by_cases h2 : b < 0
    · exact mul_same a b w ha hb true (decide_eq_true h1) (decide_eq_true h2)
    · exact mul_diff a b w ha hb true (decide_eq_true h1) (decide_eq_false h2)
  · by_cases h2 : b < 0
    · exact mul_diff a b w ha hb false (decide_eq_false h1) (decide_eq_true h2)
    · exact mul_same a b w ha hb false (decide_eq_false h1) (decide_eq_false h2)
end Go.Proofs.YtffhnedladiaoaaGreatDoor
/- Contract of law 1 Awake. -/
namespace Go.Proofs.YtffhnedladiaoaaGreatDoor
open Go.RowKit
set_option linter.unusedVariables false
set_option linter.unusedSimpArgs false
theorem aw1 : hiW (-5) = -1 := by unfold hiW; rw [i64w]; decide
theorem aw2 : loW (-5) = 18446744073709551611 := by unfold loW; decide
theorem aw3 : hiW (-1) = -1 := by unfold hiW; rw [i64w]; decide
theorem aw4 : loW (-1) = 18446744073709551615 := by unfold loW; decide
theorem awake_any (w : World) :
    Calls Tryz.prog 267 #[] w fun e w' => e = .returned (.bool true) ∧ Below w.heap.size w w' := by
  have h1 := aw1
  have h2 := aw2
  have h3 := aw3
  have h4 := aw4
  go_enter Tryz.func267, Tryz.ntmps267
  go_wp2_with (first | (go_at_call 269; refine (mul_any (-1) 5 _ (by decide) (by decide)).mono ?_; rintro e w1 ⟨rfl, hb1⟩) | (go_at_call 171; refine (of_any (-1) _ (by decide)).mono ?_; rintro e w2 ⟨rfl, hb2⟩))
  go_ret
  exact ⟨rfl, hb1.trans (hb2.mono hb1.size)⟩
end Go.Proofs.YtffhnedladiaoaaGreatDoor

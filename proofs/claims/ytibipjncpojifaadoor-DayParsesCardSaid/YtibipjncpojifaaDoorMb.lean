/- Plain arithmetic of a product by halves. -/
import Derived.Test.YtibipjncpojifaaDoorMa
namespace Go.Proofs.YtibipjncpojifaaDoor
open Go.RowKit
set_option linter.unusedVariables false
set_option linter.unusedSimpArgs false
theorem mul_bd {x y : Int} (hx : 0 ≤ x) (hx' : x < 4294967296) (hy : 0 ≤ y) (hy' : y < 4294967296) : 0 ≤ x * y ∧ x * y ≤ 18446744065119617025 := by
  refine ⟨Int.mul_nonneg hx hy, ?_⟩
  have h1 : x * y ≤ 4294967295 * y := Int.mul_le_mul_of_nonneg_right (by omega) hy
  omega
/-- The product of two numbers by their halves. -/
theorem mul_halves (a b : Int) : a * b = a / 4294967296 * (b / 4294967296) * 18446744073709551616 + (a / 4294967296 * (b % 4294967296) + a % 4294967296 * (b / 4294967296)) * 4294967296 + a % 4294967296 * (b % 4294967296) := by
  have ha : a = 4294967296 * (a / 4294967296) + a % 4294967296 := by omega
  have hb : b = 4294967296 * (b / 4294967296) + b % 4294967296 := by omega
  generalize a / 4294967296 = x at *
  generalize a % 4294967296 = y at *
  generalize b / 4294967296 = z at *
  generalize b % 4294967296 = t at *
  subst ha; subst hb
  simp only [Int.add_mul, Int.mul_add]
  have e1 : 4294967296 * x * (4294967296 * z) = x * z * 18446744073709551616 := by
    rw [show 4294967296 * x * (4294967296 * z) = (4294967296 * 4294967296) * (x * z) by ac_rfl, Int.mul_comm]; rfl
  have e2 : 4294967296 * x * t = x * t * 4294967296 := by ac_rfl
  have e3 : y * (4294967296 * z) = y * z * 4294967296 := by ac_rfl
  rw [e1, e2, e3]; omega
theorem or_join {x y : Int} (hx : 0 ≤ x) (hx' : x < 4294967296) (hy : 0 ≤ y) (hy' : y < 4294967296) : bits .or .u64 (x * 4294967296) y = x * 4294967296 + y := by
  obtain ⟨n, rfl⟩ := Int.eq_ofNat_of_zero_le hx
  obtain ⟨m, rfl⟩ := Int.eq_ofNat_of_zero_le hy
  have := u64_or_nat (n * 4294967296) m (by omega) (by omega)
  rw [show ((n : Int) * 4294967296) = ((n * 4294967296 : Nat) : Int) by omega, this, nat_join 32 (n * 4294967296) m (by omega) (by omega)]
  omega
/-- All that the walk of a product by halves asks. -/
theorem mul_facts {a b L M1 M2 H : Int} (ha : (Lit.int .u64 a).wf = true) (hb : (Lit.int .u64 b).wf = true)
    (e1 : a % 4294967296 * (b % 4294967296) = L) (e2 : a / 4294967296 * (b % 4294967296) = M1) (e3 : a % 4294967296 * (b / 4294967296) = M2) (e4 : a / 4294967296 * (b / 4294967296) = H) :
    IntKind.u64.wrap L = L ∧ IntKind.u64.wrap M1 = M1 ∧ IntKind.u64.wrap M2 = M2 ∧ IntKind.u64.wrap H = H ∧
    IntKind.u64.wrap (M1 + L / 4294967296) = M1 + L / 4294967296 ∧ IntKind.u64.wrap (M2 + (M1 + L / 4294967296) % 4294967296) = M2 + (M1 + L / 4294967296) % 4294967296 ∧
    wrap64 (IntKind.u64.wrap (IntKind.u64.wrap (H + (M1 + L / 4294967296) / 4294967296) + (M2 + (M1 + L / 4294967296) % 4294967296) / 4294967296)) = hiW (a * b) ∧
    bits .or .u64 ((M2 + (M1 + L / 4294967296)) % 4294967296 * 4294967296) (L % 4294967296) = loW (a * b) := by
  have ba := wf_bd_u64 ha
  have bb := wf_bd_u64 hb
  have m := mul_halves a b
  have b1 := mul_bd (x := a % 4294967296) (y := b % 4294967296) (by omega) (by omega) (by omega) (by omega)
  have b2 := mul_bd (x := a / 4294967296) (y := b % 4294967296) (by omega) (by omega) (by omega) (by omega)
  have b3 := mul_bd (x := a % 4294967296) (y := b / 4294967296) (by omega) (by omega) (by omega) (by omega)
  have b4 := mul_bd (x := a / 4294967296) (y := b / 4294967296) (by omega) (by omega) (by omega) (by omega)
  rw [e1] at b1 m
  rw [e2] at b2 m
  rw [e3] at b3 m
  rw [e4] at b4 m
  clear e1 e2 e3 e4 ha hb ba bb
  rw [or_join (by omega) (by omega) (by omega) (by omega), m]
  unfold hiW loW
  simp only [IntKind.wrap_u64, i64w, w64w]
  generalize a * b = p at *
  refine ⟨by omega, by omega, by omega, by omega, by omega, by omega, by omega, by omega⟩
end Go.Proofs.YtibipjncpojifaaDoor

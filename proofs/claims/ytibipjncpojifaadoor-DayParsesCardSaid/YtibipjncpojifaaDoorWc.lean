/- Contracts of package wide: product. -/
import Derived.Test.YtibipjncpojifaaDoorWb
import Derived.Test.YtibipjncpojifaaDoorMb
namespace Go.Proofs.YtibipjncpojifaaDoor
open Go.RowKit
set_option linter.unusedVariables false
set_option linter.unusedSimpArgs false
set_option maxHeartbeats 1000000 in
theorem product_core (a b L M1 M2 H : Int) (w : World) (ha : (Lit.int .u64 a).wf = true) (hb : (Lit.int .u64 b).wf = true)
    (e1 : a % 4294967296 * (b % 4294967296) = L) (e2 : a / 4294967296 * (b % 4294967296) = M1) (e3 : a % 4294967296 * (b / 4294967296) = M2) (e4 : a / 4294967296 * (b / 4294967296) = H) :
    Calls Tryd.prog 53 #[.int .u64 a, .int .u64 b] w fun e w' => e = .returned (.agg #[.int .i64 (hiW (a * b)), .int .u64 (loW (a * b))]) ∧ Below w.heap.size w w' := by
  obtain ⟨g1, g2, g3, g4, k1, k2, f1, f2⟩ := mul_facts ha hb e1 e2 e3 e4
  go_enter Tryd.func53, Tryd.ntmps53
  go_wp2
  exact bodyPost_ret (v := .agg #[.int .i64 (hiW (a * b)), .int .u64 (loW (a * b))]) (by simp [results, Tryd.results53, go_sem]) rfl ⟨rfl, (Below.refl _ _).alloc (Nat.le_refl _) _⟩
theorem product_any (a b : Int) (w : World) (ha : (Lit.int .u64 a).wf = true) (hb : (Lit.int .u64 b).wf = true) :
    Calls Tryd.prog 53 #[.int .u64 a, .int .u64 b] w fun e w' => e = .returned (.agg #[.int .i64 (hiW (a * b)), .int .u64 (loW (a * b))]) ∧ Below w.heap.size w w' :=
  product_core a b _ _ _ _ w ha hb rfl rfl rfl rfl
end Go.Proofs.YtibipjncpojifaaDoor

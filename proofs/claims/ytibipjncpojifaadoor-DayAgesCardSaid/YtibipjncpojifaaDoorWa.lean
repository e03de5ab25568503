/- Contracts of package wide, the leaves: halves, Size, Of, Add. -/
import Derived.Test.YtibipjncpojifaaDoorChecked
import Derived.Test.YtibipjncpojifaaDoorMa
import Derived.WalkKit
import Derived.Lib.Hide
import Derived.Below
import Derived.Outline
namespace Go.Proofs.YtibipjncpojifaaDoor
open Go.RowKit
set_option linter.unusedVariables false
set_option linter.unusedSimpArgs false
theorem halves_any (n : Int) (w : World) (hn : (Lit.int .u64 n).wf = true) :
    Calls Tryd.prog 64 #[.int .u64 n] w fun e w' => e = .returned (.tuple #[.int .u64 (n / 4294967296), .int .u64 (n % 4294967296)]) ∧ w = w' := by
  go_enter Tryd.func64, Tryd.ntmps64
  go_wp2
  go_ret2
  exact ⟨rfl, rfl⟩
theorem size_any (n : Int) (w : World) (hn : (Lit.int .i64 n).wf = true) :
    Calls Tryd.prog 31 #[.int .i64 n] w fun e w' => e = .returned (.int .u64 n.natAbs) ∧ w = w' := by
  have h1 : n < 0 → IntKind.u64.wrap (-IntKind.u64.wrap n) = n.natAbs := fun h => size_neg hn h
  have h2 : 0 ≤ n → IntKind.u64.wrap n = n.natAbs := fun h => size_pos hn h
  go_enter Tryd.func31, Tryd.ntmps31
  go_wp2
  · have := h1 (by assumption)
    go_ret
    exact ⟨rfl, rfl⟩
  · have := h2 (by assumption)
    go_ret
    exact ⟨rfl, rfl⟩
theorem of_any (n : Int) (w : World) (hn : (Lit.int .i64 n).wf = true) :
    Calls Tryd.prog 48 #[.int .i64 n] w fun e w' => e = .returned (.agg #[.int .i64 (hiW n), .int .u64 (loW n)]) ∧ Below w.heap.size w w' := by
  have h1 := of_hi hn
  have h2 := u64_lo n
  go_enter Tryd.func48, Tryd.ntmps48
  go_wp2
  exact bodyPost_ret (v := .agg #[.int .i64 (hiW n), .int .u64 (loW n)]) (by simp [results, Tryd.results48, go_sem]) rfl ⟨rfl, (Below.refl _ _).alloc (Nat.le_refl _) _⟩
theorem add_any (a b : Int) (w : World) :
    Calls Tryd.prog 54 #[.agg #[.int .i64 (hiW a), .int .u64 (loW a)], .agg #[.int .i64 (hiW b), .int .u64 (loW b)]] w fun e w' => e = .returned (.agg #[.int .i64 (hiW (a + b)), .int .u64 (loW (a + b))]) ∧ Below w.heap.size w w' := by
  have h1 := add_lo a b
  by_cases hc : loW (a + b) < loW a
  · have h2 := add_carry hc
    go_enter Tryd.func54, Tryd.ntmps54
    go_wp2
    exact bodyPost_ret (v := .agg #[.int .i64 (hiW (a + b)), .int .u64 (loW (a + b))]) (by simp [results, Tryd.results54, go_sem]) rfl ⟨rfl, ((((Below.refl _ _).alloc (Nat.le_refl _) _).alloc (by simp) _).alloc (by simp; omega) _).alloc (by simp; omega) _⟩
  · have h2 := add_plain hc
    go_enter Tryd.func54, Tryd.ntmps54
    go_wp2
    exact bodyPost_ret (v := .agg #[.int .i64 (hiW (a + b)), .int .u64 (loW (a + b))]) (by simp [results, Tryd.results54, go_sem]) rfl ⟨rfl, ((((Below.refl _ _).alloc (Nat.le_refl _) _).alloc (by simp) _).alloc (by simp; omega) _).alloc (by simp; omega) _⟩
end Go.Proofs.YtibipjncpojifaaDoor

/- The walk of the law WideBack. -/
import Derived.Test.YthgkfgjdlpjnmaaWf
import Derived.Test.YthgkfgjdlpjnmaaWi
namespace Go.Proofs.Ythgkfgjdlpjnmaa
open Go.RowKit
set_option linter.unusedVariables false
set_option linter.unusedSimpArgs false
theorem wide_val {a : Int} (h0 : 0 ≤ a) (h1 : a / 18446744073709551616 < 9223372036854775808) : hiW a = a / 18446744073709551616 ∧ hiW a * 18446744073709551616 + loW a = a ∧ 0 ≤ hiW a := by
  unfold hiW loW; rw [i64w]; omega
theorem wideback_yes (a b : Int) (w : World) (wa : (Lit.int .i64 a).wf = true) (wb : (Lit.int .i64 b).wf = true) (ha : 0 ≤ a) (hb : 1 ≤ b) (P : Int) (hp : a * b = P) (q1 : P / b = a) (q2 : P % b = 0) (p0 : 0 ≤ hiW P) (p1 : hiW P < b) (p2 : hiW P * 18446744073709551616 + loW P = P) (q3 : IntKind.u64.wrap a = a) :
    Calls Try.prog 10 #[.int .i64 a, .int .i64 b] w fun e w' => e = .returned (.bool true) ∧ Below w.heap.size w w' := by
  go_enter Try.func10, Try.ntmps10
  go_wp2_with (first | (go_at_call 11; refine (awake_any _).mono ?_; rintro e w1 ⟨rfl, hb1⟩) | (go_at_call 19; refine (mul_any a b _ wa wb).mono ?_; rintro e w2 ⟨rfl, hb2⟩) | (go_at_call 26; refine (quo_yes _ _ b _ p0 p1 (wf_lo P) wb).mono ?_; rintro e w3 ⟨rfl, hb3⟩))
  go_ret
  exact ⟨rfl, hb1.trans ((hb2.trans (hb3.mono hb2.size)).mono hb1.size)⟩
theorem wideback_no1 (a b : Int) (w : World) (ha : a < 0) :
    Calls Try.prog 10 #[.int .i64 a, .int .i64 b] w fun e w' => e = .returned (.bool true) ∧ Below w.heap.size w w' := by
  go_enter Try.func10, Try.ntmps10
  go_wp2_with (go_at_call 11; refine (awake_any _).mono ?_; rintro e w1 ⟨rfl, hb1⟩)
  go_ret
  exact ⟨rfl, hb1⟩
theorem wideback_no2 (a b : Int) (w : World) (ha : 0 ≤ a) (hb : b < 1) :
    Calls Try.prog 10 #[.int .i64 a, .int .i64 b] w fun e w' => e = .returned (.bool true) ∧ Below w.heap.size w w' := by
  go_enter Try.func10, Try.ntmps10
  go_wp2_with (go_at_call 11; refine (awake_any _).mono ?_; rintro e w1 ⟨rfl, hb1⟩)
  go_ret
  exact ⟨rfl, hb1⟩
theorem wideback_any (a b : Int) (w : World) (wa : (Lit.int .i64 a).wf = true) (wb : (Lit.int .i64 b).wf = true) :
    Calls Try.prog 10 #[.int .i64 a, .int .i64 b] w fun e w' => e = .returned (.bool true) ∧ Below w.heap.size w w' := by
  have ba := wf_bd_i64 wa
  have bb := wf_bd_i64 wb
  by_cases ha : a < 0
  · exact wideback_no1 a b w ha
  by_cases hb : b < 1
  · exact wideback_no2 a b w (by omega) hb
  have h0 : 0 ≤ a * b := Int.mul_nonneg (by omega) (by omega)
  have h1 : a * b ≤ 9223372036854775807 * b := Int.mul_le_mul_of_nonneg_right (by omega) (by omega)
  obtain ⟨v1, v2, v3⟩ := wide_val h0 (by omega)
  refine wideback_yes a b w wa wb (by omega) (by omega) (a * b) rfl (Int.mul_ediv_cancel _ (by omega)) (Int.mul_emod_left _ _) v3 (by rw [v1]; omega) v2 (by rw [IntKind.wrap_u64]; omega)
end Go.Proofs.Ythgkfgjdlpjnmaa

/- The walk of the law WideRing. -/
import Derived.Test.YthgkfgjdlpjnmaaWg
namespace Go.Proofs.Ythgkfgjdlpjnmaa
open Go.RowKit
set_option linter.unusedVariables false
set_option linter.unusedSimpArgs false
set_option maxHeartbeats 8000000 in
theorem widering_core (a b c v : Int) (w : World) (wa : (Lit.int .i64 a).wf = true) (wb : (Lit.int .i64 b).wf = true) (wc : (Lit.int .i64 c).wf = true) (ws : (Lit.int .i64 (a + b)).wf = true) (wp : (Lit.int .i64 (a * b)).wf = true)
    (e1 : wrap64 (a + b) = a + b) (e2 : wrap64 (a * b) = a * b) (e3 : wrap64 a = a) (e4 : wrap64 b = b) (e5 : wrap64 c = c) (f1 : IntKind.i64.wrap (a + b) = a + b) (f2 : IntKind.i64.wrap (a * b) = a * b) :
    Calls Try.prog 8 #[.int .i32 a, .int .i32 b, .int .i32 c, .agg #[.int .i64 (hiW v), .int .u64 (loW v)]] w fun e w' => e = .returned (.bool true) ∧ Below w.heap.size w w' := by
  have q1 : (a + b) * c = a * c + b * c := Int.add_mul _ _ _
  have q3 := hi0
  have q4 := lo0
  have q5 : v - -a = v + a := by omega
  have q6 : v - v = 0 := by omega
  have q7 : - -v = v := by omega
  go_enter Try.func8, Try.ntmps8
  go_wp2_with (go_at_call 11; refine (awake_any _).mono ?_; rintro e w1 ⟨rfl, hb1⟩; obtain ⟨hc1, hf1⟩ := bcell hb1; have hz1 : w.heap.size < w1.heap.size := by (have := hb1.size; simp at this; omega))
  go_region_held3 (fun w' => w'.cell? ⟨w.heap.size, 0, none⟩ = some (.int .i64 (hiW v)) ∧ w'.cell? ⟨w.heap.size, 1, none⟩ = some (.int .u64 (loW v)) ∧ w.heap.size < w'.heap.size ∧ Below w.heap.size w w')
    (first | assumption | (refine ⟨by go_simp, by go_simp, by go_simp, ?_⟩; exact (((Below.refl _ _).alloc (Nat.le_refl _) _).trans (hb1.mono (by simp))).drew))
    (first
      | (go_at_call 19; refine (mul_any _ _ _ (by first | exact wa | exact wb | exact ws) (by first | exact wb | exact wc)).mono ?_; rintro e w2 ⟨rfl, hb2⟩; have hS2 := keep2 (by assumption) hb2 (by simp) (by simp) (by simp))
      | (go_at_call 13; refine (add_any _ _ _).mono ?_; rintro e w2 ⟨rfl, hb2⟩; have hS2 := keep2 (by assumption) hb2 (by simp) (by simp) (by simp))
      | (go_at_call 18; refine (sub_any _ _ _).mono ?_; rintro e w2 ⟨rfl, hb2⟩; have hS2 := keep2 (by assumption) hb2 (by simp) (by simp) (by simp))
      | (go_at_call 22; refine (of_any _ _ (by first | exact wa | exact wp)).mono ?_; rintro e w2 ⟨rfl, hb2⟩; have hS2 := keep2 (by assumption) hb2 (by simp) (by simp) (by simp))
      | (go_at_call 16; refine (neg_any _ _).mono ?_; rintro e w2 ⟨rfl, hb2⟩; have hS2 := keep2 (by assumption) hb2 (by simp) (by simp) (by simp)))
  go_wp2
  go_ret
  exact ⟨rfl, hS2.2.2.2⟩
theorem wf_bd_i32 {n : Int} (h : (Lit.int .i32 n).wf = true) : -2147483648 ≤ n ∧ n ≤ 2147483647 := by
  simp [Lit.wf, IntKind.min, IntKind.max, IntKind.signed, IntKind.bits] at h; omega
theorem mul_bd32 {a b : Int} (ha : -2147483648 ≤ a ∧ a ≤ 2147483647) (hb : -2147483648 ≤ b ∧ b ≤ 2147483647) : -4611686018427387904 ≤ a * b ∧ a * b ≤ 4611686018427387904 := by
  have h1 : a.natAbs ≤ 2147483648 := by omega
  have h2 : b.natAbs ≤ 2147483648 := by omega
  have h3 : (a * b).natAbs ≤ 2147483648 * 2147483648 := by rw [Int.natAbs_mul]; exact Nat.mul_le_mul h1 h2
  omega
theorem widering_any (a b c h l : Int) (w : World) (w0 : (Lit.int .i32 a).wf = true) (w1 : (Lit.int .i32 b).wf = true) (w2 : (Lit.int .i32 c).wf = true) (wh : (Lit.int .i64 h).wf = true) (wl : (Lit.int .u64 l).wf = true) :
    Calls Try.prog 8 #[.int .i32 a, .int .i32 b, .int .i32 c, .agg #[.int .i64 h, .int .u64 l]] w fun e w' => e = .returned (.bool true) ∧ Below w.heap.size w w' := by
  obtain ⟨v, rfl, rfl⟩ := halves_of wh wl
  have b0 := wf_bd_i32 w0
  have b1 := wf_bd_i32 w1
  have b2 := wf_bd_i32 w2
  have b3 := mul_bd32 b0 b1
  exact widering_core a b c v w (WalkArith.wf_i64 (by omega)) (WalkArith.wf_i64 (by omega)) (WalkArith.wf_i64 (by omega)) (WalkArith.wf_i64 (by omega)) (WalkArith.wf_i64 (by omega)) (by rw [w64w]; omega) (by rw [w64w]; omega) (by rw [w64w]; omega) (by rw [w64w]; omega) (by rw [w64w]; omega) (by rw [i64w]; omega) (by rw [i64w]; omega)
end Go.Proofs.Ythgkfgjdlpjnmaa

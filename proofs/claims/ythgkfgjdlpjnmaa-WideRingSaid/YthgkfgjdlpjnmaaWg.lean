/- The walk of the law WideTurns. -/
import Derived.Test.YthgkfgjdlpjnmaaWf
namespace Go.Proofs.Ythgkfgjdlpjnmaa
open Go.RowKit
set_option linter.unusedVariables false
set_option linter.unusedSimpArgs false
theorem hi0 : hiW 0 = 0 := by unfold hiW; rw [i64w]; decide
theorem lo0 : loW 0 = 0 := by unfold loW; decide
set_option maxHeartbeats 4000000 in
theorem wideturns_core (a b v u : Int) (w : World) (wa : (Lit.int .i64 a).wf = true) (wb : (Lit.int .i64 b).wf = true) :
    Calls Try.prog 9 #[.int .i64 a, .int .i64 b, .agg #[.int .i64 (hiW v), .int .u64 (loW v)], .agg #[.int .i64 (hiW u), .int .u64 (loW u)]] w fun e w' => e = .returned (.bool true) ∧ Below w.heap.size w w' := by
  have q1 : b * a = a * b := Int.mul_comm _ _
  have q2 : u + v = v + u := Int.add_comm _ _
  have q3 := hi0
  have q4 := lo0
  have q5 : a * -1 = -a := by omega
  have q6 : a * 0 = 0 := by omega
  go_enter Try.func9, Try.ntmps9
  go_wp2_with (go_at_call 11; refine (awake_any _).mono ?_; rintro e w1 ⟨rfl, hb1⟩; obtain ⟨hc1, hf1⟩ := bcell hb1; have hz1 : w.heap.size + 1 < w1.heap.size := by (have := hb1.size; simp at this; omega))
  have z1 : w.heap.size < w1.heap.size := by omega
  go_region_held3 (fun w' => w'.cell? ⟨w.heap.size, 0, none⟩ = some (.int .i64 (hiW v)) ∧ w'.cell? ⟨w.heap.size, 1, none⟩ = some (.int .u64 (loW v)) ∧ w'.cell? ⟨w.heap.size + 1, 0, none⟩ = some (.int .i64 (hiW u)) ∧ w'.cell? ⟨w.heap.size + 1, 1, none⟩ = some (.int .u64 (loW u)) ∧ w.heap.size + 1 < w'.heap.size ∧ Below w.heap.size w w')
    (first | assumption | (refine ⟨by go_simp, by go_simp, by go_simp, by go_simp, by go_simp, ?_⟩; exact ((((Below.refl _ _).alloc (Nat.le_refl _) _).alloc (by simp) _).trans (hb1.mono (by simp; omega))).drew))
    (first
      | (go_at_call 19; refine (mul_any _ _ _ (by first | exact wa | exact wb) (by first | exact wa | exact wb | decide)).mono ?_; rintro e w2 ⟨rfl, hb2⟩; have hS2 := keep4 (by assumption) hb2 (by simp) (by simp) (by simp) (by simp) (by simp))
      | (go_at_call 13; refine (add_any _ _ _).mono ?_; rintro e w2 ⟨rfl, hb2⟩; have hS2 := keep4 (by assumption) hb2 (by simp) (by simp) (by simp) (by simp) (by simp))
      | (go_at_call 22; refine (of_any _ _ wa).mono ?_; rintro e w2 ⟨rfl, hb2⟩; have hS2 := keep4 (by assumption) hb2 (by simp) (by simp) (by simp) (by simp) (by simp))
      | (go_at_call 16; refine (neg_any _ _).mono ?_; rintro e w2 ⟨rfl, hb2⟩; have hS2 := keep4 (by assumption) hb2 (by simp) (by simp) (by simp) (by simp) (by simp)))
  go_wp2
  go_ret
  exact ⟨rfl, hS2.2.2.2.2.2⟩
theorem wideturns_any (a b h l h' l' : Int) (w : World) (wa : (Lit.int .i64 a).wf = true) (wb : (Lit.int .i64 b).wf = true) (w0 : (Lit.int .i64 h).wf = true) (w1 : (Lit.int .u64 l).wf = true) (w2 : (Lit.int .i64 h').wf = true) (w3 : (Lit.int .u64 l').wf = true) :
    Calls Try.prog 9 #[.int .i64 a, .int .i64 b, .agg #[.int .i64 h, .int .u64 l], .agg #[.int .i64 h', .int .u64 l']] w fun e w' => e = .returned (.bool true) ∧ Below w.heap.size w w' := by
  obtain ⟨v, rfl, rfl⟩ := halves_of w0 w1
  obtain ⟨u, rfl, rfl⟩ := halves_of w2 w3
  exact wideturns_core a b v u w wa wb
end Go.Proofs.Ythgkfgjdlpjnmaa

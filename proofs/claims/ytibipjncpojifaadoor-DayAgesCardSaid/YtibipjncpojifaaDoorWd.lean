/- Contracts of package wide: Mul. -/
import Derived.Test.YtibipjncpojifaaDoorWc
namespace Go.Proofs.YtibipjncpojifaaDoor
open Go.RowKit
set_option linter.unusedVariables false
set_option linter.unusedSimpArgs false
theorem abs_wf {n : Int} (h : (Lit.int .i64 n).wf = true) : (Lit.int .u64 (n.natAbs : Int)).wf = true := by
  have := wf_bd_i64 h
  exact WalkArith.wf_u64 (by omega)
theorem abs_neg {n : Int} (h : n < 0) : (n.natAbs : Int) = -n := by omega
theorem abs_pos {n : Int} (h : ¬ n < 0) : (n.natAbs : Int) = n := by omega
set_option maxHeartbeats 1000000 in
theorem mul_same (a b : Int) (w : World) (ha : (Lit.int .i64 a).wf = true) (hb : (Lit.int .i64 b).wf = true) (s : Bool) (h1 : decide (a < 0) = s) (h2 : decide (b < 0) = s) :
    Calls Tryd.prog 40 #[.int .i64 a, .int .i64 b] w fun e w' => e = .returned (.agg #[.int .i64 (hiW (a * b)), .int .u64 (loW (a * b))]) ∧ Below w.heap.size w w' := by
  have q : (a.natAbs : Int) * (b.natAbs : Int) = a * b := by
    cases s
    · rw [abs_pos (of_decide_eq_false h1), abs_pos (of_decide_eq_false h2)]
    · rw [abs_neg (of_decide_eq_true h1), abs_neg (of_decide_eq_true h2), Int.neg_mul_neg]
  have wa := abs_wf ha
  have wb := abs_wf hb
  go_enter Tryd.func40, Tryd.ntmps40
  go_wp2_with (first | (go_at_call 31; refine (size_any _ _ (by first | exact ha | exact hb)).mono ?_; rintro e w' ⟨rfl, rfl⟩) | (go_at_call 53; refine (product_any _ _ _ wa wb).mono ?_; rintro e w1 ⟨rfl, hb1⟩; obtain ⟨hc1, hf1⟩ := bcell hb1; have hz1 : w.heap.size < w1.heap.size := by (have := hb1.size; simp at this; omega)))
  exact bodyPost_ret (v := .agg #[.int .i64 (hiW (a * b)), .int .u64 (loW (a * b))]) (by simp [results, Tryd.results40, go_sem, *]) rfl ⟨rfl, (((((Below.refl _ _).alloc (Nat.le_refl _) _).trans (hb1.mono (by simp))).setCell (by simp) _).setCell (by simp) _).alloc (by simp; omega) _⟩
set_option maxHeartbeats 1000000 in
theorem mul_diff (a b : Int) (w : World) (ha : (Lit.int .i64 a).wf = true) (hb : (Lit.int .i64 b).wf = true) (s : Bool) (h1 : decide (a < 0) = s) (h2 : decide (b < 0) = !s) :
    Calls Tryd.prog 40 #[.int .i64 a, .int .i64 b] w fun e w' => e = .returned (.agg #[.int .i64 (hiW (a * b)), .int .u64 (loW (a * b))]) ∧ Below w.heap.size w w' := by
  have q : -((a.natAbs : Int) * (b.natAbs : Int)) = a * b := by
    cases s
    · rw [abs_pos (of_decide_eq_false h1), abs_neg (of_decide_eq_true h2), Int.mul_neg, Int.neg_neg]
    · rw [abs_neg (of_decide_eq_true h1), abs_pos (of_decide_eq_false h2), Int.neg_mul, Int.neg_neg]
  have wa := abs_wf ha
  have wb := abs_wf hb
  go_enter Tryd.func40, Tryd.ntmps40
  go_wp2_with (first | (go_at_call 31; refine (size_any _ _ (by first | exact ha | exact hb)).mono ?_; rintro e w' ⟨rfl, rfl⟩) | (go_at_call 53; refine (product_any _ _ _ wa wb).mono ?_; rintro e w1 ⟨rfl, hb1⟩; obtain ⟨hc1, hf1⟩ := bcell hb1; have hz1 : w.heap.size < w1.heap.size := by (have := hb1.size; simp at this; omega)) | (go_at_call 41; refine (neg_any _ _).mono ?_; rintro e w2 ⟨rfl, hb2⟩; obtain ⟨hc2, hf2⟩ := bcell hb2; have hz2 : w1.heap.size < w2.heap.size := by (have := hb2.size; simp at this; omega)))
  have z1 : w.heap.size < w1.heap.size + 1 := by omega
  have z2 : w.heap.size < w2.heap.size := by omega
  exact bodyPost_ret (v := .agg #[.int .i64 (hiW (a * b)), .int .u64 (loW (a * b))]) (by simp [results, Tryd.results40, go_sem, *]) rfl ⟨rfl, ((((((Below.refl _ _).alloc (Nat.le_refl _) _).trans (hb1.mono (by simp))).alloc (by omega) _).trans (hb2.mono (by simp; omega))).setCell (by simp) _).setCell (by simp) _⟩
theorem mul_any (a b : Int) (w : World) (ha : (Lit.int .i64 a).wf = true) (hb : (Lit.int .i64 b).wf = true) :
    Calls Tryd.prog 40 #[.int .i64 a, .int .i64 b] w fun e w' => e = .returned (.agg #[.int .i64 (hiW (a * b)), .int .u64 (loW (a * b))]) ∧ Below w.heap.size w w' := by
  by_cases h1 : a < 0
  · by_cases h2 : b < 0
    · exact mul_same a b w ha hb true (decide_eq_true h1) (decide_eq_true h2)
    · exact mul_diff a b w ha hb true (decide_eq_true h1) (decide_eq_false h2)
  · by_cases h2 : b < 0
    · exact mul_diff a b w ha hb false (decide_eq_false h1) (decide_eq_true h2)
    · exact mul_same a b w ha hb false (decide_eq_false h1) (decide_eq_false h2)
end Go.Proofs.YtibipjncpojifaaDoor

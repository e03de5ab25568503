/- The walk of the law WideAdds. -/
import Derived.Test.YthgkfgjdlpjnmaaWf
import Derived.Test.YthgkfgjdlpjnmaaYd
namespace Go.Proofs.Ythgkfgjdlpjnmaa
open Go.RowKit
set_option linter.unusedVariables false
set_option linter.unusedSimpArgs false
set_option maxRecDepth 100000 in
set_option maxHeartbeats 8000000 in
theorem wideadds_core (a b : Int) (w : World) :
    Calls Try.prog 3 #[.agg #[.int .i64 (hiW a), .int .u64 (loW a)], .agg #[.int .i64 (hiW b), .int .u64 (loW b)]] w fun e w' => e = .returned (.bool true) ∧ Below w.heap.size w w' := by
  have q1 : a + -b = a - b := by omega
  go_enter Try.func3, Try.ntmps3
  go_wp2_with (go_at_call 11; refine (awake_any _).mono ?_; rintro e w1 ⟨rfl, hb1⟩; obtain ⟨hc1, hf1⟩ := bcell hb1; have hz1 : w.heap.size + 1 < w1.heap.size := by (have := hb1.size; simp at this; omega))
  have z1 : w.heap.size < w1.heap.size := by omega
  go_region_held3 (fun w' => w'.cell? ⟨w.heap.size, 0, none⟩ = some (.int .i64 (hiW a)) ∧ w'.cell? ⟨w.heap.size, 1, none⟩ = some (.int .u64 (loW a)) ∧ w'.cell? ⟨w.heap.size + 1, 0, none⟩ = some (.int .i64 (hiW b)) ∧ w'.cell? ⟨w.heap.size + 1, 1, none⟩ = some (.int .u64 (loW b)) ∧ w.heap.size + 1 < w'.heap.size ∧ Below w.heap.size w w')
    (first | assumption | (refine ⟨by go_simp, by go_simp, by go_simp, by go_simp, by go_simp, ?_⟩; exact ((((Below.refl _ _).alloc (Nat.le_refl _) _).alloc (by simp) _).trans (hb1.mono (by simp; omega))).drew))
    (first
      | (go_at_call 13; refine (add_any _ _ _).mono ?_; rintro e w2 ⟨rfl, hb2⟩; have hS2 := keep4 (by assumption) hb2 (by simp) (by simp) (by simp) (by simp) (by simp))
      | (go_at_call 18; refine (sub_any _ _ _).mono ?_; rintro e w2 ⟨rfl, hb2⟩; have hS2 := keep4 (by assumption) hb2 (by simp) (by simp) (by simp) (by simp) (by simp))
      | (go_at_call 16; refine (neg_any _ _).mono ?_; rintro e w2 ⟨rfl, hb2⟩; have hS2 := keep4 (by assumption) hb2 (by simp) (by simp) (by simp) (by simp) (by simp))
      | (go_at_call 15; refine (lbits_any _ _).mono ?_; rintro e w2 ⟨rfl, hb2⟩; have hS2 := keep4 (by assumption) hb2 (by simp) (by simp) (by simp) (by simp) (by simp))
      | (go_at_call 14; refine (radd_any _ _ _).mono ?_; rintro e w2 ⟨rfl, hb2⟩; have hS2 := keep4 (by assumption) hb2 (by simp) (by simp) (by simp) (by simp) (by simp))
      | (go_at_call 17; refine (rneg_any _ _).mono ?_; rintro e w2 ⟨rfl, hb2⟩; have hS2 := keep4 (by assumption) hb2 (by simp) (by simp) (by simp) (by simp) (by simp))
      | (go_at_call 12; refine (is_same _ _).mono ?_; rintro e w2 ⟨rfl, hb2⟩; have hS2 := keep4 (by assumption) hb2 (by simp) (by simp) (by simp) (by simp) (by simp)))
  go_wp2
  go_ret
  exact ⟨rfl, hS2.2.2.2.2.2⟩
theorem wideadds_any (h l h' l' : Int) (w : World) (w0 : (Lit.int .i64 h).wf = true) (w1 : (Lit.int .u64 l).wf = true) (w2 : (Lit.int .i64 h').wf = true) (w3 : (Lit.int .u64 l').wf = true) :
    Calls Try.prog 3 #[.agg #[.int .i64 h, .int .u64 l], .agg #[.int .i64 h', .int .u64 l']] w fun e w' => e = .returned (.bool true) ∧ Below w.heap.size w w' := by
  obtain ⟨a, rfl, rfl⟩ := halves_of w0 w1
  obtain ⟨b, rfl, rfl⟩ := halves_of w2 w3
  exact wideadds_core a b w
end Go.Proofs.Ythgkfgjdlpjnmaa

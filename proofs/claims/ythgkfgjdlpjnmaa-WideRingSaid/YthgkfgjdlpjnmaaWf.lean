/- Contract of the laws' Awake. -/
import Derived.Test.YthgkfgjdlpjnmaaWd
import Derived.Test.YthgkfgjdlpjnmaaWe
namespace Go.Proofs.Ythgkfgjdlpjnmaa
open Go.RowKit
set_option linter.unusedVariables false
set_option linter.unusedSimpArgs false
theorem aw1 : hiW (-5) = -1 := by unfold hiW; rw [i64w]; decide
theorem aw2 : loW (-5) = 18446744073709551611 := by unfold loW; decide
theorem aw3 : hiW (-1) = -1 := by unfold hiW; rw [i64w]; decide
theorem aw4 : loW (-1) = 18446744073709551615 := by unfold loW; decide
theorem awake_any (w : World) :
    Calls Try.prog 11 #[] w fun e w' => e = .returned (.bool true) ∧ Below w.heap.size w w' := by
  have h1 := aw1
  have h2 := aw2
  have h3 := aw3
  have h4 := aw4
  go_enter Try.func11, Try.ntmps11
  go_wp2_with (first | (go_at_call 19; refine (mul_any (-1) 5 _ (by decide) (by decide)).mono ?_; rintro e w1 ⟨rfl, hb1⟩) | (go_at_call 22; refine (of_any (-1) _ (by decide)).mono ?_; rintro e w2 ⟨rfl, hb2⟩))
  go_ret
  exact ⟨rfl, hb1.trans (hb2.mono hb1.size)⟩
theorem fits_iff (a : Int) : hiW (wrap64 (loW a)) = hiW a ↔ (IntKind.u64.wrap (hiW a) = 0 ∧ loW a < 9223372036854775808) ∨ (IntKind.u64.wrap (hiW a) = 18446744073709551615 ∧ ¬ loW a < 9223372036854775808) := by
  unfold hiW loW; simp only [i64w, w64w, IntKind.wrap_u64]; omega
theorem back_lo (a : Int) : IntKind.u64.wrap (wrap64 (loW a)) = loW a := by
  unfold loW; simp only [w64w, IntKind.wrap_u64]; omega
def bigLo (a : Int) : Bool := decide (loW a < 9223372036854775808)
theorem five (a : Int) :
    ((IntKind.u64.wrap (hiW a) = 0 ∧ loW a < 9223372036854775808) ∧ hiW (wrap64 (loW a)) = hiW a) ∨
    ((IntKind.u64.wrap (hiW a) = 0 ∧ ¬ loW a < 9223372036854775808) ∧ ¬ hiW (wrap64 (loW a)) = hiW a) ∨
    ((IntKind.u64.wrap (hiW a) = 18446744073709551615 ∧ loW a < 9223372036854775808) ∧ ¬ hiW (wrap64 (loW a)) = hiW a) ∨
    ((IntKind.u64.wrap (hiW a) = 18446744073709551615 ∧ ¬ loW a < 9223372036854775808) ∧ hiW (wrap64 (loW a)) = hiW a) ∨
    (((IntKind.u64.wrap (hiW a) == 0) = false ∧ (IntKind.u64.wrap (hiW a) == 18446744073709551615) = false) ∧ ¬ hiW (wrap64 (loW a)) = hiW a) := by
  have h := fits_iff a
  by_cases h1 : IntKind.u64.wrap (hiW a) = 0
  · by_cases h2 : loW a < 9223372036854775808
    · exact .inl ⟨⟨h1, h2⟩, h.2 (.inl ⟨h1, h2⟩)⟩
    · exact .inr (.inl ⟨⟨h1, h2⟩, fun e => by rcases h.1 e with ⟨_, k⟩ | ⟨k, _⟩ <;> omega⟩)
  · by_cases h3 : IntKind.u64.wrap (hiW a) = 18446744073709551615
    · by_cases h2 : loW a < 9223372036854775808
      · exact .inr (.inr (.inl ⟨⟨h3, h2⟩, fun e => by rcases h.1 e with ⟨k, _⟩ | ⟨_, k⟩ <;> omega⟩))
      · exact .inr (.inr (.inr (.inl ⟨⟨h3, h2⟩, h.2 (.inr ⟨h3, h2⟩)⟩)))
    · exact .inr (.inr (.inr (.inr ⟨⟨beq_eq_false_iff_ne.2 h1, beq_eq_false_iff_ne.2 h3⟩, fun e => by rcases h.1 e with ⟨k, _⟩ | ⟨k, _⟩ <;> omega⟩)))
theorem lt_tt {a b : Int} (h : a < b) : decide (a < b) = true ∧ decide (b ≤ a) = false := ⟨decide_eq_true h, decide_eq_false (by omega)⟩
theorem lt_ff {a b : Int} (h : ¬ a < b) : decide (a < b) = false ∧ decide (b ≤ a) = true := ⟨decide_eq_false h, decide_eq_true (by omega)⟩
set_option maxHeartbeats 2000000 in
theorem widefits_own (a n : Int) (w : World) :
    Calls Try.prog 5 #[.agg #[.int .i64 (hiW a), .int .u64 (loW a)], .int .i64 n, .bool false] w fun e w' => e = .returned (.bool true) ∧ Below w.heap.size w w' := by
  have q := back_lo a
  rcases five a with ⟨⟨k1, k2⟩, k3⟩ | ⟨⟨k1, k2⟩, k3⟩ | ⟨⟨k1, k2⟩, k3⟩ | ⟨⟨k1, k2⟩, k3⟩ | ⟨⟨k1, k2⟩, k3⟩
  all_goals
    have k4 := Lib.hid k3
    clear k3
    try (have k5 := lt_tt k2; clear k2; obtain ⟨k6, k7⟩ := k5)
    try (have k5 := lt_ff k2; clear k2; obtain ⟨k6, k7⟩ := k5)
    go_enter Try.func5, Try.ntmps5
    go_wp2_with (first | (go_at_call 11; refine (awake_any _).mono ?_; rintro e w1 ⟨rfl, hb1⟩; obtain ⟨hc1, hf1⟩ := bcell hb1; have hz1 : w.heap.size < w1.heap.size := by (have := hb1.size; simp at this; omega)) | (go_at_call 24; (first | refine (fits_yes a _ k4.out).mono ?_ | refine (fits_no a _ k4.out).mono ?_); rintro e w2 ⟨rfl, hb2⟩; obtain ⟨hc2, hf2⟩ := bcell hb2))
    go_ret
    exact ⟨rfl, ((Below.refl _ _).alloc (Nat.le_refl _) _).trans ((hb1.trans (hb2.mono hb1.size)).mono (by simp))⟩
theorem tmod_wf (h : Int) : (Lit.int .i64 (h.tmod 2)).wf = true := by
  refine WalkArith.wf_i64 ?_
  have : -1 ≤ h.tmod 2 ∧ h.tmod 2 ≤ 1 := by
    rcases Int.lt_or_le h 0 with g | g
    · have e : h.tmod 2 = -((-h) % 2) := by
        rw [← Int.tmod_eq_emod_of_nonneg (by omega : 0 ≤ -h), Int.neg_tmod, Int.neg_neg]
      omega
    · rw [Int.tmod_eq_emod_of_nonneg g]; omega
  omega
set_option maxHeartbeats 2000000 in
theorem widefits_other (h l n a : Int) (w : World) (e1 : h.tmod 2 = hiW a) (e2 : IntKind.u64.wrap n = loW a) :
    Calls Try.prog 5 #[.agg #[.int .i64 h, .int .u64 l], .int .i64 n, .bool true] w fun e w' => e = .returned (.bool true) ∧ Below w.heap.size w w' := by
  have q := back_lo a
  rcases five a with ⟨⟨k1, k2⟩, k3⟩ | ⟨⟨k1, k2⟩, k3⟩ | ⟨⟨k1, k2⟩, k3⟩ | ⟨⟨k1, k2⟩, k3⟩ | ⟨⟨k1, k2⟩, k3⟩
  all_goals
    have k4 := Lib.hid k3
    clear k3
    try (have k5 := lt_tt k2; clear k2; obtain ⟨k6, k7⟩ := k5)
    try (have k5 := lt_ff k2; clear k2; obtain ⟨k6, k7⟩ := k5)
    go_enter Try.func5, Try.ntmps5
    go_wp2_with (first | (go_at_call 11; refine (awake_any _).mono ?_; rintro e w1 ⟨rfl, hb1⟩; obtain ⟨hc1, hf1⟩ := bcell hb1; have hz1 : w.heap.size < w1.heap.size := by (have := hb1.size; simp at this; omega)) | (go_at_call 24; (first | refine (fits_yes a _ k4.out).mono ?_ | refine (fits_no a _ k4.out).mono ?_); rintro e w2 ⟨rfl, hb2⟩; obtain ⟨hc2, hf2⟩ := bcell hb2))
    go_ret
    exact ⟨rfl, ((((((Below.refl _ _).alloc (Nat.le_refl _) _).trans (hb1.mono (by simp))).setCell (by simp) _).setCell (by simp) _).trans (hb2.mono (by simp; omega)))⟩
theorem widefits_any (h l n : Int) (own : Bool) (w : World) (w0 : (Lit.int .i64 h).wf = true) (w1 : (Lit.int .u64 l).wf = true) :
    Calls Try.prog 5 #[.agg #[.int .i64 h, .int .u64 l], .int .i64 n, .bool own] w fun e w' => e = .returned (.bool true) ∧ Below w.heap.size w w' := by
  cases own
  · obtain ⟨a, rfl, rfl⟩ := halves_of w0 w1
    exact widefits_own a n w
  · obtain ⟨a, e1, e2⟩ := halves_of (tmod_wf h) (wf_lo n)
    exact widefits_other h l n a w e1 ((u64_lo n).trans e2)
end Go.Proofs.Ythgkfgjdlpjnmaa

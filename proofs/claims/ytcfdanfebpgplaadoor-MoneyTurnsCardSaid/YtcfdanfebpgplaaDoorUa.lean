/- The walk of law MoneyAdds. -/
import Derived.Test.YtcfdanfebpgplaaDoorTd
import Derived.Test.YtcfdanfebpgplaaDoorTf
namespace Go.Proofs.YtcfdanfebpgplaaDoor
open Go.RowKit Go.Lib
set_option linter.unusedVariables false
set_option linter.unusedSimpArgs false
theorem fit_in {S : Int} (h : -9223372036854775808 ≤ S ∧ S < 9223372036854775808) : fitV S = .tuple #[.int .i64 S, .bool true] := by
  have e : wrap64 (loW S) = S := by unfold loW; rw [w64w]; omega
  rw [fitV_yes (by rw [e]), e]
theorem fit_out {S : Int} (h : S < -9223372036854775808 ∨ 9223372036854775808 ≤ S) (hb : -100000000000000000000000000000 ≤ S ∧ S ≤ 100000000000000000000000000000) : fitV S = .tuple #[.int .i64 0, .bool false] := by
  refine fitV_no ?_
  unfold hiW loW; simp only [i64w, w64w]; omega
theorem moneyadds_in (a b : Int) (w : World) (htab : Pow w) (hw : 0 < w.heap.size) (ha : (Lit.int .i64 a).wf = true) (hb : (Lit.int .i64 b).wf = true)
    (h : -9223372036854775808 ≤ a + b ∧ a + b < 9223372036854775808) :
    Calls Tryd.prog 4 #[.int .i64 a, .int .i64 b] w fun e w' => e = .returned (.bool true) ∧ Below w.heap.size w w' := by
  have ba := wf_bd_i64 ha
  have bb := wf_bd_i64 hb
  have c1 := fun w' => madd_any a b w' ha hb
  have c2 := fun w' => mneg_any a w' ha
  rw [fit_in h] at c1
  by_cases hm : a = -9223372036854775808
  · subst hm
    rw [fit_out (by decide) (by decide)] at c2
    go_enter Tryd.func4, Tryd.ntmps4
    go_wp2_with (first
      | (go_at_call 9; refine (awake2_any _ htab hw).mono ?_; rintro e w1 ⟨rfl, hb1⟩)
      | (go_at_call 14; refine (c1 _).mono ?_; rintro e w2 ⟨rfl, hb2⟩)
      | (go_at_call 15; refine (c2 _).mono ?_; rintro e w3 ⟨rfl, hb3⟩))
    all_goals
      go_ret
      exact ⟨rfl, hb1.trans ((hb2.mono hb1.size).trans (hb3.mono (Nat.le_trans hb1.size hb2.size)))⟩
  · rw [fit_in (by omega)] at c2
    have hm' : (a != -9223372036854775808) = true := by simpa using hm
    go_enter Tryd.func4, Tryd.ntmps4
    go_wp2_with (first
      | (go_at_call 9; refine (awake2_any _ htab hw).mono ?_; rintro e w1 ⟨rfl, hb1⟩)
      | (go_at_call 14; refine (c1 _).mono ?_; rintro e w2 ⟨rfl, hb2⟩)
      | (go_at_call 15; refine (c2 _).mono ?_; rintro e w3 ⟨rfl, hb3⟩))
    all_goals
      go_ret
      exact ⟨rfl, hb1.trans ((hb2.mono hb1.size).trans (hb3.mono (Nat.le_trans hb1.size hb2.size)))⟩
theorem moneyadds_over (a b : Int) (w : World) (htab : Pow w) (hw : 0 < w.heap.size) (ha : (Lit.int .i64 a).wf = true) (hb : (Lit.int .i64 b).wf = true)
    (h : 9223372036854775808 ≤ a + b) :
    Calls Tryd.prog 4 #[.int .i64 a, .int .i64 b] w fun e w' => e = .returned (.bool true) ∧ Below w.heap.size w w' := by
  have ba := wf_bd_i64 ha
  have bb := wf_bd_i64 hb
  have c1 := fun w' => madd_any a b w' ha hb
  have c2 := fun w' => mneg_any a w' ha
  rw [fit_out (.inr h) (by omega)] at c1
  rw [fit_in (by omega)] at c2
  have hm' : (a != -9223372036854775808) = true := by simp; omega
  by_cases hm : 0 < a
  · skip
    go_enter Tryd.func4, Tryd.ntmps4
    go_wp2_with (first
      | (go_at_call 9; refine (awake2_any _ htab hw).mono ?_; rintro e w1 ⟨rfl, hb1⟩)
      | (go_at_call 14; refine (c1 _).mono ?_; rintro e w2 ⟨rfl, hb2⟩)
      | (go_at_call 15; refine (c2 _).mono ?_; rintro e w3 ⟨rfl, hb3⟩))
    all_goals
      go_ret
      exact ⟨rfl, hb1.trans ((hb2.mono hb1.size).trans (hb3.mono (Nat.le_trans hb1.size hb2.size)))⟩
  · omega
theorem moneyadds_under (a b : Int) (w : World) (htab : Pow w) (hw : 0 < w.heap.size) (ha : (Lit.int .i64 a).wf = true) (hb : (Lit.int .i64 b).wf = true)
    (h : a + b < -9223372036854775808) :
    Calls Tryd.prog 4 #[.int .i64 a, .int .i64 b] w fun e w' => e = .returned (.bool true) ∧ Below w.heap.size w w' := by
  have ba := wf_bd_i64 ha
  have bb := wf_bd_i64 hb
  have c1 := fun w' => madd_any a b w' ha hb
  have c2 := fun w' => mneg_any a w' ha
  rw [fit_out (.inl h) (by omega)] at c1
  by_cases hm : a = -9223372036854775808
  · subst hm
    rw [fit_out (by decide) (by decide)] at c2
    go_enter Tryd.func4, Tryd.ntmps4
    go_wp2_with (first
      | (go_at_call 9; refine (awake2_any _ htab hw).mono ?_; rintro e w1 ⟨rfl, hb1⟩)
      | (go_at_call 14; refine (c1 _).mono ?_; rintro e w2 ⟨rfl, hb2⟩)
      | (go_at_call 15; refine (c2 _).mono ?_; rintro e w3 ⟨rfl, hb3⟩))
    all_goals
      go_ret
      exact ⟨rfl, hb1.trans ((hb2.mono hb1.size).trans (hb3.mono (Nat.le_trans hb1.size hb2.size)))⟩
  · rw [fit_in (by omega)] at c2
    have hm' : (a != -9223372036854775808) = true := by simpa using hm
    go_enter Tryd.func4, Tryd.ntmps4
    go_wp2_with (first
      | (go_at_call 9; refine (awake2_any _ htab hw).mono ?_; rintro e w1 ⟨rfl, hb1⟩)
      | (go_at_call 14; refine (c1 _).mono ?_; rintro e w2 ⟨rfl, hb2⟩)
      | (go_at_call 15; refine (c2 _).mono ?_; rintro e w3 ⟨rfl, hb3⟩))
    all_goals
      go_ret
      exact ⟨rfl, hb1.trans ((hb2.mono hb1.size).trans (hb3.mono (Nat.le_trans hb1.size hb2.size)))⟩
theorem moneyadds_any (a b : Int) (w : World) (htab : Pow w) (hw : 0 < w.heap.size) (ha : (Lit.int .i64 a).wf = true) (hb : (Lit.int .i64 b).wf = true) :
    Calls Tryd.prog 4 #[.int .i64 a, .int .i64 b] w fun e w' => e = .returned (.bool true) ∧ Below w.heap.size w w' := by
  by_cases h1 : 9223372036854775808 ≤ a + b
  · exact moneyadds_over a b w htab hw ha hb h1
  · by_cases h2 : a + b < -9223372036854775808
    · exact moneyadds_under a b w htab hw ha hb h2
    · exact moneyadds_in a b w htab hw ha hb ⟨by omega, by omega⟩
end Go.Proofs.YtcfdanfebpgplaaDoor

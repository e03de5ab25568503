/- The walk of law ChartNames. -/
import Derived.Test.YtdhgkggcnilgoaaDoorDc
import Derived.Test.YtdhgkggcnilgoaaDoorCm
import Derived.Test.YtdhgkggcnilgoaaDoorLh
import Derived.Test.YtdhgkggcnilgoaaDoorVpk
import Derived.Test.YtdhgkggcnilgoaaDoorKall
import Derived.Test.YtdhgkggcnilgoaaDoorPall
namespace Go.Proofs.YtdhgkggcnilgoaaDoor
open Go.RowKit Go.Shelf
set_option linter.unusedVariables false
set_option linter.unusedSimpArgs false
theorem code_three (n : Nat) : (n = 0 ∧ (decide (0 < n) && decide (n ≤ 999999)) = false) ∨ ((0 < n ∧ n < 1000000) ∧ (decide (0 < n) && decide (n ≤ 999999)) = true) ∨ ((0 < n ∧ ¬ n < 1000000) ∧ (decide (0 < n) && decide (n ≤ 999999)) = false) := by
  by_cases h : n = 0
  · subst h; exact .inl ⟨rfl, by simp⟩
  · by_cases h1 : n < 1000000
    · exact .inr (.inl ⟨⟨by omega, h1⟩, by simp; omega⟩)
    · exact .inr (.inr ⟨⟨by omega, h1⟩, by simp; omega⟩)
set_option maxHeartbeats 8000000 in
set_option maxRecDepth 100000 in
theorem chartnames_any {I : World → Prop} (C : AllotC) (D : DayC I) (K : KeyC I) (s : ByteArray) (n k : Nat) (w : World) (hI : I w) (hs : s.size ≤ 9223372036854775807) :
    Calls Tryd.prog 3 #[.string s, .int .u32 (n : Int), .int .u8 (k : Int)] w fun e w' => e = .returned (.bool true) ∧ Below w.heap.size w w' := by
  have K1 := Lib.hid (awake6_any C D K w hI)
  by_cases h100 : s.size ≤ 100
  · have K2 := Lib.hid (fun w => cname_c s w)
    have K3 := Lib.hid (fun w => lname_c2 s w hs)
    have hd : ¬ (100 : Int) < (s.size : Int) := by omega
    have hbb : ∀ b : Bool, (b == b) = true := fun b => by simp
    generalize nameB s.toList = q at *
    have hq := hbb q
    clear hbb
    have KC := fun w => code_c n w
    have KR := fun w => credit_c k w
    have KF := fun w => flow_c k w
    rcases code_three n with ⟨hn, hc⟩ | ⟨⟨hn1, hn2⟩, hc⟩ | ⟨⟨hn1, hn2⟩, hc⟩
    · have f1 : ¬ (0 : Int) < (n : Int) := by omega
      rw [hc] at KC
      have HKC := Lib.hid KC
      obtain ⟨z, hz⟩ : ∃ z : Int, (n : Int) = z := ⟨_, rfl⟩
      rw [hz] at f1 HKC ⊢
      clear KC hn hc hz
      cases g1 : ((k : Int) == 1) <;> cases g2 : ((k : Int) == 2) <;> cases g3 : ((k : Int) == 3) <;> cases g4 : ((k : Int) == 4) <;> try (exfalso; simp only [beq_iff_eq] at g1 g2 g3 g4; omega)
      all_goals
        simp only [g1, g2, g3, Bool.or_false, Bool.or_true, Bool.false_or, Bool.true_or] at KR
        simp only [g3, g4, Bool.or_false, Bool.or_true, Bool.false_or, Bool.true_or] at KF
        have HKR := Lib.hid KR
        have HKF := Lib.hid KF
        clear KR KF
        go_enter Tryd.func3, Tryd.ntmps3
        go_wp2_with (first
          | (go_at_call 13; refine (HKF.out _).mono ?_; rintro e w6 ⟨rfl, rfl⟩)
          | (go_at_call 12; refine (HKR.out _).mono ?_; rintro e w5 ⟨rfl, rfl⟩)
          | (go_at_call 11; refine (HKC.out _).mono ?_; rintro e w4 ⟨rfl, rfl⟩)
          | (go_at_call 10; refine (K3.out _).mono ?_; rintro e w3 ⟨rfl, hb3⟩; have HB3 := Lib.hid (HB2.out.trans (hb3.mono HB2.out.size)); clear hb3)
          | (go_at_call 9; refine (K2.out _).mono ?_; rintro e w2 ⟨rfl, hb2⟩; have HB2 := Lib.hid (HB1.out.trans (hb2.mono HB1.out.size)); clear hb2)
          | (go_at_call 8; refine K1.out.mono ?_; rintro e w1 ⟨rfl, hb1⟩; have HB1 := Lib.hid hb1; clear hb1))
        go_ret
        exact ⟨by simp; try omega, HB3.out⟩
    · have f1 : (0 : Int) < (n : Int) := by omega
      have f2 : (n : Int) < 1000000 := by omega
      rw [hc] at KC
      have HKC := Lib.hid KC
      obtain ⟨z, hz⟩ : ∃ z : Int, (n : Int) = z := ⟨_, rfl⟩
      rw [hz] at f1 f2 HKC ⊢
      clear KC hc hn1 hn2 hz
      cases g1 : ((k : Int) == 1) <;> cases g2 : ((k : Int) == 2) <;> cases g3 : ((k : Int) == 3) <;> cases g4 : ((k : Int) == 4) <;> try (exfalso; simp only [beq_iff_eq] at g1 g2 g3 g4; omega)
      all_goals
        simp only [g1, g2, g3, Bool.or_false, Bool.or_true, Bool.false_or, Bool.true_or] at KR
        simp only [g3, g4, Bool.or_false, Bool.or_true, Bool.false_or, Bool.true_or] at KF
        have HKR := Lib.hid KR
        have HKF := Lib.hid KF
        clear KR KF
        go_enter Tryd.func3, Tryd.ntmps3
        go_wp2_with (first
          | (go_at_call 13; refine (HKF.out _).mono ?_; rintro e w6 ⟨rfl, rfl⟩)
          | (go_at_call 12; refine (HKR.out _).mono ?_; rintro e w5 ⟨rfl, rfl⟩)
          | (go_at_call 11; refine (HKC.out _).mono ?_; rintro e w4 ⟨rfl, rfl⟩)
          | (go_at_call 10; refine (K3.out _).mono ?_; rintro e w3 ⟨rfl, hb3⟩; have HB3 := Lib.hid (HB2.out.trans (hb3.mono HB2.out.size)); clear hb3)
          | (go_at_call 9; refine (K2.out _).mono ?_; rintro e w2 ⟨rfl, hb2⟩; have HB2 := Lib.hid (HB1.out.trans (hb2.mono HB1.out.size)); clear hb2)
          | (go_at_call 8; refine K1.out.mono ?_; rintro e w1 ⟨rfl, hb1⟩; have HB1 := Lib.hid hb1; clear hb1))
        go_ret
        exact ⟨by simp; try omega, HB3.out⟩
    · have f1 : (0 : Int) < (n : Int) := by omega
      have f2 : ¬ (n : Int) < 1000000 := by omega
      rw [hc] at KC
      have HKC := Lib.hid KC
      obtain ⟨z, hz⟩ : ∃ z : Int, (n : Int) = z := ⟨_, rfl⟩
      rw [hz] at f1 f2 HKC ⊢
      clear KC hc hn1 hn2 hz
      cases g1 : ((k : Int) == 1) <;> cases g2 : ((k : Int) == 2) <;> cases g3 : ((k : Int) == 3) <;> cases g4 : ((k : Int) == 4) <;> try (exfalso; simp only [beq_iff_eq] at g1 g2 g3 g4; omega)
      all_goals
        simp only [g1, g2, g3, Bool.or_false, Bool.or_true, Bool.false_or, Bool.true_or] at KR
        simp only [g3, g4, Bool.or_false, Bool.or_true, Bool.false_or, Bool.true_or] at KF
        have HKR := Lib.hid KR
        have HKF := Lib.hid KF
        clear KR KF
        go_enter Tryd.func3, Tryd.ntmps3
        go_wp2_with (first
          | (go_at_call 13; refine (HKF.out _).mono ?_; rintro e w6 ⟨rfl, rfl⟩)
          | (go_at_call 12; refine (HKR.out _).mono ?_; rintro e w5 ⟨rfl, rfl⟩)
          | (go_at_call 11; refine (HKC.out _).mono ?_; rintro e w4 ⟨rfl, rfl⟩)
          | (go_at_call 10; refine (K3.out _).mono ?_; rintro e w3 ⟨rfl, hb3⟩; have HB3 := Lib.hid (HB2.out.trans (hb3.mono HB2.out.size)); clear hb3)
          | (go_at_call 9; refine (K2.out _).mono ?_; rintro e w2 ⟨rfl, hb2⟩; have HB2 := Lib.hid (HB1.out.trans (hb2.mono HB1.out.size)); clear hb2)
          | (go_at_call 8; refine K1.out.mono ?_; rintro e w1 ⟨rfl, hb1⟩; have HB1 := Lib.hid hb1; clear hb1))
        go_ret
        exact ⟨by simp; try omega, HB3.out⟩
  · have hd : (100 : Int) < (s.size : Int) := by omega
    go_enter Tryd.func3, Tryd.ntmps3
    go_wp2_with (go_at_call 8; refine K1.out.mono ?_; rintro e w1 ⟨rfl, hb1⟩; have HB1 := Lib.hid hb1; clear hb1)
    go_ret
    exact ⟨rfl, HB1.out⟩
theorem chartnames_row (s : ByteArray) (a b : Int) (w : World) (hI : InI w) (hs : s.size ≤ 9223372036854775807) (ha : (Lit.int .u32 a).wf = true) (hb : (Lit.int .u8 b).wf = true) :
    Calls Tryd.prog 3 #[.string s, .int .u32 a, .int .u8 b] w fun e w' => e = .returned (.bool true) ∧ Below w.heap.size w w' := by
  obtain ⟨m, rfl, hm⟩ := u32_nat ha
  obtain ⟨n, rfl, hn⟩ := u8_nat hb
  exact chartnames_any allotC dayC keyC s m n w hI hs
end Go.Proofs.YtdhgkggcnilgoaaDoor

/- The walk of law DayAges. -/
import Derived.Test.YtibipjncpojifaaDoorKe
namespace Go.Proofs.YtibipjncpojifaaDoor
open Go.RowKit
set_option linter.unusedVariables false
set_option linter.unusedSimpArgs false
theorem num_behind {n k : Int} (hn : 1 ≤ n) (hk : 1 ≤ k ∧ k ≤ 12) : numD (n + k / 12) (k % 12 + 1) 1 = numD n k (ml n k) + 1 ∧ numD n k (ml n k) + 1 - numD n k 1 = ml n k := by
  have hs := dbm_step n hk.1 hk.2
  refine ⟨?_, by unfold numD; omega⟩
  by_cases h : k < 12
  · have e1 : n + k / 12 = n := by omega
    have e2 : k % 12 + 1 = k + 1 := by omega
    rw [e1, e2]
    unfold numD
    rw [hs]; omega
  · obtain rfl : k = 12 := by omega
    have e1 : n + 12 / 12 = n + 1 := by omega
    have e2 : (12 : Int) % 12 + 1 = 1 := by omega
    have ha := dbm_all n
    rw [show (12 : Int) + 1 = 13 by rfl, ha] at hs
    rw [e1, e2]
    unfold numD
    rw [dbm_one, dby_step]; omega
set_option maxHeartbeats 4000000 in
theorem dayages_core {I : World → Prop} (C : AllotC) (D : DayC I) (y m d n k q : Int) (w : World) (hI : I w) (hy : 0 ≤ y ∧ y < 65536) (hm : 0 ≤ m ∧ m < 256) (hd : 0 ≤ d ∧ d < 256)
    (en : 1 + y % 9500 = n) (ek : 1 + m % 12 = k) (eq : 1 + d % 31 = q) :
    Calls Tryd.prog 7 #[.int .u16 y, .int .u8 m, .int .u8 d] w fun e w' => e = .returned (.bool true) ∧ Below w.heap.size w w' := by
  have bn : 1 ≤ n ∧ n ≤ 9500 := by omega
  have bk : 1 ≤ k ∧ k ≤ 12 := by omega
  have bq : 1 ≤ q ∧ q ≤ 31 := by omega
  have mb := ml_bd n k
  have mb2 := ml_bd (n + k / 12) (k % 12 + 1)
  have K1 := Lib.hid (awake4_any C D w hI)
  have r1 : RightD n k 1 := ⟨by omega, by omega, by omega, by omega, by omega, by omega⟩
  have r2 : RightD (n + k / 12) (k % 12 + 1) 1 := ⟨by omega, by omega, by omega, by omega, by omega, by omega⟩
  have r3 : RightD n k (ml n k) := ⟨by omega, by omega, by omega, by omega, by omega, by omega⟩
  have KF := Lib.hid (fun w' (hw : I w') => D.of_yes _ _ _ w' hw r1)
  have KN := Lib.hid (fun w' (hw : I w') => D.of_yes _ _ _ w' hw r2)
  have KL := Lib.hid (fun w' (hw : I w') => D.of_yes _ _ _ w' hw r3)
  have KM := Lib.hid (fun w' => month_any n k w' (by omega) (by omega))
  obtain ⟨g1, g2⟩ := num_behind bn.1 bk
  rw [g1] at KN
  have rg1 := num_range r1
  have rg3 := num_range r3
  have rg2 := num_range r2
  rw [g1] at rg2
  have w1 : IntKind.i32.wrap (numD n k (ml n k) + 1) = numD n k (ml n k) + 1 := by rw [IntKind.wrap_i32]; omega
  have w2 : IntKind.i32.wrap (numD n k (ml n k) + 1 - numD n k 1) = ml n k := by rw [IntKind.wrap_i32]; omega
  clear r1 r2 r3
  by_cases hq : q ≤ ml n k
  · have ra : RightD n k q := ⟨by omega, by omega, by omega, by omega, by omega, hq⟩
    have rb : RightD (n + 400) k q := ⟨by omega, by omega, by omega, by omega, by omega, by rw [ml_400]; exact hq⟩
    have KA := Lib.hid (fun w' (hw : I w') => D.of_yes _ _ _ w' hw ra)
    have KB := Lib.hid (fun w' (hw : I w') => D.of_yes _ _ _ w' hw rb)
    have rga := num_range ra
    rw [num_400] at KB
    have w3 : IntKind.i32.wrap (numD n k q + 146097 - numD n k q) = 146097 := by rw [IntKind.wrap_i32]; omega
    clear ra rb hq
    generalize numD n k (ml n k) = x at *
    generalize numD n k 1 = z at *
    generalize numD n k q = t at *
    generalize ml n k = l at *
    go_enter Tryd.func7, Tryd.ntmps7
    go_wp2_with (first
      | (go_at_call 16; refine (KM.out _).mono ?_; rintro e w9 ⟨rfl, rfl⟩)
      | (go_at_call 9; refine (KL.out _ (D.stay hI hB5)).mono ?_; rintro e w6 ⟨rfl, hb6⟩; have hB6 := hB5.trans (hb6.mono hB5.size))
      | (go_at_call 9; refine (KN.out _ (D.stay hI hB4)).mono ?_; rintro e w5 ⟨rfl, hb5⟩; have hB5 := hB4.trans (hb5.mono hB4.size))
      | (go_at_call 9; refine (KF.out _ (D.stay hI hB3)).mono ?_; rintro e w4 ⟨rfl, hb4⟩; have hB4 := hB3.trans (hb4.mono hB3.size))
      | (go_at_call 9; refine (KB.out _ (D.stay hI hB2)).mono ?_; rintro e w3 ⟨rfl, hb3⟩; have hB3 := hB2.trans (hb3.mono hB2.size))
      | (go_at_call 9; refine (KA.out _ (D.stay hI hb1)).mono ?_; rintro e w2 ⟨rfl, hb2⟩; have hB2 := hb1.trans (hb2.mono hb1.size))
      | (go_at_call 8; refine K1.out.mono ?_; rintro e w1 ⟨rfl, hb1⟩))
    go_ret
    exact ⟨by simp, hB6⟩
  · have KA := Lib.hid (fun w' (hw : I w') => D.of_no n k q w' hw (WalkArith.wf_i64 (by omega)) (WalkArith.wf_i64 (by omega)) (WalkArith.wf_i64 (by omega)) (fun h => hq h.2.2.2.2.2))
    have KB := Lib.hid (fun w' (hw : I w') => D.of_no (n + 400) k q w' hw (WalkArith.wf_i64 (by omega)) (WalkArith.wf_i64 (by omega)) (WalkArith.wf_i64 (by omega)) (fun h => hq (by have := h.2.2.2.2.2; rw [ml_400] at this; exact this)))
    clear hq
    generalize numD n k (ml n k) = x at *
    generalize numD n k 1 = z at *
    generalize ml n k = l at *
    go_enter Tryd.func7, Tryd.ntmps7
    go_wp2_with (first
      | (go_at_call 16; refine (KM.out _).mono ?_; rintro e w9 ⟨rfl, rfl⟩)
      | (go_at_call 9; refine (KL.out _ (D.stay hI hB5)).mono ?_; rintro e w6 ⟨rfl, hb6⟩; have hB6 := hB5.trans (hb6.mono hB5.size))
      | (go_at_call 9; refine (KN.out _ (D.stay hI hB4)).mono ?_; rintro e w5 ⟨rfl, hb5⟩; have hB5 := hB4.trans (hb5.mono hB4.size))
      | (go_at_call 9; refine (KF.out _ (D.stay hI hB3)).mono ?_; rintro e w4 ⟨rfl, hb4⟩; have hB4 := hB3.trans (hb4.mono hB3.size))
      | (go_at_call 9; refine (KB.out _ (D.stay hI hB2)).mono ?_; rintro e w3 ⟨rfl, hb3⟩; have hB3 := hB2.trans (hb3.mono hB2.size))
      | (go_at_call 9; refine (KA.out _ (D.stay hI hb1)).mono ?_; rintro e w2 ⟨rfl, hb2⟩; have hB2 := hb1.trans (hb2.mono hb1.size))
      | (go_at_call 8; refine K1.out.mono ?_; rintro e w1 ⟨rfl, hb1⟩))
    go_ret
    exact ⟨by simp, hB6⟩
theorem dayages_any {I : World → Prop} (C : AllotC) (D : DayC I) (y m d : Int) (w : World) (hI : I w) (hy : (Lit.int .u16 y).wf = true) (hm : (Lit.int .u8 m).wf = true) (hd : (Lit.int .u8 d).wf = true) :
    Calls Tryd.prog 7 #[.int .u16 y, .int .u8 m, .int .u8 d] w fun e w' => e = .returned (.bool true) ∧ Below w.heap.size w w' := by
  simp [Lit.wf, IntKind.min, IntKind.max, IntKind.signed, IntKind.bits] at hy hm hd
  exact dayages_core C D y m d _ _ _ w hI (by omega) (by omega) (by omega) rfl rfl rfl
end Go.Proofs.YtibipjncpojifaaDoor

/- The walks of laws DayOf, DayDates, DayParses. -/
import Derived.Test.YtibipjncpojifaaDoorKd
import Derived.Test.YtibipjncpojifaaDoorKc
namespace Go.Proofs.YtibipjncpojifaaDoor
open Go.RowKit
set_option linter.unusedVariables false
set_option linter.unusedSimpArgs false
theorem dash (a : List UInt8) : (⟨a.toArray⟩ : ByteArray) ++ ⟨#[45]⟩ = ⟨(a ++ [45]).toArray⟩ := by
  apply ByteArray.ext
  simp
theorem both (a b : List UInt8) : (⟨a.toArray⟩ : ByteArray) ++ ⟨b.toArray⟩ = ⟨(a ++ b).toArray⟩ := by
  apply ByteArray.ext
  simp
theorem date_parts (Y M D : Nat) : ∃ l1 l2 l3 : List UInt8, (⟨(digL Y 4).toArray⟩ : ByteArray) ++ ⟨#[45]⟩ = ⟨l1.toArray⟩ ∧ (⟨l1.toArray⟩ : ByteArray) ++ ⟨(digL M 2).toArray⟩ = ⟨l2.toArray⟩ ∧ (⟨l2.toArray⟩ : ByteArray) ++ ⟨#[45]⟩ = ⟨l3.toArray⟩ ∧
    (⟨l3.toArray⟩ : ByteArray) ++ ⟨(digL D 2).toArray⟩ = ⟨(dateL Y M D).toArray⟩ ∧ l1.length = 5 ∧ l2.length = 7 ∧ l3.length = 8 ∧ (dateL Y M D).length = 10 := by
  have a := digL_len Y 4
  have b := digL_len M 2
  have c := digL_len D 2
  refine ⟨_, _, _, dash _, both _ _, dash _, ?_, ?_, ?_, ?_, ?_⟩
  · rw [both]; rfl
  · simp [a]
  · simp [a, b]
  · simp [a, b]
  · unfold dateL; simp [a, b, c]
theorem dateL_ne (y m d : Int) : dateL y m d ≠ [] := by
  unfold dateL
  intro h
  have := congrArg List.length h
  simp [digL_len] at this
set_option maxHeartbeats 4000000 in
theorem dayof_yes {I : World → Prop} (C : AllotC) (D : DayC I) (y m d : Int) (w : World) (hI : I w) (h : RightD y m d) :
    Calls Tryd.prog 3 #[.int .i16 y, .int .i16 m, .int .i16 d] w fun e w' => e = .returned (.bool true) ∧ Below w.heap.size w w' := by
  have hr := num_range h
  have mb := ml_bd y m
  have K1 := Lib.hid (awake4_any C D w hI)
  have K2 := Lib.hid (fun w' (hw : I w') => D.of_yes y m d w' hw h)
  have K3 := Lib.hid (fun w' => right_yes y m d w' h)
  have K4 := Lib.hid (fun w' (hw : I w') => D.date_yes y m d w' hw h)
  have K5 := Lib.hid (fun w' (hw : I w') => D.parse_yes y m d w' hw h)
  have K6 := Lib.hid (fun w' (hw : I w') => D.text_yes y m d w' hw h)
  obtain ⟨h1, h2, h3, h4, h5, h6⟩ := h
  have K7 := Lib.hid (fun w' => number_of y m d w' h1 h2 h3 h4 (by omega) (by omega))
  obtain ⟨Y, rfl⟩ := Int.eq_ofNat_of_zero_le (show 0 ≤ y by omega)
  obtain ⟨M, rfl⟩ := Int.eq_ofNat_of_zero_le (show 0 ≤ m by omega)
  obtain ⟨Q, rfl⟩ := Int.eq_ofNat_of_zero_le (show 0 ≤ d by omega)
  have KY := Lib.hid (fun w' => digits_any Y 4 w' (by omega) (by omega))
  have KM := Lib.hid (fun w' => digits_any M 2 w' (by omega) (by omega))
  have KD := Lib.hid (fun w' => digits_any Q 2 w' (by omega) (by omega))
  have yl4 := digL_len Y 4
  have ml2 := digL_len M 2
  have dl2 := digL_len Q 2
  obtain ⟨l1, l2, l3, g1, g2, g3, g4, n1, n2, n3, n4⟩ := date_parts Y M Q
  unfold strV at K5 K6
  have hq : Q ≤ 31 := by omega
  generalize digL Y 4 = sy at *
  generalize digL M 2 = sm at *
  generalize digL Q 2 = sd at *
  generalize dateL Y M Q = T at *
  generalize numD Y M Q = N at *
  have g5 := g4
  clear h6 mb
  go_enter Tryd.func3, Tryd.ntmps3
  go_wp2_with (first
    | (go_at_call 15; refine (K6.out _ (D.stay hI hB4)).mono ?_; rintro e w5 ⟨rfl, hb5⟩; have hB5 := hB4.trans (hb5.mono hB4.size))
    | (go_at_call 14; refine (K7.out _).mono ?_; rintro e w9 ⟨rfl, rfl⟩)
    | (go_at_call 13; refine (K5.out _ (D.stay hI hB3)).mono ?_; rintro e w4 ⟨rfl, hb4⟩; have hB4 := hB3.trans (hb4.mono hB3.size))
    | (go_at_call_of 12 (4 : Int); refine (KY.out _).mono ?_; rintro e w9 ⟨rfl, rfl⟩)
    | (go_at_call_of 12 M; refine (KM.out _).mono ?_; rintro e w9 ⟨rfl, rfl⟩)
    | (go_at_call_of 12 Q; refine (KD.out _).mono ?_; rintro e w9 ⟨rfl, rfl⟩)
    | (go_at_call 11; refine (K4.out _ (D.stay hI hB2)).mono ?_; rintro e w3 ⟨rfl, hb3⟩; have hB3 := hB2.trans (hb3.mono hB2.size))
    | (go_at_call 10; refine (K3.out _).mono ?_; rintro e w9 ⟨rfl, rfl⟩)
    | (go_at_call 9; refine (K2.out _ (D.stay hI hb1)).mono ?_; rintro e w2 ⟨rfl, hb2⟩; have hB2 := hb1.trans (hb2.mono hb1.size))
    | (go_at_call 8; refine K1.out.mono ?_; rintro e w1 ⟨rfl, hb1⟩))
  go_ret
  exact ⟨by simp, hB5⟩
theorem wf_i16 {n : Int} (h : (Lit.int .i16 n).wf = true) : -32768 ≤ n ∧ n < 32768 := by
  simp [Lit.wf, IntKind.min, IntKind.max, IntKind.signed, IntKind.bits] at h; omega
theorem wf_i32 {n : Int} (h : (Lit.int .i32 n).wf = true) : -2147483648 ≤ n ∧ n < 2147483648 := by
  simp [Lit.wf, IntKind.min, IntKind.max, IntKind.signed, IntKind.bits] at h; omega
theorem i32_wf {n : Int} (h : -2147483648 ≤ n ∧ n < 2147483648) : (Lit.int .i32 n).wf = true := by
  simp [Lit.wf, IntKind.min, IntKind.max, IntKind.signed, IntKind.bits]; omega
theorem dayof_no {I : World → Prop} (C : AllotC) (D : DayC I) (y m d : Int) (w : World) (hI : I w) (wy : (Lit.int .i16 y).wf = true) (wm : (Lit.int .i16 m).wf = true) (wd : (Lit.int .i16 d).wf = true) (h : ¬ RightD y m d) :
    Calls Tryd.prog 3 #[.int .i16 y, .int .i16 m, .int .i16 d] w fun e w' => e = .returned (.bool true) ∧ Below w.heap.size w w' := by
  have by0 := wf_i16 wy
  have bm0 := wf_i16 wm
  have bd0 := wf_i16 wd
  have K1 := Lib.hid (awake4_any C D w hI)
  have K2 := Lib.hid (fun w' (hw : I w') => D.of_no y m d w' hw (WalkArith.wf_i64 (by omega)) (WalkArith.wf_i64 (by omega)) (WalkArith.wf_i64 (by omega)) h)
  have K3 := Lib.hid (fun w' => right_no y m d w' h)
  clear h
  go_enter Tryd.func3, Tryd.ntmps3
  go_wp2_with (first
    | (go_at_call 10; refine (K3.out _).mono ?_; rintro e w9 ⟨rfl, rfl⟩)
    | (go_at_call 9; refine (K2.out _ (D.stay hI hb1)).mono ?_; rintro e w2 ⟨rfl, hb2⟩; have hB2 := hb1.trans (hb2.mono hb1.size))
    | (go_at_call 8; refine K1.out.mono ?_; rintro e w1 ⟨rfl, hb1⟩))
  go_ret
  exact ⟨by simp, hB2⟩
theorem dayof_any {I : World → Prop} (C : AllotC) (D : DayC I) (y m d : Int) (w : World) (hI : I w) (wy : (Lit.int .i16 y).wf = true) (wm : (Lit.int .i16 m).wf = true) (wd : (Lit.int .i16 d).wf = true) :
    Calls Tryd.prog 3 #[.int .i16 y, .int .i16 m, .int .i16 d] w fun e w' => e = .returned (.bool true) ∧ Below w.heap.size w w' := by
  by_cases h : RightD y m d
  · exact dayof_yes C D y m d w hI h
  · exact dayof_no C D y m d w hI wy wm wd h
theorem dayparses_any {I : World → Prop} (C : AllotC) (D : DayC I) (l : List UInt8) (w : World) (hI : I w) (hl : l.length ≤ 9223372036854775807) :
    Calls Tryd.prog 5 #[.string ⟨l.toArray⟩] w fun e w' => e = .returned (.bool true) ∧ Below w.heap.size w w' := by
  have K1 := Lib.hid (awake4_any C D w hI)
  by_cases h : ∃ y m d, RightD y m d ∧ l = dateL y m d
  · obtain ⟨y, m, d, hr, rfl⟩ := h
    have K5 := Lib.hid (fun w' (hw : I w') => D.parse_yes y m d w' hw hr)
    have K6 := Lib.hid (fun w' (hw : I w') => D.text_yes y m d w' hw hr)
    unfold strV at K5 K6
    clear hl
    generalize dateL y m d = T at *
    generalize numD y m d = N at *
    go_enter Tryd.func5, Tryd.ntmps5
    go_wp2_with (first
      | (go_at_call 15; refine (K6.out _ (D.stay hI hB2)).mono ?_; rintro e w3 ⟨rfl, hb3⟩; have hB3 := hB2.trans (hb3.mono hB2.size))
      | (go_at_call 13; refine (K5.out _ (D.stay hI hb1)).mono ?_; rintro e w2 ⟨rfl, hb2⟩; have hB2 := hb1.trans (hb2.mono hb1.size))
      | (go_at_call 8; refine K1.out.mono ?_; rintro e w1 ⟨rfl, hb1⟩))
    go_ret
    exact ⟨by simp, hB3⟩
  · have K5 := Lib.hid (fun w' (hw : I w') => D.parse_no l w' hw hl (fun y m d hr e => h ⟨y, m, d, hr, e⟩))
    unfold strV at K5
    clear h hl
    go_enter Tryd.func5, Tryd.ntmps5
    go_wp2_with (first
      | (go_at_call 13; refine (K5.out _ (D.stay hI hb1)).mono ?_; rintro e w2 ⟨rfl, hb2⟩; have hB2 := hb1.trans (hb2.mono hb1.size))
      | (go_at_call 8; refine K1.out.mono ?_; rintro e w1 ⟨rfl, hb1⟩))
    go_ret
    exact ⟨by simp, hB2⟩
theorem num_first : numD 1 1 1 = -719162 := by decide
theorem num_last : numD 9999 12 31 = 2932896 := by decide
set_option maxHeartbeats 4000000 in
theorem daydates_core {I : World → Prop} (C : AllotC) (D : DayC I) (n k : Int) (b : Bool) (w : World) (hI : I w) (hn : (Lit.int .i32 n).wf = true) (hk : (Lit.int .i32 k).wf = true) (e1 : b = true → n.tmod 3000000 = k) (e2 : b = false → n = k) :
    Calls Tryd.prog 4 #[.int .i32 n, .bool b] w fun e w' => e = .returned (.bool true) ∧ Below w.heap.size w w' := by
  have bn := wf_i32 hn
  have bk := wf_i32 hk
  have K1 := Lib.hid (awake4_any C D w hI)
  have KF := Lib.hid (fun w' => number_of 1 1 1 w' (by omega) (by omega) (by omega) (by omega) (by omega) (by omega))
  have KL := Lib.hid (fun w' => number_of 9999 12 31 w' (by omega) (by omega) (by omega) (by omega) (by omega) (by omega))
  rw [num_first] at KF
  rw [num_last] at KL
  by_cases hr : -719162 ≤ k ∧ k ≤ 2932896
  · obtain ⟨y, m, d, hd, hnum⟩ := num_some hr.1 hr.2
    have mb := ml_bd y m
    have K2 := Lib.hid (fun w' (hw : I w') => D.date_yes y m d w' hw hd)
    have K3 := Lib.hid (fun w' => right_yes y m d w' hd)
    obtain ⟨h1, h2, h3, h4, h5, h6⟩ := hd
    have K7 := Lib.hid (fun w' => number_of y m d w' h1 h2 h3 h4 (by omega) (by omega))
    rw [hnum] at K2 K7
    obtain ⟨r1, r2⟩ := hr
    clear hnum h6 mb
    cases b with
    | true =>
      have e := e1 rfl
      have e' : IntKind.i32.wrap k = k := by rw [IntKind.wrap_i32]; omega
      clear e1 e2
      go_enter Tryd.func4, Tryd.ntmps4
      go_wp2_with (first
        | (go_at_call_of 14 y; refine (K7.out _).mono ?_; rintro e w9 ⟨rfl, rfl⟩)
        | (go_at_call_of 14 (9999 : Int); refine (KL.out _).mono ?_; rintro e w9 ⟨rfl, rfl⟩)
        | (go_at_call 14; refine (KF.out _).mono ?_; rintro e w9 ⟨rfl, rfl⟩)
        | (go_at_call 10; refine (K3.out _).mono ?_; rintro e w9 ⟨rfl, rfl⟩)
        | (go_at_call 11; refine (K2.out _ (D.stay hI hb1)).mono ?_; rintro e w2 ⟨rfl, hb2⟩; have hB2 := hb1.trans (hb2.mono hb1.size))
        | (go_at_call 8; refine K1.out.mono ?_; rintro e w1 ⟨rfl, hb1⟩))
      go_ret
      exact ⟨by simp, hB2⟩
    | false =>
      obtain rfl := e2 rfl
      clear e1 e2
      go_enter Tryd.func4, Tryd.ntmps4
      go_wp2_with (first
        | (go_at_call_of 14 y; refine (K7.out _).mono ?_; rintro e w9 ⟨rfl, rfl⟩)
        | (go_at_call_of 14 (9999 : Int); refine (KL.out _).mono ?_; rintro e w9 ⟨rfl, rfl⟩)
        | (go_at_call 14; refine (KF.out _).mono ?_; rintro e w9 ⟨rfl, rfl⟩)
        | (go_at_call 10; refine (K3.out _).mono ?_; rintro e w9 ⟨rfl, rfl⟩)
        | (go_at_call 11; refine (K2.out _ (D.stay hI hb1)).mono ?_; rintro e w2 ⟨rfl, hb2⟩; have hB2 := hb1.trans (hb2.mono hb1.size))
        | (go_at_call 8; refine K1.out.mono ?_; rintro e w1 ⟨rfl, hb1⟩))
      go_ret
      exact ⟨by simp, hB2⟩
  · have K2 := Lib.hid (fun w' (hw : I w') => D.date_no k w' hw hk hr)
    have K6 := Lib.hid (fun w' (hw : I w') => D.text_no k w' hw hk hr)
    unfold strV at K6
    rcases (by omega : k < -719162 ∨ (¬ k < -719162 ∧ 2932896 < k)) with r1 | ⟨r1, r2⟩
    all_goals
      clear hr
      cases b with
      | true =>
        have e := e1 rfl
        have e' : IntKind.i32.wrap k = k := by rw [IntKind.wrap_i32]; omega
        clear e1 e2
        go_enter Tryd.func4, Tryd.ntmps4
        go_wp2_with (first
          | (go_at_call_of 14 (9999 : Int); refine (KL.out _).mono ?_; rintro e w9 ⟨rfl, rfl⟩)
          | (go_at_call 14; refine (KF.out _).mono ?_; rintro e w9 ⟨rfl, rfl⟩)
          | (go_at_call 15; refine (K6.out _ (D.stay hI hB2)).mono ?_; rintro e w3 ⟨rfl, hb3⟩; have hB3 := hB2.trans (hb3.mono hB2.size))
          | (go_at_call 11; refine (K2.out _ (D.stay hI hb1)).mono ?_; rintro e w2 ⟨rfl, hb2⟩; have hB2 := hb1.trans (hb2.mono hb1.size))
          | (go_at_call 8; refine K1.out.mono ?_; rintro e w1 ⟨rfl, hb1⟩))
        go_ret
        exact ⟨by simp, hB3⟩
      | false =>
        obtain rfl := e2 rfl
        clear e1 e2
        go_enter Tryd.func4, Tryd.ntmps4
        go_wp2_with (first
          | (go_at_call_of 14 (9999 : Int); refine (KL.out _).mono ?_; rintro e w9 ⟨rfl, rfl⟩)
          | (go_at_call 14; refine (KF.out _).mono ?_; rintro e w9 ⟨rfl, rfl⟩)
          | (go_at_call 15; refine (K6.out _ (D.stay hI hB2)).mono ?_; rintro e w3 ⟨rfl, hb3⟩; have hB3 := hB2.trans (hb3.mono hB2.size))
          | (go_at_call 11; refine (K2.out _ (D.stay hI hb1)).mono ?_; rintro e w2 ⟨rfl, hb2⟩; have hB2 := hb1.trans (hb2.mono hb1.size))
          | (go_at_call 8; refine K1.out.mono ?_; rintro e w1 ⟨rfl, hb1⟩))
        go_ret
        exact ⟨by simp, hB3⟩
theorem daydates_any {I : World → Prop} (C : AllotC) (D : DayC I) (n : Int) (b : Bool) (w : World) (hI : I w) (hn : (Lit.int .i32 n).wf = true) :
    Calls Tryd.prog 4 #[.int .i32 n, .bool b] w fun e w' => e = .returned (.bool true) ∧ Below w.heap.size w w' := by
  have h1 := Int.tmod_lt_of_pos n (show (0 : Int) < 3000000 by decide)
  have h2 := Int.lt_tmod_of_pos n (show (0 : Int) < 3000000 by decide)
  cases b with
  | true => exact daydates_core C D n _ true w hI hn (i32_wf (by omega)) (fun _ => rfl) (fun h => by cases h)
  | false => exact daydates_core C D n n false w hI hn hn (fun h => by cases h) (fun _ => rfl)
end Go.Proofs.YtibipjncpojifaaDoor

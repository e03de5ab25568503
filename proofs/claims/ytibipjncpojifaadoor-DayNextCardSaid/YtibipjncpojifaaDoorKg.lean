/- The walk of law DayNext. -/
import Derived.Test.YtibipjncpojifaaDoorKf
namespace Go.Proofs.YtibipjncpojifaaDoor
open Go.RowKit
set_option linter.unusedVariables false
set_option linter.unusedSimpArgs false
/-- What Text and Date tell of any number. -/
theorem told_any {I : World → Prop} (D : DayC I) (k : Int) (hk : (Lit.int .i32 k).wf = true) : ∃ (l : List UInt8) (y m d : Int),
    (∀ w, I w → Calls Tryd.prog 15 #[.int .i32 k] w fun e w' => e = .returned (.string ⟨l.toArray⟩) ∧ Below w.heap.size w w') ∧
    (∀ w, I w → Calls Tryd.prog 11 #[.int .i32 k] w fun e w' => e = .returned (.tuple #[.int .i64 y, .int .i64 m, .int .i64 d]) ∧ Below w.heap.size w w') ∧
    ((RightD y m d ∧ numD y m d = k ∧ l = dateL y m d) ∨ (¬ (-719162 ≤ k ∧ k ≤ 2932896) ∧ l = [] ∧ y = 0 ∧ m = 0 ∧ d = 0)) := by
  by_cases hr : -719162 ≤ k ∧ k ≤ 2932896
  · obtain ⟨y, m, d, hd, rfl⟩ := num_some hr.1 hr.2
    exact ⟨_, y, m, d, fun w hw => D.text_yes y m d w hw hd, fun w hw => D.date_yes y m d w hw hd, .inl ⟨hd, rfl, rfl⟩⟩
  · exact ⟨[], 0, 0, 0, fun w hw => D.text_no k w hw hk hr, fun w hw => D.date_no k w hw hk hr, .inr ⟨hr, rfl, rfl, rfl, rfl⟩⟩
set_option maxHeartbeats 4000000 in
theorem daynext_core {I : World → Prop} (C : AllotC) (D : DayC I) (n k p : Int) (w : World) (hI : I w) (hn : (Lit.int .i32 n).wf = true) (hk : -2000000 < k ∧ k < 2000000) (e1 : n.tmod 2000000 = k) (hp : 0 ≤ p ∧ p < 65536) :
    Calls Tryd.prog 6 #[.int .i32 n, .int .u16 p] w fun e w' => e = .returned (.bool true) ∧ Below w.heap.size w w' := by
  have bn := wf_i32 hn
  have K1 := Lib.hid (awake4_any C D w hI)
  obtain ⟨la, y, m, d, TA, DA, FA⟩ := told_any D k (i32_wf (by omega))
  obtain ⟨lb, y2, m2, d2, TB, DB, FB⟩ := told_any D (k + 1 + p) (i32_wf (by omega))
  obtain ⟨lc, u, v, q, TC, DC, FC⟩ := told_any D (k + 1) (i32_wf (by omega))
  have KTA := Lib.hid TA
  have KDA := Lib.hid DA
  have KTB := Lib.hid TB
  have KDC := Lib.hid DC
  have w1 : IntKind.i32.wrap k = k := by rw [IntKind.wrap_i32]; omega
  have w2 : IntKind.i32.wrap (k + 1) = k + 1 := by rw [IntKind.wrap_i32]; omega
  have w3 : IntKind.i32.wrap (k + 1 + p) = k + 1 + p := by rw [IntKind.wrap_i32]; omega
  have w4 : IntKind.i32.wrap p = p := by rw [IntKind.wrap_i32]; omega
  clear TA DA TB DB TC DC
  cases la with
  | nil =>
    clear FA FB FC
    go_enter Tryd.func6, Tryd.ntmps6
    go_wp2_with (first
      | (go_at_call 11; refine (KDC.out _ (D.stay hI hB4)).mono ?_; rintro e w5 ⟨rfl, hb5⟩; have hB5 := hB4.trans (hb5.mono hB4.size))
      | (go_at_call 11; refine (KDA.out _ (D.stay hI hB3)).mono ?_; rintro e w4 ⟨rfl, hb4⟩; have hB4 := hB3.trans (hb4.mono hB3.size))
      | (go_at_call 15; refine (KTB.out _ (D.stay hI hB2)).mono ?_; rintro e w3 ⟨rfl, hb3⟩; have hB3 := hB2.trans (hb3.mono hB2.size))
      | (go_at_call 15; refine (KTA.out _ (D.stay hI hb1)).mono ?_; rintro e w2 ⟨rfl, hb2⟩; have hB2 := hb1.trans (hb2.mono hb1.size))
      | (go_at_call 8; refine K1.out.mono ?_; rintro e w1 ⟨rfl, hb1⟩))
    go_ret
    exact ⟨by simp, hB5⟩
  | cons x ta =>
    have FA1 : RightD y m d ∧ numD y m d = k := by
      rcases FA with ⟨a, b, _⟩ | ⟨_, b, _⟩
      · exact ⟨a, b⟩
      · cases b
    have hla : x :: ta = dateL y m d := by
      rcases FA with ⟨_, _, b⟩ | ⟨_, b, _⟩
      · exact b
      · cases b
    cases lb with
    | nil =>
      clear FA FB FC FA1 hla
      go_enter Tryd.func6, Tryd.ntmps6
      go_wp2_with (first
        | (go_at_call 11; refine (KDC.out _ (D.stay hI hB4)).mono ?_; rintro e w5 ⟨rfl, hb5⟩; have hB5 := hB4.trans (hb5.mono hB4.size))
        | (go_at_call 11; refine (KDA.out _ (D.stay hI hB3)).mono ?_; rintro e w4 ⟨rfl, hb4⟩; have hB4 := hB3.trans (hb4.mono hB3.size))
        | (go_at_call 15; refine (KTB.out _ (D.stay hI hB2)).mono ?_; rintro e w3 ⟨rfl, hb3⟩; have hB3 := hB2.trans (hb3.mono hB2.size))
        | (go_at_call 15; refine (KTA.out _ (D.stay hI hb1)).mono ?_; rintro e w2 ⟨rfl, hb2⟩; have hB2 := hb1.trans (hb2.mono hb1.size))
        | (go_at_call 8; refine K1.out.mono ?_; rintro e w1 ⟨rfl, hb1⟩))
      go_ret
      exact ⟨by simp, hB5⟩
    | cons z tb =>
      have FB1 : RightD y2 m2 d2 ∧ numD y2 m2 d2 = k + 1 + p ∧ z :: tb = dateL y2 m2 d2 := by
        rcases FB with h | ⟨_, b, _⟩
        · exact h
        · cases b
      have rA := num_range FA1.1
      have rB := num_range FB1.1
      have FC1 : RightD u v q ∧ numD u v q = k + 1 := by
        rcases FC with ⟨a, b, _⟩ | ⟨a, _⟩
        · exact ⟨a, b⟩
        · omega
      have nx := num_next FA1.1 FC1.1 (by omega)
      have up := text_rises FA1.1 FB1.1 (ahead_num FA1.1 FB1.1 (by omega))
      rw [← hla, ← FB1.2.2] at up
      have hu : (u == 0) = false := beq_eq_false_iff_ne.2 (by have := FC1.1.1; omega)
      have by1 : 1 ≤ y ∧ y ≤ 9999 := ⟨FA1.1.1, FA1.1.2.1⟩
      have bm1 : 1 ≤ m ∧ m ≤ 12 := ⟨FA1.1.2.2.1, FA1.1.2.2.2.1⟩
      have bd1 : 1 ≤ d ∧ d ≤ 31 := ⟨FA1.1.2.2.2.2.1, by have := FA1.1.2.2.2.2.2; have := ml_bd y m; omega⟩
      clear FA FB FC FA1 FB1 FC1 hla rA rB
      rcases nx with ⟨rfl, rfl, rfl⟩ | ⟨rfl, ⟨rfl, rfl⟩ | ⟨rfl, rfl, rfl⟩⟩
      · skip
        go_enter Tryd.func6, Tryd.ntmps6
        go_wp2_with (first
          | (go_at_call 11; refine (KDC.out _ (D.stay hI hB4)).mono ?_; rintro e w5 ⟨rfl, hb5⟩; have hB5 := hB4.trans (hb5.mono hB4.size))
          | (go_at_call 11; refine (KDA.out _ (D.stay hI hB3)).mono ?_; rintro e w4 ⟨rfl, hb4⟩; have hB4 := hB3.trans (hb4.mono hB3.size))
          | (go_at_call 15; refine (KTB.out _ (D.stay hI hB2)).mono ?_; rintro e w3 ⟨rfl, hb3⟩; have hB3 := hB2.trans (hb3.mono hB2.size))
          | (go_at_call 15; refine (KTA.out _ (D.stay hI hb1)).mono ?_; rintro e w2 ⟨rfl, hb2⟩; have hB2 := hb1.trans (hb2.mono hb1.size))
          | (go_at_call 8; refine K1.out.mono ?_; rintro e w1 ⟨rfl, hb1⟩))
        go_ret
        exact ⟨by simp, hB5⟩
      · have g1 : (m + 1 == m) = false := beq_eq_false_iff_ne.2 (by omega)
        go_enter Tryd.func6, Tryd.ntmps6
        go_wp2_with (first
          | (go_at_call 11; refine (KDC.out _ (D.stay hI hB4)).mono ?_; rintro e w5 ⟨rfl, hb5⟩; have hB5 := hB4.trans (hb5.mono hB4.size))
          | (go_at_call 11; refine (KDA.out _ (D.stay hI hB3)).mono ?_; rintro e w4 ⟨rfl, hb4⟩; have hB4 := hB3.trans (hb4.mono hB3.size))
          | (go_at_call 15; refine (KTB.out _ (D.stay hI hB2)).mono ?_; rintro e w3 ⟨rfl, hb3⟩; have hB3 := hB2.trans (hb3.mono hB2.size))
          | (go_at_call 15; refine (KTA.out _ (D.stay hI hb1)).mono ?_; rintro e w2 ⟨rfl, hb2⟩; have hB2 := hb1.trans (hb2.mono hb1.size))
          | (go_at_call 8; refine K1.out.mono ?_; rintro e w1 ⟨rfl, hb1⟩))
        go_ret
        exact ⟨by simp, hB5⟩
      · have g1 : (y + 1 == y) = false := beq_eq_false_iff_ne.2 (by omega)
        go_enter Tryd.func6, Tryd.ntmps6
        go_wp2_with (first
          | (go_at_call 11; refine (KDC.out _ (D.stay hI hB4)).mono ?_; rintro e w5 ⟨rfl, hb5⟩; have hB5 := hB4.trans (hb5.mono hB4.size))
          | (go_at_call 11; refine (KDA.out _ (D.stay hI hB3)).mono ?_; rintro e w4 ⟨rfl, hb4⟩; have hB4 := hB3.trans (hb4.mono hB3.size))
          | (go_at_call 15; refine (KTB.out _ (D.stay hI hB2)).mono ?_; rintro e w3 ⟨rfl, hb3⟩; have hB3 := hB2.trans (hb3.mono hB2.size))
          | (go_at_call 15; refine (KTA.out _ (D.stay hI hb1)).mono ?_; rintro e w2 ⟨rfl, hb2⟩; have hB2 := hb1.trans (hb2.mono hb1.size))
          | (go_at_call 8; refine K1.out.mono ?_; rintro e w1 ⟨rfl, hb1⟩))
        go_ret
        exact ⟨by simp, hB5⟩
theorem daynext_any {I : World → Prop} (C : AllotC) (D : DayC I) (n p : Int) (w : World) (hI : I w) (hn : (Lit.int .i32 n).wf = true) (hp : (Lit.int .u16 p).wf = true) :
    Calls Tryd.prog 6 #[.int .i32 n, .int .u16 p] w fun e w' => e = .returned (.bool true) ∧ Below w.heap.size w w' := by
  have h1 := Int.tmod_lt_of_pos n (show (0 : Int) < 2000000 by decide)
  have h2 := Int.lt_tmod_of_pos n (show (0 : Int) < 2000000 by decide)
  have h3 : 0 ≤ p ∧ p < 65536 := by
    simp [Lit.wf, IntKind.min, IntKind.max, IntKind.signed, IntKind.bits] at hp; omega
  exact daynext_core C D n _ p w hI hn ⟨by omega, h1⟩ rfl h3
end Go.Proofs.YtibipjncpojifaaDoor

/- What law 4 asks of day, of the landed day. -/
import Derived.Test.YtibipjncpojifaaDoorKv
namespace Go.Proofs.YtibipjncpojifaaDoor
open Go.RowKit
set_option linter.unusedVariables false
set_option linter.unusedSimpArgs false
theorem dig_nat (n : Nat) (h : n < 10) : (UInt8.ofNat (48 + n)).toNat = 48 + n := by simp; omega
theorem numB_four (n : Nat) (h : n < 10000) : numB (digL n 4) = n := by
  unfold digL digL digL digL digL
  simp only [numB, List.foldl]
  rw [dig_nat _ (by omega), dig_nat _ (by omega), dig_nat _ (by omega), dig_nat _ (by omega)]
  omega
theorem numB_two (n : Nat) (h : n < 100) : numB (digL n 2) = n := by
  unfold digL digL digL
  simp only [numB, List.foldl]
  rw [dig_nat _ (by omega), dig_nat _ (by omega)]
  omega
theorem dateL_one (y m d : Int) : (dateL y m d).take 4 = digL y.toNat 4 := rfl
theorem dateL_two (y m d : Int) : ((dateL y m d).drop 5).take 2 = digL m.toNat 2 := rfl
theorem dateL_three (y m d : Int) : (dateL y m d).drop 8 = digL d.toNat 2 := rfl
theorem dateL_ten (y m d : Int) : (dateL y m d).length = 10 := rfl
theorem date_reads {y m d : Int} (h : RightD y m d) : numB ((dateL y m d).take 4) = y ∧ numB (((dateL y m d).drop 5).take 2) = m ∧ numB ((dateL y m d).drop 8) = d := by
  have mb := ml_bd y m
  obtain ⟨h1, h2, h3, h4, h5, h6⟩ := h
  rw [dateL_one, dateL_two, dateL_three, numB_four _ (by omega), numB_two _ (by omega), numB_two _ (by omega)]
  omega
theorem inI {w : World} (h : Pow w) (hw : 1 < w.heap.size) (hL : LenTab w) : InI w := ⟨h, hw, hL⟩
theorem text_wrong (n : Int) (w : World) (hn : (Lit.int .i32 n).wf = true) (h : ¬ (-719162 ≤ n ∧ n ≤ 2932896)) :
    Calls Tryd.prog 15 #[.int .i32 n] w fun e w' => e = .returned (strV []) ∧ Below w.heap.size w w' := by
  have K1 := Lib.hid (date_wrong n w hn h)
  unfold strV
  clear h
  go_enter Tryd.func15, Tryd.ntmps15
  go_wp2_with (go_at_call 11; refine K1.out.mono ?_; rintro e w1 ⟨rfl, rfl⟩)
  go_ret
  exact ⟨rfl, Below.refl _ _⟩
theorem dayC : DayC InI where
  stay h hb := h.stay hb
  tab h := ⟨h.1, h.2.1⟩
  of_yes y m d w hI h := (of_right y m d w hI.2.2 h).mono fun e w' ⟨a, b⟩ => ⟨a, b ▸ Below.refl _ _⟩
  of_no y m d w hI _ _ _ h := (of_wrong y m d w hI.2.2 h).mono fun e w' ⟨a, b⟩ => ⟨a, b ▸ Below.refl _ _⟩
  date_yes y m d w hI h := (date_right y m d w hI.2.2 h).mono fun e w' ⟨a, b⟩ => ⟨a, b ▸ Below.refl _ _⟩
  date_no n w hI hn h := (date_wrong n w hn h).mono fun e w' ⟨a, b⟩ => ⟨a, b ▸ Below.refl _ _⟩
  text_yes y m d w hI h := text_right y m d w hI h
  text_no n w hI hn h := text_wrong n w hn h
  parse_yes y m d w hI h := by
    obtain ⟨a, b, c⟩ := date_reads h
    exact parse_right (dateL y m d) y m d w hI (dateL_ten y m d) a b c h true (by simp)
  parse_no l w hI hl h := by
    by_cases h10 : l.length = 10
    · by_cases hr : RightD (numB (l.take 4)) (numB ((l.drop 5).take 2)) (numB (l.drop 8))
      · exact parse_right l _ _ _ w hI h10 rfl rfl rfl hr false (beq_eq_false_iff_ne.2 fun e => h _ _ _ hr e.symm)
      · exact parse_wrong l w hI h10 hr
    · exact parse_short l w hl h10
end Go.Proofs.YtibipjncpojifaaDoor

/- The landed day: Text, number, Parse. -/
import Derived.Test.YtibipjncpojifaaDoorKy
import Derived.Test.YtibipjncpojifaaDoorKe
import Derived.Test.YtibipjncpojifaaDoorFa
import Derived.Test.YtibipjncpojifaaDoorTa
import Derived.Test.YtibipjncpojifaaDoorTb
import Derived.IntWalk
namespace Go.Proofs.YtibipjncpojifaaDoor
open Go.RowKit Go.Sort Go.Lib
set_option linter.unusedVariables false
set_option linter.unusedSimpArgs false
/-- The worlds of which day's contracts speak. -/
def InI (w : World) : Prop := Pow w ∧ 1 < w.heap.size ∧ LenTab w
theorem InI.stay {w w' : World} (h : InI w) (hb : Below w.heap.size w w') : InI w' :=
  ⟨h.1.stay h.2.1 hb, Nat.lt_of_lt_of_le h.2.1 hb.size, h.2.2.stay hb⟩
theorem InI.drew {w : World} (h : InI w) : InI w.drew := h.stay ((Below.refl _ _).drew)
/-- A world that has come of w. -/
def Stp (w0 w : World) : Prop := InI w ∧ Below w0.heap.size w0 w
theorem Stp.ini {w0 w : World} (h : Stp w0 w) : InI w := h.1
theorem Stp.drew {w0 w : World} (h : Stp w0 w) : Stp w0 w.drew := ⟨h.1.drew, h.2.drew⟩
theorem Stp.next {w0 w w' : World} (h : Stp w0 w) (hb : Below w.heap.size w w') : Stp w0 w' := ⟨h.1.stay hb, h.2.trans (hb.mono h.2.size)⟩
theorem two_dig (c : Nat) (h : c < 100) : two c = digL c 2 := by
  unfold two digL digL digL
  have e : c / 10 % 10 = c / 10 := by omega
  simp [e]
theorem hundred_dig (c : Nat) (h : c < 100) : Lib.decDigits (100 + c) = 49 :: digL c 2 := by rw [hundred_two c h, two_dig c h]
theorem myriad_dig (c : Nat) (h : c < 10000) : Lib.decDigits (10000 + c) = 49 :: digL c 4 := by
  rw [decDigits_ten (by omega), decDigits_ten (by omega), decDigits_ten (by omega), decDigits_ten (by omega), Lib.decDigits_one (by omega)]
  unfold digL digL digL digL digL
  have e0 : (10000 + c) / 10 / 10 / 10 / 10 = 1 := by omega
  have e1 : (10000 + c) / 10 / 10 / 10 % 10 = c / 10 ^ 3 % 10 := by omega
  have e2 : (10000 + c) / 10 / 10 % 10 = c / 10 ^ 2 % 10 := by omega
  have e3 : (10000 + c) / 10 % 10 = c / 10 ^ 1 % 10 := by omega
  have e4 : (10000 + c) % 10 = c / 10 ^ 0 % 10 := by omega
  rw [e0, e1, e2, e3, e4]
  rfl
theorem below_grow_any {w w' : World} (h : ∃ k os, w' = grow (w.drewN k) os) : Below w.heap.size w w' := by
  obtain ⟨k, os, rfl⟩ := h
  exact below_grow w k os
theorem itoa_y (Y : Nat) (h : Y < 10000) (w : World) (hI : InI w) :
    Calls Tryd.prog 23 #[.int .i64 (10000 + (Y : Int))] w fun e w' => e = .returned (.string ⟨(49 :: digL Y 4).toArray⟩) ∧ Below w.heap.size w w' :=
  (Tryd.strconv_Itoa (10000 + (Y : Int)) (by omega) (by omega) w hI.1).mono fun e w' ⟨he, hb⟩ => by
    refine ⟨?_, below_grow_any hb⟩
    rw [he, show (10000 + (Y : Int)) = ((10000 + Y : Nat) : Int) by omega, Lib.itoa_nonneg, myriad_dig Y h]
theorem itoa_m (Y : Nat) (h : Y < 100) (w : World) (hI : InI w) :
    Calls Tryd.prog 23 #[.int .i64 (100 + (Y : Int))] w fun e w' => e = .returned (.string ⟨(49 :: digL Y 2).toArray⟩) ∧ Below w.heap.size w w' :=
  (Tryd.strconv_Itoa (100 + (Y : Int)) (by omega) (by omega) w hI.1).mono fun e w' ⟨he, hb⟩ => by
    refine ⟨?_, below_grow_any hb⟩
    rw [he, show (100 + (Y : Int)) = ((100 + Y : Nat) : Int) by omega, Lib.itoa_nonneg, hundred_dig Y h]
set_option maxRecDepth 100000 in
theorem cut_one (b : UInt8) (l : List UInt8) (w : World) :
    (Instr.slice 9 (.string ⟨(b :: l).toArray⟩) (some (.int .i64 1)) none none).run Tryd.prog w = .ok (.string ⟨l.toArray⟩) w := by
  rw [run_slice_string_l w 9 _ Tryd.underlying9 .i64 1 (by decide) (by simp [ByteArray.size]; omega), ← bytes_tail b l]
  rfl
set_option maxHeartbeats 4000000 in
theorem text_right (y m d : Int) (w : World) (hI : InI w) (h : RightD y m d) :
    Calls Tryd.prog 15 #[.int .i32 (numD y m d)] w fun e w' => e = .returned (strV (dateL y m d)) ∧ Below w.heap.size w w' := by
  have K1 := Lib.hid (date_right y m d w hI.2.2 h)
  have mb := ml_bd y m
  obtain ⟨h1, h2, h3, h4, h5, h6⟩ := h
  obtain ⟨Y, rfl⟩ := Int.eq_ofNat_of_zero_le (show 0 ≤ y by omega)
  obtain ⟨M, rfl⟩ := Int.eq_ofNat_of_zero_le (show 0 ≤ m by omega)
  obtain ⟨Q, rfl⟩ := Int.eq_ofNat_of_zero_le (show 0 ≤ d by omega)
  have KY := Lib.hid (fun w' (hw : InI w') => itoa_y Y (by omega) w' hw)
  have KM := Lib.hid (fun w' (hw : InI w') => itoa_m M (by omega) w' hw)
  have KD := Lib.hid (fun w' (hw : InI w') => itoa_m Q (by omega) w' hw)
  have yl4 := digL_len Y 4
  have ml2 := digL_len M 2
  have dl2 := digL_len Q 2
  obtain ⟨l1, l2, l3, g1, g2, g3, g4, n1, n2, n3, n4⟩ := date_parts Y M Q
  have c1 := cut_one 49 (digL Y 4)
  have c2 := cut_one 49 (digL M 2)
  have c3 := cut_one 49 (digL Q 2)
  unfold strV
  have x1 : IntKind.i64.wrap (10000 + (Y : Int)) = 10000 + (Y : Int) := IntWalk.i64_in _ (by omega)
  have x2 : IntKind.i64.wrap (100 + (M : Int)) = 100 + (M : Int) := IntWalk.i64_in _ (by omega)
  have x3 : IntKind.i64.wrap (100 + (Q : Int)) = 100 + (Q : Int) := IntWalk.i64_in _ (by omega)
  have y0 : ((Y : Int) == 0) = false := by simp; omega
  generalize digL Y 4 = sy at *
  generalize digL M 2 = sm at *
  generalize digL Q 2 = sd at *
  generalize dateL Y M Q = T at *
  generalize numD Y M Q = N at *
  clear h6 mb h1 h2 h3 h4 h5
  go_enter Tryd.func15, Tryd.ntmps15
  go_wp2_with (go_at_call 11; refine K1.out.mono ?_; rintro e w1 ⟨rfl, rfl⟩)
  have s0 : Stp w w := ⟨hI, Below.refl _ _⟩
  go_region_with (first
    | (go_at_call_of 23 Y; refine (KY.out _ (Stp.ini (by first | exact s0 | exact s0.drew | exact s0.drew.drew))).mono ?_; rintro e w1 ⟨rfl, hb1⟩; have s1 := Stp.next (w0 := w) (by first | exact s0 | exact s0.drew | exact s0.drew.drew) hb1)
    | (go_at_call_of 23 M; refine (KM.out _ (Stp.ini (by first | exact s1 | exact s1.drew | exact s1.drew.drew))).mono ?_; rintro e w2 ⟨rfl, hb2⟩; have s2 := Stp.next (w0 := w) (by first | exact s1 | exact s1.drew | exact s1.drew.drew) hb2)
    | (go_at_call_of 23 Q; refine (KD.out _ (Stp.ini (by first | exact s2 | exact s2.drew | exact s2.drew.drew))).mono ?_; rintro e w3 ⟨rfl, hb3⟩; have s3 := Stp.next (w0 := w) (by first | exact s2 | exact s2.drew | exact s2.drew.drew) hb3))
  all_goals
    go_wp2
    go_ret
    exact ⟨rfl, by first | exact s3.2 | exact s3.drew.2 | exact s3.drew.drew.2⟩
end Go.Proofs.YtibipjncpojifaaDoor

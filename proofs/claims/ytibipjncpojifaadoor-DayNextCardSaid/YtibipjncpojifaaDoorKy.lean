/- The landed day: Of and Date. -/
import Derived.Test.YtibipjncpojifaaDoorKx
import Derived.Deep.RegionWith
namespace Go.Proofs.YtibipjncpojifaaDoor
open Go.RowKit
set_option linter.unusedVariables false
set_option linter.unusedSimpArgs false
set_option maxHeartbeats 1000000 in
theorem of_right (y m d : Int) (w : World) (hL : LenTab w) (h : RightD y m d) :
    Calls Tryd.prog 9 #[.int .i64 y, .int .i64 m, .int .i64 d] w fun e w' => e = .returned (.tuple #[.int .i32 (numD y m d), .bool true]) ∧ w = w' := by
  have hr := num_range h
  obtain ⟨h1, h2, h3, h4, h5, h6⟩ := h
  have K := Lib.hid (fun k (a : 1 ≤ k) (b : k ≤ 12) => length_any y k w hL (by omega) (by omega) a b)
  have KM := Lib.hid (length_any y m w hL (by omega) (by omega) h3 h4)
  have KA := Lib.hid (ahead_any y w h1 (by omega))
  have db := dby_bd h1 (show y ≤ 10000 by omega)
  have mb := ml_bd y m
  have B := Lib.hid (fun k (a : 1 ≤ k) (b : k ≤ 12) => dbm_bd y a b)
  have BS := Lib.hid (fun k (a : 1 ≤ k) (b : k ≤ 12) => dbm_step y a b)
  have B1 := Lib.hid (dbm_one y)
  have Y2 := yl_two y
  have L := Lib.hid (fun k => ml_bd y k)
  have N := Lib.hid (show numD y m d = dby y - 719162 + dbm y m + d - 1 from rfl)
  have n1 : ¬ y < 1 := by omega
  have n2 : ¬ 9999 < y := by omega
  have n3 : ¬ m < 1 := by omega
  have n4 : ¬ 12 < m := by omega
  have n5 : ¬ d < 1 := by omega
  have n6 : ¬ ml y m < d := by omega
  have bm := B.out m h3 h4
  have N' : dby y + dbm y m + d - 1 - 719162 = numD y m d := by rw [N.out]; omega
  generalize numD y m d = X at *
  have NX := Lib.hid N'
  clear N N'
  have hz : ∃ z, z = dby y := ⟨_, rfl⟩
  generalize dby y = z at *
  generalize yl y = x at *
  have hq : ∃ q, q = ml y m := ⟨_, rfl⟩
  obtain ⟨q, hq⟩ := hq
  rw [← hq] at KM h6 mb n6 bm
  have HQ := Lib.hid hq
  clear hq hz
  go_enter Tryd.func9, Tryd.ntmps9
  go_wp2_with (first
    | (go_at_call 18; refine KM.out.mono ?_; rintro e w1 ⟨rfl, rfl⟩)
    | (go_at_call 19; refine KA.out.mono ?_; rintro e w1 ⟨rfl, rfl⟩))
  go_loop [8, 9] (fun s k => ∃ p : Int, k = .int .i64 p ∧ 1 ≤ p ∧ p ≤ m ∧ s = .int .i64 (z + dbm y p + d - 1)) (fun _ k => (m - RowKit.intOf k).toNat)
  case atStart => exact ⟨1, rfl, by omega, h3, int_int (by rw [B1.out]; omega)⟩
  case round =>
    obtain ⟨p, rfl, p1, p2, rfl⟩ := hrel
    have bp := B.out p (by omega) (by omega)
    have lp := L.out p
    by_cases hlt : p < m
    · have c := K.out p (by omega) (by omega)
      have sp := Lib.hid (BS.out p (by omega) (by omega))
      generalize dbm y p = t at *
      generalize ml y p = u at *
      go_wp2_with (go_at_call 18; refine c.mono ?_; rintro e w1 ⟨rfl, rfl⟩)
      go_round
      case rel => exact ⟨p + 1, by first | rfl | go_num, by omega, by omega, int_int (by rw [sp.out]; omega)⟩
      case measure => simp [RowKit.intOf]; omega
    · obtain rfl : p = m := by omega
      generalize dbm y p = t at *
      have nx := NX.out
      clear NX
      have W := IntKind.wrap_i32 X
      have e1 : z + t + d - 1 - 719162 = X := nx
      have E1 := Lib.hid e1
      have e2 : IntKind.i32.wrap (z + t + d - 1 - 719162) = X := by rw [e1, IntKind.wrap_i32]; omega
      clear e1 nx W
      go_wp2
      go_ret2
      exact ⟨by simp [*], rfl⟩
theorem of_wrong (y m d : Int) (w : World) (hL : LenTab w) (h : ¬ RightD y m d) :
    Calls Tryd.prog 9 #[.int .i64 y, .int .i64 m, .int .i64 d] w fun e w' => e = .returned (.tuple #[.int .i32 0, .bool false]) ∧ w = w' := by
  by_cases g : 1 ≤ y ∧ y ≤ 9999 ∧ 1 ≤ m ∧ m ≤ 12 ∧ 1 ≤ d
  · obtain ⟨h1, h2, h3, h4, h5⟩ := g
    have h6 : ¬ d ≤ ml y m := fun h6 => h ⟨h1, h2, h3, h4, h5, h6⟩
    have KM := Lib.hid (length_any y m w hL (by omega) (by omega) h3 h4)
    have b := ml_bd y m
    clear h
    have n1 : ¬ y < 1 := by omega
    have n2 : ¬ 9999 < y := by omega
    have n3 : ¬ m < 1 := by omega
    have n4 : ¬ 12 < m := by omega
    have n5 : ¬ d < 1 := by omega
    have n6 : ml y m < d := by omega
    generalize ml y m = q at *
    go_enter Tryd.func9, Tryd.ntmps9
    go_wp2_with (go_at_call 18; refine KM.out.mono ?_; rintro e w1 ⟨rfl, rfl⟩)
    go_ret2
    exact ⟨rfl, rfl⟩
  · have n : decide (y < 1) = true ∨ (decide (y < 1) = false ∧ decide (9999 < y) = true) ∨ (decide (y < 1) = false ∧ decide (9999 < y) = false ∧ decide (m < 1) = true) ∨ (decide (y < 1) = false ∧ decide (9999 < y) = false ∧ decide (m < 1) = false ∧ decide (12 < m) = true) ∨ (decide (y < 1) = false ∧ decide (9999 < y) = false ∧ decide (m < 1) = false ∧ decide (12 < m) = false ∧ decide (d < 1) = true) := by
      simp only [decide_eq_true_eq, decide_eq_false_iff_not]; omega
    clear h g
    rcases n with n1 | ⟨n1, n2⟩ | ⟨n1, n2, n3⟩ | ⟨n1, n2, n3, n4⟩ | ⟨n1, n2, n3, n4, n5⟩
    all_goals
      go_enter Tryd.func9, Tryd.ntmps9
      go_wp2
      go_ret2
      exact ⟨rfl, rfl⟩
theorem dby_last : dby 10000 = 3652059 := by decide
set_option maxHeartbeats 1000000 in
theorem date_right (y m d : Int) (w : World) (hL : LenTab w) (h : RightD y m d) :
    Calls Tryd.prog 11 #[.int .i32 (numD y m d)] w fun e w' => e = .returned (.tuple #[.int .i64 y, .int .i64 m, .int .i64 d]) ∧ w = w' := by
  have hr := num_range h
  have hy := num_year h
  obtain ⟨h1, h2, h3, h4, h5, h6⟩ := h
  have K := Lib.hid (fun k (a : 1 ≤ k) (b : k ≤ 12) => length_any y k w hL (by omega) (by omega) a b)
  have KA := Lib.hid (ahead_any y w h1 (by omega))
  have KE := Lib.hid (ahead_any 10000 w (by omega) (by omega))
  rw [dby_last] at KE
  have KY := Lib.hid (dayyear_any y (numD y m d + 719162) w (by omega) (by omega) (by omega) (by omega))
  have db := dby_bd h1 (show y ≤ 10000 by omega)
  have mb := ml_bd y m
  have B := Lib.hid (fun k (a : 1 ≤ k) (b : k ≤ 12) => dbm_bd y a b)
  have BM := Lib.hid (fun k (a : 1 ≤ k) (b : k + 1 ≤ m) => dbm_mono y (m := k + 1) (k := m) (by omega) b (by omega))
  have BS := Lib.hid (fun k (a : 1 ≤ k) (b : k ≤ 12) => dbm_step y a b)
  have B1 := Lib.hid (dbm_one y)
  have Y2 := yl_two y
  have L := Lib.hid (fun k => ml_bd y k)
  have bm := B.out m h3 h4
  have N' : numD y m d + 719162 - dby y + 1 = dbm y m + d := by unfold numD; omega
  generalize numD y m d = X at *
  generalize dby (y + 1) = z' at *
  have NX := Lib.hid N'
  clear N'
  generalize dby y = z at *
  generalize yl y = x at *
  have H6 := Lib.hid h6
  have n0 : ¬ X + 719162 < 0 := by omega
  have n1 : ¬ 3652059 ≤ X + 719162 := by omega
  obtain ⟨D, hD⟩ : ∃ D, D = dbm y m := ⟨_, rfl⟩
  rw [← hD] at bm
  rw [← hD] at NX
  have HD := Lib.hid hD
  clear hD
  obtain ⟨M, hM⟩ : ∃ M, M = ml y m := ⟨_, rfl⟩
  rw [← hM] at bm mb h6
  have HM := Lib.hid hM
  clear hM H6
  go_enter Tryd.func11, Tryd.ntmps11
  go_wp2_with (first
    | (go_at_call_of 19 (10000 : Int); refine KE.out.mono ?_; rintro e w1 ⟨rfl, rfl⟩)
    | (go_at_call 20; refine KY.out.mono ?_; rintro e w1 ⟨rfl, rfl⟩)
    | (go_at_call 19; refine KA.out.mono ?_; rintro e w1 ⟨rfl, rfl⟩))
  go_loop [3, 4] (fun k s => ∃ p : Int, k = .int .i64 p ∧ 1 ≤ p ∧ p ≤ m ∧ s = .int .i64 (D + d - dbm y p)) (fun k _ => (m - RowKit.intOf k).toNat)
  case atStart => exact ⟨1, rfl, by omega, h3, int_int (by rw [B1.out, NX.out]; omega)⟩
  case round =>
    obtain ⟨p, rfl, p1, p2, rfl⟩ := hrel
    have bp := B.out p (by omega) (by omega)
    have lp := L.out p
    have c := K.out p (by omega) (by omega)
    by_cases hlt : p < m
    · have sp := Lib.hid (BS.out p (by omega) (by omega))
      have mp := BM.out p (by omega) (by omega)
      rw [sp.out, ← HD.out] at mp
      generalize dbm y p = t at *
      generalize ml y p = u at *
      go_wp2_with (go_at_call 18; refine c.mono ?_; rintro e w1 ⟨rfl, rfl⟩)
      go_round
      case rel => exact ⟨p + 1, by first | rfl | go_num, by omega, by omega, int_int (by rw [sp.out]; omega)⟩
      case measure => simp [RowKit.intOf]; omega
    · obtain rfl : p = m := by omega
      have e : D + d - dbm y p = d := by rw [HD.out]; omega
      rw [e]
      rw [← HM.out] at c
      clear e
      have n2 : ¬ M < d := by omega
      go_wp2_with (go_at_call 18; refine c.mono ?_; rintro e w1 ⟨rfl, rfl⟩)
      go_ret3
      exact ⟨rfl, rfl⟩
theorem date_wrong (n : Int) (w : World) (hn : (Lit.int .i32 n).wf = true) (h : ¬ (-719162 ≤ n ∧ n ≤ 2932896)) :
    Calls Tryd.prog 11 #[.int .i32 n] w fun e w' => e = .returned (.tuple #[.int .i64 0, .int .i64 0, .int .i64 0]) ∧ w = w' := by
  have bn : -2147483648 ≤ n ∧ n < 2147483648 := by
    simp [Lit.wf, IntKind.min, IntKind.max, IntKind.signed, IntKind.bits] at hn; omega
  have KE := Lib.hid (ahead_any 10000 w (by omega) (by omega))
  rw [dby_last] at KE
  rcases (by omega : n + 719162 < 0 ∨ (¬ n + 719162 < 0 ∧ 3652059 ≤ n + 719162)) with n1 | ⟨n1, n2⟩
  all_goals
    clear h
    go_enter Tryd.func11, Tryd.ntmps11
    go_wp2_with (go_at_call 19; refine KE.out.mono ?_; rintro e w1 ⟨rfl, rfl⟩)
    go_ret3
    exact ⟨rfl, rfl⟩
end Go.Proofs.YtibipjncpojifaaDoor

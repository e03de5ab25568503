/- The landed day, its small parts: leap, length, ahead, year, number; and the plain words that they answer. -/
import Derived.Test.YtibipjncpojifaaDoorKc
import Derived.Lib.LaidTab
namespace Go.Proofs.YtibipjncpojifaaDoor
open Go.RowKit
set_option linter.unusedVariables false
set_option linter.unusedSimpArgs false
/-- The table of the months' lengths lies as the program lays it. -/
def lens : List Int := [31, 28, 31, 30, 31, 30, 31, 31, 30, 31, 30, 31]
def LenTab (w : World) : Prop := Lib.TabIs Tryd.prog w "transposal/day.lengths" .i64 lens
theorem LenTab.stay {w w' : World} (h : LenTab w) (hb : Below w.heap.size w w') : LenTab w' := by
  unfold LenTab Lib.TabIs World.var? at *
  have e : Tryd.prog.globalNamed "transposal/day.lengths" = some 0 := by kernel_rfl
  rw [e] at h ⊢
  simp only [Option.bind_some] at h ⊢
  have hlt : 0 < w.heap.size := by
    rcases Nat.lt_or_ge 0 w.heap.size with h' | h'
    · exact h'
    · rw [Array.getElem?_eq_none h'] at h; cases h
  rw [hb.block 0 hlt]
  exact h
theorem LenTab.cell {w : World} (h : LenTab w) (i : Nat) (hi : i < 12) : w.cell? ⟨0, i, none⟩ = some (.int .i64 (lens.getD i 0)) :=
  Lib.TabIs.cell h (by kernel_rfl) i hi
/-- Has a year 366 days? -/
def leapB (y : Int) : Bool := decide (yl y = 366)
theorem leap_any (y : Int) (w : World) (h0 : 0 ≤ y) (h1 : y ≤ 20000) :
    Calls Tryd.prog 27 #[.int .i64 y] w fun e w' => e = .returned (.bool (leapB y)) ∧ w = w' := by
  by_cases a : y % 4 = 0
  · have e1 : (y % 4 == 0) = true := by simpa using a
    by_cases b : y % 100 = 0
    · have e2 : (y % 100 != 0) = false := by simpa using b
      by_cases c : y % 400 = 0
      · have e3 : (y % 400 == 0) = true := by simpa using c
        have e : leapB y = true := by unfold leapB yl; rw [if_pos (.inl c)]; rfl
        rw [e]
        go_enter Tryd.func27, Tryd.ntmps27
        go_wp2
        go_ret
        exact ⟨rfl, rfl⟩
      · have e3 : (y % 400 == 0) = false := by simpa using c
        have e : leapB y = false := by unfold leapB yl; rw [if_neg (by rintro (h | h); exact c h; exact h.2 b)]; rfl
        rw [e]
        go_enter Tryd.func27, Tryd.ntmps27
        go_wp2
        go_ret
        exact ⟨rfl, rfl⟩
    · have e2 : (y % 100 != 0) = true := by simpa using b
      have e : leapB y = true := by unfold leapB yl; rw [if_pos (.inr ⟨a, b⟩)]; rfl
      rw [e]
      go_enter Tryd.func27, Tryd.ntmps27
      go_wp2
      go_ret
      exact ⟨rfl, rfl⟩
  · have e1 : (y % 4 == 0) = false := by simpa using a
    have e : leapB y = false := by unfold leapB yl; rw [if_neg (by rintro (h | h); exact a (by omega); exact a h.1)]; rfl
    rw [e]
    go_enter Tryd.func27, Tryd.ntmps27
    go_wp2
    go_ret
    exact ⟨rfl, rfl⟩
theorem length_any (y m : Int) (w : World) (hL : LenTab w) (h0 : 0 ≤ y) (h1 : y ≤ 20000) (h2 : 1 ≤ m) (h3 : m ≤ 12) :
    Calls Tryd.prog 18 #[.int .i64 y, .int .i64 m] w fun e w' => e = .returned (.int .i64 (ml y m)) ∧ w = w' := by
  have c : ∀ i, i < 12 → w.cell? ⟨0, i, none⟩ = some (.int .i64 (lens.getD i 0)) := fun i hi => hL.cell i hi
  have K := Lib.hid (leap_any y w h0 h1)
  have C := Lib.hid c
  clear c hL
  rcases m_cases h2 h3 with rfl | rfl | rfl | rfl | rfl | rfl | rfl | rfl | rfl | rfl | rfl | rfl
  case inr.inl =>
    have c := C.out 1 (by omega)
    simp [lens] at c
    by_cases b : yl y = 366
    · have e : leapB y = true := by unfold leapB; simpa using b
      have e' : ml y 2 = 29 := by unfold ml; simp [b]
      rw [e] at K
      rw [e']
      go_enter Tryd.func18, Tryd.ntmps18
      go_wp2_with (go_at_call 27; refine K.out.mono ?_; rintro e w1 ⟨rfl, rfl⟩)
      go_ret
      exact ⟨rfl, rfl⟩
    · have e : leapB y = false := by unfold leapB; simpa using b
      have e' : ml y 2 = 28 := by have := yl_two y; unfold ml; simp; omega
      rw [e] at K
      rw [e']
      go_enter Tryd.func18, Tryd.ntmps18
      go_wp2_with (go_at_call 27; refine K.out.mono ?_; rintro e w1 ⟨rfl, rfl⟩)
      go_ret
      exact ⟨rfl, rfl⟩
  case inl => have c := C.out 0 (by omega); simp [lens] at c; go_enter Tryd.func18, Tryd.ntmps18; go_wp2; go_ret; exact ⟨rfl, rfl⟩
  case inr.inr.inl => have c := C.out 2 (by omega); simp [lens] at c; go_enter Tryd.func18, Tryd.ntmps18; go_wp2; go_ret; exact ⟨rfl, rfl⟩
  case inr.inr.inr.inl => have c := C.out 3 (by omega); simp [lens] at c; go_enter Tryd.func18, Tryd.ntmps18; go_wp2; go_ret; exact ⟨rfl, rfl⟩
  case inr.inr.inr.inr.inl => have c := C.out 4 (by omega); simp [lens] at c; go_enter Tryd.func18, Tryd.ntmps18; go_wp2; go_ret; exact ⟨rfl, rfl⟩
  case inr.inr.inr.inr.inr.inl => have c := C.out 5 (by omega); simp [lens] at c; go_enter Tryd.func18, Tryd.ntmps18; go_wp2; go_ret; exact ⟨rfl, rfl⟩
  case inr.inr.inr.inr.inr.inr.inl => have c := C.out 6 (by omega); simp [lens] at c; go_enter Tryd.func18, Tryd.ntmps18; go_wp2; go_ret; exact ⟨rfl, rfl⟩
  case inr.inr.inr.inr.inr.inr.inr.inl => have c := C.out 7 (by omega); simp [lens] at c; go_enter Tryd.func18, Tryd.ntmps18; go_wp2; go_ret; exact ⟨rfl, rfl⟩
  case inr.inr.inr.inr.inr.inr.inr.inr.inl => have c := C.out 8 (by omega); simp [lens] at c; go_enter Tryd.func18, Tryd.ntmps18; go_wp2; go_ret; exact ⟨rfl, rfl⟩
  case inr.inr.inr.inr.inr.inr.inr.inr.inr.inl => have c := C.out 9 (by omega); simp [lens] at c; go_enter Tryd.func18, Tryd.ntmps18; go_wp2; go_ret; exact ⟨rfl, rfl⟩
  case inr.inr.inr.inr.inr.inr.inr.inr.inr.inr.inl => have c := C.out 10 (by omega); simp [lens] at c; go_enter Tryd.func18, Tryd.ntmps18; go_wp2; go_ret; exact ⟨rfl, rfl⟩
  case inr.inr.inr.inr.inr.inr.inr.inr.inr.inr.inr => have c := C.out 11 (by omega); simp [lens] at c; go_enter Tryd.func18, Tryd.ntmps18; go_wp2; go_ret; exact ⟨rfl, rfl⟩
theorem ahead_any (y : Int) (w : World) (h0 : 1 ≤ y) (h1 : y ≤ 20000) :
    Calls Tryd.prog 19 #[.int .i64 y] w fun e w' => e = .returned (.int .i64 (dby y)) ∧ w = w' := by
  go_enter Tryd.func19, Tryd.ntmps19
  go_wp2
  go_ret
  exact ⟨ret_int (by unfold dby; omega), rfl⟩
/-- The guess of a year, and the year itself. -/
theorem guess_lo (s : Int) : dby (s * 400 / 146097 + 1) ≤ s := by unfold dby; omega
theorem guess_hi (s : Int) : s < dby (s * 400 / 146097 + 1 + 1 + 1) := by unfold dby; omega
theorem dby_lt {y z s : Int} (h1 : dby y ≤ s) (h2 : s < dby z) : y < z := by
  by_cases h : y < z
  · exact h
  · have := dby_mono (y := z) (z := y) (by omega)
    omega
theorem dayyear_any (y s : Int) (w : World) (h0 : 0 ≤ s) (hs : s ≤ 4000000) (h1 : dby y ≤ s) (h2 : s < dby (y + 1)) :
    Calls Tryd.prog 20 #[.int .i64 s] w fun e w' => e = .returned (.int .i64 y) ∧ w = w' := by
  have g1 := dby_lt (guess_lo s) h2
  have g2 := dby_lt h1 (guess_hi s)
  have K := Lib.hid (fun w' => ahead_any (s * 400 / 146097 + 1 + 1) w' (by omega) (by omega))
  by_cases c : dby (s * 400 / 146097 + 1 + 1) ≤ s
  · have e : s * 400 / 146097 + 1 + 1 = y := by have := dby_lt c h2; omega
    have E := Lib.hid e
    clear e h1 h2 g1 g2
    generalize dby (s * 400 / 146097 + 1 + 1) = q at *
    go_enter Tryd.func20, Tryd.ntmps20
    go_wp2_with (go_at_call 19; refine (K.out _).mono ?_; rintro e w1 ⟨rfl, rfl⟩)
    go_ret
    exact ⟨ret_int E.out, rfl⟩
  · have e : s * 400 / 146097 + 1 = y := by have := dby_lt h1 (show s < dby (s * 400 / 146097 + 1 + 1) by omega); omega
    have E := Lib.hid e
    clear e h1 h2 g1 g2
    generalize dby (s * 400 / 146097 + 1 + 1) = q at *
    go_enter Tryd.func20, Tryd.ntmps20
    go_wp2_with (go_at_call 19; refine (K.out _).mono ?_; rintro e w1 ⟨rfl, rfl⟩)
    go_ret
    exact ⟨ret_int E.out, rfl⟩
end Go.Proofs.YtibipjncpojifaaDoor

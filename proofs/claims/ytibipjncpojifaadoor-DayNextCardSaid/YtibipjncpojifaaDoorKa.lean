/- Days in plain words: years, months, a day's number; each date has its own number, and each number from the first day to the last one date. -/
import Derived.Test.YtibipjncpojifaaDoorChecked
import Derived.WalkKit
namespace Go.Proofs.YtibipjncpojifaaDoor
open Go.RowKit
set_option linter.unusedVariables false
set_option linter.unusedSimpArgs false
/-- How many days a year has, and a month. -/
def yl (y : Int) : Int := if y % 400 = 0 ∨ (y % 4 = 0 ∧ y % 100 ≠ 0) then 366 else 365
def ml (y m : Int) : Int := if m = 4 ∨ m = 6 ∨ m = 9 ∨ m = 11 then 30 else if m = 2 then yl y - 337 else 31
/-- How many days lie ahead of a year, from year 1 on. -/
def dby (y : Int) : Int := 365 * (y - 1) + (y - 1) / 4 - (y - 1) / 100 + (y - 1) / 400
/-- How many days of the year lie ahead of a month. -/
def dbm (y m : Int) : Int := if m = 1 then 0 else if m = 2 then 31 else (yl y - 365) + (if m = 3 then 59 else if m = 4 then 90 else if m = 5 then 120 else if m = 6 then 151 else if m = 7 then 181 else if m = 8 then 212 else if m = 9 then 243 else if m = 10 then 273 else if m = 11 then 304 else if m = 12 then 334 else 365)
/-- A day's number. -/
def numD (y m d : Int) : Int := dby y - 719162 + dbm y m + d - 1
/-- Is there such a day? -/
def RightD (y m d : Int) : Prop := 1 ≤ y ∧ y ≤ 9999 ∧ 1 ≤ m ∧ m ≤ 12 ∧ 1 ≤ d ∧ d ≤ ml y m
theorem yl_two (y : Int) : yl y = 365 ∨ yl y = 366 := by unfold yl; split <;> simp
theorem dby_step (y : Int) : dby (y + 1) = dby y + yl y := by
  unfold dby yl
  split
  · omega
  · omega
theorem dby_mono {y z : Int} (h : y ≤ z) : dby y ≤ dby z := by unfold dby; omega
theorem dby_1970 : dby 1970 = 719162 := by decide
theorem m_cases {m : Int} (h1 : 1 ≤ m) (h2 : m ≤ 12) : m = 1 ∨ m = 2 ∨ m = 3 ∨ m = 4 ∨ m = 5 ∨ m = 6 ∨ m = 7 ∨ m = 8 ∨ m = 9 ∨ m = 10 ∨ m = 11 ∨ m = 12 := by omega
theorem dbm_step (y : Int) {m : Int} (h1 : 1 ≤ m) (h2 : m ≤ 12) : dbm y (m + 1) = dbm y m + ml y m := by
  rcases m_cases h1 h2 with rfl | rfl | rfl | rfl | rfl | rfl | rfl | rfl | rfl | rfl | rfl | rfl <;> (unfold dbm ml; simp; try omega)
theorem dbm_one (y : Int) : dbm y 1 = 0 := by unfold dbm; simp
theorem dbm_all (y : Int) : dbm y 13 = yl y := by unfold dbm; simp
theorem ml_bd (y : Int) (m : Int) : 28 ≤ ml y m ∧ ml y m ≤ 31 := by
  have := yl_two y
  unfold ml
  split
  · omega
  · split <;> omega
theorem dbm_mono (y : Int) {m k : Int} (h1 : 1 ≤ m) (h : m ≤ k) (h2 : k ≤ 13) : dbm y m ≤ dbm y k := by
  obtain ⟨n, rfl⟩ : ∃ n : Nat, k = m + n := ⟨(k - m).toNat, by omega⟩
  induction n with
  | zero => simp
  | succ n ih =>
    have h3 := ih (by omega) (by omega)
    have h4 := dbm_step y (m := m + n) (by omega) (by omega)
    have h5 := ml_bd y (m + n)
    have e : m + ((n + 1 : Nat) : Int) = m + n + 1 := by omega
    rw [e, h4]; omega
theorem dbm_bd (y : Int) {m : Int} (h1 : 1 ≤ m) (h2 : m ≤ 12) : 0 ≤ dbm y m ∧ dbm y m + ml y m ≤ yl y := by
  have a := dbm_mono y (m := 1) (k := m) (by omega) h1 (by omega)
  have b := dbm_mono y (m := m + 1) (k := 13) (by omega) (by omega) (by omega)
  rw [dbm_one] at a
  rw [dbm_all, dbm_step y h1 h2] at b
  exact ⟨a, b⟩
/-- A date's number lies within its year. -/
theorem num_year {y m d : Int} (h : RightD y m d) : dby y - 719162 ≤ numD y m d ∧ numD y m d < dby (y + 1) - 719162 := by
  obtain ⟨_, _, h1, h2, h3, h4⟩ := h
  have := dbm_bd y h1 h2
  rw [dby_step]
  unfold numD
  omega
theorem num_range {y m d : Int} (h : RightD y m d) : -719162 ≤ numD y m d ∧ numD y m d ≤ 2932896 := by
  have a := num_year h
  have b := dby_mono (y := 1) (z := y) h.1
  have c := dby_mono (y := y + 1) (z := 10000) (by have := h.2.1; omega)
  have e1 : dby 1 = 0 := by decide
  have e2 : dby 10000 = 3652059 := by decide
  omega
/-- Dates in order. -/
def Ahead (y m d y' m' d' : Int) : Prop := y < y' ∨ (y = y' ∧ (m < m' ∨ (m = m' ∧ d < d')))
theorem num_ahead {y m d y' m' d' : Int} (h : RightD y m d) (h' : RightD y' m' d') (ha : Ahead y m d y' m' d') : numD y m d < numD y' m' d' := by
  rcases ha with ha | ⟨rfl, ha | ⟨rfl, ha⟩⟩
  · have a := num_year h
    have b := num_year h'
    have c := dby_mono (y := y + 1) (z := y') (by omega)
    omega
  · obtain ⟨_, _, h1, h2, h3, h4⟩ := h
    obtain ⟨_, _, g1, g2, g3, g4⟩ := h'
    have a := dbm_step y h1 h2
    have b := dbm_mono y (m := m + 1) (k := m') (by omega) (by omega) (by omega)
    unfold numD
    omega
  · unfold numD; omega
theorem ahead_or {y m d y' m' d' : Int} : Ahead y m d y' m' d' ∨ (y = y' ∧ m = m' ∧ d = d') ∨ Ahead y' m' d' y m d := by unfold Ahead; omega
/-- Each date has its own number. -/
theorem num_inj {y m d y' m' d' : Int} (h : RightD y m d) (h' : RightD y' m' d') (e : numD y m d = numD y' m' d') : y = y' ∧ m = m' ∧ d = d' := by
  rcases ahead_or (y := y) (m := m) (d := d) (y' := y') (m' := m') (d' := d') with a | a | a
  · have := num_ahead h h' a; omega
  · exact a
  · have := num_ahead h' h a; omega
theorem ahead_num {y m d y' m' d' : Int} (h : RightD y m d) (h' : RightD y' m' d') (e : numD y m d < numD y' m' d') : Ahead y m d y' m' d' := by
  rcases ahead_or (y := y) (m := m) (d := d) (y' := y') (m' := m') (d' := d') with a | ⟨rfl, rfl, rfl⟩ | a
  · exact a
  · omega
  · have := num_ahead h' h a; omega
/-- The day behind a day. -/
theorem num_next {y m d u v w : Int} (h : RightD y m d) (h' : RightD u v w) (e : numD u v w = numD y m d + 1) :
    (u = y ∧ v = m ∧ w = d + 1) ∨ (w = 1 ∧ ((v = m + 1 ∧ u = y) ∨ (v = 1 ∧ m = 12 ∧ u = y + 1))) := by
  obtain ⟨a1, a2, a3, a4, a5, a6⟩ := h
  by_cases h1 : d < ml y m
  · have r : RightD y m (d + 1) := ⟨a1, a2, a3, a4, by omega, by omega⟩
    have := num_inj h' r (by rw [e]; unfold numD; omega)
    exact .inl this
  · by_cases h2 : m < 12
    · have hb := ml_bd y (m + 1)
      have r : RightD y (m + 1) 1 := ⟨a1, a2, by omega, by omega, by omega, by omega⟩
      have hs := dbm_step y a3 a4
      have := num_inj h' r (by rw [e]; unfold numD; rw [hs]; omega)
      exact .inr ⟨this.2.2, .inl ⟨this.2.1, this.1⟩⟩
    · obtain rfl : m = 12 := by omega
      have hn := num_year h'
      have hs := dby_step y
      have hm := dbm_step y (m := 12) (by omega) (by omega)
      have ha := dbm_all y
      rw [show (12 : Int) + 1 = 13 by rfl, ha] at hm
      have en : numD y 12 d + 1 = dby (y + 1) - 719162 := by unfold numD; rw [hs]; omega
      have hy : y + 1 ≤ 9999 := by
        by_cases hh : y + 1 ≤ 9999
        · exact hh
        · exfalso
          have c := dby_mono (y := u + 1) (z := y + 1) (by have := h'.2.1; omega)
          omega
      have hb := ml_bd (y + 1) 1
      have r : RightD (y + 1) 1 1 := ⟨by omega, hy, by omega, by omega, by omega, by omega⟩
      have := num_inj h' r (by rw [e, en]; unfold numD; rw [dbm_one]; omega)
      exact .inr ⟨this.2.2, .inr ⟨this.2.1, rfl, this.1⟩⟩
/-- Each number from the first day to the last has a date. -/
theorem num_some {n : Int} (h1 : -719162 ≤ n) (h2 : n ≤ 2932896) : ∃ y m d, RightD y m d ∧ numD y m d = n := by
  have up : ∀ k : Nat, -719162 + (k : Int) ≤ 2932896 → ∃ y m d, RightD y m d ∧ numD y m d = -719162 + (k : Int) := by
    intro k
    induction k with
    | zero => intro _; exact ⟨1, 1, 1, by unfold RightD ml yl; decide, by decide⟩
    | succ k ih =>
      intro hk
      obtain ⟨y, m, d, ⟨a1, a2, a3, a4, a5, a6⟩, e⟩ := ih (by omega)
      by_cases h1 : d < ml y m
      · exact ⟨y, m, d + 1, ⟨a1, a2, a3, a4, by omega, by omega⟩, by unfold numD at *; push_cast; omega⟩
      · by_cases h2 : m < 12
        · have hb := ml_bd y (m + 1)
          have hs := dbm_step y a3 a4
          exact ⟨y, m + 1, 1, ⟨a1, a2, by omega, by omega, by omega, by omega⟩, by unfold numD at *; push_cast; omega⟩
        · obtain rfl : m = 12 := by omega
          have hs := dby_step y
          have hm := dbm_step y (m := 12) (by omega) (by omega)
          have ha := dbm_all y
          rw [show (12 : Int) + 1 = 13 by rfl, ha] at hm
          have en : numD y 12 d + 1 = dby (y + 1) - 719162 := by unfold numD; rw [hs]; omega
          have hb := ml_bd (y + 1) 1
          have hy : y + 1 ≤ 9999 := by
            by_cases hh : y + 1 ≤ 9999
            · exact hh
            · exfalso
              have c := dby_mono (y := 10000) (z := y + 1) (by omega)
              have e2 : dby 10000 = 3652059 := by decide
              push_cast at hk
              omega
          exact ⟨y + 1, 1, 1, ⟨by omega, hy, by omega, by omega, by omega, by omega⟩, by unfold numD at *; rw [dbm_one]; push_cast; omega⟩
  have := up (n + 719162).toNat (by omega)
  have e : -719162 + ((n + 719162).toNat : Int) = n := by omega
  rw [e] at this
  exact this
theorem yl_400 (y : Int) : yl (y + 400) = yl y := by unfold yl; split <;> split <;> omega
theorem ml_400 (y m : Int) : ml (y + 400) m = ml y m := by unfold ml; rw [yl_400]
theorem num_400 (y m d : Int) : numD (y + 400) m d = numD y m d + 146097 := by
  have : dbm (y + 400) m = dbm y m := by unfold dbm; rw [yl_400]
  unfold numD
  rw [this]
  unfold dby
  omega
/-- The last k digits of a number, as bytes. -/
def digL (n : Nat) : Nat → List UInt8
  | 0 => []
  | k + 1 => UInt8.ofNat (48 + n / 10 ^ k % 10) :: digL n k
theorem digL_len (n : Nat) : ∀ k, (digL n k).length = k
  | 0 => rfl
  | k + 1 => by unfold digL; rw [List.length_cons, digL_len n k]
/-- A date's text: year, month, day. -/
def dateL (y m d : Int) : List UInt8 := digL y.toNat 4 ++ [45] ++ digL m.toNat 2 ++ [45] ++ digL d.toNat 2
end Go.Proofs.YtibipjncpojifaaDoor

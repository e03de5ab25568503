/- Contracts of package chart's small functions, of the library's search by halving at accounts, of Find, Get. -/
import Derived.Test.YtdhgkggcnilgoaaGreatDoorChecked
import Derived.Test.YtdhgkggcnilgoaaGreatDoorCc
import Derived.Test.YtdhgkggcnilgoaaGreatDoorBa
import Derived.WalkKit
import Derived.Lib.Hide
import Derived.BigQuiet
namespace Go.Proofs.YtdhgkggcnilgoaaGreatDoor
open Go.RowKit
set_option linter.unusedVariables false
set_option linter.unusedSimpArgs false
theorem cv_eq (x : Ac) : cv x = .agg #[.int .u32 (x.code : Int), .string x.name, .int .u8 (x.kind : Int), .int .u32 (x.par : Int)] := rfl
theorem isnan32 (x : Int) (w : World) : Calls Tryz.prog 56 #[.int .u32 x] w fun e w' => e = .returned (.bool false) ∧ w' = w := by
  go_enter Tryz.func56, Tryz.ntmps56
  go_wp2
  go_ret
  exact ⟨by simp, rfl⟩
/-- How two numbers stand to each other. -/
def cmpN (m n : Nat) : Int := if m < n then -1 else if n < m then 1 else 0
theorem cmp32 (m n : Nat) (w : World) : Calls Tryz.prog 43 #[.int .u32 (m : Int), .int .u32 (n : Int)] w fun e w' => e = .returned (.int .i64 (cmpN m n)) ∧ w' = w := by
  have K := Lib.hid (fun x => isnan32 x w)
  unfold cmpN
  by_cases h1 : m < n
  · have e1 : (m : Int) < (n : Int) := by omega
    rw [if_pos h1]
    go_enter Tryz.func43, Tryz.ntmps43
    go_wp2_with (go_at_call 56; refine (K.out _).mono ?_; rintro e w1 ⟨rfl, rfl⟩)
    go_ret
    exact ⟨rfl, rfl⟩
  · have e1 : ¬ (m : Int) < (n : Int) := by omega
    rw [if_neg h1]
    by_cases h2 : n < m
    · have e2 : (n : Int) < (m : Int) := by omega
      rw [if_pos h2]
      go_enter Tryz.func43, Tryz.ntmps43
      go_wp2_with (go_at_call 56; refine (K.out _).mono ?_; rintro e w1 ⟨rfl, rfl⟩)
      go_ret
      exact ⟨rfl, rfl⟩
    · have e2 : ¬ (n : Int) < (m : Int) := by omega
      rw [if_neg h2]
      go_enter Tryz.func43, Tryz.ntmps43
      go_wp2_with (go_at_call 56; refine (K.out _).mono ?_; rintro e w1 ⟨rfl, rfl⟩)
      go_ret
      exact ⟨rfl, rfl⟩
theorem findc (x : Ac) (n : Nat) (w : World) : Calls Tryz.prog 42 #[cv x, .int .u32 (n : Int)] w fun e w' => e = .returned (.int .i64 (cmpN x.code n)) ∧ Below w.heap.size w w' := by
  have K := Lib.hid (fun w => cmp32 x.code n w)
  have HB := Lib.hid ((Below.refl w.heap.size w).alloc (Nat.le_refl _) (.cells #[.int .u32 (x.code : Int), .string x.name, .int .u8 (x.kind : Int), .int .u32 (x.par : Int)] 34))
  unfold cv
  generalize cmpN x.code n = r at *
  go_enter Tryz.func42, Tryz.ntmps42
  go_wp2_with (go_at_call 43; refine (K.out _).mono ?_; rintro e w1 ⟨rfl, rfl⟩)
  go_ret
  exact ⟨rfl, HB.out⟩
theorem code_c (n : Nat) (w : World) : Calls Tryz.prog 24 #[.int .u32 (n : Int)] w fun e w' => e = .returned (.bool (decide (0 < n) && decide (n ≤ 999999))) ∧ w' = w := by
  by_cases h1 : 0 < n
  · by_cases h2 : n ≤ 999999
    · rw [decide_eq_true h1, decide_eq_true h2]
      have e1 : (1 : Int) ≤ (n : Int) := by omega
      have e2 : (n : Int) ≤ 999999 := by omega
      go_enter Tryz.func24, Tryz.ntmps24
      go_wp2
      go_ret
      exact ⟨by simp, rfl⟩
    · rw [decide_eq_true h1, decide_eq_false h2]
      have e1 : (1 : Int) ≤ (n : Int) := by omega
      have e2 : ¬ (n : Int) ≤ 999999 := by omega
      go_enter Tryz.func24, Tryz.ntmps24
      go_wp2
      go_ret
      exact ⟨by simp, rfl⟩
  · rw [decide_eq_false h1]
    have e1 : ¬ (1 : Int) ≤ (n : Int) := by omega
    go_enter Tryz.func24, Tryz.ntmps24
    go_wp2
    go_ret
    exact ⟨by simp, rfl⟩
theorem credit_c (k : Nat) (w : World) : Calls Tryz.prog 11 #[.int .u8 (k : Int)] w fun e w' => e = .returned (.bool (((k : Int) == 1) || (((k : Int) == 2) || ((k : Int) == 3)))) ∧ w' = w := by
  cases h1 : ((k : Int) == 1) <;> cases h2 : ((k : Int) == 2) <;> cases h3 : ((k : Int) == 3) <;> (go_enter Tryz.func11, Tryz.ntmps11; go_wp2; go_ret; exact ⟨by simp, rfl⟩)
theorem flow_c (k : Nat) (w : World) : Calls Tryz.prog 12 #[.int .u8 (k : Int)] w fun e w' => e = .returned (.bool (((k : Int) == 3) || ((k : Int) == 4))) ∧ w' = w := by
  cases h1 : ((k : Int) == 3) <;> cases h2 : ((k : Int) == 4) <;> (go_enter Tryz.func12, Tryz.ntmps12; go_wp2; go_ret; exact ⟨by simp, rfl⟩)
end Go.Proofs.YtdhgkggcnilgoaaGreatDoor

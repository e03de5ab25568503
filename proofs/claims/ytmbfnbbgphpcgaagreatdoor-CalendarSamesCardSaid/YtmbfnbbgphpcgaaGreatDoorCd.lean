/- Contracts of package chart's small functions, of the library's search by halving at accounts, of Find, Get. -/
import Derived.Test.YtmbfnbbgphpcgaaGreatDoorChecked
import Derived.Test.YtmbfnbbgphpcgaaGreatDoorCc
import Derived.Test.YtmbfnbbgphpcgaaGreatDoorBa
import Derived.WalkKit
import Derived.Lib.Hide
import Derived.BigQuiet
namespace Go.Proofs.YtmbfnbbgphpcgaaGreatDoor
open Go.RowKit
set_option linter.unusedVariables false
set_option linter.unusedSimpArgs false
theorem cv_eq (x : Ac) : cv x = .agg #[.int .u32 (x.code : Int), .string x.name, .int .u8 (x.kind : Int), .int .u32 (x.par : Int)] := rfl
theorem isnan32 (x : Int) (w : World) : Calls Tryz.prog 70 #[.int .u32 x] w fun e w' => e = .returned (.bool false) ∧ w' = w := by
  go_enter Tryz.func70, Tryz.ntmps70
  go_wp2
  go_ret
  exact ⟨by simp, rfl⟩
/-- How two numbers stand to each other. -/
def cmpN (m n : Nat) : Int := if m < n then -1 else if n < m then 1 else 0
theorem cmp32 (m n : Nat) (w : World) : Calls Tryz.prog 65 #[.int .u32 (m : Int), .int .u32 (n : Int)] w fun e w' => e = .returned (.int .i64 (cmpN m n)) ∧ w' = w := by
  have K := Lib.hid (fun x => isnan32 x w)
  unfold cmpN
  by_cases h1 : m < n
  · have e1 : (m : Int) < (n : Int) := by omega
    rw [if_pos h1]
    go_enter Tryz.func65, Tryz.ntmps65
    go_wp2_with (go_at_call 70; refine (K.out _).mono ?_; rintro e w1 ⟨rfl, rfl⟩)
    go_ret
    exact ⟨rfl, rfl⟩
  · have e1 : ¬ (m : Int) < (n : Int) := by omega
    rw [if_neg h1]
    by_cases h2 : n < m
    · have e2 : (n : Int) < (m : Int) := by omega
      rw [if_pos h2]
      go_enter Tryz.func65, Tryz.ntmps65
      go_wp2_with (go_at_call 70; refine (K.out _).mono ?_; rintro e w1 ⟨rfl, rfl⟩)
      go_ret
      exact ⟨rfl, rfl⟩
    · have e2 : ¬ (n : Int) < (m : Int) := by omega
      rw [if_neg h2]
      go_enter Tryz.func65, Tryz.ntmps65
      go_wp2_with (go_at_call 70; refine (K.out _).mono ?_; rintro e w1 ⟨rfl, rfl⟩)
      go_ret
      exact ⟨rfl, rfl⟩
theorem findc (x : Ac) (n : Nat) (w : World) : Calls Tryz.prog 64 #[cv x, .int .u32 (n : Int)] w fun e w' => e = .returned (.int .i64 (cmpN x.code n)) ∧ Below w.heap.size w w' := by
  have K := Lib.hid (fun w => cmp32 x.code n w)
  have HB := Lib.hid ((Below.refl w.heap.size w).alloc (Nat.le_refl _) (.cells #[.int .u32 (x.code : Int), .string x.name, .int .u8 (x.kind : Int), .int .u32 (x.par : Int)] 68))
  unfold cv
  generalize cmpN x.code n = r at *
  go_enter Tryz.func64, Tryz.ntmps64
  go_wp2_with (go_at_call 65; refine (K.out _).mono ?_; rintro e w1 ⟨rfl, rfl⟩)
  go_ret
  exact ⟨rfl, HB.out⟩
theorem credit_c (k : Nat) (w : World) : Calls Tryz.prog 37 #[.int .u8 (k : Int)] w fun e w' => e = .returned (.bool (((k : Int) == 1) || (((k : Int) == 2) || ((k : Int) == 3)))) ∧ w' = w := by
  cases h1 : ((k : Int) == 1) <;> cases h2 : ((k : Int) == 2) <;> cases h3 : ((k : Int) == 3) <;> (go_enter Tryz.func37, Tryz.ntmps37; go_wp2; go_ret; exact ⟨by simp, rfl⟩)
theorem flow_c (k : Nat) (w : World) : Calls Tryz.prog 38 #[.int .u8 (k : Int)] w fun e w' => e = .returned (.bool (((k : Int) == 3) || ((k : Int) == 4))) ∧ w' = w := by
  cases h1 : ((k : Int) == 3) <;> cases h2 : ((k : Int) == 4) <;> (go_enter Tryz.func38, Tryz.ntmps38; go_wp2; go_ret; exact ⟨by simp, rfl⟩)
end Go.Proofs.YtmbfnbbgphpcgaaGreatDoor

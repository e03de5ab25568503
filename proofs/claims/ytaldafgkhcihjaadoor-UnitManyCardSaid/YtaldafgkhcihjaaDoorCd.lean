/- Contracts of package chart's small functions, of the library's search by halving at accounts, of Find, Get. -/
import Derived.Test.YtaldafgkhcihjaaDoorChecked
import Derived.Test.YtaldafgkhcihjaaDoorCc
import Derived.Test.YtaldafgkhcihjaaDoorBa
import Derived.WalkKit
import Derived.Lib.Hide
import Derived.BigQuiet
namespace Go.Proofs.YtaldafgkhcihjaaDoor
open Go.RowKit
set_option linter.unusedVariables false
set_option linter.unusedSimpArgs false
theorem cv_eq (x : Ac) : cv x = .agg #[.int .u32 (x.code : Int), .string x.name, .int .u8 (x.kind : Int), .int .u32 (x.par : Int)] := rfl
theorem isnan32 (x : Int) (w : World) : Calls Tryd.prog 49 #[.int .u32 x] w fun e w' => e = .returned (.bool false) ∧ w' = w := by
  go_enter Tryd.func49, Tryd.ntmps49
  go_wp2
  go_ret
  exact ⟨by simp, rfl⟩
/-- How two numbers stand to each other. -/
def cmpN (m n : Nat) : Int := if m < n then -1 else if n < m then 1 else 0
theorem cmp32 (m n : Nat) (w : World) : Calls Tryd.prog 41 #[.int .u32 (m : Int), .int .u32 (n : Int)] w fun e w' => e = .returned (.int .i64 (cmpN m n)) ∧ w' = w := by
  have K := Lib.hid (fun x => isnan32 x w)
  unfold cmpN
  by_cases h1 : m < n
  · have e1 : (m : Int) < (n : Int) := by omega
    rw [if_pos h1]
    go_enter Tryd.func41, Tryd.ntmps41
    go_wp2_with (go_at_call 49; refine (K.out _).mono ?_; rintro e w1 ⟨rfl, rfl⟩)
    go_ret
    exact ⟨rfl, rfl⟩
  · have e1 : ¬ (m : Int) < (n : Int) := by omega
    rw [if_neg h1]
    by_cases h2 : n < m
    · have e2 : (n : Int) < (m : Int) := by omega
      rw [if_pos h2]
      go_enter Tryd.func41, Tryd.ntmps41
      go_wp2_with (go_at_call 49; refine (K.out _).mono ?_; rintro e w1 ⟨rfl, rfl⟩)
      go_ret
      exact ⟨rfl, rfl⟩
    · have e2 : ¬ (n : Int) < (m : Int) := by omega
      rw [if_neg h2]
      go_enter Tryd.func41, Tryd.ntmps41
      go_wp2_with (go_at_call 49; refine (K.out _).mono ?_; rintro e w1 ⟨rfl, rfl⟩)
      go_ret
      exact ⟨rfl, rfl⟩
theorem findc (x : Ac) (n : Nat) (w : World) : Calls Tryd.prog 40 #[cv x, .int .u32 (n : Int)] w fun e w' => e = .returned (.int .i64 (cmpN x.code n)) ∧ Below w.heap.size w w' := by
  have K := Lib.hid (fun w => cmp32 x.code n w)
  have HB := Lib.hid ((Below.refl w.heap.size w).alloc (Nat.le_refl _) (.cells #[.int .u32 (x.code : Int), .string x.name, .int .u8 (x.kind : Int), .int .u32 (x.par : Int)] 39))
  unfold cv
  generalize cmpN x.code n = r at *
  go_enter Tryd.func40, Tryd.ntmps40
  go_wp2_with (go_at_call 41; refine (K.out _).mono ?_; rintro e w1 ⟨rfl, rfl⟩)
  go_ret
  exact ⟨rfl, HB.out⟩
theorem credit_c (k : Nat) (w : World) : Calls Tryd.prog 17 #[.int .u8 (k : Int)] w fun e w' => e = .returned (.bool (((k : Int) == 1) || (((k : Int) == 2) || ((k : Int) == 3)))) ∧ w' = w := by
  cases h1 : ((k : Int) == 1) <;> cases h2 : ((k : Int) == 2) <;> cases h3 : ((k : Int) == 3) <;> (go_enter Tryd.func17, Tryd.ntmps17; go_wp2; go_ret; exact ⟨by simp, rfl⟩)
theorem flow_c (k : Nat) (w : World) : Calls Tryd.prog 18 #[.int .u8 (k : Int)] w fun e w' => e = .returned (.bool (((k : Int) == 3) || ((k : Int) == 4))) ∧ w' = w := by
  cases h1 : ((k : Int) == 3) <;> cases h2 : ((k : Int) == 4) <;> (go_enter Tryd.func18, Tryd.ntmps18; go_wp2; go_ret; exact ⟨by simp, rfl⟩)
end Go.Proofs.YtaldafgkhcihjaaDoor

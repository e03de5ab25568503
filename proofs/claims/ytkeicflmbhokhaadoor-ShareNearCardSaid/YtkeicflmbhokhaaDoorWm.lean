/- Contract of package wide: Cmp. -/
import Derived.Test.YtkeicflmbhokhaaDoorWb
namespace Go.Proofs.YtkeicflmbhokhaaDoor
open Go.RowKit
set_option linter.unusedVariables false
set_option linter.unusedSimpArgs false
/-- Which is less, by halves. -/
def cmpV (h l h' l' : Int) : Int := if h < h' then -1 else if h' < h then 1 else if l < l' then -1 else if l' < l then 1 else 0
theorem cmp_any (h l h' l' : Int) (w : World) :
    Calls Tryd.prog 15 #[.agg #[.int .i64 h, .int .u64 l], .agg #[.int .i64 h', .int .u64 l']] w fun e w' => e = .returned (.int .i64 (cmpV h l h' l')) ∧ Below w.heap.size w w' := by
  go_enter Tryd.func15, Tryd.ntmps15
  go_wp2
  all_goals go_ret
  all_goals refine ⟨?_, ((Below.refl _ _).alloc (Nat.le_refl _) _).alloc (by simp) _⟩
  all_goals (simp only [cmpV]; refine ret_int ?_; repeat (first | rw [if_pos (by omega)] | rw [if_neg (by omega)] | rfl))
end Go.Proofs.YtkeicflmbhokhaaDoor

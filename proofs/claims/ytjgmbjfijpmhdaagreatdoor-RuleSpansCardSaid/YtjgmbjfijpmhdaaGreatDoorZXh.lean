/- Contract of law 10's Light; law 10's Awake. -/
import Derived.Test.YtjgmbjfijpmhdaaGreatDoorZXg
namespace Go.Proofs.YtjgmbjfijpmhdaaGreatDoor
open Go.RowKit
set_option linter.unusedVariables false
set_option linter.unusedSimpArgs false
def lightB (x : Bk) : Bool := x.journals.all (fun j => decide (j.lines.length ≤ 8)) && (decide (x.chart.length ≤ 20) && (decide (x.units.length ≤ 8) && (decide (x.long.length ≤ 8) && decide (x.journals.length ≤ 12))))
theorem light_of {x : Bk} (h : lightB x = true) : (∀ j ∈ x.journals, j.lines.length ≤ 8) ∧ x.chart.length ≤ 20 ∧ x.units.length ≤ 8 ∧ x.long.length ≤ 8 ∧ x.journals.length ≤ 12 := by
  unfold lightB at h
  simp only [Bool.and_eq_true, decide_eq_true_eq, List.all_eq_true] at h
  exact h
end Go.Proofs.YtjgmbjfijpmhdaaGreatDoor

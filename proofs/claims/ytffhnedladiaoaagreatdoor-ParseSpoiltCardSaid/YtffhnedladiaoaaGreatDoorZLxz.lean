/- Days from their texts. -/
import Derived.Test.YtffhnedladiaoaaGreatDoorZKall
namespace Go.Proofs.YtffhnedladiaoaaGreatDoor
open Go.RowKit Go.Lib
set_option linter.unusedVariables false
theorem date_inj {y m d y' m' d' : Int} (h : RightD y m d) (h' : RightD y' m' d') (e : dateL y m d = dateL y' m' d') : y = y' ∧ m = m' ∧ d = d' := by
  have a := date_reads h
  have b := date_reads h'
  rw [e] at a
  exact ⟨a.1.symm.trans b.1, a.2.1.symm.trans b.2.1, a.2.2.symm.trans b.2.2⟩
end Go.Proofs.YtffhnedladiaoaaGreatDoor

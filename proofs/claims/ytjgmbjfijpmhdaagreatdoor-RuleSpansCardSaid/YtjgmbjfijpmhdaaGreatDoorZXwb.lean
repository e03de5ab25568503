/- Made books as values: made, loaded. -/
import Derived.Test.YtjgmbjfijpmhdaaGreatDoorZXj
namespace Go.Proofs.YtjgmbjfijpmhdaaGreatDoor
open Go.RowKit
set_option linter.unusedVariables false
set_option linter.unusedSimpArgs false
/-- A made book as a value. -/
def MkB (x : Bk) (w : World) (v : Value) : Prop := ∃ (vC vU vS vJ : Value) (vs : List Jm), v = bkV vC vU vS (frB x).E vJ ∧ MadeM x w vC vU vS vJ vs
theorem MkB.stay {x : Bk} {w w' : World} {v : Value} (h : MkB x w v) (hb : Below w.heap.size w w') : MkB x w' v := by
  obtain ⟨vC, vU, vS, vJ, vs, e, hM⟩ := h
  exact ⟨vC, vU, vS, vJ, vs, e, hM.stay hb⟩
end Go.Proofs.YtjgmbjfijpmhdaaGreatDoor

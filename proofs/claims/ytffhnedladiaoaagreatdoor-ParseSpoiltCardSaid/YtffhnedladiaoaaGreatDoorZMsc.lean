/- Scripts' ops in plain words: printed, each op has a line and an end. -/
import Derived.Test.YtffhnedladiaoaaGreatDoorZMsb
namespace Go.Proofs.YtffhnedladiaoaaGreatDoor
open Go.RowKit Go.Lib
set_option linter.unusedVariables false
set_option linter.unusedSimpArgs false
noncomputable def printO (l : List Opp) : List UInt8 := l.flatMap fun o => textO o ++ [10]
theorem print_app (l m : List Opp) : printO (l ++ m) = printO l ++ printO m := by unfold printO; rw [List.flatMap_append]
end Go.Proofs.YtffhnedladiaoaaGreatDoor

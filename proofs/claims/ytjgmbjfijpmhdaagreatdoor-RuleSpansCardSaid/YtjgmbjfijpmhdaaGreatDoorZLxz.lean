/- Days from their texts. -/
import Derived.Test.YtjgmbjfijpmhdaaGreatDoorZKall
namespace Go.Proofs.YtjgmbjfijpmhdaaGreatDoor
open Go.RowKit Go.Lib
set_option linter.unusedVariables false
end Go.Proofs.YtjgmbjfijpmhdaaGreatDoor

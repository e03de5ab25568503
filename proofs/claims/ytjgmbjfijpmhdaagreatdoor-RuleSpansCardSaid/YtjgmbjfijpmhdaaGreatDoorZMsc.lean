/- Scripts' ops in plain words: printed, each op has a line and an end. -/
import Derived.Test.YtjgmbjfijpmhdaaGreatDoorZMsb
namespace Go.Proofs.YtjgmbjfijpmhdaaGreatDoor
open Go.RowKit Go.Lib
set_option linter.unusedVariables false
set_option linter.unusedSimpArgs false
end Go.Proofs.YtjgmbjfijpmhdaaGreatDoor

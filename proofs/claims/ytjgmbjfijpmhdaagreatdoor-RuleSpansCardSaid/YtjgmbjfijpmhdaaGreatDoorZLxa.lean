/- Scripts in plain words: a text's tokens. -/
import Derived.Test.YtjgmbjfijpmhdaaGreatDoorZKall
namespace Go.Proofs.YtjgmbjfijpmhdaaGreatDoor
open Go.RowKit
set_option linter.unusedVariables false
set_option linter.unusedSimpArgs false
end Go.Proofs.YtjgmbjfijpmhdaaGreatDoor

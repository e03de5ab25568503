/- Scripts in plain words: two texts with a line feed between; tokens printed again. -/
import Derived.Test.YtjgmbjfijpmhdaaGreatDoorZLxa
namespace Go.Proofs.YtjgmbjfijpmhdaaGreatDoor
open Go.RowKit
set_option linter.unusedVariables false
set_option linter.unusedSimpArgs false
end Go.Proofs.YtjgmbjfijpmhdaaGreatDoor

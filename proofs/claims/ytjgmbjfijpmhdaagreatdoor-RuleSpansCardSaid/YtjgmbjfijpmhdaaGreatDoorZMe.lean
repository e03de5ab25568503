/- Plain arithmetic of bits. -/
import Derived.Test.YtjgmbjfijpmhdaaGreatDoorZMd
namespace Go.Proofs.YtjgmbjfijpmhdaaGreatDoor
open Go.RowKit
set_option linter.unusedVariables false
set_option linter.unusedSimpArgs false
end Go.Proofs.YtjgmbjfijpmhdaaGreatDoor

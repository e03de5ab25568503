/- Law 12's one: a text's first token. -/
import Derived.Test.YtjgmbjfijpmhdaaGreatDoorZLxc
import Derived.Test.YtjgmbjfijpmhdaaGreatDoorZBa
namespace Go.Proofs.YtjgmbjfijpmhdaaGreatDoor
open Go.RowKit Go.Lib
set_option linter.unusedVariables false
set_option linter.unusedSimpArgs false
end Go.Proofs.YtjgmbjfijpmhdaaGreatDoor

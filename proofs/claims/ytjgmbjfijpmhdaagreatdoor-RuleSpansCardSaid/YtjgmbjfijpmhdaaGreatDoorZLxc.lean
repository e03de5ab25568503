/- Law 12's among: how many bytes at a text's beginning are among some; its one: a text's first token. -/
import Derived.Test.YtjgmbjfijpmhdaaGreatDoorZLxa
import Derived.Test.YtjgmbjfijpmhdaaGreatDoorZKall
import Derived.Test.YtjgmbjfijpmhdaaGreatDoorZShelf
import Derived.Lib.Bytealg
namespace Go.Proofs.YtjgmbjfijpmhdaaGreatDoor
open Go.RowKit Go.Lib
set_option linter.unusedVariables false
set_option linter.unusedSimpArgs false
end Go.Proofs.YtjgmbjfijpmhdaaGreatDoor

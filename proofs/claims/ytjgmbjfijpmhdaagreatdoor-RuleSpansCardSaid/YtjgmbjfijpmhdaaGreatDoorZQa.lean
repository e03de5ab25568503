/- What law 5 asks of package key's keys, as one word; law 5's Awake, less; law KeyUnpacks. -/
import Derived.Test.YtjgmbjfijpmhdaaGreatDoorZKall
namespace Go.Proofs.YtjgmbjfijpmhdaaGreatDoor
open Go.RowKit
set_option linter.unusedVariables false
set_option linter.unusedSimpArgs false
end Go.Proofs.YtjgmbjfijpmhdaaGreatDoor

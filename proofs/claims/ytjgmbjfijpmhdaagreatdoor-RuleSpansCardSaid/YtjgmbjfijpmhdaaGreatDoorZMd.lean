/- An array of 128 numbers as a value: what lies at each place. -/
import Derived.Test.YtjgmbjfijpmhdaaGreatDoorZOne
import Derived.Laws.Rows
import Derived.Laws.Tables
namespace Go.Proofs.YtjgmbjfijpmhdaaGreatDoor
open Go.RowKit
set_option linter.unusedVariables false
set_option linter.unusedSimpArgs false
/-- The cells of an array of 128 whole numbers. -/
def arr (f : Nat → Int) : Array Value := Array.ofFn (n := 128) fun i => Value.int .i64 (f i)
end Go.Proofs.YtjgmbjfijpmhdaaGreatDoor

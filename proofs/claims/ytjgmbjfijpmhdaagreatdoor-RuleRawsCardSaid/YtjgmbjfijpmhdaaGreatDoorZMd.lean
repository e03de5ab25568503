/- An array of 128 numbers as a value: what lies at each place. -/
import Derived.Test.YtjgmbjfijpmhdaaGreatDoorZOne
import Derived.Laws.Rows
import Derived.Laws.Tables
namespace Go.Proofs.YtjgmbjfijpmhdaaGreatDoor
open Go.RowKit
set_option linter.unusedVariables false
set_option linter.unusedSimpArgs false
def arr (f:Nat→Int):Array Value:=Array.ofFn (n:=128) fun i=>Value.int .i64 (f i)
def bitZ (v:Int) (i:Nat):Int:=v / 2 ^ i % 2

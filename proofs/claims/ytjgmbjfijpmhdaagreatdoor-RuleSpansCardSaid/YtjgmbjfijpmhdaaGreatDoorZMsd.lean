/- Scripts' ops in plain words: what an op's text is put together of; the ops that law 13 makes. -/
import Derived.Test.YtjgmbjfijpmhdaaGreatDoorZMsc
import Derived.Test.YtjgmbjfijpmhdaaGreatDoorZJall
import Derived.Test.YtjgmbjfijpmhdaaGreatDoorZCall
import Derived.Lib.Join
namespace Go.Proofs.YtjgmbjfijpmhdaaGreatDoor
open Go.RowKit Go.Lib
set_option linter.unusedVariables false
set_option linter.unusedSimpArgs false
/-- An op by small numbers. -/
structure On where
  kind : Nat
  a : Nat
  b : Nat
  name : Nat
  parts : List (Nat × Nat)
  first : Int
  long : List Nat
/-- Small numbers that an op may hold. -/
structure OnIn (x : On) : Prop where
  kind : x.kind < 256
  a : x.a < 256
  b : x.b < 256
  name : x.name < 256
  parts : ∀ p ∈ x.parts, p.1 < 256 ∧ p.2 < 4294967296
  first : -32768 ≤ x.first ∧ x.first ≤ 32767
end Go.Proofs.YtjgmbjfijpmhdaaGreatDoor

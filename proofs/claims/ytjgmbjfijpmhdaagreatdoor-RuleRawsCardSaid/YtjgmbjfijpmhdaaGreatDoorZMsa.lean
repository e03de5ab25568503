/- Scripts' ops in plain words: their texts; which are the same. -/
import Derived.Test.YtjgmbjfijpmhdaaGreatDoorZKall
import Derived.Lib.ItoaNum
namespace Go.Proofs.YtjgmbjfijpmhdaaGreatDoor
open Go.RowKit Go.Lib
set_option linter.unusedVariables false
set_option linter.unusedSimpArgs false
structure Opp where
 kind:Nat
 frm:Nat
 «to» : Nat
 name:List UInt8
 parts:List (Nat × Nat)
 starts:List Int
 en:Int
def wordK:Nat→List UInt8
 | 0=>[114,101,110,117,109,98,101,114]
 | 1=>[114,101,110,97,109,101]
 | 2=>[114,101,112,97,114,101,110,116]
 | 3=>[109,101,114,103,101]
 | 4=>[115,112,108,105,116]
 | 5=>[114,101,99,111,100,101]
 | 6=>[106,111,105,110]
 | 7=>[99,97,108,101,110,100,97,114]
 | _=>[]
def linkK:Nat→List UInt8
 | 0=>[116,111]
 | 1=>[]
 | 2=>[117,110,100,101,114]
 | 3=>[105,110,116,111]
 | 4=>[105,110,116,111]
 | 5=>[116,111]
 | 6=>[105,110,116,111]
 | 7=>[117,110,116,105,108]
 | _=>[]

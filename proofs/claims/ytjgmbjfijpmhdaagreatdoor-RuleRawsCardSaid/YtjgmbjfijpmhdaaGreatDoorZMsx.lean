/- Scripts' ops in plain words: from their texts, one behind the other, the ops are told. -/
import Derived.Test.YtjgmbjfijpmhdaaGreatDoorZMsa
import Derived.Test.YtjgmbjfijpmhdaaGreatDoorZKall
import Derived.Test.YtjgmbjfijpmhdaaGreatDoorZJall
import Derived.Test.YtjgmbjfijpmhdaaGreatDoorZCall
import Derived.Lib.Join
namespace Go.Proofs.YtjgmbjfijpmhdaaGreatDoor
open Go.RowKit Go.Lib
set_option linter.unusedVariables false
set_option linter.unusedSimpArgs false
theorem Opp.eq_of {o p:Opp} (h1:o.kind=p.kind) (h2:o.frm=p.frm) (h3:o.to=p.to) (h4:o.name=p.name) (h5:o.parts=p.parts) (h6:o.starts=p.starts) (h7:o.en=p.en):o=p:=by
 cases o;cases p;simp only at h1 h2 h3 h4 h5 h6 h7;subst h1 h2 h3 h4 h5 h6 h7;rfl
structure On where
 kind:Nat
 a:Nat
 b:Nat
 name:Nat
 parts:List (Nat × Nat)
 first:Int
 long:List Nat
structure OnIn (x:On):Prop where
 kind:x.kind<256
 a:x.a<256
 b:x.b<256
 name:x.name<256
 parts:∀ p ∈ x.parts,p.1<256∧p.2<4294967296
 first : -32768≤x.first∧x.first≤32767

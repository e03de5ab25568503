/- Contract of law 6's Name. -/
import Derived.Test.YtjgmbjfijpmhdaaGreatDoorZCall
import Derived.Test.YtjgmbjfijpmhdaaGreatDoorChecked
import Derived.WalkKit
import Derived.Lib.Hide
import Derived.LoopTactic
import Derived.Outline
import Derived.Deep.Heap
import Derived.Test.YtjgmbjfijpmhdaaGreatDoorZMsx
import Derived.Test.YtjgmbjfijpmhdaaGreatDoorZJall
import Derived.Test.YtjgmbjfijpmhdaaGreatDoorZMta
import Derived.OwnWalk
import Derived.Maps.AppendAt
import Derived.Deep.QuietTactic
import Derived.BigQuiet
set_option maxRecDepth 100000
namespace Go.Proofs.YtjgmbjfijpmhdaaGreatDoor
open Go.RowKit
set_option linter.unusedVariables false
set_option linter.unusedSimpArgs false
theorem lname_c (n:Nat) (w:World):Calls Tryz.prog 32 #[.int .u8 (n:Int)] w fun e w'=>e = .returned (.string (nm5 (n % 5)))∧Below w.heap.size w w':=by
 have h0:(0:Int)≤(n:Int):=by omega
 rcases (by omega:n % 5=0∨n % 5=1∨n % 5=2∨n % 5=3∨n % 5=4) with h | h | h | h | h
 ·have e:(n:Int) % 5=0:=by omega
  rw [h]
  clear h
  simp only [nm5]
  go_enter Tryz.func32,Tryz.ntmps32
  go_wp2
  go_ret
  exact ⟨rfl,(Below.refl _ _).alloc (Nat.le_refl _) _⟩
 ·have e:(n:Int) % 5=1:=by omega
  rw [h]
  clear h
  simp only [nm5]
  go_enter Tryz.func32,Tryz.ntmps32
  go_wp2
  go_ret
  exact ⟨rfl,(Below.refl _ _).alloc (Nat.le_refl _) _⟩
 ·have e:(n:Int) % 5=2:=by omega
  rw [h]
  clear h
  simp only [nm5]
  go_enter Tryz.func32,Tryz.ntmps32
  go_wp2
  go_ret
  exact ⟨rfl,(Below.refl _ _).alloc (Nat.le_refl _) _⟩
 ·have e:(n:Int) % 5=3:=by omega
  rw [h]
  clear h
  simp only [nm5]
  go_enter Tryz.func32,Tryz.ntmps32
  go_wp2
  go_ret
  exact ⟨rfl,(Below.refl _ _).alloc (Nat.le_refl _) _⟩
 ·have e:(n:Int) % 5=4:=by omega
  rw [h]
  clear h
  simp only [nm5]
  go_enter Tryz.func32,Tryz.ntmps32
  go_wp2
  go_ret
  exact ⟨rfl,(Below.refl _ _).alloc (Nat.le_refl _) _⟩
end Go.Proofs.YtjgmbjfijpmhdaaGreatDoor
namespace Go.Proofs.YtjgmbjfijpmhdaaGreatDoor
open Go.RowKit Go.Lib
set_option linter.unusedVariables false
set_option linter.unusedSimpArgs false
def psc (q:Nat × Nat):List Value:=[.int .u8 (q.1:Int),.int .u32 (q.2:Int)]
structure Oi where
 x:On
 vP:Value
 vL:Value
def onc (q:Oi):List Value:=[.int .u8 (q.x.kind:Int),.int .u8 (q.x.a:Int),.int .u8 (q.x.b:Int),.int .u8 (q.x.name:Int),q.vP,.int .i16 q.x.first,q.vL]
structure OnM (w:World) (q:Oi):Prop where
 parts:Recs psc 2 w q.vP q.x.parts
 long:Recs u8c 1 w q.vL q.x.long
 ok:OnIn q.x
theorem OnM.stay {w w':World} {q:Oi} (h:OnM w q) (hb:Below w.heap.size w w'):OnM w' q:=⟨h.parts.stay hb,h.long.stay hb,h.ok⟩
def SRow (w:World) (v:Value) (qs:List Oi):Prop:=Recs onc 7 w v qs ∧ ∀ q ∈ qs,OnM w q
theorem SRow.stay {w w':World} {v:Value} {qs:List Oi} (h:SRow w v qs) (hb:Below w.heap.size w w'):SRow w' v qs:=⟨h.1.stay hb,fun q hq=>(h.2 q hq).stay hb⟩
theorem SRow.at {w:World} {v:Value} {qs:List Oi} (h:SRow w v qs) {i:Nat} {q:Oi} (hq:qs[i]?=some q) :
 ∃ (g off cap:Nat),v = .slice (some ⟨g,off,none⟩) qs.length cap∧g<w.heap.size∧qs.length≤cap∧(∀ j u,(onc q)[j]?=some u→w.cell? ⟨g,off+i * 7+j,none⟩=some u)∧OnM w q:=by
 rcases h.1 with ⟨r,cap,rfl,rfl⟩ | ⟨g,off,cap,rfl,h3,h4,h5,h6⟩
 ·simp at hq
 ·obtain ⟨hi,e⟩:=List.getElem?_eq_some_iff.1 hq
  exact ⟨g,off,cap,rfl,h3,h5,fun j u hu=>h6 i q hq j u hu,h.2 q (by rw [← e];exact List.getElem_mem hi)⟩

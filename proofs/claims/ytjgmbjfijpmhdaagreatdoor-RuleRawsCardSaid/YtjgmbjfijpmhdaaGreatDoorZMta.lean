/- Ops in memory: one, a row of them, those that are one's own. -/
import Derived.Test.YtjgmbjfijpmhdaaGreatDoorZMsx
import Derived.Test.YtjgmbjfijpmhdaaGreatDoorZOw
import Derived.Test.YtjgmbjfijpmhdaaGreatDoorZJall
import Derived.Test.YtjgmbjfijpmhdaaGreatDoorZKall
import Derived.Test.YtjgmbjfijpmhdaaGreatDoorZShelf
import Derived.Lib.Bytealg
import Derived.Test.YtjgmbjfijpmhdaaGreatDoorZBa
namespace Go.Proofs.YtjgmbjfijpmhdaaGreatDoor
open Go.RowKit Go.Lib
set_option linter.unusedVariables false
set_option linter.unusedSimpArgs false
def ptc (q:Nat × Nat):List Value:=[.int .u32 (q.1:Int),.int .i64 (q.2:Int)]
structure Om where
 o:Opp
 pos:Int
 vP:Value
 vS:Value
def oc (p:Om):List Value:=[.int .i64 (p.o.kind:Int),.int .u32 (p.o.frm:Int),.int .u32 (p.o.to:Int),strV p.o.name,p.vP,p.vS,.int .i32 p.o.en,.int .i64 p.pos]
structure OpM (w:World) (p:Om):Prop where
 parts:Recs ptc 2 w p.vP p.o.parts
 starts:Recs dcl 1 w p.vS p.o.starts
theorem OpM.stay {w w':World} {p:Om} (h:OpM w p) (hb:Below w.heap.size w w'):OpM w' p:=⟨h.parts.stay hb,h.starts.stay hb⟩
def ORow (w:World) (v:Value) (ps:List Om):Prop:=Recs oc 8 w v ps ∧ ∀ p ∈ ps,OpM w p
theorem ORow.stay {w w':World} {v:Value} {ps:List Om} (h:ORow w v ps) (hb:Below w.heap.size w w'):ORow w' v ps:=⟨h.1.stay hb,fun p hp=>(h.2 p hp).stay hb⟩
theorem ORow.at {w:World} {v:Value} {ps:List Om} (h:ORow w v ps) {i:Nat} {p:Om} (hp:ps[i]?=some p) :
 ∃ (g off cap:Nat),v = .slice (some ⟨g,off,none⟩) ps.length cap∧g<w.heap.size∧ps.length≤cap∧(∀ j u,(oc p)[j]?=some u→w.cell? ⟨g,off+i * 8+j,none⟩=some u)∧OpM w p:=by
 rcases h.1 with ⟨r,cap,rfl,rfl⟩ | ⟨g,off,cap,rfl,h3,h4,h5,h6⟩
 ·simp at hp
 ·obtain ⟨hi,e⟩:=List.getElem?_eq_some_iff.1 hp
  exact ⟨g,off,cap,rfl,h3,h5,fun j u hu=>h6 i p hp j u hu,h.2 p (by rw [← e];exact List.getElem_mem hi)⟩
structure OpOwn (base:Nat) (w:World) (p:Om):Prop where
 parts:w.ownsRow base 94 2 p.vP p.o.parts.length (p.o.parts.flatMap ptc)
 starts:w.ownsRow base 37 1 p.vS p.o.starts.length (p.o.starts.flatMap dcl)
 few:p.o.parts.length≤8∧p.o.starts.length≤1000000
theorem OpOwn.below {base:Nat} {w w':World} {p:Om} (h:OpOwn base w p) (hb:Below w.heap.size w w'):OpOwn base w' p:=⟨owns_below h.parts hb,owns_below h.starts hb,h.few⟩
theorem OpOwn.mono {base base':Nat} {w:World} {p:Om} (h:OpOwn base w p) (hb:base'≤base):OpOwn base' w p:=⟨owns_mono h.parts hb,owns_mono h.starts hb,h.few⟩
structure OOwn (base:Nat) (w:World) (v:Value) (ps:List Om):Prop where
 row:w.ownsRow base 49 8 v ps.length (ps.flatMap oc)
 ops:∀ p ∈ ps,OpOwn base w p
theorem OOwn.nil (base:Nat) (w:World):OOwn base w (.slice none 0 0) []:=⟨⟨rfl,.inl ⟨rfl,rfl⟩⟩,fun p hp=>by cases hp⟩
theorem OOwn.below {base:Nat} {w w':World} {v:Value} {ps:List Om} (h:OOwn base w v ps) (hb:Below w.heap.size w w'):OOwn base w' v ps:=⟨owns_below h.row hb,fun p hp=>(h.ops p hp).below hb⟩
theorem OOwn.push {base:Nat} {w w':World} {v v':Value} {ps:List Om} {p:Om} (h:OOwn base w v ps) (hp:OpOwn base w p) (hg:w.grownBy w' v.ownBlock)
 (ho:w'.ownsRow base 49 8 v' (ps.length+1) (ps.flatMap oc ++ oc p)):OOwn base w' v' (ps ++ [p]):=by
 have key:∀ q,OpOwn base w q→OpOwn base w' q:=fun q hq =>
  ⟨hq.parts.kept hg (owns_apart hq.parts h.row (by decide)),hq.starts.kept hg (owns_apart hq.starts h.row (by decide)),hq.few⟩
 refine ⟨?_,fun q hq=>?_⟩
 ·rw [List.length_append,flat_snoc]
  exact ho
 ·rcases List.mem_append.1 hq with h1 | h1
  ·exact key q (h.ops q h1)
  ·rw [List.mem_singleton] at h1
   subst h1
   exact key q hp

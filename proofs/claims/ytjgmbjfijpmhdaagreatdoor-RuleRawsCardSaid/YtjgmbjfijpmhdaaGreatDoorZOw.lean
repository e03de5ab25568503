/- Rows of one's own: apart from one another, in a world that has grown; blocks known whole. -/
import Derived.Test.YtjgmbjfijpmhdaaGreatDoorZBa
import Derived.WalkKit
import Derived.Carry
import Derived.Laws.OwnMore
import Derived.Deep.Heap
import Derived.Maps.AppendAt
namespace Go.Proofs.YtjgmbjfijpmhdaaGreatDoor
open Go.RowKit
set_option linter.unusedVariables false
set_option linter.unusedSimpArgs false
theorem owns_below {w w':World} {base:Nat} {e:TypeId} {size:Nat} {v:Value} {n:Nat} {xs:List Value} (h:w.ownsRow base e size v n xs) (hb:Below w.heap.size w w'):w'.ownsRow base e size v n xs :=
 h.kept (row:=none) ⟨hb.os,hb.tape,hb.output,hb.size,fun k hk _=>hb.block k hk⟩ (by
  cases hv:v.ownBlock with
  | none=>exact .inl rfl
  | some k=>exact .inr (by simp))
theorem owns_far {w:World} {base:Nat} {e:TypeId} {size:Nat} {r:Option Addr} {n cap m:Nat} {xs:List Value} (h:w.ownsRow base e size (.slice r n cap) n xs) (hm:m<base∨w.heap.size≤m):(Value.slice r n cap).ownBlock≠some m:=fun e=>by
 have:=h.lt m e
 omega
theorem owns_mono {w:World} {base base':Nat} {e:TypeId} {size:Nat} {v:Value} {n:Nat} {xs:List Value} (h:w.ownsRow base e size v n xs) (hb:base'≤base):w.ownsRow base' e size v n xs:=by
 refine ⟨h.1,?_⟩
 rcases h.2 with h0 | ⟨g,cap,cur,h1,h2,h3⟩
 ·exact .inl h0
 ·exact .inr ⟨g,cap,cur,h1,Nat.le_trans hb h2,h3⟩
theorem owns_type_far {w:World} {base:Nat} {e T:TypeId} {size:Nat} {r:Option Addr} {n cap g:Nat} {xs:List Value} {c:Array Value} (h:w.ownsRow base e size (.slice r n cap) n xs) (hg:w.heap[g]?=some (.cells c T (0,0))) (hne:e≠T):(Value.slice r n cap).ownBlock≠some g:=fun he=>by
 rcases h.2 with ⟨h1,_⟩ | ⟨k,cp,cur,h1,_,h2,_⟩
 ·cases h1;cases he
 ·cases h1
  cases he
  rw [h2] at hg
  injection hg with hg
  injection hg with _ h3
  exact hne h3
structure RBox (w:World) (b:Nat) (cs:List Value):Prop where
 size:b<w.heap.size
 at_:∀ j v,cs[j]?=some v→w.cell? ⟨b,j,none⟩=some v
theorem RBox.new (w:World) (cs:List Value) (T:TypeId):RBox (w.alloc (.cells cs.toArray T)) w.heap.size cs :=
 ⟨by simp,fun j v h=>box_cell w _ T j v (by simpa using h)⟩
theorem RBox.stay {w w':World} {b:Nat} {cs:List Value} (h:RBox w b cs) (hb:Below w.heap.size w w'):RBox w' b cs :=
 ⟨Nat.lt_of_lt_of_le h.size hb.size,fun j v hj=>(hb.cell (p:=⟨b,j,none⟩) h.size).trans (h.at_ j v hj)⟩
theorem RBox.alloc {w:World} {b:Nat} {cs:List Value} (h:RBox w b cs) (o:Obj):RBox (w.alloc o) b cs:=h.stay ((Below.refl _ _).alloc (Nat.le_refl _) o)
def HBox (w:World) (b:Nat) (cs:List Value) (T:TypeId):Prop:=w.heap[b]?=some (.cells cs.toArray T (0,0))
theorem HBox.new (w:World) (cs:List Value) (T:TypeId):HBox (w.alloc (.cells cs.toArray T)) w.heap.size cs T:=heap_alloc_new w _
theorem HBox.size {w:World} {b:Nat} {cs:List Value} {T:TypeId} (h:HBox w b cs T):b<w.heap.size:=(Array.getElem?_eq_some_iff.1 h).1
theorem HBox.cell {w:World} {b:Nat} {cs:List Value} {T:TypeId} (h:HBox w b cs T) {j:Nat} {v:Value} (hj:cs[j]?=some v):w.cell? ⟨b,j,none⟩=some v:=by
 have h':w.heap[b]?=some (.cells cs.toArray T (0,0)):=h
 simp [World.cell?,h',hj]
theorem HBox.frozen {w:World} {b:Nat} {cs:List Value} {T:TypeId} (h:HBox w b cs T) (j:Nat):w.frozen? ⟨b,j,none⟩=false:=by
 have h':w.heap[b]?=some (.cells cs.toArray T (0,0)):=h
 simp [World.frozen?,h']
theorem HBox.stay {w w':World} {b:Nat} {cs:List Value} {T:TypeId} (h:HBox w b cs T) (hb:Below w.heap.size w w'):HBox w' b cs T:=(hb.block b h.size).trans h
theorem HBox.alloc {w:World} {b:Nat} {cs:List Value} {T:TypeId} (h:HBox w b cs T) (o:Obj):HBox (w.alloc o) b cs T:=h.stay ((Below.refl _ _).alloc (Nat.le_refl _) o)
theorem HBox.grown {w w':World} {b:Nat} {cs:List Value} {T:TypeId} {row:Option Nat} (h:HBox w b cs T) (hg:w.grownBy w' row) (hne:some b≠row):HBox w' b cs T:=(hg.block b h.size hne).trans h
theorem HBox.set {w:World} {b:Nat} {cs:List Value} {T:TypeId} (h:HBox w b cs T) (j:Nat) (u:Value):HBox (w.setCell ⟨b,j,none⟩ u) b (cs.set j u) T:=by
 have h':w.heap[b]?=some (.cells cs.toArray T (0,0)):=h
 unfold HBox
 simp only [World.setCell,Array.getElem?_modify,h',if_true]
 simp
theorem HBox.far {w:World} {b:Nat} {cs:List Value} {T e:TypeId} {base size:Nat} {r:Option Addr} {n cap:Nat} {xs:List Value} (h:HBox w b cs T) (ho:w.ownsRow base e size (.slice r n cap) n xs) (hne:e≠T):(Value.slice r n cap).ownBlock≠some b:=owns_type_far ho h hne
theorem owns_apart {w:World} {base base':Nat} {e e':TypeId} {size size':Nat} {v v':Value} {n n':Nat} {xs xs':List Value} (h:w.ownsRow base e size v n xs) (h':w.ownsRow base' e' size' v' n' xs') (hne:e≠e'):v.ownBlock=none∨v.ownBlock≠v'.ownBlock:=by
 rcases h.2 with ⟨h1,_⟩ | ⟨k,cp,cur,h1,_,h2,_⟩
 ·subst h1;exact .inl rfl
 ·subst h1
  refine .inr ?_
  rcases h'.2 with ⟨g1,_⟩ | ⟨k',cp',cur',g1,_,g2,_⟩
  ·subst g1
   intro he
   cases he
  ·subst g1
   intro he
   have e:k=k':=Option.some.inj he
   subst e
   rw [h2] at g2
   injection g2 with g2
   injection g2 with _ h3
   exact hne h3
theorem grownBy_set (w:World) (a:Addr) (u:Value):w.grownBy (w.setCell a u) (some a.block) :=
 ⟨rfl,rfl,rfl,by simp,fun k hk hne=>by
  have h:k≠a.block:=fun e=>hne (by rw [e])
  simp only [World.setCell,Array.getElem?_modify]
  rw [if_neg (fun e=>h e.symm)]⟩
theorem RBox.grown {w w':World} {b:Nat} {cs:List Value} {row:Option Nat} (h:RBox w b cs) (hg:w.grownBy w' row) (hne:some b≠row):RBox w' b cs :=
 ⟨Nat.lt_of_lt_of_le h.size hg.size,fun j v hj=>(World.cell?_of_block (a:=⟨b,j,none⟩) (hg.block b h.size hne)).trans (h.at_ j v hj)⟩
theorem grown_sets (w:World) (b:Nat) (d0 d1 d2 d3:Value):w.grownBy ((((w.setCell ⟨b,0,none⟩ d0).setCell ⟨b,1,none⟩ d1).setCell ⟨b,2,none⟩ d2).setCell ⟨b,3,none⟩ d3) (some b) :=
 (((grownBy_set w ⟨b,0,none⟩ d0).trans (grownBy_set _ ⟨b,1,none⟩ d1)).trans (grownBy_set _ ⟨b,2,none⟩ d2)).trans (grownBy_set _ ⟨b,3,none⟩ d3)

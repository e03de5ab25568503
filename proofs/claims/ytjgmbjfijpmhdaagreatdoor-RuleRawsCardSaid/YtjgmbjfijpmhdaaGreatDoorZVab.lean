/- Maps whose keys and elements are plain values, as lists: what a look-up, a store, a length, a range give. Speaks of any program. -/
import Derived.Maps.RangeWalk
import Derived.DeepKeys4
import Derived.Maps.Keyed
import Derived.OwnWalk
import Derived.Below
namespace Go.Proofs.YtjgmbjfijpmhdaaGreatDoor
open Go.RowKit Go.MapKept
open Go.ChangeMaps (setBlock heap_setBlock_same heap_setBlock_other)
set_option linter.unusedVariables false
set_option linter.unusedSimpArgs false
section
variable {κ β:Type} [DecidableEq κ]
def getK:List (κ × β)→κ→Option β
 | [],_=>none
 | p :: r,x=>if p.1=x then some p.2 else getK r x
def putK:List (κ × β)→κ→β→List (κ × β)
 | [],x,v=>[(x,v)]
 | p :: r,x,v=>if p.1=x then (x,v) :: r else p :: putK r x v
theorem getK_none {x:κ}:∀ {L:List (κ × β)},getK L x=none ↔ ∀ p ∈ L,p.1≠x
 | []=>by simp [getK]
 | p :: r=>by
  unfold getK
  by_cases h:p.1=x
  ·simp [h]
  ·simp [h,getK_none (L:=r)]
theorem getK_of_mem {x:κ} {v:β}:∀ {L:List (κ × β)},(L.map Prod.fst).Nodup→(x,v) ∈ L→getK L x=some v
 | [],_,h=>by simp at h
 | p :: r,hn,h=>by
  simp only [List.map_cons,List.nodup_cons] at hn
  unfold getK
  rcases List.mem_cons.1 h with h | h
  ·subst h;simp
  ·have:p.1≠x:=fun e=>hn.1 (List.mem_map.2 ⟨(x,v),h,e.symm⟩)
   rw [if_neg this]
   exact getK_of_mem hn.2 h
theorem putK_new {x:κ} {v:β}:∀ {L:List (κ × β)},getK L x=none→putK L x v=L ++ [(x,v)]
 | [],_=>rfl
 | p :: r,h=>by
  unfold getK at h
  by_cases h1:p.1=x
  ·rw [if_pos h1] at h;cases h
  ·rw [if_neg h1] at h
   unfold putK
   rw [if_neg h1,putK_new h];rfl
theorem putK_set {x:κ} {v:β}:∀ {L:List (κ × β)} {j:Nat} {w:β},(L.map Prod.fst).Nodup→L[j]?=some (x,w)→putK L x v=L.set j (x,v)
 | [],j,w,_,h=>by simp at h
 | p :: r,0,w,hn,h=>by
  simp only [List.getElem?_cons_zero,Option.some.injEq] at h
  subst h
  simp [putK]
 | p :: r,j+1,w,hn,h=>by
  simp only [List.getElem?_cons_succ] at h
  simp only [List.map_cons,List.nodup_cons] at hn
  have:p.1≠x:=fun e=>hn.1 (List.mem_map.2 ⟨(x,w),List.mem_of_getElem? h,e.symm⟩)
  unfold putK
  rw [if_neg this,putK_set hn.2 h];rfl
end
section
variable {κ β:Type} {P:Program} {t k e:TypeId} {enc:κ→Value} {ven:β→Value} {z:β}
structure MapT (P:Program) (t k e:TypeId) (enc:κ→Value) (ven:β→Value) (z:β):Prop where
 law:Maps.Keyed P k
 und:P.underlying t=some (.map k e)
 key:∀ x,∃ q,keyOf P k (enc x)=some q
 inj:∀ x y,enc x=enc y→x=y
 zero:∀ w,(zeroValue e).run P w = .ok (ven z) w
def MapOf (enc:κ→Value) (ven:β→Value) (b:Nat) (L:List (κ × β)) (w:World):Prop :=
 ∃ es clock,w.heap[b]?=some (.map es clock)∧Stamped es clock∧es.toList.map (fun x=>(x.key,x.val))=L.map (fun p=>(enc p.1,ven p.2))
theorem MapOf.made (w:World):MapOf enc ven w.heap.size [] (w.alloc (.map #[] 0)):=⟨#[],0,heap_alloc_new w _,stamped_empty 0,rfl⟩
theorem MapOf.lt {b:Nat} {L:List (κ × β)} {w:World} (h:MapOf enc ven b L w):b<w.heap.size:=by
 obtain ⟨es,clock,hb,_⟩:=h
 exact (Array.getElem?_eq_some_iff.1 hb).1
theorem MapOf.same {b:Nat} {L:List (κ × β)} {w w':World} (h:MapOf enc ven b L w) (hb':w'.heap[b]?=w.heap[b]?):MapOf enc ven b L w':=by
 obtain ⟨es,clock,hb,r⟩:=h
 exact ⟨es,clock,hb'.trans hb,r⟩
theorem MapOf.below {b:Nat} {L:List (κ × β)} {w w':World} {B:Nat} (h:MapOf enc ven b L w) (hb:Below B w w') (hB:b<B):MapOf enc ven b L w':=h.same (hb.block b hB)
theorem keys_of {es:Array MapEntry} {L:List (κ × β)} (h:es.toList.map (fun x=>(x.key,x.val))=L.map (fun p=>(enc p.1,ven p.2))):es.toList.map (·.key)=L.map (fun p=>enc p.1):=by
 have:=congrArg (List.map Prod.fst) h
 simpa [List.map_map,Function.comp_def] using this
theorem MapOf.nodup {b:Nat} {L:List (κ × β)} {w:World} (h:MapOf enc ven b L w):(L.map Prod.fst).Nodup:=by
 obtain ⟨es,clock,_,⟨_,_,h3⟩,h4⟩:=h
 rw [keys_of h4] at h3
 have:L.map (fun p=>enc p.1)=(L.map Prod.fst).map enc:=by rw [List.map_map];rfl
 rw [this] at h3
 exact List.Pairwise.of_map enc (fun a b hne e=>hne (congrArg enc e)) h3
theorem key_all (M:MapT P t k e enc ven z) {es:Array MapEntry} {L:List (κ × β)} (h:es.toList.map (fun x=>(x.key,x.val))=L.map (fun p=>(enc p.1,ven p.2))):∀ x ∈ es.toList,∃ l,keyOf P k x.key=some l:=by
 intro x hx
 have:x.key ∈ L.map (fun p=>enc p.1):=by rw [← keys_of h];exact List.mem_map.2 ⟨x,hx,rfl⟩
 obtain ⟨p,_,e⟩:=List.mem_map.1 this
 rw [← e];exact M.key p.1
theorem entry_at {es:Array MapEntry} {L:List (κ × β)} (h:es.toList.map (fun x=>(x.key,x.val))=L.map (fun p=>(enc p.1,ven p.2))) {j:Nat} {x:MapEntry} (hx:es.toList[j]?=some x) :
 ∃ p,L[j]?=some p∧x.key=enc p.1∧x.val=ven p.2:=by
 have:=congrArg (fun l=>l[j]?) h
 simp only [List.getElem?_map,hx,Option.map_some] at this
 cases hp:L[j]? with
 | none=>rw [hp] at this;simp at this
 | some p =>
  rw [hp] at this
  simp only [Option.map_some,Option.some.injEq,Prod.mk.injEq] at this
  exact ⟨p,rfl,this.1,this.2⟩
theorem MapT.look_nil (M:MapT P t k e enc ven z) (x:κ) (w:World):(Instr.lookup t (.map none) (enc x) false).run P w = .ok (ven z) w:=by
 obtain ⟨q,hq⟩:=M.key x
 rcases M.law.find w hq [] (by simp) with ⟨h1,_⟩ | ⟨j,e0,h1,h2,_⟩
 ·simp [Instr.lookup,run_underlying M.und,M.law.check w _ hq,h1,M.zero w,Result.andThen]
 ·simp at h2
variable [DecidableEq κ]
theorem MapOf.look (M:MapT P t k e enc ven z) {b:Nat} {L:List (κ × β)} {w:World} (h:MapOf enc ven b L w) (x:κ) (c:Bool) :
 (Instr.lookup t (.map (some b)) (enc x) c).run P w = .ok (if c then .tuple #[ven ((getK L x).getD z),.bool (getK L x).isSome] else ven ((getK L x).getD z)) w:=by
 have hn:=h.nodup
 obtain ⟨es,clock,hb,hs,hL⟩:=h
 obtain ⟨q,hq⟩:=M.key x
 rcases M.law.find w hq es.toList (key_all M hL) with ⟨h1,h2⟩ | ⟨j,e0,h1,h2,h3⟩
 ·have hg:getK L x=none:=getK_none.2 fun p hp e1=>by
   have:enc p.1 ∈ es.toList.map (·.key):=by rw [keys_of hL];exact List.mem_map.2 ⟨p,hp,rfl⟩
   obtain ⟨y,hy,e2⟩:=List.mem_map.1 this
   exact h2 y hy (by rw [e2,e1])
  simp [Instr.lookup,run_underlying M.und,MapKept.run_getObj_map hb,M.law.check w _ hq,h1,M.zero w,hg,Result.andThen]
 ·obtain ⟨p,hp,e1,e2⟩:=entry_at hL h2
  have e3:p.1=x:=M.inj _ _ (by rw [← e1,h3])
  have hg:getK L x=some p.2:=getK_of_mem hn (by rw [← e3];exact List.mem_of_getElem? hp)
  simp [Instr.lookup,run_underlying M.und,MapKept.run_getObj_map hb,M.law.check w _ hq,h1,hg,e2,Result.andThen]
theorem MapOf.store (M:MapT P t k e enc ven z) {b:Nat} {L:List (κ × β)} {w:World} (h:MapOf enc ven b L w) (x:κ) (v:β) :
 ∃ w',(Instr.mapUpdate t (.map (some b)) (enc x) (ven v)).run P w = .ok () w'∧MapOf enc ven b (putK L x v) w'∧w.grownBy w' (some b)∧w'.heap.size=w.heap.size:=by
 have hn:=h.nodup
 obtain ⟨es,clock,hb,hs,hL⟩:=h
 obtain ⟨q,hq⟩:=M.key x
 rcases M.law.find w hq es.toList (key_all M hL) with ⟨h1,h2⟩ | ⟨j,e0,h1,h2,h3⟩
 ·have hg:getK L x=none:=getK_none.2 fun p hp e1=>by
   have:enc p.1 ∈ es.toList.map (·.key):=by rw [keys_of hL];exact List.mem_map.2 ⟨p,hp,rfl⟩
   obtain ⟨y,hy,e2⟩:=List.mem_map.1 this
   exact h2 y hy (by rw [e2,e1])
  refine ⟨setBlock w b (.map (es.push ⟨enc x,ven v,clock⟩) (clock+1)),?_,⟨_,_,heap_setBlock_same hb _,stamped_push hs h2,?_⟩,⟨rfl,rfl,rfl,by simp [setBlock],fun i _ hi=>heap_setBlock_other hb _ (fun e=>hi (by rw [e]))⟩,by simp [setBlock]⟩
  ·simp [Instr.mapUpdate,run_underlying M.und,MapKept.run_getObj_map hb,M.law.check w false hq,h1,MapKept.run_setObj_map _ hb,Result.andThen,setBlock]
  ·rw [putK_new hg,Array.toList_push,List.map_append,List.map_append,hL];rfl
 ·have hj:es[j]?=some e0:=by simpa using h2
  obtain ⟨p,hp,e1,e2⟩:=entry_at hL h2
  have e3:p.1=x:=M.inj _ _ (by rw [← e1,h3])
  have hset:putK L x v=L.set j (x,v):=putK_set hn (w:=p.2) (by rw [hp,← e3])
  have hkeyf:∀ e',es[j]?=some e'→({ e' with key:=enc x,val:=ven v }:MapEntry).key=e'.key:=fun e' he'=>by rw [hj] at he';cases he';exact h3.symm
  have hlist:(es.modify j (fun e'=>{ e' with key:=enc x,val:=ven v })).toList=es.toList.set j { e0 with key:=enc x,val:=ven v }:=by rw [Array.toList_modify,ChangeMaps.modify_eq_set _ _ _ _ h2]
  refine ⟨setBlock w b (.map (es.modify j (fun e'=>{ e' with key:=enc x,val:=ven v })) clock),?_,⟨_,_,heap_setBlock_same hb _,stamped_modify hs _ _ (fun _ _=>rfl) (fun e' _ he'=>hkeyf e' he'),?_⟩,⟨rfl,rfl,rfl,by simp [setBlock],fun i _ hi=>heap_setBlock_other hb _ (fun e=>hi (by rw [e]))⟩,by simp [setBlock]⟩
  ·simp [Instr.mapUpdate,run_underlying M.und,MapKept.run_getObj_map hb,M.law.check w false hq,h1,hj,h3,M.law.stays w hq,MapKept.run_setObj_map _ hb,Result.andThen,setBlock]
  ·rw [hlist,hset,List.map_set,List.map_set,hL]
end
section
variable {κ β:Type} {P:Program} {t k e:TypeId} {enc:κ→Value} {ven:β→Value} {z:β}
def RangeOf (enc:κ→Value) (ven:β→Value) (b r:Nat) (L left:List (κ × β)) (w:World):Prop :=
 r≠b ∧ ∃ es clock since seen c0,w.heap[b]?=some (.map es clock)∧Stamped es clock∧es.toList.map (fun x=>(x.key,x.val))=L.map (fun p=>(enc p.1,ven p.2)) ∧
  w.heap[r]?=some (.mapIter (some b) since seen c0)∧(∀ x ∈ es.toList,x.born<since)∧since≤c0∧since≤clock∧(leftOf es seen).toList.map (fun x=>(x.key,x.val))=left.map (fun p=>(enc p.1,ven p.2))
theorem RangeOf.owns {b r:Nat} {L left:List (κ × β)} {w:World} (h:RangeOf enc ven b r L left w):MapOf enc ven b L w:=by
 obtain ⟨_,es,clock,since,seen,c0,hb,hs,hL,_⟩:=h
 exact ⟨es,clock,hb,hs,hL⟩
theorem RangeOf.lt {b r:Nat} {L left:List (κ × β)} {w:World} (h:RangeOf enc ven b r L left w):r<w.heap.size:=by
 obtain ⟨_,es,clock,since,seen,c0,_,_,_,hr,_⟩:=h
 exact (Array.getElem?_eq_some_iff.1 hr).1
theorem RangeOf.same {b r:Nat} {L left:List (κ × β)} {w w':World} (h:RangeOf enc ven b r L left w) (hb':w'.heap[b]?=w.heap[b]?) (hr':w'.heap[r]?=w.heap[r]?):RangeOf enc ven b r L left w':=by
 obtain ⟨hne,es,clock,since,seen,c0,hb,hs,hL,hr,x⟩:=h
 exact ⟨hne,es,clock,since,seen,c0,hb'.trans hb,hs,hL,hr'.trans hr,x⟩
theorem MapOf.range (M:MapT P t k e enc ven z) {b:Nat} {L:List (κ × β)} {w:World} (h:MapOf enc ven b L w) :
 ∃ w',(Instr.range t (.map (some b))).run P w = .ok (.pointer (some ⟨w.heap.size,0,none⟩)) w'∧RangeOf enc ven b w.heap.size L L w'∧Below w.heap.size w w'∧w'.heap.size=w.heap.size+1:=by
 have hlt:=h.lt
 obtain ⟨es,clock,hb,hs,hL⟩:=h
 refine ⟨_,run_range_map w t k e b es clock M.und hb,⟨by omega,es,clock,clock,#[],clock,((MapKept.heap_alloc w _).2 b hlt).trans hb,hs,hL,heap_alloc_new w _,hs.1,Nat.le_refl _,Nat.le_refl _,?_⟩,(Below.refl _ _).alloc (Nat.le_refl _) _,by simp⟩
 rw [← hL]
 congr 1
 unfold leftOf
 rw [Array.toList_filter]
 exact List.filter_eq_self.2 fun x _=>by simp
theorem strike {l:List MapEntry} (hn:(l.map (·.born)).Nodup) {x:MapEntry} (hx:x ∈ l):∃ A B,l=A ++ x :: B∧l.filter (fun y=>!(y.born == x.born))=A ++ B:=by
 obtain ⟨A,B,rfl⟩:=List.append_of_mem hx
 refine ⟨A,B,rfl,?_⟩
 simp only [List.map_append,List.map_cons] at hn
 have h1:=List.nodup_append.1 hn
 have hA:∀ y ∈ A,y.born≠x.born:=fun y hy=>h1.2.2 _ (List.mem_map.2 ⟨y,hy,rfl⟩) _ (List.mem_cons_self ..)
 have hB:∀ y ∈ B,y.born≠x.born:=fun y hy e=>(List.nodup_cons.1 h1.2.1).1 (List.mem_map.2 ⟨y,hy,e⟩)
 rw [List.filter_append,List.filter_cons]
 have e1:A.filter (fun y=>!(y.born == x.born))=A:=List.filter_eq_self.2 fun y hy=>by simp [hA y hy]
 have e2:B.filter (fun y=>!(y.born == x.born))=B:=List.filter_eq_self.2 fun y hy=>by simp [hB y hy]
 simp [e1,e2]
theorem left_push (es:Array MapEntry) (seen:Array Nat) (x:MapEntry):(leftOf es (seen.push x.born)).toList=(leftOf es seen).toList.filter (fun y=>!(y.born == x.born)):=by
 unfold leftOf
 rw [Array.toList_filter,Array.toList_filter,List.filter_filter]
 congr 1
 funext y
 rw [contains_push]
 cases seen.contains y.born <;> cases (y.born == x.born) <;> rfl
theorem map_split {l A B:List MapEntry} {x:MapEntry} {left:List (κ × β)} (h:(A ++ x :: B).map (fun x=>(x.key,x.val))=left.map (fun p=>(enc p.1,ven p.2))) :
 ∃ A' p B',left=A' ++ p :: B'∧x.key=enc p.1∧x.val=ven p.2∧(A ++ B).map (fun x=>(x.key,x.val))=(A' ++ B').map (fun p=>(enc p.1,ven p.2)):=by
 rw [List.map_append] at h
 obtain ⟨A',C,rfl,hA,hC⟩:=List.map_eq_append_iff.1 h.symm
 rw [List.map_cons] at hC
 obtain ⟨p,B',rfl,hp,hB⟩:=List.map_eq_cons_iff.1 hC
 simp only [Prod.mk.injEq] at hp
 exact ⟨A',p,B',rfl,hp.1.symm,hp.2.symm,by rw [List.map_append,List.map_append,hA,hB]⟩
theorem RangeOf.next (M:MapT P t k e enc ven z) {b r:Nat} {L left:List (κ × β)} {w:World} (h:RangeOf enc ven b r L left w) (ty:TypeId) :
 (left=[]∧(Instr.next (.pointer (some ⟨r,0,none⟩)) false ty).run P w = .ok (.tuple #[.bool false]) w) ∨
 ∃ A p B w',left=A ++ p :: B∧(Instr.next (.pointer (some ⟨r,0,none⟩)) false ty).run P w = .ok (.tuple #[.bool true,enc p.1,ven p.2]) w'∧RangeOf enc ven b r L (A ++ B) w'∧w.grownBy w' (some r)∧w'.heap.size=w.heap.size ∧
  (Instr.entry (.pointer (some ⟨r,0,none⟩))).run P w' = .ok (.tuple #[enc p.1,ven p.2]) w':=by
 obtain ⟨hne,es,clock,since,seen,c0,hb,hs,hL,hr,hold,hsc,hsk,hl⟩:=h
 have hst:=(stamped_iff es clock).1 hs
 rcases run_next_at (P:=P) w ty r b since c0 seen es clock hr hb hold hsc with ⟨h0,hrun⟩ | ⟨x,hx,w1,hal,hrun⟩
 ·refine Or.inl ⟨?_,hrun⟩
  have:(leftOf es seen).toList=[]:=List.eq_nil_of_length_eq_zero (by simpa using h0)
  rw [this] at hl
  exact (List.map_eq_nil_iff.1 hl.symm)
 ·have hsub:(leftOf es seen).toList.Sublist es.toList:=by unfold leftOf;rw [Array.toList_filter];exact List.filter_sublist
  obtain ⟨A,B,hAB,hf⟩:=strike ((hsub.map (·.born)).nodup hst.2.1) hx
  rw [hAB] at hl
  obtain ⟨A',p,B',hleft,e1,e2,hmap⟩:=map_split (l:=(leftOf es seen).toList) hl
  have hr1:w1.heap[r]?=some (.mapIter (some b) since seen c0):=by rcases hal with rfl | rfl <;> exact hr
  have hb1:w1.heap[b]?=some (.map es clock):=by rcases hal with rfl | rfl <;> exact hb
  have hset:=heap_set (o':=.mapIter (some b) since (seen.push x.born) clock) hr1
  have hb':(setBlock w1 r (.mapIter (some b) since (seen.push x.born) clock)).heap[b]?=some (.map es clock):=(hset.2 b (fun e1=>hne e1.symm)).trans hb1
  rw [e1,e2] at hrun
  have hen:=run_entry_at (P:=P) _ r b since seen es clock x hset.1 hb' (hsub.subset hx) hst.2.1
  rw [e1,e2] at hen
  refine Or.inr ⟨A',p,B',_,hleft,hrun,⟨hne,es,clock,since,seen.push x.born,clock,hb',hs,hL,hset.1,hold,hsk,hsk,?_⟩,?_,?_,hen⟩
  ·rw [left_push,hf,hmap]
  ·rcases hal with rfl | rfl <;> exact ⟨rfl,rfl,rfl,by simp [setBlock],fun i _ hi=>hset.2 i (fun e1=>hi (by rw [e1]))⟩
  ·rcases hal with rfl | rfl <;> simp [setBlock]
section
variable (w:World) {ops:Array Oper} {rest:List Oper} {o:Oper} {a:Act} {Q:Exit→Act→World→Prop}
end
theorem MapOf.len (M:MapT P t k e enc ven z) {b:Nat} {L:List (κ × β)} {w:World} (h:MapOf enc ven b L w) (ty:TypeId):(Builtin.len_ #[t] ty #[.map (some b)]).run P w = .ok (goInt L.length) w:=by
 obtain ⟨es,clock,hb,hs,hL⟩:=h
 have hsz:es.size=L.length:=by have:=congrArg List.length hL;simpa using this
 simp [Builtin.len_,run_underlying M.und,MapKept.run_getObj_map hb,hsz]
end
end Go.Proofs.YtjgmbjfijpmhdaaGreatDoor
namespace Go.Proofs.YtjgmbjfijpmhdaaGreatDoor
open Go.RowKit
set_option linter.unusedVariables false
set_option linter.unusedSimpArgs false
structure Kt where
 a:Nat
 e:Nat
 p:Nat
 ha:a<4294967296
 he:e<65536
 hp:p<65536
 deriving DecidableEq
instance:Inhabited Kt:=⟨⟨0,0,0,by omega,by omega,by omega⟩⟩
theorem Kt.eq_of {x y:Kt} (h1:x.a=y.a) (h2:x.e=y.e) (h3:x.p=y.p):x=y:=by
 obtain ⟨a,e,p,_,_,_⟩:=x
 obtain ⟨a',e',p',_,_,_⟩:=y
 simp only at h1 h2 h3
 subst h1 h2 h3
 rfl
def Kt.small (x:Kt):Kt:=⟨x.a % 4,x.e % 3,x.p % 3,by omega,by omega,by omega⟩
def kv (x:Kt):Value:=.agg #[.int .u32 (x.a:Int),.int .u16 (x.e:Int),.int .u16 (x.p:Int)]
section
variable {α:Type} (f:α→Nat)
def Rises (l:List α):Prop:=l.Pairwise (fun x y=>f x<f y)
variable {f}
theorem Rises.ext (hf:∀ x y,f x=f y→x=y):∀ {l m:List α},Rises f l→Rises f m→(∀ x,x ∈ l ↔ x ∈ m)→l=m
 | [],[],_,_,_=>rfl
 | [],y :: m,_,_,h=>by have:=(h y).2 (List.mem_cons_self ..);simp at this
 | x :: l,[],_,_,h=>by have:=(h x).1 (List.mem_cons_self ..);simp at this
 | x :: l,y :: m,h1,h2,h=>by
  unfold Rises at h1 h2
  rw [List.pairwise_cons] at h1 h2
  have hxy:x=y:=by
   rcases List.mem_cons.1 ((h x).1 (List.mem_cons_self ..)) with e | e
   ·exact e
   ·rcases List.mem_cons.1 ((h y).2 (List.mem_cons_self ..)) with e' | e'
    ·exact e'.symm
    ·have a:=h2.1 x e
     have b:=h1.1 y e'
     omega
  subst hxy
  rw [Rises.ext hf h1.2 h2.2 fun z=>?_]
  constructor
  ·intro hz
   rcases List.mem_cons.1 ((h z).1 (List.mem_cons_of_mem _ hz)) with e | e
   ·subst e;have:=h1.1 z hz;omega
   ·exact e
  ·intro hz
   rcases List.mem_cons.1 ((h z).2 (List.mem_cons_of_mem _ hz)) with e | e
   ·subst e;have:=h2.1 z hz;omega
   ·exact e
theorem Rises.step {l:List α} (h:Rises f l) {i:Nat} {x y:α} (hx:l[i]?=some x) (hy:l[i+1]?=some y):f x<f y:=by
 obtain ⟨h1,e1⟩:=List.getElem?_eq_some_iff.1 hx
 obtain ⟨h2,e2⟩:=List.getElem?_eq_some_iff.1 hy
 have:=List.pairwise_iff_getElem.1 h i (i+1) h1 h2 (by omega)
 rwa [e1,e2] at this
end
section
variable {κ:Type} [DecidableEq κ]
def sumK (l:List (κ × Int)) (y:κ):Option Int:=l.foldl (fun o p=>if p.1=y then some (o.getD 0+p.2) else o) none
theorem foldl_shift (y:κ):∀ (l:List (κ × Int)) (o:Option Int),l.foldl (fun o p=>if p.1=y then some (o.getD 0+p.2) else o) o=if l.any (fun p=>decide (p.1=y)) then some (o.getD 0+((l.filter (fun p=>decide (p.1=y))).map Prod.snd).sum) else o
 | [],o=>by simp
 | p :: r,o=>by
  rw [List.foldl_cons,foldl_shift y r]
  by_cases h:p.1=y
  ·rw [if_pos h]
   cases hr:r.any (fun p=>decide (p.1=y)) with
   | true=>simp [h,hr,Int.add_assoc]
   | false =>
    have:r.filter (fun p=>decide (p.1=y))=[]:=by
     rw [List.filter_eq_nil_iff];intro q hq
     have:=List.any_eq_false.1 hr q hq
     simpa using this
    simp [h,hr,this]
  ·have hf:decide (p.1=y)=false:=decide_eq_false h
   rw [if_neg h,List.any_cons,hf,Bool.false_or,List.filter_cons,hf];rfl
theorem sumK_eq (l:List (κ × Int)) (y:κ):sumK l y=if l.any (fun p=>decide (p.1=y)) then some (((l.filter (fun p=>decide (p.1=y))).map Prod.snd).sum) else none:=by
 unfold sumK;rw [foldl_shift];simp
end

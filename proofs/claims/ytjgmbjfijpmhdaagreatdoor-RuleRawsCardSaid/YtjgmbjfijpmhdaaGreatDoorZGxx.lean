/- A slice of records that came in. -/
import Derived.Test.YtjgmbjfijpmhdaaGreatDoorZBa
import Derived.Test.YtjgmbjfijpmhdaaGreatDoorZLall
import Derived.Test.YtjgmbjfijpmhdaaGreatDoorZNall
import Derived.Deep.Slices
import Derived.Test.YtjgmbjfijpmhdaaGreatDoorZMtx
namespace Go.Proofs.YtjgmbjfijpmhdaaGreatDoor
open Go.ChangeShapes Go.WideShapes Go.ChangeAt Go.RowKit Go.Joins
set_option linter.unusedVariables false
set_option linter.unusedSimpArgs false
section
variable {H:Type} {enc:TypeId × Value→H}
end
theorem u16_nat {a:Int} (h:(Lit.int .u16 a).wf=true):∃ n:Nat,a=(n:Int)∧n<65536:=by
 have b:0≤a∧a<65536:=by simp [Lit.wf,IntKind.min,IntKind.max,IntKind.bits,IntKind.signed] at h;omega
 exact ⟨a.toNat,by omega,by omega⟩
section
variable {H:Type} {enc:TypeId × Value→H} {P:Program}
end
section
variable {H:Type} {enc:TypeId × Value→H}
theorem recs_trod {P:Program} {α:Type} {en:α→List Value} {k:Nat} {t e:TypeId} {Q:α→Prop} (hk:∀ x,(en x).length=k) (hk0:0<k) (ht:P.underlying t=some (.slice e)) (hC:P.cellsOf e=k) {W:World} {b fuel:Nat} {held:Bool} {cs:List Value} {x:DataW H × List MemPlace}
 (h:DataW.trod enc P W b (fun _=>true) held fuel t cs=some x) (hrd:∀ {fuel:Nat} {cs:List Value} {x:DataW H × List MemPlace},DataW.trod enc P W b (fun _=>true) held fuel e cs=some x → ∃ z:α,cs=en z∧Q z):∃ (v:Value) (zs:List α),cs=[v]∧Recs en k W v zs ∧ ∀ z ∈ zs,Q z:=by
 rcases Go.Deep.open_slice ht h with ⟨hcs,hx⟩ | ⟨a,len,cap,m,n,D,Pl,hcs,_,hl,hm,hmm,hx,hi⟩
 ·exact ⟨_,[],hcs,.inl ⟨_,_,rfl,rfl⟩,fun z hz=>by cases hz⟩
 ·simp only [if_true] at hmm
  subst hmm
  by_cases h0:len=0
  ·subst h0
   exact ⟨_,[],hcs,.inl ⟨_,_,rfl,rfl⟩,fun z hz=>by cases hz⟩
  ·have hall:∀ i:Fin len,∃ z:α,(∀ j u,(en z)[j]?=some u→W.cell? (a.add (i.val * k+j))=some u)∧Q z:=by
    intro i
    obtain ⟨cs',hc,ht'⟩:=hi i.val (by have:=i.isLt;omega)
    obtain ⟨z,rfl,hq⟩:=hrd ht'
    rw [hC] at hc
    obtain ⟨_,hcl,hat⟩:=World.cells?_some hc
    refine ⟨z,fun j u hu=>?_,hq⟩
    have hj:j<k:=by have:=(List.getElem?_eq_some_iff.1 hu).1;rwa [hk] at this
    rw [← Go.Deep.add_add,hat j hj,hu]
   obtain ⟨f,hfz⟩:=Classical.axiomOfChoice hall
   have hc0:∃ u,W.cell? a=some u:=by
    have hlen:0<(en (f ⟨0,by omega⟩)).length:=by rw [hk];exact hk0
    have:=(hfz ⟨0,by omega⟩).1 0 _ (List.getElem?_eq_getElem hlen)
    have e0:a.add (0 * k+0)=a:=by unfold Addr.add;simp
    rw [e0] at this
    exact ⟨_,this⟩
   obtain ⟨u0,hu0⟩:=hc0
   have hs:=spot_none hu0
   have hab:=World.block_lt_of_cell? W _ hu0
   obtain ⟨ab,ao,sp⟩:=a
   cases hs
   have hofn:(⟨ab,ao,none⟩:Addr)=⟨ab,ao,none⟩:=rfl
   refine ⟨.slice (some ⟨ab,ao,none⟩) (List.ofFn f).length m,List.ofFn f,by rw [hcs,List.length_ofFn],.inr ⟨ab,ao,m,rfl,hab,by rw [List.length_ofFn];unfold maxLen at hm;omega,by rw [List.length_ofFn];exact hl,fun i x hx j u hu=>?_⟩,fun z hz=>?_⟩
   ·have hil:i<len:=by have:=(List.getElem?_eq_some_iff.1 hx).1;simpa using this
    have hx':x=f ⟨i,hil⟩:=by
     rw [List.getElem?_eq_getElem (by simpa using hil)] at hx
     simpa using hx.symm
    subst hx'
    have:=(hfz ⟨i,hil⟩).1 j u hu
    have e1:(⟨ab,ao,none⟩:Addr).add (i * k+j)=⟨ab,ao+i * k+j,none⟩:=by
     unfold Addr.add
     split
     ·rename_i h;simp [h,Nat.add_assoc]
     ·simp [Nat.add_assoc]
    rw [e1] at this
    exact this
   ·obtain ⟨i,rfl⟩:=List.mem_ofFn.1 hz
    exact (hfz i).2
end
theorem u32_natO {a:Int} (h:(Lit.int .u32 a).wf=true):∃ n:Nat,a=(n:Int)∧n<4294967296:=by
 have b:0≤a∧a<4294967296:=by simp [Lit.wf,IntKind.min,IntKind.max,IntKind.bits,IntKind.signed] at h;omega
 exact ⟨a.toNat,by omega,by omega⟩
section
variable {H:Type} {enc:TypeId × Value→H}
end

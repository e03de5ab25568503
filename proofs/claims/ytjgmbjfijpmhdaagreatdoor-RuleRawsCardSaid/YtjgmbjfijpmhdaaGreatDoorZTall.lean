/- A region that draws its order, whose last operation waits for all others, and whose others are quiet in a class of worlds: one walk of the lexical order serves every order; the last operation is met once, in whatever world of the class. Speaks of any program. -/
import Derived.Deep.Quiet
import Derived.Deep.QuietTactic
import Derived.StillTail
import Derived.Lib.QuietBelow
import Derived.BigQuiet
import Derived.StillTactics
import Derived.WalkKit
import Derived.RegionTactic
import Derived.Deep.MidRow
import Derived.OwnWalk
set_option maxHeartbeats 1000000
namespace Go.Proofs.YtjgmbjfijpmhdaaGreatDoor
open Go.Sort
set_option linter.unusedVariables false
set_option linter.unusedSimpArgs false
section
variable {P:Program} {ops:Array Oper} {md:Region.Mode} {C:World→Prop} {n:Nat}
def backB (md:Region.Mode) (ops:Array Oper):Bool:=(List.range ops.size).all fun j=>match ops[j]? with | some o=>o.after.all fun e=>!Region.binds md e || decide (e.on<j) | none=>true
def Closed (md:Region.Mode) (ops:Array Oper) (listed:Array Bool):Prop:=∀ j oj,ops[j]?=some oj→listed.getD j false=true → ∀ e ∈ oj.after,Region.binds md e=true→listed.getD e.on false=true
theorem Closed.set {i:Nat} {listed:Array Bool} (h:Closed md ops listed) (hi:i ∈ Region.ready md ops listed):Closed md ops (listed.setIfInBounds i true):=by
 obtain ⟨_,oi,hoi,hall⟩:=mem_ready.1 hi
 intro j oj hj hl e he hb
 by_cases hij:i=j
 ·subst hij
  have:oj=oi:=Option.some.inj (hj.symm.trans hoi)
  subst this
  exact getD_set_true (hall e he hb)
 ·rw [getD_set_ne false hij] at hl
  exact getD_set_true (h j oj hj hl e he hb)
theorem backB_spec (h:backB md ops=true) {j:Nat} {o:Oper} (ho:ops[j]?=some o):∀ e ∈ o.after,Region.binds md e=true→e.on<j:=by
 intro e he hb
 have hj:=(Array.getElem?_eq_some_iff.1 ho).1
 have h1:=List.all_eq_true.1 h j (List.mem_range.2 hj)
 simp only [ho] at h1
 have h2:=Array.all_eq_true_iff_forall_mem.1 h1 e he
 simp only [hb,Bool.not_true,Bool.false_or,decide_eq_true_eq] at h2
 exact h2
theorem getD_tf {listed:Array Bool} {i:Nat} (hi:i<listed.size):listed.getD i false=true∨listed.getD i true=false:=by
 simp [hi]
theorem progress (hb:backB md ops=true) {listed:Array Bool} (hsz:listed.size=ops.size):∀ (m:Nat),m≤ops.size→(∃ i,i<m∧listed.getD i true=false) → ∃ i,i<m∧i ∈ Region.ready md ops listed
 | 0,_,⟨i,hi,_⟩=>by omega
 | m+1,hm,⟨i,hi,hu⟩=>by
  by_cases h:∃ i,i<m∧listed.getD i true=false
  ·obtain ⟨j,hj,hr⟩:=progress hb hsz m (by omega) h
   exact ⟨j,by omega,hr⟩
  ·have him:i=m:=by
    by_cases e:i=m
    ·exact e
    ·exact absurd ⟨i,by omega,hu⟩ h
   subst him
   refine ⟨i,hi,mem_ready.2 ⟨hu,ops[i],Array.getElem?_eq_getElem (by omega),fun e he hbd=>?_⟩⟩
   have hlt:=backB_spec hb (Array.getElem?_eq_getElem (by omega:i<ops.size)) e he hbd
   rcases getD_tf (listed:=listed) (i:=e.on) (by omega) with h1 | h1
   ·exact h1
   ·exact absurd ⟨e.on,hlt,h1⟩ h
end
end Go.Proofs.YtjgmbjfijpmhdaaGreatDoor
namespace Go.Proofs.YtjgmbjfijpmhdaaGreatDoor
open Go.RowKit
set_option linter.unusedVariables false
set_option linter.unusedSimpArgs false
theorem nodup_below:∀ (b:Nat) (l:List Nat),l.Nodup→(∀ x ∈ l,x<b)→l.length≤b
 | 0,l,_,h=>by
  cases l with
  | nil=>simp
  | cons a r=>have:=h a (List.mem_cons_self ..);omega
 | b+1,l,hn,h=>by
  by_cases hb:b ∈ l
  ·have h1:=nodup_below b (l.erase b) (hn.erase _) fun x hx=>by
    have hx':=(hn.mem_erase_iff).1 hx
    have:=h x hx'.2
    have:=hx'.1
    omega
   rw [List.length_erase_of_mem hb] at h1
   omega
  ·have:=nodup_below b l hn fun x hx=>by
    have:=h x hx
    have hne:x≠b:=fun e=>hb (e ▸ hx)
    omega
   omega
section
variable {P:Program} {ops:Array Oper} {Q:Exit→Act→World→Prop} {md:Region.Mode}
theorem getD_of {listed:Array Bool} {i:Nat} (hi:i<listed.size) (d d':Bool):listed.getD i d=listed.getD i d':=by
 simp [hi]
theorem any_inv {Inv:(Nat→Bool)→Act→World→Prop} (hb:backB md ops=true)
 (step:∀ (l:Nat→Bool) (a:Act) (w:World) (i:Nat) (o:Oper),Inv l a w→ops[i]?=some o→l i=false→(∀ e ∈ o.after,Region.binds md e=true→l e.on=true)→wpOp P ops Q i (fun a' w'=>Inv (fun j=>if j=i then true else l j) a' w') a w)
 (done:∀ (l:Nat→Bool) (a:Act) (w:World),Inv l a w→(∀ i,i<ops.size→l i=true)→Q .normal a w) :
 ∀ (fuel:Nat) (listed:Array Bool) (D:List Nat) (a:Act) (w:World),listed.size=ops.size→D.Nodup→(∀ i,i ∈ D ↔ i<ops.size∧listed.getD i false=true)→D.length+fuel=ops.size →
  Inv (fun j=>listed.getD j false) a w→wpAny P md ops Q fuel listed a w:=by
 have full:∀ (listed:Array Bool),listed.size=ops.size→Region.ready md ops listed=[] → ∀ i,i<ops.size→listed.getD i false=true:=by
  intro listed hs hr i hi
  rcases getD_tf (listed:=listed) (i:=i) (by omega) with h | h
  ·exact h
  ·obtain ⟨j,_,hj⟩:=progress hb hs ops.size (Nat.le_refl _) ⟨i,hi,h⟩
   rw [hr] at hj;cases hj
 intro fuel
 induction fuel with
 | zero =>
  intro listed D a w hs hD hm hl hI
  have hall:∀ i,i<ops.size→listed.getD i false=true:=by
   intro i hi
   by_cases h:i ∈ D
   ·exact ((hm i).1 h).2
   ·have:=nodup_below ops.size (i :: D) (List.nodup_cons.2 ⟨h,hD⟩) (fun x hx=>by
     rcases List.mem_cons.1 hx with rfl | hx
     ·exact hi
     ·exact ((hm x).1 hx).1)
    rw [List.length_cons] at this
    omega
  have hr:Region.ready md ops listed=[]:=List.eq_nil_iff_forall_not_mem.2 fun i hi=>by
   obtain ⟨h1,o,ho,_⟩:=mem_ready.1 hi
   have hlt:=(Array.getElem?_eq_some_iff.1 ho).1
   have h2:=hall i hlt
   rw [getD_of (by omega) false true] at h2
   rw [h2] at h1;cases h1
  exact ⟨hr,done _ a w hI hall⟩
 | succ fuel ih =>
  intro listed D a w hs hD hm hl hI
  refine ⟨fun hr=>done _ a w hI (full listed hs hr),fun i hi=>?_⟩
  obtain ⟨h1,o,ho,h2⟩:=mem_ready.1 hi
  have hlt:=(Array.getElem?_eq_some_iff.1 ho).1
  have h0:listed.getD i false=false:=by rw [getD_of (by omega) false true];exact h1
  refine wpOp_mono (fun a' w' h=>?_) (step _ a w i o hI ho h0 h2)
  refine ih (listed.setIfInBounds i true) (i :: D) a' w' (by simpa using hs) (List.nodup_cons.2 ⟨fun h=>(by rw [((hm i).1 h).2] at h0;cases h0),hD⟩) (fun j=>?_) (by rw [List.length_cons];omega) ?_
  ·rw [List.mem_cons,hm j]
   by_cases e:j=i
   ·subst e
    simp [hlt,hs]
   ·rw [getD_set_ne false (fun h=>e h.symm)]
    simp [e]
  ·have hf:(fun j=>(listed.setIfInBounds i true).getD j false)=(fun j=>if j=i then true else listed.getD j false):=by
    funext j
    by_cases e:j=i
    ·subst e
     simp [hlt,hs]
    ·rw [if_neg e,getD_set_ne false (fun h=>e h.symm)]
   rw [hf]
   exact h
theorem wp_region_inv {id:Nat} {a:Act} {w:World} {l:List Oper} (Inv:(Nat→Bool)→Act→World→Prop) (hm:P.follows .mixedOrders=true) (hb:backB .any l.toArray=true) (h0:Inv (fun _=>false) a w.drew)
 (step:∀ (s:Nat→Bool) (a:Act) (w:World) (i:Nat) (o:Oper),Inv s a w→l.toArray[i]?=some o→s i=false→(∀ e ∈ o.after,Region.binds .any e=true→s e.on=true)→wpOp P l.toArray Q i (fun a' w'=>Inv (fun j=>if j=i then true else s j) a' w') a w)
 (done:∀ (s:Nat→Bool) (a:Act) (w:World),Inv s a w→(∀ i,i<l.toArray.size→s i=true)→Q .normal a w):(Code.region id l.toArray true).wp P Q a w:=by
 refine wp_region_any hm ?_
 change wpAny _ _ _ _ _ _ _ (World.drew _)
 refine any_inv (Inv:=Inv) hb step done _ _ [] a _ (by simp) List.nodup_nil (fun i=>?_) (by simp) ?_
 ·simp
  intro hi
  simp [hi]
 ·have hf:(fun j=>(Array.replicate l.toArray.size false).getD j false)=(fun _=>false):=by
   funext j
   by_cases h:j<l.length <;> simp [h]
  rw [hf]
  exact h0
end
def putL (s:Nat→Bool) (b:Nat→Value):Nat→List Oper→Act→Act
 | _,[],a=>a
 | i,o :: r,a=>putL s b (i+1) r (if s i=true then a.put o.dst (b i) else a)
def distB:List Oper→Bool
 | []=>true
 | o :: r=>(match o.dst with | some d=>r.all (fun y=>y.dst != some d) | none=>true) && distB r
theorem distB_head {o:Oper} {r:List Oper} (h:distB (o :: r)=true):(∀ y ∈ r,∀ d,o.dst=some d→y.dst≠some d)∧distB r=true:=by
 unfold distB at h
 simp only [Bool.and_eq_true] at h
 refine ⟨fun y hy d hd=>?_,h.2⟩
 have h1:=h.1
 rw [hd] at h1
 have:=List.all_eq_true.1 h1 y hy
 simpa using this
theorem putL_put (s:Nat→Bool) (b:Nat→Value) (x:Option Tmp) (v:Value):∀ (l:List Oper) (i:Nat) (a:Act),(∀ y ∈ l,∀ d,x=some d→y.dst≠some d)→putL s b i l (a.put x v)=(putL s b i l a).put x v
 | [],_,_,_=>rfl
 | o :: r,i,a,h=>by
  unfold putL
  have h1:=h o (List.mem_cons_self ..)
  have h2:∀ y ∈ r,∀ d,x=some d→y.dst≠some d:=fun y hy=>h y (List.mem_cons_of_mem _ hy)
  by_cases hs:s i=true
  ·rw [if_pos hs,if_pos hs,Act.put_comm a v (b i) h1,putL_put s b x v r (i+1) _ h2]
  ·rw [if_neg hs,if_neg hs,putL_put s b x v r (i+1) _ h2]
theorem putL_congr {s s':Nat→Bool} {b b':Nat→Value}:∀ (l:List Oper) (i:Nat) (a:Act),(∀ j,i≤j→s j=s' j∧b j=b' j)→putL s b i l a=putL s' b' i l a
 | [],_,_,_=>rfl
 | o :: r,i,a,h=>by
  unfold putL
  obtain ⟨h1,h2⟩:=h i (Nat.le_refl _)
  rw [h1,h2]
  exact putL_congr r (i+1) _ fun j hj=>h j (by omega)
theorem putL_set (s:Nat→Bool) (b:Nat→Value) (v:Value):∀ (l:List Oper) (i k:Nat) (a:Act) (o:Oper),l[k]?=some o→s (i+k)=false→distB l=true →
 putL (fun j=>if j=i+k then true else s j) (fun j=>if j=i+k then v else b j) i l a=(putL s b i l a).put o.dst v
 | [],_,_,_,_,h,_,_=>by simp at h
 | y :: r,i,0,a,o,h,hs,hd=>by
  simp only [List.getElem?_cons_zero,Option.some.injEq] at h
  subst h
  rw [Nat.add_zero] at hs ⊢
  obtain ⟨h1,h2⟩:=distB_head hd
  unfold putL
  rw [hs]
  simp only [if_true,Bool.false_eq_true,if_false]
  rw [← putL_put s b y.dst v r (i+1) a h1]
  exact putL_congr r (i+1) _ fun j hj=>by
   have:¬ j=i:=by omega
   simp [this]
 | y :: r,i,k+1,a,o,h,hs,hd=>by
  simp only [List.getElem?_cons_succ] at h
  obtain ⟨h1,h2⟩:=distB_head hd
  unfold putL
  have hne:¬ i=i+(k+1):=by omega
  simp only [hne,if_false]
  have e:i+(k+1)=i+1+k:=by omega
  rw [e] at hs ⊢
  exact putL_set s b v r (i+1) k _ o h hs h2
theorem putL_far (s:Nat→Bool) (b:Nat→Value) (t:Tmp):∀ (l:List Oper) (i:Nat) (a:Act),(∀ y ∈ l,y.dst≠some t)→(putL s b i l a).eval (.tmp t)=a.eval (.tmp t)
 | [],_,_,_=>rfl
 | o :: r,i,a,h=>by
  unfold putL
  rw [putL_far s b t r (i+1) _ fun y hy=>h y (List.mem_cons_of_mem _ hy)]
  by_cases hs:s i=true
  ·rw [if_pos hs]
   exact Act.eval_put fun d hd e=>h o (List.mem_cons_self ..) (by injection e with e;rw [hd,e])
  ·rw [if_neg hs]
theorem put_size (a:Act) (x:Option Tmp) (v:Value):(a.put x v).tmps.size=a.tmps.size:=by
 cases x <;> simp [Act.put]
theorem putL_at (s:Nat→Bool) (b:Nat→Value) (t:Tmp):∀ (l:List Oper) (i k:Nat) (a:Act) (o:Oper),l[k]?=some o→o.dst=some t→s (i+k)=true→distB l=true→t<a.tmps.size→(putL s b i l a).eval (.tmp t)=b (i+k)
 | [],_,_,_,_,h,_,_,_,_=>by simp at h
 | y :: r,i,0,a,o,h,ht,hs,hd,hz=>by
  simp only [List.getElem?_cons_zero,Option.some.injEq] at h
  subst h
  rw [Nat.add_zero] at hs ⊢
  obtain ⟨h1,h2⟩:=distB_head hd
  unfold putL
  rw [if_pos hs,putL_far s b t r (i+1) _ (fun z hz=>h1 z hz t ht),ht]
  simp [Act.eval,Act.put,hz]
 | y :: r,i,k+1,a,o,h,ht,hs,hd,hz=>by
  simp only [List.getElem?_cons_succ] at h
  obtain ⟨h1,h2⟩:=distB_head hd
  unfold putL
  have e:i+(k+1)=i+1+k:=by omega
  rw [e] at hs ⊢
  refine putL_at s b t r (i+1) k _ o h ht hs h2 ?_
  by_cases hs:s i=true
  ·rw [if_pos hs,put_size];exact hz
  ·rw [if_neg hs];exact hz
theorem wp_region_vals {P:Program} {Q:Exit→Act→World→Prop} {id:Nat} {a0:Act} {w:World} {l:List Oper} (C:World→Prop) (R:Nat→Value→World→Prop) (hm:P.follows .mixedOrders=true) (hb:backB .any l.toArray=true) (hd:distB l=true)
 (hsz:l.all (fun o=>match o.dst with | some t=>decide (t<a0.tmps.size) | none=>true)=true) (h0:C w.drew)
 (step:∀ (s:Nat→Bool) (a:Act) (w':World) (i:Nat) (o:Oper),C w'→l[i]?=some o→s i=false→(∀ e ∈ o.after,Region.binds .any e=true→s e.on=true) →
  (∀ t,(∀ y ∈ l,y.dst≠some t)→a.eval (.tmp t)=a0.eval (.tmp t))→(∀ j y t,s j=true→l[j]?=some y→y.dst=some t→R j (a.eval (.tmp t)) w') →
  wpOp P l.toArray Q i (fun a' w''=>∃ v,a'=a.put o.dst v∧C w''∧R i v w'' ∧ ∀ j u,R j u w'→R j u w'') a w')
 (done:∀ (b:Nat→Value) (w':World),C w'→(∀ i,i<l.length→R i (b i) w')→Q .normal (putL (fun _=>true) b 0 l a0) w'):(Code.region id l.toArray true).wp P Q a0 w:=by
 have hz:∀ (k:Nat) (o:Oper) (t:Tmp),l[k]?=some o→o.dst=some t→t<a0.tmps.size:=fun k o t ho ht=>by
  have:=List.all_eq_true.1 hsz o (List.mem_of_getElem? ho)
  rw [ht] at this
  exact of_decide_eq_true this
 refine wp_region_inv (Inv:=fun s a w=>C w ∧ ∃ b:Nat→Value,(∀ i,i<l.length→s i=true→R i (b i) w)∧a=putL s b 0 l a0) hm hb ⟨h0,fun _=>undef,fun i _ h=>by simp at h,?_⟩ ?_ ?_
 ·have:∀ (l:List Oper) (i:Nat) (a:Act),putL (fun _=>false) (fun _=>undef) i l a=a:=by
   intro l
   induction l with
   | nil=>intro _ _;rfl
   | cons o r ih=>intro i a;unfold putL;simp only [Bool.false_eq_true,if_false];exact ih _ _
  exact (this _ _ _).symm
 ·rintro s a w' i o ⟨hC,b,hR,rfl⟩ ho hs hdep
  have ho':l[i]?=some o:=by simpa using ho
  have hlt:=(List.getElem?_eq_some_iff.1 ho').1
  refine wpOp_mono ?_ (step s _ w' i o hC ho' hs hdep (fun t ht=>putL_far s b t l 0 a0 ht) (fun j y t hj hy ht=>?_))
  ·rintro a' w'' ⟨v,rfl,hC',hRv,hst⟩
   refine ⟨hC',fun j=>if j=i then v else b j,fun j hj hsj=>?_,?_⟩
   ·by_cases e:j=i
    ·subst e;simp only [if_true];exact hRv
    ·simp only [e,if_false] at hsj ⊢
     exact hst j _ (hR j hj hsj)
   ·have:=putL_set s b v l 0 i a0 o ho' (by rw [Nat.zero_add];exact hs) hd
    simp only [Nat.zero_add] at this
    exact this.symm
  ·have:=putL_at s b t l 0 j a0 y hy ht (by rw [Nat.zero_add];exact hj) hd (hz j y t hy ht)
   rw [this,Nat.zero_add]
   exact hR j (List.getElem?_eq_some_iff.1 hy).1 hj
 ·rintro s a w' ⟨hC,b,hR,rfl⟩ hall
  have hall':∀ i,i<l.length→s i=true:=fun i hi=>hall i (by simpa using hi)
  have hcg:∀ (m:List Oper) (i:Nat) (a:Act),i+m.length≤l.length→putL s b i m a=putL (fun _=>true) b i m a:=by
   intro m
   induction m with
   | nil=>intro _ _ _;rfl
   | cons o r ih =>
    intro i a h
    rw [List.length_cons] at h
    unfold putL
    rw [hall' i (by omega)]
    exact ih _ _ (by omega)
  rw [hcg l 0 a0 (by omega)]
  exact done b w' hC fun i hi=>hR i hi (hall' i hi)
def depB (l:List Oper) (i j:Nat):Bool:=match l[i]? with | some o=>o.after.any (fun e=>Region.binds .any e && e.on == j) | none=>false
def dstB (l:List Oper) (i:Nat):Option Tmp:=(l[i]?).bind (fun o=>o.dst)
theorem wp_region_say {P:Program} {Q:Exit→Act→World→Prop} {id:Nat} {a0:Act} {w:World} {l:List Oper} (n:Nat) (C:World→Prop) (R:Nat→Value→World→Prop) (hm:P.follows .mixedOrders=true) (hn:l.length=n) (hb:backB .any l.toArray=true) (hd:distB l=true)
 (hsz:l.all (fun o=>match o.dst with | some t=>decide (t<a0.tmps.size) | none=>true)=true) (h0:C w.drew)
 (step:∀ (s:Nat→Bool) (a:Act) (w':World) (i:Nat),i<n→C w'→(∀ j,depB l i j=true→s j=true) →
  (∀ t,l.all (fun y=>y.dst != some t)=true→a.eval (.tmp t)=a0.eval (.tmp t))→(∀ j t,s j=true→dstB l j=some t→R j (a.eval (.tmp t)) w') →
  wpOp P l.toArray Q i (fun a' w''=>∃ v,a'=a.put (dstB l i) v∧C w''∧R i v w'' ∧ ∀ j u,R j u w'→R j u w'') a w')
 (done:∀ (b:Nat→Value) (w':World),C w'→(∀ i,i<n→R i (b i) w')→Q .normal (putL (fun _=>true) b 0 l a0) w'):(Code.region id l.toArray true).wp P Q a0 w:=by
 subst hn
 refine wp_region_vals C R hm hb hd hsz h0 ?_ done
 intro s a w' i o hC ho hs hdep hfar hrd
 have hlt:=(List.getElem?_eq_some_iff.1 ho).1
 have e:dstB l i=o.dst:=by unfold dstB;rw [ho];rfl
 have:=step s a w' i hlt hC (fun j hj=>by
  unfold depB at hj
  rw [ho] at hj
  obtain ⟨e,he,h⟩:=Array.any_eq_true'.1 hj
  simp only [Bool.and_eq_true,beq_iff_eq] at h
  rw [← h.2]
  exact hdep e he h.1) (fun t ht=>hfar t fun y hy=>by
   have:=List.all_eq_true.1 ht y hy
   simpa using this) (fun j t hj ht=>by
   unfold dstB at ht
   cases hy:l[j]? with
   | none=>rw [hy] at ht;cases ht
   | some y=>rw [hy] at ht;exact hrd j y t hj hy ht)
 rw [e] at this
 exact this
section
variable {P:Program} {ops:Array Oper} {W W':World} {k:Nat}
theorem putL_congr_lt {s s':Nat→Bool} {b b':Nat→Value}:∀ (l:List Oper) (i:Nat) (a:Act),(∀ j,i≤j→j<i+l.length→s j=s' j∧b j=b' j)→putL s b i l a=putL s' b' i l a
 | [],_,_,_=>rfl
 | o :: r,i,a,h=>by
  unfold putL
  obtain ⟨h1,h2⟩:=h i (Nat.le_refl _) (by rw [List.length_cons];omega)
  rw [h1,h2]
  exact putL_congr_lt r (i+1) _ fun j hj hj2=>h j (by omega) (by rw [List.length_cons];omega)
theorem distB_take:∀ (n:Nat) {l:List Oper},distB l=true→distB (l.take n)=true
 | 0,l,_=>by rw [List.take_zero];rfl
 | n+1,[],_=>by rw [List.take_nil];rfl
 | n+1,o :: r,h=>by
  obtain ⟨h1,h2⟩:=distB_head h
  rw [List.take_succ_cons]
  unfold distB
  rw [distB_take n h2,Bool.and_true]
  cases hd:o.dst with
  | none=>rfl
  | some d =>
   simp only
   rw [List.all_eq_true]
   intro y hy
   have:=h1 y (List.mem_of_mem_take hy) d hd
   simpa using this
theorem depB_spec {l:List Oper} {i j:Nat} {o:Oper} (ho:l[i]?=some o) (h:depB l i j=true):∃ e ∈ o.after,Region.binds .any e=true∧e.on=j:=by
 unfold depB at h
 rw [ho] at h
 obtain ⟨e,he,h⟩:=Array.any_eq_true'.1 h
 simp only [Bool.and_eq_true,beq_iff_eq] at h
 exact ⟨e,he,h.1,h.2⟩
def partB (l:List Oper) (n:Nat):Bool :=
 (l.all fun o=>o.guard.isNone) && distB l &&
 ((List.range n).all fun i=>(List.range (n+1)).any fun j=>decide (i<j) && depB l j i) &&
 ((List.range l.length).all fun t=>decide (t≤n) || depB l t (t-1))
theorem wp_region_part2 {Q:Exit→Act→World→Prop} {id:Nat} {a0:Act} {w:World} {l:List Oper} (n:Nat) (C:World→Prop) (R:Nat→Value→World→Prop) (P2:Nat→Value→Nat→Value→Prop) (hm:P.follows .mixedOrders=true) (hn:n<l.length) (hb:backB .any l.toArray=true) (hB:partB l n=true)
 (hsz:l.all (fun o=>match o.dst with | some t=>decide (t<a0.tmps.size) | none=>true)=true) (h0:C w.drew)
 (step:∀ (a:Act) (w':World) (i:Nat),i<n→C w'→(∀ t,(l.take n).all (fun y=>y.dst != some t)=true→a.eval (.tmp t)=a0.eval (.tmp t))→(∀ j t,depB l i j=true→dstB l j=some t→R j (a.eval (.tmp t)) w') →
  wpOp P l.toArray Q i (fun a' w''=>∃ v,a'=a.put (dstB l i) v∧C w''∧R i v w''∧(∀ j u,R j u w'→R j u w'') ∧ ∀ j u,j<n→j≠i→depB l j i=false→R j u w'→(∀ t,depB l i j=true→dstB l j=some t→a.eval (.tmp t)=u)→P2 j u i v∧P2 i v j u) a w')
 (done:∀ (b:Nat→Value) (w':World),C w'→(∀ i,i<n→R i (b i) w')→(∀ i j,i<n→j<n→i≠j→P2 i (b i) j (b j))→wpList P l.toArray Q (l.drop n) (putL (fun _=>true) b 0 (l.take n) a0) w'):(Code.region id l.toArray true).wp P Q a0 w:=by
 unfold partB at hB
 simp only [Bool.and_eq_true] at hB
 obtain ⟨⟨⟨hg,hd⟩,hsk⟩,hch⟩:=hB
 have hdn:=distB_take n hd
 have hguard:∀ (i:Nat) (o:Oper),l[i]?=some o→o.guard=none:=fun i o ho=>by
  have:=List.all_eq_true.1 hg o (List.mem_of_getElem? ho)
  simpa using this
 have hz:∀ (i:Nat) (o:Oper) (t:Tmp),l[i]?=some o→o.dst=some t→t<a0.tmps.size:=fun i o t ho ht=>by
  have:=List.all_eq_true.1 hsz o (List.mem_of_getElem? ho)
  rw [ht] at this
  exact of_decide_eq_true this
 have htk:∀ (i:Nat),i<n→(l.take n)[i]?=l[i]?:=fun i hi=>by rw [List.getElem?_take,if_pos hi]
 have hdpo:∀ (s:Nat→Bool) (i:Nat) (o:Oper),l[i]?=some o→(∀ e ∈ o.after,Region.binds .any e=true→s e.on=true) → ∀ j,depB l i j=true→s j=true∧j<i:=fun s i o ho hdep j hj=>by
  obtain ⟨e,he,hbd,hon⟩:=depB_spec ho hj
  exact ⟨hon ▸ hdep e he hbd,hon ▸ backB_spec hb (by simpa using ho) e he hbd⟩
 refine wp_region_inv (fun s a w'=>(∀ i o,l[i]?=some o→s i=true → ∀ e ∈ o.after,Region.binds .any e=true→s e.on=true) ∧
  (((∀ i,n≤i→s i=false)∧C w' ∧ ∃ b:Nat→Value,(∀ i,i<n→s i=true→R i (b i) w')∧(∀ i j,i<n→j<n→i≠j→s i=true→s j=true→P2 i (b i) j (b j))∧a=putL s b 0 (l.take n) a0)∨(∃ t,n<t∧t≤l.length∧(∀ i,i<l.length→(s i=true ↔ i<t))∧wpList P l.toArray Q (l.drop t) a w'))) hm hb ⟨fun i o _ h=>by simp at h,.inl ⟨fun _ _=>rfl,h0,fun _=>undef,fun i _ h=>by simp at h,fun i j _ _ _ h=>by simp at h,?_⟩⟩ ?_ ?_
 ·have:∀ (l:List Oper) (i:Nat) (a:Act),putL (fun _=>false) (fun _=>undef) i l a=a:=by
   intro l
   induction l with
   | nil=>intro _ _;rfl
   | cons o r ih=>intro i a;unfold putL;simp only [Bool.false_eq_true,if_false];exact ih _ _
  exact (this _ _ _).symm
 ·rintro s a w' i o ⟨hcl,hs⟩ ho hsi hdep
  have ho':l[i]?=some o:=by simpa using ho
  have hlt:i<l.length:=(List.getElem?_eq_some_iff.1 ho').1
  have hcl':∀ j y,l[j]?=some y→(fun j=>if j=i then true else s j) j=true → ∀ e ∈ y.after,Region.binds .any e=true→(fun j=>if j=i then true else s j) e.on=true:=fun j y hj hsj e he hbd=>by
   simp only at hsj ⊢
   by_cases hei:e.on=i
   ·rw [if_pos hei]
   ·rw [if_neg hei]
    by_cases hji:j=i
    ·subst hji
     rw [ho'] at hj
     cases hj
     exact hdep e he hbd
    ·rw [if_neg hji] at hsj
     exact hcl j y hj hsj e he hbd
  have hwt:∀ a:Act,Region.wanted o (yielded l.toArray a.tmps)=true:=fun a=>by simp [Region.wanted,hguard i o ho']
  have hdq:=hdpo s i o ho' hdep
  have prev:n<i→s (i-1)=true:=fun h=>by
   have h1:=List.all_eq_true.1 hch i (List.mem_range.2 hlt)
   simp only [Bool.or_eq_true,decide_eq_true_eq] at h1
   rcases h1 with h1 | h1
   ·omega
   ·exact (hdq _ h1).1
  have tail:∀ (a:Act) (w':World),wpList P l.toArray Q (l.drop i) a w'→(∀ j,j<l.length→(s j=true ↔ j<i))→n≤i →
   wpOp P l.toArray Q i (fun a' w''=>(∀ j y,l[j]?=some y→(fun j=>if j=i then true else s j) j=true → ∀ e ∈ y.after,Region.binds .any e=true→(fun j=>if j=i then true else s j) e.on=true) ∧
    (((∀ j,n≤j→(fun j=>if j=i then true else s j) j=false)∧C w'' ∧ ∃ b:Nat→Value,(∀ j,j<n→(fun j=>if j=i then true else s j) j=true→R j (b j) w'')∧(∀ i' j',i'<n→j'<n→i'≠j'→(fun j=>if j=i then true else s j) i'=true→(fun j=>if j=i then true else s j) j'=true→P2 i' (b i') j' (b j'))∧a'=putL (fun j=>if j=i then true else s j) b 0 (l.take n) a0) ∨
     (∃ t,n<t∧t≤l.length∧(∀ j,j<l.length→((fun j=>if j=i then true else s j) j=true ↔ j<t))∧wpList P l.toArray Q (l.drop t) a' w''))) a w':=fun a w' hQ hall hni=>by
   have hdr:l.drop i=o :: l.drop (i+1):=by
    obtain ⟨h1,h2⟩:=List.getElem?_eq_some_iff.1 ho'
    rw [List.drop_eq_getElem_cons h1,h2]
   rw [hdr] at hQ
   unfold wpList at hQ
   rw [if_pos (hwt a)] at hQ
   unfold wpOp
   rw [ho]
   simp only
   rw [if_pos (hwt a)]
   rcases hQ with hQ | hQ
   ·refine .inl (Oper.wp_mono (fun a' w'' h'=>?_) hQ)
    refine ⟨hcl',.inr ⟨i+1,by omega,by omega,fun j hj=>?_,h'⟩⟩
    by_cases e:j=i
    ·subst e;simp
    ·simp only [e,if_false]
     rw [hall j hj]
     omega
   ·exact .inr hQ
  rcases hs with ⟨hsn,hC,b,hR,hP,rfl⟩ | ⟨t,hnt,htl,hall,hQ2⟩
  ·by_cases hin:n≤i
   ·have hin:i=n:=by
     rcases Nat.lt_or_ge n i with h | h
     ·have:=prev h
      rw [hsn (i-1) (by omega)] at this
      cases this
     ·omega
    subst hin
    have hall:∀ d m,i-m=d→m<i→s m=true:=by
     intro d
     induction d using Nat.strongRecOn with
     | _ d ih =>
      intro m hd hm
      have h1:=List.all_eq_true.1 hsk m (List.mem_range.2 hm)
      obtain ⟨j,hj,hj2⟩:=List.any_eq_true.1 h1
      simp only [Bool.and_eq_true,decide_eq_true_eq] at hj2
      have hjl:=List.mem_range.1 hj
      obtain ⟨y,hy⟩:∃ y,l[j]?=some y:=⟨l[j]'(by omega),List.getElem?_eq_getElem (by omega)⟩
      obtain ⟨e,he,hbd,hon⟩:=depB_spec hy hj2.2
      by_cases hji:j=i
      ·subst hji
       rw [ho'] at hy
       cases hy
       rw [← hon]
       exact hdep e he hbd
      ·have:=ih (i-j) (by omega) j rfl (by omega)
       rw [← hon]
       exact hcl j y hy this e he hbd
    have e2:putL s b 0 (l.take i) a0=putL (fun _=>true) b 0 (l.take i) a0:=putL_congr_lt _ _ _ fun j _ hj=>by
     have hjl:j<i:=by have:=List.length_take_le i l;omega
     exact ⟨hall _ j rfl hjl,rfl⟩
    have hQ:=done b w' hC (fun j hj=>hR j hj (hall _ j rfl hj)) (fun i' j' h1 h2 h3=>hP i' j' h1 h2 h3 (hall _ i' rfl h1) (hall _ j' rfl h2))
    rw [← e2] at hQ
    refine tail _ _ hQ (fun j hj=>?_) (Nat.le_refl _)
    constructor
    ·intro h
     rcases Nat.lt_or_ge j i with h' | h'
     ·exact h'
     ·rw [hsn j h'] at h;cases h
    ·intro h;exact hall _ j rfl h
   ·have hin':i<n:=by omega
    have edst:dstB l i=o.dst:=by unfold dstB;rw [ho'];rfl
    have hnd:∀ j,s j=true→depB l j i=false:=fun j hsj=>by
     cases hd:depB l j i with
     | false=>rfl
     | true =>
      exfalso
      unfold depB at hd
      cases hy:l[j]? with
      | none=>rw [hy] at hd;cases hd
      | some y =>
       rw [hy] at hd
       obtain ⟨e,he,hd⟩:=Array.any_eq_true'.1 hd
       simp only [Bool.and_eq_true,beq_iff_eq] at hd
       have:=hcl j y hy hsj e he hd.1
       rw [hd.2,hsi] at this
       cases this
    have hev:∀ j,∀ t,depB l i j=true→dstB l j=some t→(putL s b 0 (l.take n) a0).eval (.tmp t)=b j:=fun j t hj ht=>by
     obtain ⟨hsj,hji⟩:=hdq j hj
     unfold dstB at ht
     cases hy:l[j]? with
     | none=>rw [hy] at ht;cases ht
     | some y =>
      rw [hy] at ht
      have:=putL_at s b t (l.take n) 0 j a0 y (by rw [htk j (by omega)];exact hy) ht (by rw [Nat.zero_add];exact hsj) hdn (hz j y t hy ht)
      rw [this,Nat.zero_add]
    refine wpOp_mono ?_ (step _ w' i hin' hC (fun t ht=>?_) (fun j t hj ht=>?_))
    ·rintro a' w'' ⟨v,rfl,hC',hRv,hst,hpv⟩
     refine ⟨hcl',.inl ⟨fun j hj=>by simp only;rw [if_neg (by omega)];exact hsn j hj,hC',fun j=>if j=i then v else b j,fun j hj hsj=>?_,fun i' j' hi' hj' hne h1 h2=>?_,?_⟩⟩
     ·by_cases e:j=i
      ·subst e;simp only [if_true];exact hRv
      ·simp only [e,if_false] at hsj ⊢
       exact hst j _ (hR j hj hsj)
     ·by_cases e:i'=i
      ·subst e
       have e2:¬ j'=i':=fun h=>hne h.symm
       simp only [e2,if_false,if_true] at h2 ⊢
       exact (hpv j' _ hj' e2 (hnd j' h2) (hR j' hj' h2) (hev j')).2
      ·by_cases e2:j'=i
       ·subst e2
        simp only [e,if_false,if_true] at h1 ⊢
        exact (hpv i' _ hi' e (hnd i' h1) (hR i' hi' h1) (hev i')).1
       ·simp only [e,e2,if_false] at h1 h2 ⊢
        exact hP i' j' hi' hj' hne h1 h2
     ·have h1:=putL_set s b v (l.take n) 0 i a0 o (by rw [htk i hin'];exact ho') (by rw [Nat.zero_add];exact hsi) hdn
      simp only [Nat.zero_add] at h1
      rw [edst]
      exact h1.symm
    ·exact putL_far s b t (l.take n) 0 a0 fun y hy=>by
      have:=List.all_eq_true.1 ht y hy
      simpa using this
    ·obtain ⟨hsj,hji⟩:=hdq j hj
     unfold dstB at ht
     cases hy:l[j]? with
     | none=>rw [hy] at ht;cases ht
     | some y =>
      rw [hy] at ht
      have:=putL_at s b t (l.take n) 0 j a0 y (by rw [htk j (by omega)];exact hy) ht (by rw [Nat.zero_add];exact hsj) hdn (hz j y t hy ht)
      rw [this,Nat.zero_add]
      exact hR j (by omega) hsj
  ·have hit:i=t:=by
    have h1:¬ i<t:=fun h=>by rw [(hall i hlt).2 h] at hsi;cases hsi
    rcases Nat.lt_or_ge t i with h | h
    ·have h2:=(hall (i-1) (by omega)).1 (prev (by omega))
     omega
    ·omega
   subst hit
   exact tail a w' hQ2 hall (by omega)
 ·rintro s a w' ⟨_,hs⟩ hall
  have hall':∀ i,i<l.length→s i=true:=fun i hi=>hall i (by simpa using hi)
  rcases hs with ⟨h,_⟩ | ⟨t,_,htl,h,hq⟩
  ·have:=hall' n hn
   rw [h n (Nat.le_refl _)] at this;cases this
  ·have:t=l.length:=by
    rcases Nat.lt_or_ge t l.length with h' | h'
    ·have:=(h t h').1 (hall' t h')
     omega
    ·omega
   rw [this,List.drop_length] at hq
   exact hq
theorem wp_region_part {Q:Exit→Act→World→Prop} {id:Nat} {a0:Act} {w:World} {l:List Oper} (n:Nat) (C:World→Prop) (R:Nat→Value→World→Prop) (hm:P.follows .mixedOrders=true) (hn:n<l.length) (hb:backB .any l.toArray=true) (hB:partB l n=true)
 (hsz:l.all (fun o=>match o.dst with | some t=>decide (t<a0.tmps.size) | none=>true)=true) (h0:C w.drew)
 (step:∀ (a:Act) (w':World) (i:Nat),i<n→C w'→(∀ t,(l.take n).all (fun y=>y.dst != some t)=true→a.eval (.tmp t)=a0.eval (.tmp t))→(∀ j t,depB l i j=true→dstB l j=some t→R j (a.eval (.tmp t)) w') →
  wpOp P l.toArray Q i (fun a' w''=>∃ v,a'=a.put (dstB l i) v∧C w''∧R i v w'' ∧ ∀ j u,R j u w'→R j u w'') a w')
 (done:∀ (b:Nat→Value) (w':World),C w'→(∀ i,i<n→R i (b i) w')→wpList P l.toArray Q (l.drop n) (putL (fun _=>true) b 0 (l.take n) a0) w'):(Code.region id l.toArray true).wp P Q a0 w :=
 wp_region_part2 n C R (fun _ _ _ _=>True) hm hn hb hB hsz h0 (fun a w' i hi hC h1 h2=>wpOp_mono (fun a' w'' ⟨v,e1,e2,e3,e4⟩=>⟨v,e1,e2,e3,e4,fun _ _ _ _ _ _ _=>⟨trivial,trivial⟩⟩) (step a w' i hi hC h1 h2)) (fun b w' hC hR _=>done b w' hC hR)
end
section
variable {P:Program} {ops:Array Oper} {W W':World} {k:Nat}
end
section
variable {P:Program} {md:Region.Mode} {ops:Array Oper} {Q:Exit→Act→World→Prop}
theorem any1 {fuel:Nat} {listed:Array Bool} {a:Act} {w:World} (i:Nat) (hr:Region.ready md ops listed=[i])
 (h:wpOp P ops Q i (wpAny P md ops Q fuel (listed.setIfInBounds i true)) a w):wpAny P md ops Q (fuel+1) listed a w :=
 wpAny_all hr (by simp) (fun j hj=>by
  obtain rfl:j=i:=by simpa using hj
  exact h)
theorem any2 {fuel:Nat} {listed:Array Bool} {a:Act} {w:World} (i k:Nat) (hr:Region.ready md ops listed=[i,k])
 (h:wpOp P ops Q i (wpAny P md ops Q fuel (listed.setIfInBounds i true)) a w)
 (h':wpOp P ops Q k (wpAny P md ops Q fuel (listed.setIfInBounds k true)) a w):wpAny P md ops Q (fuel+1) listed a w :=
 wpAny_all hr (by simp) (fun j hj=>by
  have hj':j=i∨j=k:=by simpa using hj
  rcases hj' with rfl | rfl
  ·exact h
  ·exact h')
def opIs (ops:Array Oper) (i:Nat) (op:Op) (dst:Option Tmp):Prop:=(ops[i]?).map (fun o=>(o.guard,o.op,o.dst))=some (none,op,dst)
theorem opIs.out {i:Nat} {op:Op} {dst:Option Tmp} (h:opIs ops i op dst):∃ o,ops[i]?=some o∧o.guard=none∧o.op=op∧o.dst=dst:=by
 unfold opIs at h
 cases hq:ops[i]? with
 | none=>rw [hq] at h;cases h
 | some o =>
  rw [hq] at h
  simp only [Option.map_some,Option.some.injEq,Prod.mk.injEq] at h
  exact ⟨o,rfl,h.1,h.2.1,h.2.2⟩
theorem op_any {i:Nat} {op:Op} {dst:Option Tmp} {K:Act→World→Prop} {a:Act} {w:World} (ho:opIs ops i op dst)
 (h:∀ o:Oper,o.op=op→o.dst=dst→o.wp P a w K Q):wpOp P ops Q i K a w:=by
 obtain ⟨o,h1,h2,h3,h4⟩:=ho.out
 refine wpOp_step h1 (fun K' hK=>?_)
 have e:Region.wanted o (yielded ops a.tmps)=true:=by simp [Region.wanted,h2]
 rw [if_pos e]
 exact Oper.wp_mono hK (h o h3 h4)
theorem op_load {i:Nat} {K:Act→World→Prop} {a:Act} {w:World} (ty:TypeId) (x:Operand) (dst:Option Tmp) (ho:opIs ops i (.load ty x) dst) (p v:Value) (hx:a.eval x=p)
 (hl:(Instr.loadAt ty p).run P w = .ok v w) (hk:K (a.put dst v) w):wpOp P ops Q i K a w:=by
 refine op_any ho (fun o h1 h2=>?_)
 subst h2
 unfold Oper.wp execOp
 simp only [h1,hx,Sem.run_bind,hl,Result.andThen_ok]
 exact hk
theorem op_store {i:Nat} {K:Act→World→Prop} {a:Act} {w w':World} (ty:TypeId) (x y:Operand) (dst:Option Tmp) (ho:opIs ops i (.store ty x y) dst) (p v:Value) (hx:a.eval x=p) (hy:a.eval y=v)
 (hl:(Instr.storeAt ty p v).run P w = .ok () w') (hk:K (a.put dst undef) w'):wpOp P ops Q i K a w:=by
 refine op_any ho (fun o h1 h2=>?_)
 subst h2
 unfold Oper.wp execOp
 simp only [h1,hx,hy,Sem.run_bind,hl,Result.andThen_ok]
 exact hk
theorem op_call {i:Nat} {K:Act→World→Prop} {a:Act} {w:World} (op:Op) (dst:Option Tmp) (ho:opIs ops i op dst) (f:FuncId) (args:Array Value)
 (hrun:∀ o:Oper,o.op=op→(execOp a.eval o).run P w = .ok (.enter f args) w) {R:Ending→World→Prop} (hc:Calls P f args w R)
 (hk:∀ e w',R e w' → ∃ v,e = .returned v∧K (a.put dst v) w'):wpOp P ops Q i K a w:=by
 refine op_any ho (fun o h1 h2=>?_)
 subst h2
 unfold Oper.wp
 rw [hrun o h1,Oper.upon_enter]
 refine hc.mono fun e w'' hh=>?_
 obtain ⟨v,rfl,hq⟩:=hk e w'' hh
 exact hq
theorem op_run {i:Nat} {K:Act→World→Prop} {a:Act} {w w':World} (op:Op) (dst:Option Tmp) (ho:opIs ops i op dst) (v:Value) (hrun:∀ o:Oper,o.op=op→(execOp a.eval o).run P w = .ok (.value v) w') (hk:K (a.put dst v) w'):wpOp P ops Q i K a w:=by
 refine op_any ho (fun o h1 h2=>?_)
 unfold Oper.wp
 rw [hrun o h1]
 subst h2
 exact hk
end
end Go.Proofs.YtjgmbjfijpmhdaaGreatDoor
namespace Go.Proofs.YtjgmbjfijpmhdaaGreatDoor
open Go.Sort
set_option linter.unusedVariables false
set_option linter.unusedSimpArgs false
section
variable {P:Program} {ops:Array Oper} {md:Region.Mode} {C:World→Prop} {n:Nat}
def chainB (md:Region.Mode) (ops:Array Oper) (n:Nat):Bool:=(List.range ops.size).all fun j=>decide (j≤n) || Region.waitsFor md ops j (j-1)
theorem chain_prev (hc:chainB md ops n=true) {listed:Array Bool} {i:Nat} (hi:i ∈ Region.ready md ops listed) (hn:n<i):listed.getD (i-1) false=true:=by
 obtain ⟨_,o,ho,hall⟩:=mem_ready.1 hi
 have hlt:=(Array.getElem?_eq_some_iff.1 ho).1
 have h1:=List.all_eq_true.1 hc i (List.mem_range.2 hlt)
 simp only [Bool.or_eq_true,decide_eq_true_eq] at h1
 obtain ⟨oj,hoj,e,he,hbd,hon⟩:=Region.waitsFor_spec (h1.resolve_left (by omega))
 have:oj=o:=Option.some.inj (hoj.symm.trans ho)
 subst this
 rw [← hon]
 exact hall e he hbd
theorem forced {Q:Exit→Act→World→Prop} (hb:backB md ops=true) (hc:chainB md ops n=true):∀ (d fuel t:Nat) (listed:Array Bool) (a:Act) (w:World),ops.size-t=d→d≤fuel→n<t→t≤ops.size→listed.size=ops.size →
 (∀ i,i<ops.size→listed.getD i false=decide (i<t))→wpList P ops Q (ops.toList.drop t) a w→wpAny P md ops Q fuel listed a w:=by
 intro d
 induction d with
 | zero =>
  intro fuel t listed a w hd hf hnt ht hsz hl h
  have et:t=ops.size:=by omega
  have hr:Region.ready md ops listed=[]:=by
   rw [List.eq_nil_iff_forall_not_mem]
   intro j hj
   obtain ⟨hu,o,ho,_⟩:=mem_ready.1 hj
   have hjl:=(Array.getElem?_eq_some_iff.1 ho).1
   have:=hl j hjl
   simp [show j<listed.size by omega] at hu this
   rw [hu] at this
   simp at this
   omega
  have hq:Q .normal a w:=by
   rw [List.drop_eq_nil_of_le (by rw [et];simp)] at h
   exact h
  cases fuel with
  | zero=>exact ⟨hr,hq⟩
  | succ f=>exact ⟨fun _=>hq,fun i hi=>by rw [hr] at hi;cases hi⟩
 | succ d ih =>
  intro fuel t listed a w hd hf hnt ht hsz hl h
  obtain ⟨f,rfl⟩:∃ f,fuel=f+1:=⟨fuel-1,by omega⟩
  have hlt:t<ops.size:=by omega
  have hrt:t ∈ Region.ready md ops listed:=mem_ready.2 ⟨by have:=hl t hlt;simp [show t<listed.size by omega] at this ⊢;exact this,ops[t],Array.getElem?_eq_getElem hlt,fun e he hbd=>by
   have h1:=backB_spec hb (Array.getElem?_eq_getElem hlt) e he hbd
   rw [hl _ (by omega)]
   simpa using h1⟩
  refine ⟨fun hr=>(by rw [hr] at hrt;cases hrt),fun i hi=>?_⟩
  have hit:i=t:=by
   obtain ⟨hu,o,ho,_⟩:=mem_ready.1 hi
   have hil:=(Array.getElem?_eq_some_iff.1 ho).1
   have h1:¬ i<t:=fun h2=>by
    have:=hl i hil
    simp [show i<listed.size by omega] at hu this
    rw [hu] at this
    simp at this
    omega
   rcases Nat.lt_or_ge t i with h2 | h2
   ·exfalso
    have h3:=chain_prev hc hi (by omega)
    rw [hl _ (by omega)] at h3
    simp at h3
    omega
   ·omega
  subst hit
  have hdr:ops.toList.drop i=ops[i] :: ops.toList.drop (i+1):=by rw [List.drop_eq_getElem_cons (by simpa using hlt)];simp
  rw [hdr] at h
  have ho:ops[i]?=some ops[i]:=Array.getElem?_eq_getElem hlt
  unfold wpList at h
  have h':wpOp P ops Q i (fun a' w'=>wpList P ops Q (ops.toList.drop (i+1)) a' w') a w:=by
   unfold wpOp
   simp only [ho]
   exact h
  refine wpOp_mono (fun a' w' hh=>ih f (i+1) _ a' w' (by omega) (by omega) (by omega) (by omega) (by simpa using hsz) (fun j hj=>?_) hh) h'
  by_cases e:i=j
  ·subst e
   simp [show i<listed.size by omega]
  ·rw [getD_set_ne false e,hl j hj]
   congr 1
   simp only [eq_iff_iff]
   omega
end
end Go.Proofs.YtjgmbjfijpmhdaaGreatDoor
namespace Go.Proofs.YtjgmbjfijpmhdaaGreatDoor
open Go.RowKit
set_option linter.unusedVariables false
set_option linter.unusedSimpArgs false
section
variable {P:Program} {ops:Array Oper} {Q:Exit→Act→World→Prop}
def opG (ops:Array Oper) (i:Nat) (gd:Option (Nat × Bool)) (op:Op) (dst:Option Tmp):Prop:=(ops[i]?).map (fun o=>(o.guard,o.op,o.dst))=some (gd,op,dst)
theorem opG.out {i:Nat} {gd:Option (Nat × Bool)} {op:Op} {dst:Option Tmp} (h:opG ops i gd op dst):∃ o,ops[i]?=some o∧o.guard=gd∧o.op=op∧o.dst=dst:=by
 unfold opG at h
 cases hq:ops[i]? with
 | none=>rw [hq] at h;cases h
 | some o =>
  rw [hq] at h
  simp only [Option.map_some,Option.some.injEq,Prod.mk.injEq] at h
  exact ⟨o,rfl,h.1,h.2.1,h.2.2⟩
def gdB (ops:Array Oper) (a:Act):Option (Nat × Bool)→Prop
 | none=>True
 | some (j,b)=>yielded ops a.tmps j=some b
theorem anyG {i:Nat} {gd:Option (Nat × Bool)} {op:Op} {dst:Option Tmp} {K:Act→World→Prop} {a:Act} {w:World} (ho:opG ops i gd op dst) (hg:gdB ops a gd)
 (h:∀ o:Oper,o.op=op→o.dst=dst→o.wp P a w K Q):wpOp P ops Q i K a w:=by
 obtain ⟨o,h1,h2,h3,h4⟩:=ho.out
 refine wpOp_step h1 (fun K' hK=>?_)
 have e:Region.wanted o (yielded ops a.tmps)=true:=by
  cases gd with
  | none=>simp [Region.wanted,h2]
  | some gd =>
   obtain ⟨j,b⟩:=gd
   have hg':yielded ops a.tmps j=some b:=hg
   simp [Region.wanted,h2,hg']
 rw [if_pos e]
 exact Oper.wp_mono hK (h o h3 h4)
theorem yields {j:Nat} {t:Tmp} {b:Bool} {a:Act} (hd:(ops[j]?).bind (·.dst)=some t) (he:a.eval (.tmp t) = .bool b):yielded ops a.tmps j=some b:=by
 unfold yielded
 rw [hd]
 simp only [Act.eval] at he
 simp only [Option.bind_some]
 cases h:a.tmps[t]? with
 | none=>simp [h,undef] at he
 | some v=>simp [h] at he;subst he;rfl
theorem runG {i:Nat} {gd:Option (Nat × Bool)} {K:Act→World→Prop} {a:Act} {w w':World} (op:Op) (dst:Option Tmp) (ho:opG ops i gd op dst) (hg:gdB ops a gd) (v:Value) (hrun:∀ o:Oper,o.op=op→(execOp a.eval o).run P w = .ok (.value v) w') (hk:K (a.put dst v) w'):wpOp P ops Q i K a w:=by
 refine anyG ho hg (fun o h1 h2=>?_)
 unfold Oper.wp
 rw [hrun o h1]
 subst h2
 exact hk
theorem callG {i:Nat} {gd:Option (Nat × Bool)} {K:Act→World→Prop} {a:Act} {w:World} (op:Op) (dst:Option Tmp) (ho:opG ops i gd op dst) (hg:gdB ops a gd) (f:FuncId) (args:Array Value)
 (hrun:∀ o:Oper,o.op=op→(execOp a.eval o).run P w = .ok (.enter f args) w) {R:Ending→World→Prop} (hc:Calls P f args w R)
 (hk:∀ e w',R e w' → ∃ v,e = .returned v∧K (a.put dst v) w'):wpOp P ops Q i K a w:=by
 refine anyG ho hg (fun o h1 h2=>?_)
 subst h2
 unfold Oper.wp
 rw [hrun o h1,Oper.upon_enter]
 refine hc.mono fun e w'' hh=>?_
 obtain ⟨v,rfl,hq⟩:=hk e w'' hh
 exact hq
end
section
variable {P:Program} {ops:Array Oper} {W W':World} {k:Nat}
theorem wp_region_part4 {Q:Exit→Act→World→Prop} {id:Nat} {a0:Act} {w:World} {l:List Oper} (n:Nat) (C:(Nat→Bool)→World→Prop) (R:Nat→Value→World→Prop) (P2:Nat→Value→Nat→Value→Prop) (hm:P.follows .mixedOrders=true) (hn:n<l.length) (hb:backB .any l.toArray=true) (hB:partB l n=true)
 (hsz:l.all (fun o=>match o.dst with | some t=>decide (t<a0.tmps.size) | none=>true)=true) (h0:C (fun _=>false) w.drew)
 (step:∀ (s:Nat→Bool) (a:Act) (w':World) (i:Nat),i<n→s i=false→(∀ j,depB l i j=true→s j=true)→C s w'→(∀ t,l.all (fun y=>y.dst != some t)=true→a.eval (.tmp t)=a0.eval (.tmp t))→(∀ j t,depB l i j=true→dstB l j=some t→R j (a.eval (.tmp t)) w') →
  wpOp P l.toArray Q i (fun a' w''=>∃ v,a'=a.put (dstB l i) v∧C (fun j=>if j=i then true else s j) w''∧R i v w''∧(∀ j u,s j=true→R j u w'→R j u w'') ∧ ∀ j u,j<n→j≠i→depB l j i=false→R j u w'→(∀ t,depB l i j=true→dstB l j=some t→a.eval (.tmp t)=u)→P2 j u i v∧P2 i v j u) a w')
 (done:∀ (s:Nat→Bool) (b:Nat→Value) (w':World),(∀ i,i<n→s i=true)→C s w'→(∀ i,i<n→R i (b i) w')→(∀ i j,i<n→j<n→i≠j→P2 i (b i) j (b j))→wpList P l.toArray Q (l.drop n) (putL (fun _=>true) b 0 (l.take n) a0) w'):(Code.region id l.toArray true).wp P Q a0 w:=by
 unfold partB at hB
 simp only [Bool.and_eq_true] at hB
 obtain ⟨⟨⟨hg,hd⟩,hsk⟩,hch⟩:=hB
 have hdn:=distB_take n hd
 have hguard:∀ (i:Nat) (o:Oper),l[i]?=some o→o.guard=none:=fun i o ho=>by
  have:=List.all_eq_true.1 hg o (List.mem_of_getElem? ho)
  simpa using this
 have hz:∀ (i:Nat) (o:Oper) (t:Tmp),l[i]?=some o→o.dst=some t→t<a0.tmps.size:=fun i o t ho ht=>by
  have:=List.all_eq_true.1 hsz o (List.mem_of_getElem? ho)
  rw [ht] at this
  exact of_decide_eq_true this
 have htk:∀ (i:Nat),i<n→(l.take n)[i]?=l[i]?:=fun i hi=>by rw [List.getElem?_take,if_pos hi]
 have hdpo:∀ (s:Nat→Bool) (i:Nat) (o:Oper),l[i]?=some o→(∀ e ∈ o.after,Region.binds .any e=true→s e.on=true) → ∀ j,depB l i j=true→s j=true∧j<i:=fun s i o ho hdep j hj=>by
  obtain ⟨e,he,hbd,hon⟩:=depB_spec ho hj
  exact ⟨hon ▸ hdep e he hbd,hon ▸ backB_spec hb (by simpa using ho) e he hbd⟩
 refine wp_region_inv (fun s a w'=>(∀ i o,l[i]?=some o→s i=true → ∀ e ∈ o.after,Region.binds .any e=true→s e.on=true) ∧
  (((∀ i,n≤i→s i=false)∧C s w' ∧ ∃ b:Nat→Value,(∀ i,i<n→s i=true→R i (b i) w')∧(∀ i j,i<n→j<n→i≠j→s i=true→s j=true→P2 i (b i) j (b j))∧a=putL s b 0 (l.take n) a0)∨(∃ t,n<t∧t≤l.length∧(∀ i,i<l.length→(s i=true ↔ i<t))∧wpList P l.toArray Q (l.drop t) a w'))) hm hb ⟨fun i o _ h=>by simp at h,.inl ⟨fun _ _=>rfl,h0,fun _=>undef,fun i _ h=>by simp at h,fun i j _ _ _ h=>by simp at h,?_⟩⟩ ?_ ?_
 ·have:∀ (l:List Oper) (i:Nat) (a:Act),putL (fun _=>false) (fun _=>undef) i l a=a:=by
   intro l
   induction l with
   | nil=>intro _ _;rfl
   | cons o r ih=>intro i a;unfold putL;simp only [Bool.false_eq_true,if_false];exact ih _ _
  exact (this _ _ _).symm
 ·rintro s a w' i o ⟨hcl,hs⟩ ho hsi hdep
  have ho':l[i]?=some o:=by simpa using ho
  have hlt:i<l.length:=(List.getElem?_eq_some_iff.1 ho').1
  have hcl':∀ j y,l[j]?=some y→(fun j=>if j=i then true else s j) j=true → ∀ e ∈ y.after,Region.binds .any e=true→(fun j=>if j=i then true else s j) e.on=true:=fun j y hj hsj e he hbd=>by
   simp only at hsj ⊢
   by_cases hei:e.on=i
   ·rw [if_pos hei]
   ·rw [if_neg hei]
    by_cases hji:j=i
    ·subst hji
     rw [ho'] at hj
     cases hj
     exact hdep e he hbd
    ·rw [if_neg hji] at hsj
     exact hcl j y hj hsj e he hbd
  have hwt:∀ a:Act,Region.wanted o (yielded l.toArray a.tmps)=true:=fun a=>by simp [Region.wanted,hguard i o ho']
  have hdq:=hdpo s i o ho' hdep
  have prev:n<i→s (i-1)=true:=fun h=>by
   have h1:=List.all_eq_true.1 hch i (List.mem_range.2 hlt)
   simp only [Bool.or_eq_true,decide_eq_true_eq] at h1
   rcases h1 with h1 | h1
   ·omega
   ·exact (hdq _ h1).1
  have tail:∀ (a:Act) (w':World),wpList P l.toArray Q (l.drop i) a w'→(∀ j,j<l.length→(s j=true ↔ j<i))→n≤i →
   wpOp P l.toArray Q i (fun a' w''=>(∀ j y,l[j]?=some y→(fun j=>if j=i then true else s j) j=true → ∀ e ∈ y.after,Region.binds .any e=true→(fun j=>if j=i then true else s j) e.on=true) ∧
    (((∀ j,n≤j→(fun j=>if j=i then true else s j) j=false)∧C (fun j=>if j=i then true else s j) w'' ∧ ∃ b:Nat→Value,(∀ j,j<n→(fun j=>if j=i then true else s j) j=true→R j (b j) w'')∧(∀ i' j',i'<n→j'<n→i'≠j'→(fun j=>if j=i then true else s j) i'=true→(fun j=>if j=i then true else s j) j'=true→P2 i' (b i') j' (b j'))∧a'=putL (fun j=>if j=i then true else s j) b 0 (l.take n) a0) ∨
     (∃ t,n<t∧t≤l.length∧(∀ j,j<l.length→((fun j=>if j=i then true else s j) j=true ↔ j<t))∧wpList P l.toArray Q (l.drop t) a' w''))) a w':=fun a w' hQ hall hni=>by
   have hdr:l.drop i=o :: l.drop (i+1):=by
    obtain ⟨h1,h2⟩:=List.getElem?_eq_some_iff.1 ho'
    rw [List.drop_eq_getElem_cons h1,h2]
   rw [hdr] at hQ
   unfold wpList at hQ
   rw [if_pos (hwt a)] at hQ
   unfold wpOp
   rw [ho]
   simp only
   rw [if_pos (hwt a)]
   rcases hQ with hQ | hQ
   ·refine .inl (Oper.wp_mono (fun a' w'' h'=>?_) hQ)
    refine ⟨hcl',.inr ⟨i+1,by omega,by omega,fun j hj=>?_,h'⟩⟩
    by_cases e:j=i
    ·subst e;simp
    ·simp only [e,if_false]
     rw [hall j hj]
     omega
   ·exact .inr hQ
  rcases hs with ⟨hsn,hC,b,hR,hP,rfl⟩ | ⟨t,hnt,htl,hall,hQ2⟩
  ·by_cases hin:n≤i
   ·have hin:i=n:=by
     rcases Nat.lt_or_ge n i with h | h
     ·have:=prev h
      rw [hsn (i-1) (by omega)] at this
      cases this
     ·omega
    subst hin
    have hall:∀ d m,i-m=d→m<i→s m=true:=by
     intro d
     induction d using Nat.strongRecOn with
     | _ d ih =>
      intro m hd hm
      have h1:=List.all_eq_true.1 hsk m (List.mem_range.2 hm)
      obtain ⟨j,hj,hj2⟩:=List.any_eq_true.1 h1
      simp only [Bool.and_eq_true,decide_eq_true_eq] at hj2
      have hjl:=List.mem_range.1 hj
      obtain ⟨y,hy⟩:∃ y,l[j]?=some y:=⟨l[j]'(by omega),List.getElem?_eq_getElem (by omega)⟩
      obtain ⟨e,he,hbd,hon⟩:=depB_spec hy hj2.2
      by_cases hji:j=i
      ·subst hji
       rw [ho'] at hy
       cases hy
       rw [← hon]
       exact hdep e he hbd
      ·have:=ih (i-j) (by omega) j rfl (by omega)
       rw [← hon]
       exact hcl j y hy this e he hbd
    have e2:putL s b 0 (l.take i) a0=putL (fun _=>true) b 0 (l.take i) a0:=putL_congr_lt _ _ _ fun j _ hj=>by
     have hjl:j<i:=by have:=List.length_take_le i l;omega
     exact ⟨hall _ j rfl hjl,rfl⟩
    have hQ:=done s b w' (fun j hj=>hall _ j rfl hj) hC (fun j hj=>hR j hj (hall _ j rfl hj)) (fun i' j' h1 h2 h3=>hP i' j' h1 h2 h3 (hall _ i' rfl h1) (hall _ j' rfl h2))
    rw [← e2] at hQ
    refine tail _ _ hQ (fun j hj=>?_) (Nat.le_refl _)
    constructor
    ·intro h
     rcases Nat.lt_or_ge j i with h' | h'
     ·exact h'
     ·rw [hsn j h'] at h;cases h
    ·intro h;exact hall _ j rfl h
   ·have hin':i<n:=by omega
    have edst:dstB l i=o.dst:=by unfold dstB;rw [ho'];rfl
    have hnd:∀ j,s j=true→depB l j i=false:=fun j hsj=>by
     cases hd:depB l j i with
     | false=>rfl
     | true =>
      exfalso
      unfold depB at hd
      cases hy:l[j]? with
      | none=>rw [hy] at hd;cases hd
      | some y =>
       rw [hy] at hd
       obtain ⟨e,he,hd⟩:=Array.any_eq_true'.1 hd
       simp only [Bool.and_eq_true,beq_iff_eq] at hd
       have:=hcl j y hy hsj e he hd.1
       rw [hd.2,hsi] at this
       cases this
    have hev:∀ j,∀ t,depB l i j=true→dstB l j=some t→(putL s b 0 (l.take n) a0).eval (.tmp t)=b j:=fun j t hj ht=>by
     obtain ⟨hsj,hji⟩:=hdq j hj
     unfold dstB at ht
     cases hy:l[j]? with
     | none=>rw [hy] at ht;cases ht
     | some y =>
      rw [hy] at ht
      have:=putL_at s b t (l.take n) 0 j a0 y (by rw [htk j (by omega)];exact hy) ht (by rw [Nat.zero_add];exact hsj) hdn (hz j y t hy ht)
      rw [this,Nat.zero_add]
    refine wpOp_mono ?_ (step s _ w' i hin' hsi (fun j hj=>(hdq j hj).1) hC (fun t ht=>?_) (fun j t hj ht=>?_))
    ·rintro a' w'' ⟨v,rfl,hC',hRv,hst,hpv⟩
     refine ⟨hcl',.inl ⟨fun j hj=>by simp only;rw [if_neg (by omega)];exact hsn j hj,hC',fun j=>if j=i then v else b j,fun j hj hsj=>?_,fun i' j' hi' hj' hne h1 h2=>?_,?_⟩⟩
     ·by_cases e:j=i
      ·subst e;simp only [if_true];exact hRv
      ·simp only [e,if_false] at hsj ⊢
       exact hst j _ hsj (hR j hj hsj)
     ·by_cases e:i'=i
      ·subst e
       have e2:¬ j'=i':=fun h=>hne h.symm
       simp only [e2,if_false,if_true] at h2 ⊢
       exact (hpv j' _ hj' e2 (hnd j' h2) (hR j' hj' h2) (hev j')).2
      ·by_cases e2:j'=i
       ·subst e2
        simp only [e,if_false,if_true] at h1 ⊢
        exact (hpv i' _ hi' e (hnd i' h1) (hR i' hi' h1) (hev i')).1
       ·simp only [e,e2,if_false] at h1 h2 ⊢
        exact hP i' j' hi' hj' hne h1 h2
     ·have h1:=putL_set s b v (l.take n) 0 i a0 o (by rw [htk i hin'];exact ho') (by rw [Nat.zero_add];exact hsi) hdn
      simp only [Nat.zero_add] at h1
      rw [edst]
      exact h1.symm
    ·exact putL_far s b t (l.take n) 0 a0 fun y hy=>by
      have:=List.all_eq_true.1 ht y (List.mem_of_mem_take hy)
      simpa using this
    ·obtain ⟨hsj,hji⟩:=hdq j hj
     unfold dstB at ht
     cases hy:l[j]? with
     | none=>rw [hy] at ht;cases ht
     | some y =>
      rw [hy] at ht
      have:=putL_at s b t (l.take n) 0 j a0 y (by rw [htk j (by omega)];exact hy) ht (by rw [Nat.zero_add];exact hsj) hdn (hz j y t hy ht)
      rw [this,Nat.zero_add]
      exact hR j (by omega) hsj
  ·have hit:i=t:=by
    have h1:¬ i<t:=fun h=>by rw [(hall i hlt).2 h] at hsi;cases hsi
    rcases Nat.lt_or_ge t i with h | h
    ·have h2:=(hall (i-1) (by omega)).1 (prev (by omega))
     omega
    ·omega
   subst hit
   exact tail a w' hQ2 hall (by omega)
 ·rintro s a w' ⟨_,hs⟩ hall
  have hall':∀ i,i<l.length→s i=true:=fun i hi=>hall i (by simpa using hi)
  rcases hs with ⟨h,_⟩ | ⟨t,_,htl,h,hq⟩
  ·have:=hall' n hn
   rw [h n (Nat.le_refl _)] at this;cases this
  ·have:t=l.length:=by
    rcases Nat.lt_or_ge t l.length with h' | h'
    ·have:=(h t h').1 (hall' t h')
     omega
    ·omega
   rw [this,List.drop_length] at hq
   exact hq
end

/- Contract of slices.Clone at accounts (Xq's, by itself). -/
import Derived.Test.YtjgmbjfijpmhdaaGreatDoorZXfh
import Derived.Test.YtjgmbjfijpmhdaaGreatDoorZQrall
import Derived.Test.YtjgmbjfijpmhdaaGreatDoorZSyall
import Derived.Test.YtjgmbjfijpmhdaaGreatDoorZBa
import Derived.Test.YtjgmbjfijpmhdaaGreatDoorZTall
import Derived.Deep.RegionWith
import Derived.Deep.DeepCutAuto
import Derived.BigRegion
set_option maxRecDepth 100000
set_option maxHeartbeats 2000000
namespace Go.Proofs.YtjgmbjfijpmhdaaGreatDoor
open Go.RowKit
set_option linter.unusedVariables false
set_option linter.unusedSimpArgs false
theorem clone_a (xs:List Ac) (r:Option Addr) (n cap:Nat) (w:World) (hR:Recs cc 4 w (.slice r n cap) xs) (hn:xs.length=n) (hl:n≤1000) :
 Calls Tryz.prog 95 #[.slice r n cap] w fun e w'=>∃ v',e = .returned v'∧w'.ownsRow w.heap.size 82 4 v' n (xs.flatMap cc)∧Below w.heap.size w w':=by
 obtain ⟨i0,hi,hz0,hz1,hz2⟩:=info_parts info35
 have q22:∀ (w:World) (a:Option Addr) (n c n' c':Nat),(binOp .eql 34 (.slice a n c) (.slice none n' c')).run Tryz.prog w = .ok (.bool a.isNone) w:=fun w a n c n' c'=>Lib.run_eql_slice_nil w _ _ a n c n' c' Tryz.underlying34
 have hlen:(xs.flatMap cc).length=n * 4:=by rw [flat_len cc_len,hn]
 cases r with
 | none =>
  have h0:n=0:=by
   rcases hR with ⟨_,_,h1,h2⟩ | ⟨_,_,_,h1,_⟩
   ·cases h1;rfl
   ·cases h1
  subst h0
  have hx:xs.flatMap cc=[]:=List.eq_nil_of_length_eq_zero (by simpa using hlen)
  rw [hx]
  clear hR hlen hx
  go_enter Tryz.func95,Tryz.ntmps95
  go_wp2
  go_ret
  exact ⟨_,rfl,World.ownsRow_nil _ _ _ _,Below.refl _ _⟩
 | some ad =>
  have HC:=Lib.hid (show ∀ j u,(xs.flatMap cc)[j]?=some u→(w.alloc (.cells #[] 82)).cell? (ad.add j)=some u from fun j u hu=>by
   rcases hR with ⟨_,_,h1,h2⟩ | ⟨g,off,c,h1,hg,h3,h4,h5⟩
   ·rw [h2] at hu;simp at hu
   ·cases h1
    have e:(⟨g,off,none⟩:Addr).add j=⟨g,off+j,none⟩:=by unfold Addr.add;split <;> simp_all
    rw [e,World.cell?_alloc_lt _ _ _ hg]
    exact recs_flat cc_len (by omega) (.inr ⟨g,off,cap,rfl,hg,h3,h4,h5⟩) j u hu)
  have h1:=flat_one cc_one xs
  clear hR
  generalize xs.flatMap cc=zs at *
  go_enter Tryz.func95,Tryz.ntmps95
  go_wp2_with (at_builtin;refine wpList_append_own _ rfl (.tmp 5) (.tmp 6) 34 rfl w.heap.size 82 i0 (.agg #[.int .u32 0,.string ⟨#[]⟩,.int .u8 0,.int .u32 0]) 4 32 Tryz.underlying34 hi hz0 hz1 hz2 rfl (by decide) _ 0 [] rfl (World.ownsRow_made w #[] 0 (Nat.le_refl _) (by decide) (by simp)) ad n cap zs rfl hlen HC.out h1 (by unfold maxLen;omega) (by omega) (by simp) ?_;intro v3 w3 hown3 hgrow3 _)
  go_ret
  refine ⟨_,rfl,by simpa using hown3,((Below.refl _ _).alloc (Nat.le_refl _) _).grown hgrow3 (by simp) (fun k hk=>by have e:some w.heap.size=some k:=hk;injection e with e;omega)⟩
end Go.Proofs.YtjgmbjfijpmhdaaGreatDoor
namespace Go.Proofs.YtjgmbjfijpmhdaaGreatDoor
open Go.RowKit Go.Lib
set_option linter.unusedVariables false
set_option linter.unusedSimpArgs false
theorem withA_perm {c:List Ac} {a:Ac} (h:∀ b ∈ c,b.code≠a.code):(withA c a).Perm (c ++ [a]):=by
 unfold withA
 have hp:=List.filter_append_perm (fun b=>decide (b.code<a.code)) c
 have he:c.filter (fun b=>!decide (b.code<a.code))=c.filter (fun b=>decide (a.code<b.code)):=by
  apply List.filter_congr
  intro b hb
  have:=h b hb
  by_cases h1:b.code<a.code
  ·have h2:¬ a.code<b.code:=by omega
   simp [h1,h2]
  ·have h2:a.code<b.code:=by omega
   simp [h1,h2]
 rw [he] at hp
 refine List.Perm.trans ?_ (hp.append_right [a])
 rw [List.append_assoc]
 refine List.Perm.append_left _ ?_
 exact (List.perm_append_singleton a _).symm
theorem sort_putA {c ys:List Ac} {a:Ac} (hr:RiseA c) (hn:∀ b ∈ c,b.code≠a.code) (hp:ys.Perm (c ++ [a])) (hs:ys.Pairwise (fun x y=>x.code≤y.code)):ys=withA c a:=by
 have hw:=withA_rise hr a
 have hp2:ys.Perm (withA c a):=hp.trans (withA_perm hn).symm
 have hnd:(withA c a).Pairwise (fun x y=>x.code≠y.code):=hw.imp (fun h=>Nat.ne_of_lt h)
 have hnd2:ys.Pairwise (fun x y=>x.code≠y.code):=(hp2.pairwise_iff (fun {x y} h=>fun e=>h e.symm)).2 hnd
 have hs2:ys.Pairwise (fun x y=>x.code<y.code):=by
  have:=List.Pairwise.and hs hnd2
  exact this.imp (fun h=>Nat.lt_of_le_of_ne h.1 h.2)
 exact hp2.eq_of_pairwise (fun x y _ _ h1 h2=>absurd (Nat.lt_trans h1 h2) (Nat.lt_irrefl _)) hs2 hw
theorem withA_out (c:List Ac) (a:Ac):withA (outA c a.code) a=withA c a:=by
 unfold withA outA
 rw [List.filter_filter,List.filter_filter]
 congr 1
 ·apply List.filter_congr
  intro b _
  by_cases h:b.code<a.code
  ·have:b.code≠a.code:=by omega
   simp [h,this]
  ·simp [h]
 ·congr 1
  apply List.filter_congr
  intro b _
  by_cases h:a.code<b.code
  ·have:b.code≠a.code:=by omega
   simp [h,this]
  ·simp [h]
theorem out_withA (c:List Ac) (a:Ac) (n:Nat) (h:a.code≠n):outA (withA c a) n=withA (outA c n) a:=by
 unfold withA outA
 rw [List.filter_append,List.filter_cons,if_pos (by simp [h]),List.filter_filter,List.filter_filter,List.filter_filter,List.filter_filter]
 congr 1
 ·apply List.filter_congr
  intro b _
  rw [Bool.and_comm]
 ·congr 1
  apply List.filter_congr
  intro b _
  rw [Bool.and_comm]
theorem outA_code {c:List Ac} {n:Nat} {b:Ac} (h:b ∈ outA c n):b.code≠n:=by
 unfold outA at h
 have:=(List.mem_filter.1 h).2
 simpa using this
theorem getA_no15 {c:List Ac} {n:Nat}:getA c n=none ↔ ∀ b ∈ c,b.code≠n:=by
 unfold getA
 rw [List.find?_eq_none]
 simp
theorem getA_code15 {c:List Ac} {n:Nat} {a:Ac} (h:getA c n=some a):a.code=n∧a ∈ c:=by
 unfold getA at h
 exact ⟨by have:=List.find?_some h;simpa using this,List.mem_of_find?_eq_some h⟩
theorem getA_withA {c:List Ac} {a:Ac} {n:Nat}:(getA (withA c a) n).isSome=(decide (a.code=n) || (getA c n).isSome):=by
 cases h:getA (withA c a) n with
 | none =>
  have hn:=getA_no15.1 h
  have h1:a.code≠n:=hn a (by unfold withA;simp)
  have h2:getA c n=none:=by
   rw [getA_no15]
   intro b hb
   by_cases e:b.code=a.code
   ·rw [e];exact h1
   ·refine hn b ?_
    unfold withA
    rcases Nat.lt_or_gt_of_ne e with e | e
    ·exact List.mem_append_left _ (List.mem_filter.2 ⟨hb,by simpa using e⟩)
    ·exact List.mem_append_right _ (List.mem_cons_of_mem _ (List.mem_filter.2 ⟨hb,by simpa using e⟩))
  simp [h1,h2]
 | some x =>
  obtain ⟨h1,h2⟩:=getA_code15 h
  rcases withA_mem h2 with rfl | h2
  ·simp [h1]
  ·cases h3:getA c n with
   | none=>exact absurd h1 (getA_no15.1 h3 x h2)
   | some _=>simp
def splitL (a:Ac) (c:List Ac):List Nat→List (Nat × Int)→List Ac→Except Int (List Ac)
 | _,[],r=>.ok r
 | pre,p :: l,r=>if h:p.1<1∨999999<p.1∨p.2<1∨1000000<p.2 then .error 5 else if (getA c p.1).isSome || decide (p.1 ∈ pre) then .error 7 else splitL a c (pre ++ [p.1]) l (withA r (a.re p.1 (by omega)))
def accL (c:List Ac) (o:Rop):Except Int (List Ac):=match getA c o.frm with
 | none=>.error 8
 | some a =>
  if o.kind=0 then (if (getA c o.to).isSome then .error 7 else .ok (withA (moveA (outA c o.frm) o.frm o.to o.ht) (a.re o.to o.ht)))
  else if o.kind=1 then .ok (withA (outA c o.frm) (a.nm o.name o.hn))
  else if o.kind=2 then .ok (withA (outA c o.frm) (a.to o.to o.ht))
  else if o.kind=3 then (if o.to=o.frm then .error 16 else match getA c o.to with
   | none=>.error 8
   | some b=>if b.kind≠a.kind then .error 9 else if kidsA c o.frm≠[] then .error 12 else .ok (outA c o.frm))
  else if kidsA c o.frm≠[] then .error 12
  else if o.parts.length<1∨8<o.parts.length then .error 2
  else splitL a c [] o.parts (outA c o.frm)
theorem split_same {a:Ac} {c:List Ac} {n:Nat} (hn:(getA c n).isSome=true):∀ (l:List (Nat × Int)) (pre:List Nat) (cc:List Ac),(∀ m,(getA cc m).isSome=((getA c m).isSome || decide (m ∈ pre))) →
 splitL a c pre l (outA cc n)=(match splitO a l cc with | .error e=>.error e | .ok c'=>.ok (outA c' n))
 | [],pre,cc,hc=>rfl
 | p :: l,pre,cc,hc=>by
  unfold splitL splitO
  by_cases h:p.1<1∨999999<p.1∨p.2<1∨1000000<p.2
  ·rw [dif_pos h,dif_pos h]
  ·rw [dif_neg h,dif_neg h,hc p.1]
   by_cases ht:((getA c p.1).isSome || decide (p.1 ∈ pre))=true
   ·rw [if_pos ht,if_pos ht]
   ·rw [if_neg ht,if_neg ht]
    have hne:p.1≠n:=by
     intro e
     rw [e,hn] at ht
     exact ht rfl
    rw [← out_withA cc (a.re p.1 (by omega)) n hne]
    refine split_same hn l (pre ++ [p.1]) _ fun m=>?_
    rw [getA_withA,hc m]
    have e1:(a.re p.1 (by omega)).code=p.1:=rfl
    rw [e1]
    by_cases e2:p.1=m
    ·subst e2;simp
    ·have e3:¬ m=p.1:=fun e=>e2 e.symm
     simp [e2,e3]
theorem accL_eq (c:List Ac) (o:Rop):accL c o=accF c o:=by
 unfold accL accF
 cases hg:getA c o.frm with
 | none=>rfl
 | some a =>
  simp only
  obtain ⟨hc,_⟩:=getA_code15 hg
  have e1:withA (outA c o.frm) (a.nm o.name o.hn)=withA c (a.nm o.name o.hn):=by
   have:=withA_out c (a.nm o.name o.hn)
   rw [show (a.nm o.name o.hn).code=o.frm from hc] at this
   exact this
  have e2:withA (outA c o.frm) (a.to o.to o.ht)=withA c (a.to o.to o.ht):=by
   have:=withA_out c (a.to o.to o.ht)
   rw [show (a.to o.to o.ht).code=o.frm from hc] at this
   exact this
  rw [e1,e2,split_same (by rw [hg];rfl) o.parts [] c (fun m=>by simp)]
  rfl
theorem splitL_free {a:Ac} {c:List Ac} {pre:List Nat} {p:Nat × Int} {cc:List Ac} {n:Nat} (h:((getA c p.1).isSome || decide (p.1 ∈ pre))=false) (hc:∀ b ∈ cc,(getA c b.code).isSome=true∨b.code ∈ pre):∀ b ∈ cc,b.code≠p.1:=by
 intro b hb e
 simp only [Bool.or_eq_false_iff,decide_eq_false_iff_not] at h
 rcases hc b hb with k | k
 ·rw [e,h.1] at k;cases k
 ·rw [e] at k;exact h.2 k
def lastF (x:Nat):List Nat→Nat→Int→Int
 | [],_,c=>c
 | a :: l,i,c=>lastF x l (i+1) (if a=x then (i:Int) else c)
theorem lastF_no {x:Nat}:∀ {l:List Nat} {i:Nat} {c:Int},x ∉ l→lastF x l i c=c
 | [],_,_,_=>rfl
 | a :: l,i,c,h=>by
  have h1:a≠x:=fun e=>h (by simp [e])
  have h2:x ∉ l:=fun e=>h (List.mem_cons_of_mem _ e)
  unfold lastF
  rw [if_neg h1]
  exact lastF_no h2
theorem lastF_in {x:Nat}:∀ {l:List Nat} {i:Nat} {c:Int},x ∈ l → ∃ j,lastF x l i c=((i+j:Nat):Int)∧l[j]?=some x
 | [],_,_,h=>by cases h
 | a :: l,i,c,h=>by
  unfold lastF
  by_cases hx:x ∈ l
  ·obtain ⟨j,h1,h2⟩:=lastF_in (i:=i+1) (c:=if a=x then (i:Int) else c) hx
   exact ⟨j+1,by rw [h1];omega,by simpa using h2⟩
  ·have ha:a=x:=by
    rcases List.mem_cons.1 h with e | e
    ·exact e.symm
    ·exact absurd e hx
   rw [if_pos ha,lastF_no hx]
   exact ⟨0,by simp,by simp [ha]⟩
theorem lastF_neg {x:Nat} {l:List Nat}:lastF x l 0 (-1)<0 ↔ x ∉ l:=by
 constructor
 ·intro h hx
  obtain ⟨j,h1,_⟩:=lastF_in (i:=0) (c:=-1) hx
  omega
 ·intro h
  rw [lastF_no h];decide
theorem lastF_same {x y:Nat} {l:List Nat} (hx:x ∈ l):lastF x l 0 (-1)=lastF y l 0 (-1) ↔ x=y:=by
 constructor
 ·intro h
  obtain ⟨j,h1,h2⟩:=lastF_in (i:=0) (c:=-1) hx
  by_cases hy:y ∈ l
  ·obtain ⟨k,h3,h4⟩:=lastF_in (i:=0) (c:=-1) hy
   have:j=k:=by omega
   subst this
   exact Option.some.inj (h2.symm.trans h4)
  ·rw [lastF_no hy] at h
   omega
 ·rintro rfl;rfl
theorem unitL_eq {u ys:List Nat} {f t:Nat} (hr:RiseU u) (hp:ys.Perm (u.filter (fun n=>!(n == f) && !(n == t)) ++ [t])) (hs:ys.Pairwise (fun a b=>a≤b)):ys=withU (outU u f) t:=by
 refine sort_with (outU_rise hr f) ?_ hs
 have e:outU (outU u f) t=u.filter (fun n=>!(n == f) && !(n == t)):=by
  unfold outU
  rw [List.filter_filter]
  apply List.filter_congr
  intro b _
  by_cases h1:b=f <;> by_cases h2:b=t <;> (first | rfl | (simp [h1,h2];done) | (simp_all;done) | (rw [Bool.eq_iff_iff];simp;omega))
 rw [e]
 exact hp
theorem lastA {c:List Ac} {n:Nat} {j:Nat} (hr:RiseA c) (h:(c.map Ac.code)[j]?=some n):∃ a,c[j]?=some a∧getA c n=some a:=by
 rw [List.getElem?_map] at h
 cases ha:c[j]? with
 | none=>rw [ha] at h;cases h
 | some a =>
  rw [ha] at h
  have hc:a.code=n:=Option.some.inj h
  refine ⟨a,rfl,?_⟩
  have hm:a ∈ c:=List.mem_of_getElem? ha
  cases hg:getA c n with
  | none=>exact absurd hc (getA_no15.1 hg a hm)
  | some b =>
   obtain ⟨hb,hbm⟩:=getA_code15 hg
   have:a=b:=by
    obtain ⟨i,hi,rfl⟩:=List.getElem_of_mem hm
    obtain ⟨k,hk,rfl⟩:=List.getElem_of_mem hbm
    rcases Nat.lt_trichotomy i k with e | e | e
    ·have:=List.pairwise_iff_getElem.1 hr i k hi hk e;omega
    ·subst e;rfl
    ·have:=List.pairwise_iff_getElem.1 hr k i hk hi e;omega
   rw [this]
theorem code_in {c:List Ac} {n:Nat}:n ∈ c.map Ac.code ↔ (getA c n).isSome=true:=by
 cases h:getA c n with
 | none =>
  have:=getA_no15.1 h
  simp only [Option.isSome_none,List.mem_map,Bool.false_eq_true,iff_false,not_exists,not_and]
  exact fun a ha=>this a ha
 | some a =>
  obtain ⟨h1,h2⟩:=getA_code15 h
  simp only [Option.isSome_some,List.mem_map,iff_true]
  exact ⟨a,h2,h1⟩
end Go.Proofs.YtjgmbjfijpmhdaaGreatDoor
namespace Go.Proofs.YtjgmbjfijpmhdaaGreatDoor
open Go.RowKit Go.Lib Go.Sort
set_option linter.unusedVariables false
set_option linter.unusedSimpArgs false
section
variable {α:Type} [Inhabited α]
theorem holds_of_ownsA {enc:α→List Value} {k:Nat} (hk:∀ x,(enc x).length=k) {w:World} {base g n cap:Nat} {e:TypeId} {xs:List α} (h:w.ownsRow base e k (.slice (some ⟨g,0,none⟩) n cap) n (xs.flatMap enc)) :
 HoldsK enc k w g 0 xs.toArray∧g<w.heap.size:=by
 have hc:=h.cells (g:=g) rfl
 rcases h.2 with ⟨h0,_⟩ | ⟨g',cap',cur,h1,hb,hg,_⟩
 ·cases h0
 ·cases h1
  refine ⟨fun t ht=>?_,(Array.getElem?_eq_some_iff.1 hg).1⟩
  rw [size_flatK] at ht
  have hk0:0<k:=by
   rcases Nat.eq_zero_or_pos k with e | e;· subst e;simp at ht
   ·exact e
  have hi:t / k<xs.length:=(Nat.div_lt_iff_lt_mul hk0).2 (by simpa using ht)
  have hm:t % k<k:=Nat.mod_lt _ hk0
  refine ⟨?_,frozen_of_row _ _ _ _ _ hg⟩
  rw [get_flatK _ _ _ _ ht,Nat.zero_add]
  have ex:xs[t / k]?=some xs[t / k]:=List.getElem?_eq_getElem hi
  have hlen:t % k<(enc xs[t / k]).length:=by rw [hk];exact hm
  have eu:(enc xs[t / k])[t % k]?=some (enc xs[t / k])[t % k]:=List.getElem?_eq_getElem hlen
  have hf:=flat_get hk ex eu
  rw [show t / k * k+t % k=t by rw [Nat.mul_comm];exact Nat.div_add_mod t k] at hf
  have:=hc t _ hf
  have e0:(⟨g,0,none⟩:Addr).add t=⟨g,t,none⟩:=by simp [Addr.add];intro h;exact h.symm
  rw [e0] at this
  rw [this]
  have e1:(xs.toArray)[t / k]! = xs[t / k]:=by simp [hi]
  rw [e1]
  simp [hlen]
theorem recs_of_holdsA {enc:α→List Value} {k:Nat} (hk:∀ x,(enc x).length=k) {w:World} {g cap:Nat} {d:Array α} (h:HoldsK enc k w g 0 d) (hg:g<w.heap.size) (hc:d.size≤cap) (hm:d.size≤9223372036854775807) :
 Recs enc k w (.slice (some ⟨g,0,none⟩) d.size cap) d.toList:=by
 refine .inr ⟨g,0,cap,by simp,hg,by simpa using hm,by simpa using hc,fun i x hx j u hu=>?_⟩
 have hi:i<d.size:=by have:=(List.getElem?_eq_some_iff.1 hx).1;simpa using this
 have hj:j<k:=by have:=(List.getElem?_eq_some_iff.1 hu).1;rwa [hk] at this
 have:=(h.cell hi hj).1
 rw [this]
 have e1:d[i]! = x:=by
  have:d[i]?=some x:=by rw [← Array.getElem?_toList];exact hx
  simp [getElem!_def,this]
 rw [e1]
 have hlen:j<(enc x).length:=by rw [hk];exact hj
 have:(enc x)[j]! = (enc x)[j]:=by simp [hlen]
 rw [this]
 rw [List.getElem?_eq_getElem hlen] at hu
 exact hu
theorem sort_belowA {enc:α→List Value} {k:Nat} {w:World} {g off m:Nat} {dk:Array α} {os:Array Obj} {B:Nat} (hB:B≤g) (hw:B≤w.heap.size):Below B w (sortWorldK enc k w g off m dk os):=by
 unfold sortWorldK
 refine ⟨rfl,rfl,rfl,?_,fun j hj=>?_⟩
 ·rw [size_grow,size_putRowK];exact Nat.le_add_right _ _
 ·have h1:(putRowK enc k (Sort.ahead w m) g off dk).heap[j]?=w.heap[j]?:=by
   unfold putRowK putRow mapBlock
   simp only [Array.getElem?_modify]
   rw [if_neg (by omega)]
   rfl
  have h2:j<(putRowK enc k (Sort.ahead w m) g off dk).heap.size:=by rw [size_putRowK];show j<w.heap.size;omega
  rw [← h1]
  simp [grow,Array.getElem?_append,h2]
end
theorem cc_oneA (x:Ac):∀ v ∈ cc x,v.oneCell'=true:=fun v hv=>by simp [cc] at hv;rcases hv with rfl | rfl | rfl | rfl <;> rfl
theorem sorta_c (xs:List Ac) (g cap n base:Nat) (w:World) (ho:w.ownsRow base 82 4 (.slice (some ⟨g,0,none⟩) n cap) n (xs.flatMap cc)) (hn:xs.length=n) (hb:base≤g) (hbw:base≤w.heap.size) (hc:n≤cap) (hl:n≤1000) :
 Calls Tryz.prog 96 #[.slice (some ⟨g,0,none⟩) n cap,.func (.func 97) #[] #[]] w fun e w'=>e = .returned (.tuple #[]) ∧ ∃ ys:List Ac,ys.Perm xs∧ys.Pairwise (fun x y=>x.code≤y.code)∧Recs cc 4 w' (.slice (some ⟨g,0,none⟩) n cap) ys∧Below base w w':=by
 obtain ⟨hH,hg⟩:=holds_of_ownsA cc_len ho
 have R:RowK cc 4 w g 0 xs.toArray:=⟨cc_len,cc_oneA,hH,hg⟩
 refine (sort_stable xs.toArray g 0 cap n w R (by simpa using hn) (by omega)).mono ?_
 rintro e w' ⟨rfl,d',hsz,hp,hs,m,os,rfl⟩
 have hsz':d'.size=n:=by rw [hsz];simpa using hn
 have hH':=holdsK_sortWorldK_c cc 4 w g 0 xs.toArray d' m os hH hg hsz
 have hbl:Below base w (sortWorldK cc 4 w g 0 m d' os):=sort_belowA hb hbw
 refine ⟨rfl,d'.toList,?_,?_,?_,hbl⟩
 ·obtain ⟨_,_,hp⟩:=hp
  have e1:d'.extract 0 n=d':=by rw [← hsz'];simp
  have e2:xs.toArray.extract 0 n=xs.toArray:=by rw [← hn];simp
  rw [e1,e2] at hp
  simpa using hp
 ·rw [List.pairwise_iff_getElem]
  intro i j hi hj hij
  have hi':i<d'.size:=by simpa using hi
  have hj':j<d'.size:=by simpa using hj
  have:=hs i j (Nat.zero_le _) hij (by omega)
  rw [ltA_iff] at this
  have h1:d'[i]! = d'.toList[i]:=by simp [hi']
  have h2:d'[j]! = d'.toList[j]:=by simp [hj']
  rw [h1,h2] at this
  simpa using this
 ·have:=recs_of_holdsA cc_len hH' (Nat.lt_of_lt_of_le hg hbl.size) (cap:=cap) (by omega) (by omega)
  rw [hsz'] at this
  exact this
end Go.Proofs.YtjgmbjfijpmhdaaGreatDoor
namespace Go.Proofs.YtjgmbjfijpmhdaaGreatDoor
open Go.RowKit Go.Lib
set_option linter.unusedVariables false
set_option linter.unusedSimpArgs false
def PRt (B N cap:Nat) (r:Option Addr) (Y cs:List Value):Nat→Value→World→Prop
 | 0,v,_=>v = .slice r N cap
 | 1,v,w=>∃ r2 cap2,v = .slice r2 N cap2∧w.ownsRow B 82 4 v N Y
 | 2,v,_=>v = .agg cs.toArray
 | 3,v,w=>∃ g,v = .slice (some ⟨g,0,none⟩) 1 1∧HBox w g cs 82
 | _,_,_=>True
theorem PRt.below {B N cap:Nat} {r:Option Addr} {Y cs:List Value} {w w':World} (hb:Below w.heap.size w w'):∀ (j:Nat) (u:Value),PRt B N cap r Y cs j u w→PRt B N cap r Y cs j u w'
 | 0,_,h=>h
 | 1,_,⟨r2,c2,h1,h2⟩=>⟨r2,c2,h1,owns_below h2 hb⟩
 | 2,_,h=>h
 | 3,_,⟨g,h1,h2⟩=>⟨g,h1,h2.stay hb⟩
 | _+4,_,_=>trivial
theorem hbox_cellsP {w:World} {b:Nat} {cs:List Value} {T:TypeId} (h:HBox w b cs T):∀ j u,cs[j]?=some u→w.cell? ((⟨b,0,none⟩:Addr).add j)=some u:=fun j u hj=>by
 have e:(⟨b,0,none⟩:Addr).add j=⟨b,j,none⟩:=by unfold Addr.add;split <;> simp_all
 rw [e]
 exact h.cell hj
theorem owns_some {w:World} {base n:Nat} {e:TypeId} {size:Nat} {v:Value} {xs:List Value} (h:w.ownsRow base e size v (n+1) xs):∃ g cap,v = .slice (some ⟨g,0,none⟩) (n+1) cap∧base≤g∧n+1≤cap:=by
 rcases h.2 with ⟨_,h0⟩ | ⟨g,cap,cur,h1,hb,hg,hc,_⟩
 ·omega
 ·exact ⟨g,cap,h1,hb,hc⟩
theorem put_c (c:List Ac) (a:Ac) (v:Value) (w:World) (hR:Recs cc 4 w v c) (hr:RiseA c) (hn:∀ b ∈ c,b.code≠a.code) (hl:c.length≤900) :
 Calls Tryz.prog 62 #[v,cv a] w fun e w'=>∃ r n cap,e = .returned (.slice r n cap)∧(∀ ad,r=some ad→w.heap.size≤ad.block)∧Recs cc 4 w' (.slice r n cap) (withA c a)∧Below w.heap.size w w':=by
 obtain ⟨i0,hi,hz0,hz1,hz2⟩:=info_parts info35
 have hmix:Tryz.prog.follows .mixedOrders=true:=by kernel_rfl
 obtain ⟨r,cap,rfl,hcap⟩:=cap_of hR
 have KC:=Lib.hid (fun (W:World) (h:Below w.heap.size w W)=>clone_a c r c.length cap W (hR.stay h) rfl (by omega))
 have HW:Hid (∀ ys:List Ac,ys.Perm (c ++ [a])→ys.Pairwise (fun x y=>x.code≤y.code)→ys=withA c a):=Lib.hid (fun ys hp hs=>sort_putA hr hn hp hs)
 have KS:=Lib.hid (fun (g cp:Nat) (W:World) (ho:W.ownsRow w.heap.size 82 4 (.slice (some ⟨g,0,none⟩) (c.length+1) cp) (c.length+1) ((c ++ [a]).flatMap cc)) (hb:w.heap.size≤g) (hbw:w.heap.size≤W.heap.size) (hc:c.length+1≤cp)=>sorta_c (c ++ [a]) g cp (c.length+1) w.heap.size W ho (by simp) hb hbw hc (by omega))
 have HCC:Hid ((c ++ [a]).flatMap cc=c.flatMap cc ++ cc a):=by rw [flat_snoc];trivial
 obtain ⟨N,hN⟩:∃ n,c.length=n:=⟨_,rfl⟩
 have HN:=Lib.hid hN
 rw [hN] at KC KS hl hcap ⊢
 obtain ⟨X,hX⟩:∃ x,(c ++ [a]).flatMap cc=x:=⟨_,rfl⟩
 rw [hX] at KS HCC
 obtain ⟨Y,hY⟩:∃ y,c.flatMap cc=y:=⟨_,rfl⟩
 rw [hY] at KC HCC
 have hlen:Y.length=N * 4:=by rw [← hY,flat_len cc_len,hN]
 clear hR hr hn hN hX hY
 unfold cv
 obtain ⟨ac,an,ak,ap,_,_,_,_⟩:=a
 have hb:=(Below.refl w.heap.size w).alloc (Nat.le_refl _) (.cells #[.int .u32 (ac:Int),.string an,.int .u8 (ak:Int),.int .u32 (ap:Int)] 82)
 have hB:=HBox.new w [.int .u32 (ac:Int),.string an,.int .u8 (ak:Int),.int .u32 (ap:Int)] 82
 change HBox (w.alloc (.cells #[.int .u32 (ac:Int),.string an,.int .u8 (ak:Int),.int .u32 (ap:Int)] 82)) _ _ _ at hB
 go_enter Tryz.func62,Tryz.ntmps62
 go_upto_region 1 with fail
 generalize w.alloc (.cells #[.int .u32 (ac:Int),.string an,.int .u8 (ak:Int),.int .u32 (ap:Int)] 82)=W1 at *
 obtain ⟨G,hGG⟩:∃ G,w.heap.size=G:=⟨_,rfl⟩
 have HGG:=Lib.hid hGG
 have HB1:=Lib.hid hb
 have HX1:=Lib.hid hB
 clear hb hB hGG
 refine wp_region_part4 4 (fun _ w'=>Below w.heap.size w w'∧HBox w' w.heap.size [.int .u32 (ac:Int),.string an,.int .u8 (ak:Int),.int .u32 (ap:Int)] 82) (PRt w.heap.size N cap r Y [.int .u32 (ac:Int),.string an,.int .u8 (ak:Int),.int .u32 (ap:Int)]) (fun _ _ _ _=>True) hmix (by decide) (by kernel_rfl) (by kernel_rfl) (by kernel_rfl) ⟨HB1.out.drew,HX1.out.stay (Below.refl _ _).drew⟩ ?_ ?_
 ·intro st a' w' i hiN hsi hdn hC hfar hrd
  rcases (by omega:i=0∨i=1∨i=2∨i=3) with rfl | rfl | rfl | rfl
  ·refine op_run (.move (.tmp 0)) (some 6) (by unfold opIs;kernel_rfl) (.slice r N cap) (w':=w') (fun o ho=>by unfold execOp;rw [ho];simp only [(hfar 0 (by kernel_rfl)).trans (show _=((.slice r N cap):Value) by kernel_rfl)];go_simp) ?_
   exact ⟨_,congrArg (fun d=>a'.put d (.slice r N cap)) (by kernel_rfl),hC,rfl,(fun j u _ h=>PRt.below (Below.refl _ _) j u h),fun _ _ _ _ _ _ _=>⟨trivial,trivial⟩⟩
  ·refine op_call (.call { callee:=.value (.func 95),args:=#[.tmp 6],argTypes:=#[34] }) (some 7) (by unfold opIs;kernel_rfl) 95 #[(.slice r N cap)] (fun o ho=>by unfold execOp;rw [ho];simp only [resolve,List.map_toArray,List.map_cons,List.map_nil,show a'.eval (.tmp 6)=(.slice r N cap) from hrd 0 6 (by kernel_rfl) (by kernel_rfl)];go_simp) (KC.out w' hC.1) ?_
   rintro e w'' ⟨v2,rfl,ho2,hb2⟩
   have ho3:=owns_mono ho2 hC.1.size
   obtain ⟨r2,cap2,rfl⟩:=owns_form ho3
   exact ⟨_,rfl,_,congrArg (fun d=>a'.put d _) (by kernel_rfl),⟨hC.1.trans (hb2.mono hC.1.size),hC.2.stay hb2⟩,⟨r2,cap2,rfl,ho3⟩,(fun j u _ h=>PRt.below hb2 j u h),fun _ _ _ _ _ _ _=>⟨trivial,trivial⟩⟩
  ·have x0:=hC.2.cell (j:=0) rfl
   have x1:=hC.2.cell (j:=1) rfl
   have x2:=hC.2.cell (j:=2) rfl
   have x3:=hC.2.cell (j:=3) rfl
   refine op_load 82 (.tmp 3) (some 8) (by unfold opIs;kernel_rfl) _ (.agg #[.int .u32 (ac:Int),.string an,.int .u8 (ak:Int),.int .u32 (ap:Int)]) ((hfar 3 (by kernel_rfl)).trans (show _=(.pointer (some ⟨w.heap.size,0,none⟩):Value) by kernel_rfl)) (by go_simp) ?_
   exact ⟨_,congrArg (fun d=>a'.put d (.agg #[.int .u32 (ac:Int),.string an,.int .u8 (ak:Int),.int .u32 (ap:Int)])) (by kernel_rfl),hC,rfl,(fun j u _ h=>PRt.below (Below.refl _ _) j u h),fun _ _ _ _ _ _ _=>⟨trivial,trivial⟩⟩
  ·refine op_run (.buildSlice 34 1 #[(0,.tmp 8)]) (some 9) (by unfold opIs;kernel_rfl) (.slice (some ⟨w'.heap.size,0,none⟩) 1 1) (w':=w'.alloc (.cells #[.int .u32 (ac:Int),.string an,.int .u8 (ak:Int),.int .u32 (ap:Int)] 82)) (fun o ho=>by unfold execOp;rw [ho];simp only [List.map_toArray,List.map_cons,List.map_nil,show a'.eval (.tmp 8)=(.agg #[.int .u32 (ac:Int),.string an,.int .u8 (ak:Int),.int .u32 (ap:Int)]) from hrd 2 8 (by kernel_rfl) (by kernel_rfl)];go_simp) ?_
   have hb:=(Below.refl w'.heap.size w').alloc (Nat.le_refl _) (.cells #[.int .u32 (ac:Int),.string an,.int .u8 (ak:Int),.int .u32 (ap:Int)] 82)
   exact ⟨_,congrArg (fun d=>a'.put d (.slice (some ⟨w'.heap.size,0,none⟩) 1 1)) (by kernel_rfl),⟨hC.1.trans (hb.mono hC.1.size),hC.2.stay hb⟩,⟨_,rfl,HBox.new w' [.int .u32 (ac:Int),.string an,.int .u8 (ak:Int),.int .u32 (ap:Int)] _⟩,(fun j u _ h=>PRt.below hb j u h),fun _ _ _ _ _ _ _=>⟨trivial,trivial⟩⟩
 ·intro st bv W9 hall hC hR _
  obtain ⟨r2,cap2,q1,hO⟩:=hR 1 (by omega)
  obtain ⟨g9,q3,hB9⟩:=hR 3 (by omega)
  simp only [List.take_succ_cons,List.take_zero,List.drop_succ_cons,List.drop_zero,putL,if_true,Nat.reduceAdd,Act.put,List.getElem_toArray,List.getElem_cons_zero,List.getElem_cons_succ,List.setIfInBounds_toArray,List.set_cons_zero,List.set_cons_succ]
  rw [q1] at hO
  rw [q1,q3]
  have HO:=Lib.hid hO
  have HBW:=Lib.hid hC.1
  have HB9:=Lib.hid hB9
  have HS9:w.heap.size≤W9.heap.size:=hC.1.size
  clear hR hall hC hO hB9 q1 q3
  go_upto_region 2 with (at_builtin;refine wpList_append_own _ rfl (.tmp 7) (.tmp 9) 34 rfl w.heap.size 82 i0 (.agg #[.int .u32 0,.string ⟨#[]⟩,.int .u8 0,.int .u32 0]) 4 32 Tryz.underlying34 hi hz0 hz1 hz2 rfl (by decide) _ N Y rfl HO.out ⟨g9,0,none⟩ 1 1 [.int .u32 (ac:Int),.string an,.int .u8 (ak:Int),.int .u32 (ap:Int)] rfl rfl (hbox_cellsP HB9.out) (fun v hv=>by simp at hv;rcases hv with rfl | rfl | rfl | rfl <;> rfl) (by unfold maxLen;omega) (by omega) HS9 ?_;intro v3 w3 ho3 hg3 _;obtain ⟨g3,cp3,rfl,hgb3,hcp3⟩:=owns_some ho3;have HB3:=Lib.hid (HBW.out.grown hg3 HS9 (fun j hj=>(HO.out.lt j hj).1));have HO3:Hid (w3.ownsRow w.heap.size 82 4 (.slice (some ⟨g3,0,none⟩) (N+1) cp3) (N+1) X):=Lib.hid (by rw [HCC.out];exact ho3);clear ho3 hg3)
  go_wp2_with (go_at_call 96;refine (KS.out g3 cp3 w3 HO3.out hgb3 HB3.out.size hcp3).mono ?_;rintro e w4 ⟨rfl,ys,hp,hs,hr4,hb4⟩;have HR4:=Lib.hid (HW.out ys hp hs ▸ hr4:Recs cc 4 w4 _ (withA c _));have HB4:=Lib.hid (HB3.out.trans hb4);clear hp hs hr4 hb4)
  go_ret
  exact ⟨_,_,_,rfl,fun ad e=>by cases e;exact hgb3,HR4.out,HB4.out⟩

/- Books in plain words (law 10): the frame, the lines, the journals that it makes; what may be. -/
import Derived.Test.YtjgmbjfijpmhdaaGreatDoorZIall
import Derived.Test.YtjgmbjfijpmhdaaGreatDoorZCall
import Derived.Test.YtjgmbjfijpmhdaaGreatDoorZNall
import Derived.Test.YtjgmbjfijpmhdaaGreatDoorZJall
namespace Go.Proofs.YtjgmbjfijpmhdaaGreatDoor
open Go.RowKit
set_option linter.unusedVariables false
set_option linter.unusedSimpArgs false
structure Sm where
 acc:Nat
 ent:Nat
 ctr:Nat
 amt:Int
 ha:acc<256
 he:ent<256
 hc:ctr<256
 hm : -9223372036854775808≤amt∧amt≤9223372036854775807
deriving DecidableEq
def smc (x:Sm):List Value:=[.int .u8 (x.acc:Int),.int .u8 (x.ent:Int),.int .u8 (x.ctr:Int),.int .i64 x.amt]
theorem smc_len (x:Sm):(smc x).length=4:=rfl
def cashA:Ac:=⟨7,⟨#[67,97,115,104]⟩,0,0,by omega,by omega,by omega,by decide⟩
def frC (c:List Qt):List Ac:=if mkC c=[] then [cashA] else mkC c
def frU (u:List Nat):List Nat:=if mkU u=[] then [5] else mkU u
def accAt (C:List Ac) (i:Nat):Ac:=C.getD (i % C.length) cashA
def entAt (U:List Nat) (i:Nat):En:=⟨U.getD (i % U.length) 0 % 65536,Nat.mod_lt _ (by omega)⟩
def lnF (C:List Ac) (U:List Nat) (x:Sm):Ln:=⟨(accAt C x.acc).code,entAt U x.ent,if x.ctr % 2=1 then (entAt U (x.ctr / 2)).n else 0,x.amt,(accAt C x.acc).hc,by split <;> first | exact (entAt U _).h | omega,x.hm⟩
def amtF (a:Int):Int:=if a.tmod 288230376151711744=0 then 1 else a.tmod 288230376151711744
theorem tmod_small (a:Int) : -288230376151711744<a.tmod 288230376151711744∧a.tmod 288230376151711744<288230376151711744:=by
 have h1:=Int.tmod_lt_of_pos a (b:=288230376151711744) (by omega)
 have h2:=Int.tmod_lt_of_pos (-a) (b:=288230376151711744) (by omega)
 rw [Int.neg_tmod] at h2
 omega
theorem amtF_in (a:Int):amtF a≠0 ∧ -288230376151711744<amtF a∧amtF a<288230376151711744:=by
 have h:=tmod_small a
 unfold amtF
 split <;> omega
def lnA (C:List Ac) (U:List Nat) (x:Sm):Ln:={ lnF C U x with amt:=amtF x.amt,hm:=by have:=amtF_in x.amt;omega }
theorem En.eq_of {x y:En} (h:x.n=y.n):x=y:=by cases x;cases y;cases h;rfl
def sumZ (ls:List Ln) (n:En):Int:=(sumE ls n).getD 0
theorem sumZ_eq (ls:List Ln) (n:En):sumZ ls n=((ls.filter (fun x=>decide (x.ent=n))).map Ln.amt).sum:=by
 unfold sumZ sumE
 rw [sumK_eq]
 have e:((ls.map ep).filter (fun p=>decide (p.1=n))).map Prod.snd=(ls.filter (fun x=>decide (x.ent=n))).map Ln.amt:=by
  rw [List.filter_map,List.map_map]
  rfl
 rw [e]
 split
 ·rfl
 ·rename_i h
  have:ls.filter (fun x=>decide (x.ent=n))=[]:=by
   rw [List.filter_eq_nil_iff]
   intro x hx
   simp only [List.any_map,List.any_eq_true,not_exists,not_and] at h
   exact h x hx
  rw [this]
  rfl
theorem sumZ_app (a b:List Ln) (n:En):sumZ (a ++ b) n=sumZ a n+sumZ b n:=by
 rw [sumZ_eq,sumZ_eq,sumZ_eq,List.filter_append,List.map_append,List.sum_append]
theorem sumZ_nil (n:En):sumZ [] n=0:=rfl
theorem sumZ_cons (x:Ln) (r:List Ln) (n:En):sumZ (x :: r) n=(if x.ent=n then x.amt else 0)+sumZ r n:=by
 rw [sumZ_eq,sumZ_eq,List.filter_cons]
 by_cases h:x.ent=n
 ·simp [h]
 ·simp [h]
theorem sumZ_small (m:Int) (hm:0≤m):∀ (ls:List Ln) (n:En),(∀ x ∈ ls, -m≤x.amt∧x.amt≤m) → -(m * ls.length)≤sumZ ls n∧sumZ ls n≤m * ls.length
 | [],n,_=>by rw [sumZ_nil];simp
 | x :: r,n,h=>by
  have ih:=sumZ_small m hm r n fun y hy=>h y (List.mem_cons_of_mem _ hy)
  have h1:=h x (List.mem_cons_self ..)
  rw [sumZ_cons,List.length_cons]
  have e:m * ((r.length+1:Nat):Int)=m * (r.length:Int)+m:=by rw [Int.natCast_add,Int.mul_add];simp
  rw [e]
  split <;> omega
def padAt (C:List Ac) (U:List Nat) (S:En→Int) (i:Nat):List Ln :=
 if h:S (entAt U i)≠0 ∧ -9223372036854775807≤S (entAt U i)∧S (entAt U i)≤9223372036854775807 then [⟨(accAt C i).code,entAt U i,0, -S (entAt U i),(accAt C i).hc,by omega,by omega⟩] else []
def padsF (C:List Ac) (U:List Nat) (S:En→Int) (k:Nat):List Ln:=(List.range k).flatMap (padAt C U S)
theorem padsF_step (C:List Ac) (U:List Nat) (S:En→Int) (k:Nat):padsF C U S (k+1)=padsF C U S k ++ padAt C U S k:=by
 unfold padsF
 rw [List.range_succ,List.flatMap_append]
 simp
def linesB (C:List Ac) (U:List Nat) (xs:List Sm):List Ln:=xs.map (lnA C U) ++ padsF C U (sumZ (xs.map (lnA C U))) U.length
theorem entAt_lt {U:List Nat} (h6:∀ x ∈ U,x<65536) {i n:Nat} (h:U[i]?=some n):(entAt U i).n=n:=by
 obtain ⟨hi,e⟩:=List.getElem?_eq_some_iff.1 h
 show U.getD (i % U.length) 0 % 65536=n
 rw [Nat.mod_eq_of_lt hi,List.getD_eq_getElem?_getD,h]
 exact Nat.mod_eq_of_lt (h6 n (by rw [← e];exact List.getElem_mem hi))
theorem entAt_mem {U:List Nat} (h6:∀ x ∈ U,x<65536) (h0:U≠[]) (i:Nat):(entAt U i).n ∈ U:=by
 have hl:0<U.length:=List.length_pos_iff.2 h0
 have hi:=Nat.mod_lt i hl
 have e:=entAt_lt h6 (List.getElem?_eq_getElem hi)
 have e2:entAt U (i % U.length)=entAt U i:=En.eq_of (by show U.getD (i % U.length % U.length) 0 % 65536=U.getD (i % U.length) 0 % 65536;rw [Nat.mod_mod])
 rw [e2] at e
 rw [e]
 exact List.getElem_mem hi
theorem accAt_mem {C:List Ac} (h0:C≠[]) (i:Nat):accAt C i ∈ C:=by
 have hl:0<C.length:=List.length_pos_iff.2 h0
 have hi:=Nat.mod_lt i hl
 unfold accAt
 rw [List.getD_eq_getElem?_getD,List.getElem?_eq_getElem hi]
 exact List.getElem_mem hi
theorem pads_sum {C:List Ac} {U:List Nat} {S:En→Int} (h6:∀ x ∈ U,x<65536) (hU:RiseU U) (hS:∀ n, -9223372036854775807≤S n∧S n≤9223372036854775807) (n:En):∀ k,k≤U.length→sumZ (padsF C U S k) n=if n.n ∈ U.take k then -S n else 0
 | 0,_=>by simp [padsF,sumZ_nil]
 | k+1,h=>by
  have hk:k<U.length:=by omega
  have hx:=List.getElem?_eq_getElem hk
  have he:=entAt_lt h6 hx
  rw [padsF_step,sumZ_app,pads_sum h6 hU hS n k (by omega),List.take_succ_eq_append_getElem hk]
  have hnot:U[k] ∉ U.take k:=fun hm=>by
   obtain ⟨j,hj,e⟩:=List.getElem_of_mem hm
   rw [List.length_take] at hj
   rw [List.getElem_take] at e
   have:=(List.pairwise_iff_getElem.1 hU) j k (by omega) hk (by omega)
   omega
  have hp:sumZ (padAt C U S k) n=if n.n=U[k] then -S n else 0:=by
   by_cases hn:n.n=U[k]
   ·have e:entAt U k=n:=En.eq_of (he.trans hn.symm)
    rw [if_pos hn]
    subst e
    unfold padAt
    by_cases h0:S (entAt U k)=0
    ·rw [dif_neg (fun h=>h.1 h0),sumZ_nil,h0];rfl
    ·rw [dif_pos ⟨h0,hS _⟩,sumZ_cons,sumZ_nil]
     simp
   ·have e:entAt U k≠n:=fun e=>hn (by rw [← e,he])
    rw [if_neg hn]
    unfold padAt
    split
    ·rw [sumZ_cons,sumZ_nil];simp [e]
    ·rfl
  rw [hp]
  by_cases h1:n.n=U[k]
  ·rw [if_neg (by rw [h1];exact hnot),if_pos h1,if_pos (by rw [List.mem_append];right;simp [h1])];omega
  ·rw [if_neg h1]
   by_cases h2:n.n ∈ U.take k
   ·rw [if_pos h2,if_pos (List.mem_append_left _ h2)];omega
   ·rw [if_neg h2,if_neg (fun h=>by rcases List.mem_append.1 h with h | h;exact h2 h;simp at h;exact h1 h)];omega
theorem lines_sum {C:List Ac} {U:List Nat} (h6:∀ x ∈ U,x<65536) (h0:U≠[]) (hU:RiseU U) (xs:List Sm) (hl:xs.length≤8) (n:En):sumZ (linesB C U xs) n=0:=by
 have hb:∀ m, -2305843009213693952≤sumZ (xs.map (lnA C U)) m∧sumZ (xs.map (lnA C U)) m≤2305843009213693952:=fun m=>by
  have:=sumZ_small 288230376151711744 (by omega) (xs.map (lnA C U)) m (fun x hx=>by
   obtain ⟨y,_,rfl⟩:=List.mem_map.1 hx
   have:=amtF_in y.amt
   show -288230376151711744≤amtF y.amt∧amtF y.amt≤288230376151711744
   omega)
  rw [List.length_map] at this
  omega
 unfold linesB
 rw [sumZ_app,pads_sum h6 hU (fun m=>by have:=hb m;omega) n _ (Nat.le_refl _),List.take_length]
 by_cases h:n.n ∈ U
 ·rw [if_pos h];omega
 ·rw [if_neg h]
  have:sumZ (xs.map (lnA C U)) n=0:=by
   rw [sumZ_eq]
   have:(xs.map (lnA C U)).filter (fun x=>decide (x.ent=n))=[]:=by
    rw [List.filter_eq_nil_iff]
    intro x hx hd
    obtain ⟨y,_,rfl⟩:=List.mem_map.1 hx
    have e:entAt U y.ent=n:=of_decide_eq_true hd
    exact h (by rw [← e];exact entAt_mem h6 h0 _)
   rw [this];rfl
  rw [this];rfl
structure Fr where
 C:List Ac
 U:List Nat
 S:List Int
 E:Int
structure Jn where
 later:Nat
 lines:List Sm
 hl:later<256
structure Bk where
 chart:List Qt
 units:List Nat
 first:Int
 long:List Nat
 journals:List Jn
 hf : -32768≤first∧first≤32767
def frB (x:Bk):Fr:=⟨frC x.chart,frU x.units,mkS x.first x.long,mkE x.first x.long⟩
theorem frC_made (c:List Qt):Made (frC c) 160∧(frC c).length≤40∧frC c≠[]:=by
 unfold frC
 have h:=mkC_made c
 split
 ·refine ⟨?_,by simp,by simp⟩
  have:=Made.nil.more (a:=cashA) (m:=160) (by decide) (by decide) (by decide +kernel) (by decide) (.inl rfl)
  simpa using this
 ·rename_i h0
  exact ⟨h.1,h.2,h0⟩
theorem frC_chk (c:List Qt):chkA (frC c)=0:=(frC_made c).1.chk (by omega) (by have:=(frC_made c).2.1;omega)
theorem frU_ok (u:List Nat):RiseU (frU u)∧(∀ x ∈ frU u,1≤x∧x≤9)∧(frU u).length≤9∧frU u≠[]:=by
 unfold frU
 split
 ·exact ⟨by unfold RiseU;simp,by simp,by simp,by simp⟩
 ·rename_i h0
  exact ⟨mkU_rise u,fun x hx=>mkU_small hx,mkU_len u,h0⟩
theorem frU_chk (u:List Nat):chkU (frU u)=0:=by
 obtain ⟨h1,h2,h3,_⟩:=frU_ok u
 exact chkU_ok h1 (fun x hx=>by have:=h2 x hx;omega) (by omega)
def chkF (f:Fr):Int:=if chkA f.C≠0 then chkA f.C else if chkU f.U≠0 then chkU f.U else chkD f.S f.E
theorem frB_chk (x:Bk):chkF (frB x)=0:=by
 have h:=x.hf
 unfold chkF frB
 simp only [frC_chk,frU_chk,ne_eq,not_true_eq_false,if_false]
 exact mk_ok _ _ (by omega) (by omega)
def hasF (f:Fr) (l:Ln):Bool:=f.C.any (fun a=>a.code == l.acc) && f.U.any (fun n=>n == l.ent.n) && (l.ctr == 0 || f.U.any (fun n=>n == l.ctr))
def chkJs (f:Fr):Option Int→List (Int × List Ln)→Int
 | _,[]=>0
 | p,j :: r=>if chkJ j.1 j.2≠0 then chkJ j.1 j.2 else if (∃ q,p=some q∧j.1<q) then 6 else if perI f.S f.E j.1<0 then 13 else if j.2.all (hasF f)=false then 8 else chkJs f (some j.1) r
def chkB (f:Fr) (js:List (Int × List Ln)):Int:=if chkF f≠0 then chkF f else if 2000<js.length then 2 else chkJs f none js
structure OkJ (f:Fr) (j:Int × List Ln):Prop where
 chk:chkJ j.1 j.2=0
 per:0≤perI f.S f.E j.1
 has:j.2.all (hasF f)=true
theorem chkJs_ok {f:Fr}:∀ {js:List (Int × List Ln)} {p:Option Int},(∀ j ∈ js,OkJ f j)→js.Pairwise (fun a b=>a.1≤b.1)→(∀ q,p=some q → ∀ j ∈ js,q≤j.1)→chkJs f p js=0
 | [],_,_,_,_=>rfl
 | j :: r,p,h,hs,hp=>by
  have h1:=h j (List.mem_cons_self ..)
  obtain ⟨h2,h3⟩:=List.pairwise_cons.1 hs
  unfold chkJs
  rw [if_neg (by rw [h1.chk];simp),if_neg (by rintro ⟨q,e,hq⟩;have:=hp q e j (List.mem_cons_self ..);omega),if_neg (by have:=h1.per;omega),if_neg (by rw [h1.has];simp)]
  exact chkJs_ok (fun x hx=>h x (List.mem_cons_of_mem _ hx)) h3 fun q e x hx=>by cases e;exact h2 x hx
def dayJ (E d:Int) (j:Jn):Int:=min (d+(j.later % 40:Nat)) (E-1)
def stepJ (f:Fr) (s:Int × List (Int × List Ln)) (j:Jn):Int × List (Int × List Ln) :=
 (dayJ f.E s.1 j,if linesB f.C f.U j.lines=[] then s.2 else s.2 ++ [(dayJ f.E s.1 j,linesB f.C f.U j.lines)])
def stJ (x:Bk) (k:Nat):Int × List (Int × List Ln):=(x.journals.take k).foldl (stepJ (frB x)) (x.first,[])
def makeJ (x:Bk):List (Int × List Ln):=(stJ x x.journals.length).2
theorem stJ_step {x:Bk} {k:Nat} {j:Jn} (h:x.journals[k]?=some j):stJ x (k+1)=stepJ (frB x) (stJ x k) j:=by
 obtain ⟨hk,e⟩:=List.getElem?_eq_some_iff.1 h
 unfold stJ
 rw [List.take_succ_eq_append_getElem hk,List.foldl_append,e]
 rfl
theorem pads_len (C:List Ac) (U:List Nat) (S:En→Int):∀ k,(padsF C U S k).length≤k
 | 0=>by simp [padsF]
 | k+1=>by
  rw [padsF_step,List.length_append]
  have:=pads_len C U S k
  have:(padAt C U S k).length≤1:=by unfold padAt;split <;> simp
  omega
theorem linesB_mem {C:List Ac} {U:List Nat} {xs:List Sm} {l:Ln} (h:l ∈ linesB C U xs):(∃ y ∈ xs,l=lnA C U y) ∨ ∃ i,l ∈ padAt C U (sumZ (xs.map (lnA C U))) i:=by
 unfold linesB padsF at h
 rcases List.mem_append.1 h with h | h
 ·obtain ⟨y,hy,rfl⟩:=List.mem_map.1 h;exact .inl ⟨y,hy,rfl⟩
 ·obtain ⟨i,_,hi⟩:=List.mem_flatMap.1 h;exact .inr ⟨i,hi⟩
theorem padAt_mem {C:List Ac} {U:List Nat} {S:En→Int} {i:Nat} {l:Ln} (h:l ∈ padAt C U S i):l.acc=(accAt C i).code∧l.ent=entAt U i∧l.ctr=0∧l.amt≠0∧l.amt ≠ -9223372036854775808:=by
 unfold padAt at h
 split at h
 ·simp at h
  subst h
  refine ⟨rfl,rfl,rfl,?_,?_⟩ <;> simp <;> omega
 ·cases h
theorem linesB_has {f:Fr} (hC:f.C≠[]) (hU:f.U≠[]) (h6:∀ x ∈ f.U,x<65536) (xs:List Sm):(linesB f.C f.U xs).all (hasF f)=true:=by
 rw [List.all_eq_true]
 have hA:∀ i,f.C.any (fun a=>a.code == (accAt f.C i).code)=true:=fun i=>List.any_eq_true.2 ⟨_,accAt_mem hC i,by simp⟩
 have hE:∀ i,f.U.any (fun n=>n == (entAt f.U i).n)=true:=fun i=>List.any_eq_true.2 ⟨_,entAt_mem h6 hU i,by simp⟩
 intro l hl
 rcases linesB_mem hl with ⟨y,_,rfl⟩ | ⟨i,hi⟩
 ·have e1:(lnA f.C f.U y).acc=(accAt f.C y.acc).code:=rfl
  have e2:(lnA f.C f.U y).ent=entAt f.U y.ent:=rfl
  have e3:(lnA f.C f.U y).ctr=if y.ctr % 2=1 then (entAt f.U (y.ctr / 2)).n else 0:=rfl
  unfold hasF
  rw [e1,e2,e3,hA,hE]
  split
  ·rw [hE];simp
  ·simp
 ·obtain ⟨e1,e2,e3,_⟩:=padAt_mem hi
  unfold hasF
  rw [e1,e2,e3,hA,hE]
  simp
theorem linesB_chk {f:Fr} (hU:f.U≠[]) (hr:RiseU f.U) (h6:∀ x ∈ f.U,x<65536) (hl:f.U.length≤9) (xs:List Sm) (h8:xs.length≤8) (h0:linesB f.C f.U xs≠[]) (d:Int) (hd : -719162≤d∧d≤2932896):chkJ d (linesB f.C f.U xs)=0:=by
 have h1:0<(linesB f.C f.U xs).length:=List.length_pos_iff.2 h0
 have h2:(linesB f.C f.U xs).length≤17:=by
  unfold linesB
  have:=pads_len f.C f.U (sumZ (xs.map (lnA f.C f.U))) f.U.length
  rw [List.length_append,List.length_map]
  omega
 have h3:((linesB f.C f.U xs).any fun x=>decide (x.amt=0∨x.amt = -9223372036854775808))=false:=by
  rw [Bool.eq_false_iff]
  intro h
  obtain ⟨l,hl,hp⟩:=List.any_eq_true.1 h
  have hp:=of_decide_eq_true hp
  rcases linesB_mem hl with ⟨y,_,rfl⟩ | ⟨i,hi⟩
  ·have:=amtF_in y.amt
   have e:(lnA f.C f.U y).amt=amtF y.amt:=rfl
   rw [e] at hp
   omega
  ·have:=padAt_mem hi
   omega
 have h4:badB (linesB f.C f.U xs)=false:=by
  unfold badB
  rw [Bool.eq_false_iff]
  intro h
  obtain ⟨l,_,hp⟩:=List.any_eq_true.1 h
  have hp:=of_decide_eq_true hp
  have:=lines_sum (C:=f.C) h6 hU hr xs h8 l.ent
  unfold sumZ at this
  rw [this] at hp
  exact hp rfl
 unfold chkJ
 rw [if_neg (by omega),if_neg (by omega),h3,h4]
 simp
theorem per_in {S:List Int} {E d:Int} {a:Int} (hr:RiseD S) (ha:S[0]?=some a) (h1:a≤d) (h2:d<E):0≤perI S E d:=by
 have:=(cnt_iff (d:=d) hr ha).1 h1
 unfold perI
 rw [if_pos ⟨h2,by omega⟩]
 omega
theorem stJ_ok (x:Bk) (h8:∀ j ∈ x.journals,j.lines.length≤8):∀ k,k≤x.journals.length →
 (x.first≤(stJ x k).1∧(stJ x k).1<(frB x).E)∧(∀ j ∈ (stJ x k).2,OkJ (frB x) j∧j.1≤(stJ x k).1)∧(stJ x k).2.Pairwise (fun a b=>a.1≤b.1)∧(stJ x k).2.length≤k
 | 0,_=>by
  have:=mkE_le x.first x.long
  refine ⟨⟨Int.le_refl _,?_⟩,by simp [stJ],by simp [stJ],by simp [stJ]⟩
  show x.first<mkE x.first x.long
  omega
 | k+1,hk=>by
  have hx:=List.getElem?_eq_getElem (l:=x.journals) (i:=k) (by omega)
  obtain ⟨⟨a1,a2⟩,b,c,d⟩:=stJ_ok x h8 k (by omega)
  have hf:=x.hf
  have hE:=mkE_le x.first x.long
  have hE':(frB x).E=mkE x.first x.long:=rfl
  have hj8:=h8 _ (List.getElem_mem (by omega:k<x.journals.length))
  obtain ⟨u1,u2,u3,u4⟩:=frU_ok x.units
  obtain ⟨c1,c2,c3⟩:=frC_made x.chart
  rw [stJ_step hx]
  generalize x.journals[k]'(by omega)=j at hj8
  unfold stepJ
  have hd:x.first≤dayJ (frB x).E (stJ x k).1 j∧dayJ (frB x).E (stJ x k).1 j<(frB x).E∧(stJ x k).1≤dayJ (frB x).E (stJ x k).1 j:=by unfold dayJ;omega
  refine ⟨⟨hd.1,hd.2.1⟩,?_,?_,?_⟩
  ·intro z hz
   split at hz
   ·have:=b z hz;exact ⟨this.1,by have:=this.2;omega⟩
   ·rename_i h0
    rcases List.mem_append.1 hz with h | h
    ·have:=b z h;exact ⟨this.1,by have:=this.2;omega⟩
    ·simp at h
     subst h
     refine ⟨⟨linesB_chk u4 u1 (fun x hx=>by have:=u2 x hx;omega) u3 _ hj8 h0 _ (by omega),per_in (mkS_rise _ _) (mkS_head _ _) hd.1 hd.2.1,linesB_has c3 u4 (fun x hx=>by have:=u2 x hx;omega) _⟩,Int.le_refl _⟩
  ·split
   ·exact c
   ·refine List.pairwise_append.2 ⟨c,by simp,fun y hy z hz=>?_⟩
    simp at hz
    subst hz
    exact Int.le_trans (b y hy).2 hd.2.2
  ·split
   ·exact Nat.le_succ_of_le d
   ·rw [List.length_append];simp;omega
theorem made_ok (x:Bk) (h8:∀ j ∈ x.journals,j.lines.length≤8) (hl:x.journals.length≤2000):chkB (frB x) (makeJ x)=0:=by
 obtain ⟨_,b,c,d⟩:=stJ_ok x h8 x.journals.length (Nat.le_refl _)
 unfold chkB makeJ
 rw [if_neg (by rw [frB_chk];simp),if_neg (by omega)]
 exact chkJs_ok (fun j hj=>(b j hj).1) c fun q e=>by cases e
abbrev Jm:=Int × Value × List Ln
def jc (p:Jm):List Value:=[.int .i32 p.1,p.2.1]
theorem jc_len (p:Jm):(jc p).length=2:=rfl
def jOf (p:Jm):Int × List Ln:=(p.1,p.2.2)
def JRow (w:World) (v:Value) (vs:List Jm):Prop:=Recs jc 2 w v vs ∧ ∀ p ∈ vs,Recs lc 4 w p.2.1 p.2.2
theorem JRow.stay {w w':World} {v:Value} {vs:List Jm} (h:JRow w v vs) (hb:Below w.heap.size w w'):JRow w' v vs:=⟨h.1.stay hb,fun p hp=>(h.2 p hp).stay hb⟩
theorem JRow.nil (w:World) (r:Option Addr) (c:Nat):JRow w (.slice r 0 c) []:=⟨.inl ⟨_,_,rfl,rfl⟩,fun p hp=>by cases hp⟩
theorem JRow.at {w:World} {v:Value} {vs:List Jm} (h:JRow w v vs) {i:Nat} {p:Jm} (hp:vs[i]?=some p) :
 ∃ (g off cap:Nat),v = .slice (some ⟨g,off,none⟩) vs.length cap∧g<w.heap.size∧vs.length≤cap∧w.cell? ⟨g,off+i * 2,none⟩=some (.int .i32 p.1)∧w.cell? ⟨g,off+i * 2+1,none⟩=some p.2.1∧Recs lc 4 w p.2.1 p.2.2:=by
 rcases h.1 with ⟨r,cap,rfl,rfl⟩ | ⟨g,off,cap,rfl,h3,h4,h5,h6⟩
 ·simp at hp
 ·obtain ⟨hi,e⟩:=List.getElem?_eq_some_iff.1 hp
  exact ⟨g,off,cap,rfl,h3,h5,h6 i p hp 0 (.int .i32 p.1) rfl,h6 i p hp 1 p.2.1 rfl,h.2 p (by rw [← e];exact List.getElem_mem hi)⟩
def frV (vC vU vS:Value) (E:Int):Value:=.agg #[vC,vU,vS,.int .i32 E]
def lnV (x:Ln):Value:=.agg #[.int .u32 (x.acc:Int),.int .u16 (x.ent.n:Int),.int .u16 (x.ctr:Int),.int .i64 x.amt]
def bkV (vC vU vS:Value) (E:Int) (vJ:Value):Value:=.agg #[vC,vU,vS,.int .i32 E,vJ]
structure FrM (f:Fr) (vC vU vS:Value) (w:World):Prop where
 c:Recs cc 4 w vC f.C
 u:Recs uc 1 w vU f.U
 s:Recs dcl 1 w vS f.S
theorem FrM.stay {f:Fr} {vC vU vS:Value} {w w':World} (h:FrM f vC vU vS w) (hb:Below w.heap.size w w'):FrM f vC vU vS w':=⟨h.c.stay hb,h.u.stay hb,h.s.stay hb⟩
structure FrIn (f:Fr):Prop where
 c:f.C.length≤300
 u:f.U.length≤100 ∧ ∀ x ∈ f.U,x<65536
 s:f.S.length≤100 ∧ ∀ x ∈ f.S, -2147483648≤x∧x≤2147483647
 e : -2147483648≤f.E∧f.E≤2147483647
theorem frB_in (x:Bk):FrIn (frB x):=by
 obtain ⟨c1,c2,_⟩:=frC_made x.chart
 obtain ⟨u1,u2,u3,_⟩:=frU_ok x.units
 have hf:=x.hf
 have hE:=mkE_le x.first x.long
 refine ⟨?_,⟨?_,fun y hy=>?_⟩,⟨?_,fun y hy=>?_⟩,?_⟩
 ·show (frC x.chart).length≤300;omega
 ·show (frU x.units).length≤100;omega
 ·have:=u2 y hy;omega
 ·show (mkS x.first x.long).length≤100;rw [mkS_len];omega
 ·have:=mkS_mem hy;omega
 ·show -2147483648≤mkE x.first x.long∧mkE x.first x.long≤2147483647;omega
def eqF (f g:Fr):Bool:=decide (f.C=g.C∧f.U=g.U∧f.S=g.S∧f.E=g.E)
structure BookC (I:World→Prop):Prop where
 fcheck:∀ (vC vU vS:Value) (f:Fr) (w:World),I w→FrM f vC vU vS w→FrIn f→Calls Tryz.prog 19 #[frV vC vU vS f.E] w fun e w'=>e = .returned (.int .i64 (chkF f))∧Below w.heap.size w w'
 line:∀ (vC vU vS:Value) (f:Fr) (l:Ln) (w:World),FrM f vC vU vS w→FrIn f→chkF f=0→Calls Tryz.prog 268 #[frV vC vU vS f.E,lnV l] w fun e w'=>e = .returned (.int .i64 (if hasF f l=true then 0 else 8))∧Below w.heap.size w w'
 check:∀ (vC vU vS vJ:Value) (f:Fr) (vs:List Jm) (w:World),I w→FrM f vC vU vS w→FrIn f→JRow w vJ vs→vs.length≤2000→(∀ p ∈ vs,p.2.2.length≤100 ∧ -2147483648≤p.1∧p.1≤2147483647)→Calls Tryz.prog 215 #[bkV vC vU vS f.E vJ] w fun e w'=>e = .returned (.int .i64 (chkB f (vs.map jOf)))∧Below w.heap.size w w'
 days:∀ (vC vU vS vJ:Value) (f:Fr) (vs:List Jm) (w:World),JRow w vJ vs→vs.length≤2000→Calls Tryz.prog 33 #[bkV vC vU vS f.E vJ] w fun e w'=>e = .returned (.tuple #[.int .i32 ((vs.head?.map (·.1)).getD 0),.int .i32 ((vs.getLast?.map (·.1)).getD 0),.bool (decide (vs≠[]))])∧Below w.heap.size w w'
 sframe:∀ (vC vU vS vC' vU' vS':Value) (f g:Fr) (w:World),FrM f vC vU vS w→FrM g vC' vU' vS' w→FrIn f→FrIn g→Calls Tryz.prog 18 #[frV vC vU vS f.E,frV vC' vU' vS' g.E] w fun e w'=>e = .returned (.bool (eqF f g))∧Below w.heap.size w w'
 same:∀ (vC vU vS vJ vC' vU' vS' vJ':Value) (f g:Fr) (vs us:List Jm) (w:World),FrM f vC vU vS w→FrM g vC' vU' vS' w→FrIn f→FrIn g→JRow w vJ vs→JRow w vJ' us→vs.length≤2000→us.length≤2000→(∀ p ∈ vs,p.2.2.length≤100)→(∀ p ∈ us,p.2.2.length≤100)→Calls Tryz.prog 22 #[bkV vC vU vS f.E vJ,bkV vC' vU' vS' g.E vJ'] w fun e w'=>e = .returned (.bool (eqF f g && decide (vs.map jOf=us.map jOf)))∧Below w.heap.size w w'

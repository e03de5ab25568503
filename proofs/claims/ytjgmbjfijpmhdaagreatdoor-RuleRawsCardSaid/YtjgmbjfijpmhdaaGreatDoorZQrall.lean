/- What may be done, in plain words: an op, what it does to a frame, the frame behind one, behind all. -/
import Derived.Test.YtjgmbjfijpmhdaaGreatDoorZXall
import Derived.Test.YtjgmbjfijpmhdaaGreatDoorZCall
import Derived.Test.YtjgmbjfijpmhdaaGreatDoorZOw
import Derived.Test.YtjgmbjfijpmhdaaGreatDoorZCj
import Derived.Test.YtjgmbjfijpmhdaaGreatDoorZCpq
import Derived.Test.YtjgmbjfijpmhdaaGreatDoorZKall
import Derived.Test.YtjgmbjfijpmhdaaGreatDoorZShelf
import Derived.Lib.Bytealg
import Derived.Test.YtjgmbjfijpmhdaaGreatDoorZBa
import Derived.Deep.RegionWith
import Derived.Deep.DeepCutAuto
import Derived.BigRegion
import Derived.Test.YtjgmbjfijpmhdaaGreatDoorZTall
import Derived.LoopTactic
import Derived.Test.YtjgmbjfijpmhdaaGreatDoorZNall
import Derived.Test.YtjgmbjfijpmhdaaGreatDoorZJall
import Derived.Test.YtjgmbjfijpmhdaaGreatDoorZUall
set_option maxRecDepth 100000
set_option maxHeartbeats 2000000
namespace Go.Proofs.YtjgmbjfijpmhdaaGreatDoor
open Go.RowKit
set_option linter.unusedVariables false
set_option linter.unusedSimpArgs false
structure Rop where
 kind:Int
 frm:Nat
 «to» : Nat
 name:ByteArray
 parts:List (Nat × Int)
 starts:List Int
 en:Int
 hk : -9223372036854775808≤kind∧kind≤9223372036854775807
 hf:frm<4294967296
 ht : «to» < 4294967296
 hn:name.size≤9223372036854775807
 hp:∀ p ∈ parts,p.1<4294967296 ∧ -9223372036854775808≤p.2∧p.2≤9223372036854775807
 hs:∀ d ∈ starts, -2147483648≤d∧d≤2147483647
 he : -2147483648≤en∧en≤2147483647
def Ac.re (a:Ac) (n:Nat) (h:n<4294967296):Ac:=⟨n,a.name,a.kind,a.par,h,a.hk,a.hp,a.hn⟩
def Ac.nm (a:Ac) (s:ByteArray) (h:s.size≤9223372036854775807):Ac:=⟨a.code,s,a.kind,a.par,a.hc,a.hk,a.hp,h⟩
def splitO (a:Ac):List (Nat × Int)→List Ac→Except Int (List Ac)
 | [],c=>.ok c
 | p :: r,c=>if h:p.1<1∨999999<p.1∨p.2<1∨1000000<p.2 then .error 5 else if (getA c p.1).isSome then .error 7 else splitO a r (withA c (a.re p.1 (by omega)))
def accF (c:List Ac) (o:Rop):Except Int (List Ac):=match getA c o.frm with
 | none=>.error 8
 | some a =>
  if o.kind=0 then (if (getA c o.to).isSome then .error 7 else .ok (withA (moveA (outA c o.frm) o.frm o.to o.ht) (a.re o.to o.ht)))
  else if o.kind=1 then .ok (withA c (a.nm o.name o.hn))
  else if o.kind=2 then .ok (withA c (a.to o.to o.ht))
  else if o.kind=3 then (if o.to=o.frm then .error 16 else match getA c o.to with
   | none=>.error 8
   | some b=>if b.kind≠a.kind then .error 9 else if kidsA c o.frm≠[] then .error 12 else .ok (outA c o.frm))
  else if kidsA c o.frm≠[] then .error 12
  else if o.parts.length<1∨8<o.parts.length then .error 2
  else match splitO a o.parts c with
   | .error e=>.error e
   | .ok c'=>.ok (outA c' o.frm)
def unitF (u:List Nat) (o:Rop):Except Int (List Nat) :=
 if 999<o.frm∨999<o.to then .error 5 else if o.frm ∉ u then .error 8 else if o.kind=6∧o.to=o.frm then .error 16 else if o.kind=6∧o.to ∉ u then .error 8 else if o.kind≠6∧o.to ∈ u then .error 7 else .ok (withU (outU u o.frm) o.to)
def doneF (f:Fr) (o:Rop):Except Int Fr :=
 if 0≤o.kind∧o.kind≤4 then (match accF f.C o with
  | .error e=>.error e
  | .ok c=>.ok ⟨c,f.U,f.S,f.E⟩)
 else if o.kind=5∨o.kind=6 then (match unitF f.U o with
  | .error e=>.error e
  | .ok u=>.ok ⟨f.C,u,f.S,f.E⟩)
 else if o.kind=7 then .ok ⟨f.C,f.U,o.starts,o.en⟩
 else .error 9
structure Spn where
 first:Int
 last:Int
 some:Bool
 hf : -2147483648≤first∧first≤2147483647
 hl : -2147483648≤last∧last≤2147483647
def Spn.out (s:Spn) (f:Fr):Bool:=s.some && (decide (perI f.S f.E s.first<0) || decide (perI f.S f.E s.last<0))
def lookF (s:Spn) (g:Fr):Int:=if chkF g≠0 then chkF g else if s.out g=true then 13 else 0
def nextF (f:Fr) (s:Spn) (o:Rop):Except Int Fr:=match doneF f o with
 | .error e=>.error e
 | .ok g=>if lookF s g≠0 then .error (lookF s g) else .ok g
theorem nextF_chk {f g:Fr} {s:Spn} {o:Rop} (h:nextF f s o = .ok g):chkF g=0∧s.out g=false:=by
 unfold nextF at h
 split at h
 ·cases h
 ·rename_i g' _
  split at h
  ·cases h
  ·rename_i h1
   cases h
   unfold lookF at h1
   simp only [ne_eq,Decidable.not_not] at h1
   split at h1
   ·contradiction
   ·rename_i h2
    simp only [ne_eq,Decidable.not_not] at h2
    split at h1
    ·omega
    ·rename_i h3
     exact ⟨h2,by simpa using h3⟩
theorem unitF_err {u:List Nat} {o:Rop} {e:Int} (h:unitF u o = .error e):e≠0:=by
 unfold unitF at h
 split at h
 ·cases h;decide
 ·split at h
  ·cases h;decide
  ·split at h
   ·cases h;decide
   ·split at h
    ·cases h;decide
    ·split at h <;> cases h
     decide
theorem splitO_err {a:Ac} {e:Int}:∀ {l:List (Nat × Int)} {c:List Ac},splitO a l c = .error e→e≠0
 | [],c,h=>by cases h
 | p :: r,c,h=>by
  unfold splitO at h
  split at h
  ·cases h;decide
  ·split at h
   ·cases h;decide
   ·exact splitO_err h
theorem accF_err {c:List Ac} {o:Rop} {e:Int} (h:accF c o = .error e):e≠0:=by
 unfold accF at h
 split at h
 ·cases h;decide
 ·split at h
  ·split at h <;> cases h
   decide
  ·split at h
   ·cases h
   ·split at h
    ·cases h
    ·split at h
     ·split at h
      ·cases h;decide
      ·split at h
       ·cases h;decide
       ·split at h
        ·cases h;decide
        ·split at h <;> cases h
         decide
     ·split at h
      ·cases h;decide
      ·split at h
       ·cases h;decide
       ·split at h
        ·rename_i h1
         cases h
         exact splitO_err h1
        ·cases h
theorem doneF_err {f:Fr} {o:Rop} {e:Int} (h:doneF f o = .error e):e≠0:=by
 unfold doneF at h
 split at h
 ·split at h
  ·rename_i h1
   cases h
   exact accF_err h1
  ·cases h
 ·split at h
  ·split at h
   ·rename_i h1
    cases h
    exact unitF_err h1
   ·cases h
  ·split at h <;> cases h
   decide
theorem chkU1_mem:∀ {l:List Nat} {h:Nat},chkU1 h l=0→RiseU l ∧ ∀ x ∈ l,h<x∧x≤999
 | [],h,_=>⟨List.Pairwise.nil,fun x hx=>by cases hx⟩
 | a :: r,h,e=>by
  unfold chkU1 at e
  split at e
  ·cases e
  ·split at e
   ·cases e
   ·obtain ⟨h1,h2⟩:=chkU1_mem e
    refine ⟨List.Pairwise.cons (fun b hb=>(h2 b hb).1) h1,fun x hx=>?_⟩
    rcases List.mem_cons.1 hx with rfl | hx
    ·omega
    ·have:=h2 x hx;omega
theorem chkD1_mem:∀ {l:List Int} {p:Option Int},chkD1 p l=0→RiseD l ∧ ∀ x ∈ l, -719162≤x∧x≤2932896 ∧ ∀ b,p=some b→b<x
 | [],p,_=>⟨List.Pairwise.nil,fun x hx=>by cases hx⟩
 | a :: r,p,e=>by
  unfold chkD1 at e
  split at e
  ·cases e
  ·rename_i h0
   split at e
   ·cases e
   ·rename_i h3
    obtain ⟨h1,h2⟩:=chkD1_mem e
    refine ⟨List.Pairwise.cons (fun b hb=>(h2 b hb).2.2 a rfl) h1,fun x hx=>?_⟩
    have hpa:∀ b,p=some b→b<a:=fun b hb=>by
     rcases Int.lt_or_le b a with h | h
     ·exact h
     ·exact absurd ⟨b,hb,h⟩ h3
    rcases List.mem_cons.1 hx with rfl | hx
    ·exact ⟨by omega,by omega,hpa⟩
    ·have:=h2 x hx
     exact ⟨this.1,this.2.1,fun b hb=>by have:=hpa b hb;have:=(h2 x hx).2.2 a rfl;omega⟩
structure FrOk (f:Fr):Prop where
 a1:chk1 0 f.C=0
 a2:chk2 f.C f.C=0
 riseA:RiseA f.C
 accs:∀ a ∈ f.C,0<a.code∧a.code≤999999∧nameB a.name.toList=true∧a.kind<5
 lenA:f.C.length≤200
 riseU:RiseU f.U
 units:∀ x ∈ f.U,1≤x∧x≤999
 lenU:f.U.length≤40
 lenS:1≤f.S.length∧f.S.length≤60
 riseD:RiseD (f.S ++ [f.E])
 days:∀ x ∈ f.S ++ [f.E], -719162≤x∧x≤2932896
theorem FrOk.of {f:Fr} (h:chkF f=0):FrOk f:=by
 unfold chkF at h
 split at h
 ·rename_i h0;exact absurd h h0
 ·rename_i h0
  simp only [ne_eq,Decidable.not_not] at h0
  split at h
  ·rename_i h1;exact absurd h h1
  ·rename_i h1
   simp only [ne_eq,Decidable.not_not] at h1
   unfold chkA at h0
   split at h0
   ·omega
   ·split at h0
    ·rename_i h2;exact absurd h0 h2
    ·rename_i hl h2
     simp only [ne_eq,Decidable.not_not] at h2
     unfold chkU at h1
     split at h1
     ·omega
     ·rename_i hlu
      unfold chkD at h
      split at h
      ·omega
      ·rename_i hls
       obtain ⟨r1,r2⟩:=chk1_rise h2
       obtain ⟨r3,r4⟩:=chkU1_mem h1
       obtain ⟨r5,r6⟩:=chkD1_mem h
       exact ⟨h2,h0,r1,fun a ha=>by
        obtain ⟨k1,k2,k3,k4⟩:=one1_zero.1 (r2 a ha).2
        exact ⟨k1.1,k1.2,k3,k4⟩,by omega,r3,fun x hx=>by have:=r4 x hx;omega,by omega,by omega,r5,fun x hx=>⟨(r6 x hx).1,(r6 x hx).2.1⟩⟩
theorem withA_len (c:List Ac) (a:Ac):(withA c a).length≤c.length+1:=by
 unfold withA
 rw [List.length_append,List.length_cons]
 have:∀ l:List Ac,(l.filter (fun b=>decide (b.code<a.code))).length+(l.filter (fun b=>decide (a.code<b.code))).length≤l.length:=by
  intro l
  induction l with
  | nil=>simp
  | cons b r ih =>
   simp only [List.filter_cons,List.length_cons]
   by_cases h1:b.code<a.code
   ·have h2:¬ a.code<b.code:=by omega
    simp only [h1,h2,decide_true,decide_false,if_true,Bool.false_eq_true,if_false,List.length_cons];omega
   ·by_cases h2:a.code<b.code
    ·simp only [h1,h2,decide_true,decide_false,if_true,Bool.false_eq_true,if_false,List.length_cons];omega
    ·simp only [h1,h2,decide_false,Bool.false_eq_true,if_false];omega
 have:=this c
 omega
theorem withA_mem {c:List Ac} {a b:Ac}:b ∈ withA c a→b=a∨b ∈ c:=by
 unfold withA
 intro h
 rcases List.mem_append.1 h with h | h
 ·exact .inr ((List.mem_filter.1 h).1)
 ·rcases List.mem_cons.1 h with h | h
  ·exact .inl h
  ·exact .inr ((List.mem_filter.1 h).1)
theorem withA_rise {c:List Ac} (h:RiseA c) (a:Ac):RiseA (withA c a):=by
 unfold withA
 refine List.pairwise_append.2 ⟨h.filter _,List.pairwise_cons.2 ⟨fun b hb=>by simpa using (List.mem_filter.1 hb).2,h.filter _⟩,fun x hx y hy=>?_⟩
 have h1:x.code<a.code:=by simpa using (List.mem_filter.1 hx).2
 rcases List.mem_cons.1 hy with rfl | hy
 ·exact h1
 ·have h2:a.code<y.code:=by simpa using (List.mem_filter.1 hy).2
  omega
theorem outA_len (c:List Ac) (n:Nat):(outA c n).length≤c.length:=List.length_filter_le _ _
theorem mvA_len (c:List Ac) (f t:Nat) (h:t<4294967296):(moveA c f t h).length=c.length:=by unfold moveA;rw [List.length_map]
theorem accF_len {c c':List Ac} {o:Rop} (h:accF c o = .ok c'):c'.length≤c.length+8:=by
 unfold accF at h
 have e:=outA_len c o.frm
 split at h
 ·cases h
 ·rename_i a _
  split at h
  ·split at h <;> cases h
   have:=withA_len (moveA (outA c o.frm) o.frm o.to o.ht) (a.re o.to o.ht)
   rw [mvA_len] at this
   omega
  ·split at h
   ·cases h
    have:=withA_len c (a.nm o.name o.hn)
    omega
   ·split at h
    ·cases h
     have:=withA_len c (a.to o.to o.ht)
     omega
    ·split at h
     ·split at h
      ·cases h
      ·split at h
       ·cases h
       ·split at h
        ·cases h
        ·split at h <;> cases h
         omega
     ·split at h
      ·cases h
      ·split at h
       ·cases h
       ·rename_i hl
        split at h
        ·cases h
        ·rename_i c2 h1
         cases h
         have e2:=outA_len c2 o.frm
         have:∀ {l:List (Nat × Int)} {c c':List Ac},splitO a l c = .ok c'→c'.length≤c.length+l.length:=by
          intro l
          induction l with
          | nil=>intro c c' h;cases h;simp
          | cons p r ih =>
           intro c c' h
           unfold splitO at h
           split at h
           ·cases h
           ·split at h
            ·cases h
            ·have h1:=ih h
             rename_i hb _
             have:=withA_len c (a.re p.1 (by omega))
             simp only [List.length_cons];omega
         have:=this h1
         omega
theorem accF_none {c:List Ac} {o:Rop} (h:getA c o.frm=none):accF c o = .error 8:=by unfold accF;rw [h]
theorem accF_0t {c:List Ac} {o:Rop} {a:Ac} (h:getA c o.frm=some a) (hk:o.kind=0) (ht:(getA c o.to).isSome=true):accF c o = .error 7:=by
 unfold accF;rw [h];simp only [hk,ht,if_true]
theorem accF_0 {c:List Ac} {o:Rop} {a:Ac} (h:getA c o.frm=some a) (hk:o.kind=0) (ht:(getA c o.to).isSome=false):accF c o = .ok (withA (moveA (outA c o.frm) o.frm o.to o.ht) (a.re o.to o.ht)):=by
 unfold accF;rw [h];simp only [hk,ht,if_true,Bool.false_eq_true,if_false]
theorem accF_1 {c:List Ac} {o:Rop} {a:Ac} (h:getA c o.frm=some a) (hk:o.kind=1):accF c o = .ok (withA c (a.nm o.name o.hn)):=by
 unfold accF;rw [h];simp only [hk,if_true,show ¬ ((1:Int)=0) from by decide,if_false]
theorem accF_2 {c:List Ac} {o:Rop} {a:Ac} (h:getA c o.frm=some a) (hk:o.kind=2):accF c o = .ok (withA c (a.to o.to o.ht)):=by
 unfold accF;rw [h];simp only [hk,if_true,show ¬ ((2:Int)=0) from by decide,show ¬ ((2:Int)=1) from by decide,if_false]
theorem accF_3s {c:List Ac} {o:Rop} {a:Ac} (h:getA c o.frm=some a) (hk:o.kind=3) (hs:o.to=o.frm):accF c o = .error 16:=by
 unfold accF;rw [h];simp only [hk,hs,if_true,show ¬ ((3:Int)=0) from by decide,show ¬ ((3:Int)=1) from by decide,show ¬ ((3:Int)=2) from by decide,if_false]
theorem accF_3n {c:List Ac} {o:Rop} {a:Ac} (h:getA c o.frm=some a) (hk:o.kind=3) (hs:o.to≠o.frm) (ht:getA c o.to=none):accF c o = .error 8:=by
 unfold accF;rw [h];simp only [hk,hs,ht,if_true,show ¬ ((3:Int)=0) from by decide,show ¬ ((3:Int)=1) from by decide,show ¬ ((3:Int)=2) from by decide,if_false]
theorem accF_3k {c:List Ac} {o:Rop} {a b:Ac} (h:getA c o.frm=some a) (hk:o.kind=3) (hs:o.to≠o.frm) (ht:getA c o.to=some b) (hb:b.kind≠a.kind):accF c o = .error 9:=by
 unfold accF;rw [h];simp only [hk,hs,ht,hb,ne_eq,not_false_eq_true,if_true,show ¬ ((3:Int)=0) from by decide,show ¬ ((3:Int)=1) from by decide,show ¬ ((3:Int)=2) from by decide,if_false]
theorem accF_3c {c:List Ac} {o:Rop} {a b:Ac} (h:getA c o.frm=some a) (hk:o.kind=3) (hs:o.to≠o.frm) (ht:getA c o.to=some b) (hb:b.kind=a.kind) (hc:kidsA c o.frm≠[]):accF c o = .error 12:=by
 unfold accF;rw [h];simp only [hk,hs,ht,hb,hc,ne_eq,not_true_eq_false,not_false_eq_true,if_true,show ¬ ((3:Int)=0) from by decide,show ¬ ((3:Int)=1) from by decide,show ¬ ((3:Int)=2) from by decide,if_false]
theorem accF_3 {c:List Ac} {o:Rop} {a b:Ac} (h:getA c o.frm=some a) (hk:o.kind=3) (hs:o.to≠o.frm) (ht:getA c o.to=some b) (hb:b.kind=a.kind) (hc:kidsA c o.frm=[]):accF c o = .ok (outA c o.frm):=by
 unfold accF;rw [h];simp only [hk,hs,ht,hb,hc,ne_eq,not_true_eq_false,if_true,show ¬ ((3:Int)=0) from by decide,show ¬ ((3:Int)=1) from by decide,show ¬ ((3:Int)=2) from by decide,if_false]
theorem accF_4c {c:List Ac} {o:Rop} {a:Ac} (h:getA c o.frm=some a) (hk:o.kind=4) (hc:kidsA c o.frm≠[]):accF c o = .error 12:=by
 unfold accF;rw [h];simp only [hk,hc,ne_eq,not_false_eq_true,if_true,show ¬ ((4:Int)=0) from by decide,show ¬ ((4:Int)=1) from by decide,show ¬ ((4:Int)=2) from by decide,show ¬ ((4:Int)=3) from by decide,if_false]
theorem accF_4s {c:List Ac} {o:Rop} {a:Ac} (h:getA c o.frm=some a) (hk:o.kind=4) (hc:kidsA c o.frm=[]) (hl:o.parts.length<1∨8<o.parts.length):accF c o = .error 2:=by
 unfold accF;rw [h];simp only [hk,hc,hl,ne_eq,not_true_eq_false,if_true,show ¬ ((4:Int)=0) from by decide,show ¬ ((4:Int)=1) from by decide,show ¬ ((4:Int)=2) from by decide,show ¬ ((4:Int)=3) from by decide,if_false]
theorem accF_4e {c:List Ac} {o:Rop} {a:Ac} {e:Int} (h:getA c o.frm=some a) (hk:o.kind=4) (hc:kidsA c o.frm=[]) (hl:¬ (o.parts.length<1∨8<o.parts.length)) (hs:splitO a o.parts c = .error e):accF c o = .error e:=by
 unfold accF;rw [h];simp only [hk,hc,hl,hs,ne_eq,not_true_eq_false,show ¬ ((4:Int)=0) from by decide,show ¬ ((4:Int)=1) from by decide,show ¬ ((4:Int)=2) from by decide,show ¬ ((4:Int)=3) from by decide,if_false]
theorem accF_4 {c c':List Ac} {o:Rop} {a:Ac} (h:getA c o.frm=some a) (hk:o.kind=4) (hc:kidsA c o.frm=[]) (hl:¬ (o.parts.length<1∨8<o.parts.length)) (hs:splitO a o.parts c = .ok c'):accF c o = .ok (outA c' o.frm):=by
 unfold accF;rw [h];simp only [hk,hc,hl,hs,ne_eq,not_true_eq_false,show ¬ ((4:Int)=0) from by decide,show ¬ ((4:Int)=1) from by decide,show ¬ ((4:Int)=2) from by decide,show ¬ ((4:Int)=3) from by decide,if_false]
theorem splitO_r {a:Ac} {p:Nat × Int} {r:List (Nat × Int)} {c:List Ac} (h:p.1<1∨999999<p.1∨p.2<1∨1000000<p.2):splitO a (p :: r) c = .error 5:=by unfold splitO;rw [dif_pos h]
theorem splitO_t {a:Ac} {p:Nat × Int} {r:List (Nat × Int)} {c:List Ac} (h:¬ (p.1<1∨999999<p.1∨p.2<1∨1000000<p.2)) (ht:(getA c p.1).isSome=true):splitO a (p :: r) c = .error 7:=by unfold splitO;rw [dif_neg h,if_pos ht]
theorem splitO_g {a:Ac} {p:Nat × Int} {r:List (Nat × Int)} {c:List Ac} (h:¬ (p.1<1∨999999<p.1∨p.2<1∨1000000<p.2)) (ht:(getA c p.1).isSome=false) (hb:p.1<4294967296):splitO a (p :: r) c=splitO a r (withA c (a.re p.1 hb)):=by conv=>lhs;unfold splitO;rw [dif_neg h,if_neg (by rw [ht];simp)]
theorem unitF_r {u:List Nat} {o:Rop} (h:999<o.frm∨999<o.to):unitF u o = .error 5:=by unfold unitF;rw [if_pos h]
theorem unitF_n {u:List Nat} {o:Rop} (h:¬ (999<o.frm∨999<o.to)) (h1:o.frm ∉ u):unitF u o = .error 8:=by unfold unitF;rw [if_neg h,if_pos h1]
theorem unitF_s {u:List Nat} {o:Rop} (h:¬ (999<o.frm∨999<o.to)) (h1:o.frm ∈ u) (hk:o.kind=6) (h2:o.to=o.frm):unitF u o = .error 16:=by unfold unitF;rw [if_neg h,if_neg (by simpa using h1),if_pos ⟨hk,h2⟩]
theorem unitF_m {u:List Nat} {o:Rop} (h:¬ (999<o.frm∨999<o.to)) (h1:o.frm ∈ u) (hk:o.kind=6) (h2:o.to≠o.frm) (h3:o.to ∉ u):unitF u o = .error 8:=by unfold unitF;rw [if_neg h,if_neg (by simpa using h1),if_neg (fun k=>h2 k.2),if_pos ⟨hk,h3⟩]
theorem unitF_6 {u:List Nat} {o:Rop} (h:¬ (999<o.frm∨999<o.to)) (h1:o.frm ∈ u) (hk:o.kind=6) (h2:o.to≠o.frm) (h3:o.to ∈ u):unitF u o = .ok (withU (outU u o.frm) o.to):=by unfold unitF;rw [if_neg h,if_neg (by simpa using h1),if_neg (fun k=>h2 k.2),if_neg (fun k=>k.2 h3),if_neg (fun k=>k.1 hk)]
theorem unitF_t {u:List Nat} {o:Rop} (h:¬ (999<o.frm∨999<o.to)) (h1:o.frm ∈ u) (hk:o.kind=5) (h3:o.to ∈ u):unitF u o = .error 7:=by unfold unitF;rw [if_neg h,if_neg (by simpa using h1),if_neg (fun k=>by omega),if_neg (fun k=>by omega),if_pos ⟨by omega,h3⟩]
theorem unitF_5 {u:List Nat} {o:Rop} (h:¬ (999<o.frm∨999<o.to)) (h1:o.frm ∈ u) (hk:o.kind=5) (h3:o.to ∉ u):unitF u o = .ok (withU (outU u o.frm) o.to):=by unfold unitF;rw [if_neg h,if_neg (by simpa using h1),if_neg (fun k=>by omega),if_neg (fun k=>by omega),if_neg (fun k=>h3 k.2)]
end Go.Proofs.YtjgmbjfijpmhdaaGreatDoor
namespace Go.Proofs.YtjgmbjfijpmhdaaGreatDoor
open Go.RowKit Go.Lib
set_option linter.unusedVariables false
set_option linter.unusedSimpArgs false
def ptz (q:Nat × Int):List Value:=[.int .u32 (q.1:Int),.int .i64 q.2]
theorem ptz_len (q:Nat × Int):(ptz q).length=2:=rfl
def ropC (o:Rop) (vP vS:Value) (pos:Int):List Value:=[.int .i64 o.kind,.int .u32 (o.frm:Int),.int .u32 (o.to:Int),.string o.name,vP,vS,.int .i32 o.en,.int .i64 pos]
def ropV (o:Rop) (vP vS:Value) (pos:Int):Value:=.agg #[.int .i64 o.kind,.int .u32 (o.frm:Int),.int .u32 (o.to:Int),.string o.name,vP,vS,.int .i32 o.en,.int .i64 pos]
structure RopM (w:World) (o:Rop) (vP vS:Value):Prop where
 parts:Recs ptz 2 w vP o.parts
 starts:Recs dcl 1 w vS o.starts
theorem RopM.stay {w w':World} {o:Rop} {vP vS:Value} (h:RopM w o vP vS) (hb:Below w.heap.size w w'):RopM w' o vP vS:=⟨h.parts.stay hb,h.starts.stay hb⟩
def spnV (s:Spn):Value:=.agg #[.int .i32 s.first,.int .i32 s.last,.bool s.some]
def AccR (w':World) (e:Ending):Except Int (List Ac)→Prop
 | .error c=>e = .returned (.tuple #[.slice none 0 0,.int .i64 c])
 | .ok c=>∃ v,e = .returned (.tuple #[v,.int .i64 0])∧Recs cc 4 w' v c
def UniR (w':World) (e:Ending):Except Int (List Nat)→Prop
 | .error c=>e = .returned (.tuple #[.slice none 0 0,.int .i64 c])
 | .ok u=>∃ v,e = .returned (.tuple #[v,.int .i64 0])∧Recs uc 1 w' v u
def FrR (K:Value→List Int→Prop) (w':World) (e:Ending):Except Int Fr→Prop
 | .error c=>e = .returned (.tuple #[frV (.slice none 0 0) (.slice none 0 0) (.slice none 0 0) 0,.int .i64 c])
 | .ok g=>∃ vC vU vS,e = .returned (.tuple #[frV vC vU vS g.E,.int .i64 0])∧FrM g vC vU vS w'∧K vS g.S
theorem cap_of {α:Type} {enc:α→List Value} {k:Nat} {w:World} {v:Value} {xs:List α} (h:Recs enc k w v xs):∃ r cap,v = .slice r xs.length cap∧xs.length≤cap:=by
 rcases h with ⟨r',cap',h1,h2⟩ | ⟨g,off,cap',h1,h2,h3,h4,h5⟩
 ·rw [h2];exact ⟨r',cap',h1,by simp⟩
 ·exact ⟨_,cap',h1,h4⟩
theorem out_v (v:Value) (c:List Ac) (n:Nat) (w:World) (hR:Recs cc 4 w v c) (hr:RiseA c) (hl:c.length≤900) :
 Calls Tryz.prog 86 #[v,.int .u32 (n:Int)] w fun e w'=>∃ v',e = .returned v'∧Recs cc 4 w' v' (outA c n)∧Below w.heap.size w w':=by
 obtain ⟨r,cap,rfl,h⟩:=cap_of hR
 refine (without_c r _ cap c n w hR h hr (by omega) rfl).mono ?_
 rintro e w' ⟨v',rfl,ho,hb⟩
 exact ⟨v',rfl,recs_of_owns cc_len ho rfl (by have:=outA_len c n;omega),hb⟩
theorem with_v (v:Value) (c:List Ac) (a:Ac) (w:World) (hR:Recs cc 4 w v c) (hr:RiseA c) (hl:c.length≤900) :
 Calls Tryz.prog 88 #[v,cv a] w fun e w'=>∃ v',e = .returned v'∧Recs cc 4 w' v' (withA c a)∧Below w.heap.size w w':=by
 obtain ⟨r,cap,rfl,h⟩:=cap_of hR
 refine (with_c r _ cap c a w hR h hr hl rfl).mono ?_
 rintro e w' ⟨v',rfl,ho,hb⟩
 exact ⟨v',rfl,recs_of_owns cc_len ho rfl (by have:=withA_len c a;omega),hb⟩
theorem moved_v (v:Value) (c:List Ac) (f t:Nat) (ht:t<4294967296) (w:World) (hR:Recs cc 4 w v c) (hl:c.length≤900) :
 Calls Tryz.prog 87 #[v,.int .u32 (f:Int),.int .u32 (t:Int)] w fun e w'=>∃ v',e = .returned v'∧Recs cc 4 w' v' (moveA c f t ht)∧Below w.heap.size w w':=by
 refine (moved_c v c f t ht w hR (by omega)).mono ?_
 rintro e w' ⟨v',rfl,ho,hb⟩
 exact ⟨v',rfl,recs_of_owns cc_len ho rfl (by rw [mvA_len];omega),hb⟩
theorem kids_v (v:Value) (c:List Ac) (n:Nat) (w:World) (hR:Recs cc 4 w v c) (hl:c.length≤900) :
 Calls Tryz.prog 89 #[v,.int .u32 (n:Int)] w fun e w'=>∃ r cap,e = .returned (.slice r (kidsA c n).length cap)∧Below w.heap.size w w':=by
 refine (kids_c v c n w hR (by omega)).mono ?_
 rintro e w' ⟨v',rfl,ho,hb⟩
 obtain ⟨r,cap,rfl,_⟩:=ho.form
 exact ⟨r,cap,rfl,hb⟩
theorem changed_c (o:Rop) (vP vS:Value) (pos:Int) (v:Value) (c:List Ac) (w:World) (hR:Recs cc 4 w v c) (hr:RiseA c) (hl:c.length≤300) (h0:o.kind=1∨o.kind=2) :
 Calls Tryz.prog 56 #[v,ropV o vP vS pos] w fun e w'=>AccR w' e (accF c o)∧Below w.heap.size w w':=by
 have HR:=Lib.hid hR
 unfold ropV
 cases hg:getA c o.frm with
 | none =>
  have KG:=Lib.hid (fun (W:World) (h:Below w.heap.size w W)=>get_none v c o.frm W (hR.stay h) hr (by omega) hg)
  rw [accF_none hg]
  clear hR hg h0 hr
  obtain ⟨kd,fr,tt,nm,ps,ss,en,_,_,_,hnm,_,_,_⟩:=o
  simp only at *
  have hB0:=(Below.refl w.heap.size w).alloc (Nat.le_refl _) (.cells #[.int .i64 kd,.int .u32 (fr:Int),.int .u32 (tt:Int),.string nm,vP,vS,.int .i32 en,.int .i64 pos] 49)
  have hG:=HBox.new w [.int .i64 kd,.int .u32 (fr:Int),.int .u32 (tt:Int),.string nm,vP,vS,.int .i32 en,.int .i64 pos] 49
  change HBox (w.alloc (.cells #[.int .i64 kd,.int .u32 (fr:Int),.int .u32 (tt:Int),.string nm,vP,vS,.int .i32 en,.int .i64 pos] 49)) _ _ _ at hG
  go_enter Tryz.func56,Tryz.ntmps56
  go_upto_region 1 with fail
  generalize w.alloc (.cells #[.int .i64 kd,.int .u32 (fr:Int),.int .u32 (tt:Int),.string nm,vP,vS,.int .i32 en,.int .i64 pos] 49)=W1 at *
  obtain ⟨G,hGG⟩:∃ G,w.heap.size=G:=⟨_,rfl⟩
  rw [hGG] at hG ⊢
  have HGG:=Lib.hid hGG
  have HB0:=Lib.hid hB0
  have HG1:=Lib.hid hG
  clear hB0
  have x0:=hG.cell (j:=0) rfl
  have x1:=hG.cell (j:=1) rfl
  have x2:=hG.cell (j:=2) rfl
  have x3:=hG.cell (j:=3) rfl
  clear hG hGG
  go_wp2_with (go_at_call 85;refine (KG.out _ HB0.out).mono ?_;rintro e w2 ⟨rfl,h2⟩;have HB2:=Lib.hid (HB0.out.trans (h2.mono HB0.out.size));have HG2:=Lib.hid (HG1.out.stay h2);have q0:=HG2.out.cell (j:=0) rfl;have q1:=HG2.out.cell (j:=1) rfl;have q2:=HG2.out.cell (j:=2) rfl;have q3:=HG2.out.cell (j:=3) rfl;clear h2)
  go_ret2
  exact ⟨rfl,HB2.out.alloc (by have:=HB2.out.size;have:=HGG.out;omega) _⟩
 | some a =>
  rcases h0 with h0 | h0
  ·have KG:=Lib.hid (fun (W:World) (h:Below w.heap.size w W)=>get_some v c o.frm a W (hR.stay h) hr (by omega) hg)
   have KW:=Lib.hid (fun (W:World) (h:Below w.heap.size w W)=>with_v v c (a.nm o.name o.hn) W (hR.stay h) hr (by omega))
   rw [accF_1 hg h0]
   clear hR hr hg
   obtain ⟨kd,fr,tt,nm,ps,ss,en,_,_,_,hnm,_,_,_⟩:=o
   simp only at *
   have hB0:=(Below.refl w.heap.size w).alloc (Nat.le_refl _) (.cells #[.int .i64 kd,.int .u32 (fr:Int),.int .u32 (tt:Int),.string nm,vP,vS,.int .i32 en,.int .i64 pos] 49)
   have hG:=HBox.new w [.int .i64 kd,.int .u32 (fr:Int),.int .u32 (tt:Int),.string nm,vP,vS,.int .i32 en,.int .i64 pos] 49
   change HBox (w.alloc (.cells #[.int .i64 kd,.int .u32 (fr:Int),.int .u32 (tt:Int),.string nm,vP,vS,.int .i32 en,.int .i64 pos] 49)) _ _ _ at hG
   obtain ⟨ac,an,ak,ap,_,_,_,_⟩:=a
   have k1:((kd:Int) == 1)=true:=by rw [h0];rfl
   clear h0
   go_enter Tryz.func56,Tryz.ntmps56
   go_upto_region 1 with fail
   generalize w.alloc (.cells #[.int .i64 kd,.int .u32 (fr:Int),.int .u32 (tt:Int),.string nm,vP,vS,.int .i32 en,.int .i64 pos] 49)=W1 at *
   obtain ⟨G,hGG⟩:∃ G,w.heap.size=G:=⟨_,rfl⟩
   rw [hGG] at hG ⊢
   have HGG:=Lib.hid hGG
   have HB0:=Lib.hid hB0
   have HG1:=Lib.hid hG
   clear hB0
   have x0:=hG.cell (j:=0) rfl
   have x1:=hG.cell (j:=1) rfl
   have x2:=hG.cell (j:=2) rfl
   have x3:=hG.cell (j:=3) rfl
   clear hG hGG
   unfold cv at KG KW
   simp only [Ac.nm,Ac.to] at KW
   go_upto_region 2 with (go_at_call 85;refine (KG.out _ HB0.out).mono ?_;rintro e w2 ⟨rfl,h2⟩;have HB2:=Lib.hid (HB0.out.trans (h2.mono HB0.out.size));have HG2:=Lib.hid (HG1.out.stay h2);have q0:=HG2.out.cell (j:=0) rfl;have q1:=HG2.out.cell (j:=1) rfl;have q2:=HG2.out.cell (j:=2) rfl;have q3:=HG2.out.cell (j:=3) rfl;clear h2)
   have hA:=HBox.new w2 [.int .u32 (ac:Int),.string an,.int .u8 (ak:Int),.int .u32 (ap:Int)] 82
   change HBox (w2.alloc (.cells #[.int .u32 (ac:Int),.string an,.int .u8 (ak:Int),.int .u32 (ap:Int)] 82)) _ _ _ at hA
   have hB3:=HB2.out.alloc (by have:=HB2.out.size;have:=HGG.out;omega) (.cells #[.int .u32 (ac:Int),.string an,.int .u8 (ak:Int),.int .u32 (ap:Int)] 82)
   have hG3:=HG2.out.alloc (.cells #[.int .u32 (ac:Int),.string an,.int .u8 (ak:Int),.int .u32 (ap:Int)] 82)
   generalize w2.alloc (.cells #[.int .u32 (ac:Int),.string an,.int .u8 (ak:Int),.int .u32 (ap:Int)] 82)=W3 at *
   obtain ⟨A,hAA⟩:∃ A,w2.heap.size=A:=⟨_,rfl⟩
   have hGA:G<A:=by have:=HG2.out.size;omega
   rw [hAA] at hA ⊢
   clear hAA
   have HB3:=Lib.hid hB3
   have HG3:=Lib.hid hG3
   have HA3:=Lib.hid hA
   have a0:=hA.cell (j:=0) rfl
   have a1:=hA.cell (j:=1) rfl
   have a2:=hA.cell (j:=2) rfl
   have a3:=hA.cell (j:=3) rfl
   have f0:=hA.frozen 0
   have f1:=hA.frozen 1
   have f3:=hA.frozen 3
   have sA:=hA.size
   have sG:G<W3.heap.size:=HG3.out.size
   have y0:=HG3.out.cell (j:=0) rfl
   have y1:=HG3.out.cell (j:=1) rfl
   have y2:=HG3.out.cell (j:=2) rfl
   have y3:=HG3.out.cell (j:=3) rfl
   clear hA hB3 hG3 x0 x1 x2 x3 q0 q1 q2 q3
   go_upto_region 7 with fail
   have hA4:=HA3.out.set 1 (.string nm)
   change HBox _ A [.int .u32 (ac:Int),.string nm,.int .u8 (ak:Int),.int .u32 (ap:Int)] _ at hA4
   have hB4:=HB3.out.setCell (p:=⟨A,1,none⟩) (by have:=HGG.out;show w.heap.size≤A;omega) (.string nm)
   generalize W3.setCell ⟨A,1,none⟩ (.string nm)=W4 at *
   have HB4:=Lib.hid hB4
   clear a0 a1 a2 a3 f0 f1 f3 y0 y1 y2 y3 sA sG
   have b0:=hA4.cell (j:=0) rfl
   have b1:=hA4.cell (j:=1) rfl
   have b2:=hA4.cell (j:=2) rfl
   have b3:=hA4.cell (j:=3) rfl
   clear hA4 hB4
   go_wp2_with (go_at_call 88;refine (KW.out _ HB4.out).mono ?_;rintro e w5 ⟨v5,rfl,hr5,h5⟩;have HB5:=Lib.hid (HB4.out.trans (h5.mono HB4.out.size));have HR5:=Lib.hid hr5;clear h5 hr5)
   go_ret2
   exact ⟨⟨v5,rfl,HR5.out⟩,HB5.out⟩
  ·have KG:=Lib.hid (fun (W:World) (h:Below w.heap.size w W)=>get_some v c o.frm a W (hR.stay h) hr (by omega) hg)
   have KW:=Lib.hid (fun (W:World) (h:Below w.heap.size w W)=>with_v v c (a.to o.to o.ht) W (hR.stay h) hr (by omega))
   rw [accF_2 hg h0]
   clear hR hr hg
   obtain ⟨kd,fr,tt,nm,ps,ss,en,_,_,_,hnm,_,_,_⟩:=o
   simp only at *
   have hB0:=(Below.refl w.heap.size w).alloc (Nat.le_refl _) (.cells #[.int .i64 kd,.int .u32 (fr:Int),.int .u32 (tt:Int),.string nm,vP,vS,.int .i32 en,.int .i64 pos] 49)
   have hG:=HBox.new w [.int .i64 kd,.int .u32 (fr:Int),.int .u32 (tt:Int),.string nm,vP,vS,.int .i32 en,.int .i64 pos] 49
   change HBox (w.alloc (.cells #[.int .i64 kd,.int .u32 (fr:Int),.int .u32 (tt:Int),.string nm,vP,vS,.int .i32 en,.int .i64 pos] 49)) _ _ _ at hG
   obtain ⟨ac,an,ak,ap,_,_,_,_⟩:=a
   have k1:((kd:Int) == 1)=false:=by rw [h0];rfl
   clear h0
   go_enter Tryz.func56,Tryz.ntmps56
   go_upto_region 1 with fail
   generalize w.alloc (.cells #[.int .i64 kd,.int .u32 (fr:Int),.int .u32 (tt:Int),.string nm,vP,vS,.int .i32 en,.int .i64 pos] 49)=W1 at *
   obtain ⟨G,hGG⟩:∃ G,w.heap.size=G:=⟨_,rfl⟩
   rw [hGG] at hG ⊢
   have HGG:=Lib.hid hGG
   have HB0:=Lib.hid hB0
   have HG1:=Lib.hid hG
   clear hB0
   have x0:=hG.cell (j:=0) rfl
   have x1:=hG.cell (j:=1) rfl
   have x2:=hG.cell (j:=2) rfl
   have x3:=hG.cell (j:=3) rfl
   clear hG hGG
   unfold cv at KG KW
   simp only [Ac.nm,Ac.to] at KW
   go_upto_region 2 with (go_at_call 85;refine (KG.out _ HB0.out).mono ?_;rintro e w2 ⟨rfl,h2⟩;have HB2:=Lib.hid (HB0.out.trans (h2.mono HB0.out.size));have HG2:=Lib.hid (HG1.out.stay h2);have q0:=HG2.out.cell (j:=0) rfl;have q1:=HG2.out.cell (j:=1) rfl;have q2:=HG2.out.cell (j:=2) rfl;have q3:=HG2.out.cell (j:=3) rfl;clear h2)
   have hA:=HBox.new w2 [.int .u32 (ac:Int),.string an,.int .u8 (ak:Int),.int .u32 (ap:Int)] 82
   change HBox (w2.alloc (.cells #[.int .u32 (ac:Int),.string an,.int .u8 (ak:Int),.int .u32 (ap:Int)] 82)) _ _ _ at hA
   have hB3:=HB2.out.alloc (by have:=HB2.out.size;have:=HGG.out;omega) (.cells #[.int .u32 (ac:Int),.string an,.int .u8 (ak:Int),.int .u32 (ap:Int)] 82)
   have hG3:=HG2.out.alloc (.cells #[.int .u32 (ac:Int),.string an,.int .u8 (ak:Int),.int .u32 (ap:Int)] 82)
   generalize w2.alloc (.cells #[.int .u32 (ac:Int),.string an,.int .u8 (ak:Int),.int .u32 (ap:Int)] 82)=W3 at *
   obtain ⟨A,hAA⟩:∃ A,w2.heap.size=A:=⟨_,rfl⟩
   have hGA:G<A:=by have:=HG2.out.size;omega
   rw [hAA] at hA ⊢
   clear hAA
   have HB3:=Lib.hid hB3
   have HG3:=Lib.hid hG3
   have HA3:=Lib.hid hA
   have a0:=hA.cell (j:=0) rfl
   have a1:=hA.cell (j:=1) rfl
   have a2:=hA.cell (j:=2) rfl
   have a3:=hA.cell (j:=3) rfl
   have f0:=hA.frozen 0
   have f1:=hA.frozen 1
   have f3:=hA.frozen 3
   have sA:=hA.size
   have sG:G<W3.heap.size:=HG3.out.size
   have y0:=HG3.out.cell (j:=0) rfl
   have y1:=HG3.out.cell (j:=1) rfl
   have y2:=HG3.out.cell (j:=2) rfl
   have y3:=HG3.out.cell (j:=3) rfl
   clear hA hB3 hG3 x0 x1 x2 x3 q0 q1 q2 q3
   go_upto_region 7 with fail
   have hA4:=HA3.out.set 3 (.int .u32 (tt:Int))
   change HBox _ A [.int .u32 (ac:Int),.string an,.int .u8 (ak:Int),.int .u32 (tt:Int)] _ at hA4
   have hB4:=HB3.out.setCell (p:=⟨A,3,none⟩) (by have:=HGG.out;show w.heap.size≤A;omega) (.int .u32 (tt:Int))
   generalize W3.setCell ⟨A,3,none⟩ (.int .u32 (tt:Int))=W4 at *
   have HB4:=Lib.hid hB4
   clear a0 a1 a2 a3 f0 f1 f3 y0 y1 y2 y3 sA sG
   have b0:=hA4.cell (j:=0) rfl
   have b1:=hA4.cell (j:=1) rfl
   have b2:=hA4.cell (j:=2) rfl
   have b3:=hA4.cell (j:=3) rfl
   clear hA4 hB4
   go_wp2_with (go_at_call 88;refine (KW.out _ HB4.out).mono ?_;rintro e w5 ⟨v5,rfl,hr5,h5⟩;have HB5:=Lib.hid (HB4.out.trans (h5.mono HB4.out.size));have HR5:=Lib.hid hr5;clear h5 hr5)
   go_ret2
   exact ⟨⟨v5,rfl,HR5.out⟩,HB5.out⟩
theorem merged_c (o:Rop) (vP vS:Value) (pos:Int) (v:Value) (c:List Ac) (w:World) (hR:Recs cc 4 w v c) (hr:RiseA c) (hl:c.length≤300) (h0:o.kind=3) :
 Calls Tryz.prog 57 #[v,ropV o vP vS pos] w fun e w'=>AccR w' e (accF c o)∧Below w.heap.size w w':=by
 have HR:=Lib.hid hR
 unfold ropV
 cases hg:getA c o.frm with
 | none =>
  have KG:=Lib.hid (fun (W:World) (h:Below w.heap.size w W)=>get_none v c o.frm W (hR.stay h) hr (by omega) hg)
  rw [accF_none hg]
  clear hR hg h0 hr
  obtain ⟨kd,fr,tt,nm,ps,ss,en,_,_,_,hnm,_,_,_⟩:=o
  simp only at *
  have hB0:=(Below.refl w.heap.size w).alloc (Nat.le_refl _) (.cells #[.int .i64 kd,.int .u32 (fr:Int),.int .u32 (tt:Int),.string nm,vP,vS,.int .i32 en,.int .i64 pos] 49)
  have hG:=HBox.new w [.int .i64 kd,.int .u32 (fr:Int),.int .u32 (tt:Int),.string nm,vP,vS,.int .i32 en,.int .i64 pos] 49
  change HBox (w.alloc (.cells #[.int .i64 kd,.int .u32 (fr:Int),.int .u32 (tt:Int),.string nm,vP,vS,.int .i32 en,.int .i64 pos] 49)) _ _ _ at hG
  go_enter Tryz.func57,Tryz.ntmps57
  go_upto_region 1 with fail
  generalize w.alloc (.cells #[.int .i64 kd,.int .u32 (fr:Int),.int .u32 (tt:Int),.string nm,vP,vS,.int .i32 en,.int .i64 pos] 49)=W1 at *
  obtain ⟨G,hGG⟩:∃ G,w.heap.size=G:=⟨_,rfl⟩
  rw [hGG] at hG ⊢
  have HGG:=Lib.hid hGG
  have HB0:=Lib.hid hB0
  have HG1:=Lib.hid hG
  clear hB0
  have x0:=hG.cell (j:=0) rfl
  have x1:=hG.cell (j:=1) rfl
  have x2:=hG.cell (j:=2) rfl
  have x3:=hG.cell (j:=3) rfl
  clear hG hGG
  go_wp2_with (go_at_call 85;refine (KG.out _ HB0.out).mono ?_;rintro e w2 ⟨rfl,h2⟩;have HB2:=Lib.hid (HB0.out.trans (h2.mono HB0.out.size));have HG2:=Lib.hid (HG1.out.stay h2);have q0:=HG2.out.cell (j:=0) rfl;have q1:=HG2.out.cell (j:=1) rfl;have q2:=HG2.out.cell (j:=2) rfl;have q3:=HG2.out.cell (j:=3) rfl;clear h2)
  go_ret2
  exact ⟨rfl,HB2.out.alloc (by have:=HB2.out.size;have:=HGG.out;omega) _⟩
 | some a =>
  by_cases hs:o.to=o.frm
  ·have KG:=Lib.hid (fun (W:World) (h:Below w.heap.size w W)=>get_some v c o.frm a W (hR.stay h) hr (by omega) hg)
   rw [accF_3s hg h0 hs]
   clear hg
   obtain ⟨kd,fr,tt,nm,ps,ss,en,_,_,_,hnm,_,_,_⟩:=o
   simp only at *
   have hB0:=(Below.refl w.heap.size w).alloc (Nat.le_refl _) (.cells #[.int .i64 kd,.int .u32 (fr:Int),.int .u32 (tt:Int),.string nm,vP,vS,.int .i32 en,.int .i64 pos] 49)
   have hG:=HBox.new w [.int .i64 kd,.int .u32 (fr:Int),.int .u32 (tt:Int),.string nm,vP,vS,.int .i32 en,.int .i64 pos] 49
   change HBox (w.alloc (.cells #[.int .i64 kd,.int .u32 (fr:Int),.int .u32 (tt:Int),.string nm,vP,vS,.int .i32 en,.int .i64 pos] 49)) _ _ _ at hG
   obtain ⟨ac,an,ak,ap,_,_,_,_⟩:=a
   have k1:((tt:Int) == (fr:Int))=true:=by rw [hs];exact beq_self_eq_true _
   clear hs
   clear h0 hR hr
   go_enter Tryz.func57,Tryz.ntmps57
   go_upto_region 1 with fail
   generalize w.alloc (.cells #[.int .i64 kd,.int .u32 (fr:Int),.int .u32 (tt:Int),.string nm,vP,vS,.int .i32 en,.int .i64 pos] 49)=W1 at *
   obtain ⟨G,hGG⟩:∃ G,w.heap.size=G:=⟨_,rfl⟩
   rw [hGG] at hG ⊢
   have HGG:=Lib.hid hGG
   have HB0:=Lib.hid hB0
   have HG1:=Lib.hid hG
   clear hB0
   have x0:=hG.cell (j:=0) rfl
   have x1:=hG.cell (j:=1) rfl
   have x2:=hG.cell (j:=2) rfl
   have x3:=hG.cell (j:=3) rfl
   clear hG hGG
   unfold cv at KG
   go_upto_region 2 with (go_at_call 85;refine (KG.out _ HB0.out).mono ?_;rintro e w2 ⟨rfl,h2⟩;have HB2:=Lib.hid (HB0.out.trans (h2.mono HB0.out.size));have HG2:=Lib.hid (HG1.out.stay h2);have q0:=HG2.out.cell (j:=0) rfl;have q1:=HG2.out.cell (j:=1) rfl;have q2:=HG2.out.cell (j:=2) rfl;have q3:=HG2.out.cell (j:=3) rfl;clear h2)
   have hA:=HBox.new w2 [.int .u32 (ac:Int),.string an,.int .u8 (ak:Int),.int .u32 (ap:Int)] 82
   change HBox (w2.alloc (.cells #[.int .u32 (ac:Int),.string an,.int .u8 (ak:Int),.int .u32 (ap:Int)] 82)) _ _ _ at hA
   have hB3:=HB2.out.alloc (by have:=HB2.out.size;have:=HGG.out;omega) (.cells #[.int .u32 (ac:Int),.string an,.int .u8 (ak:Int),.int .u32 (ap:Int)] 82)
   have hG3:=HG2.out.alloc (.cells #[.int .u32 (ac:Int),.string an,.int .u8 (ak:Int),.int .u32 (ap:Int)] 82)
   generalize w2.alloc (.cells #[.int .u32 (ac:Int),.string an,.int .u8 (ak:Int),.int .u32 (ap:Int)] 82)=W3 at *
   obtain ⟨A,hAA⟩:∃ A,w2.heap.size=A:=⟨_,rfl⟩
   have hGA:G<A:=by have:=HG2.out.size;omega
   rw [hAA] at hA ⊢
   clear hAA
   have HB3:=Lib.hid hB3
   have HG3:=Lib.hid hG3
   have HA3:=Lib.hid hA
   have a0:=hA.cell (j:=0) rfl
   have a1:=hA.cell (j:=1) rfl
   have a2:=hA.cell (j:=2) rfl
   have a3:=hA.cell (j:=3) rfl
   have f0:=hA.frozen 0
   have f1:=hA.frozen 1
   have f3:=hA.frozen 3
   have sA:=hA.size
   have sG:G<W3.heap.size:=HG3.out.size
   have y0:=HG3.out.cell (j:=0) rfl
   have y1:=HG3.out.cell (j:=1) rfl
   have y2:=HG3.out.cell (j:=2) rfl
   have y3:=HG3.out.cell (j:=3) rfl
   clear hA hB3 hG3 x0 x1 x2 x3 q0 q1 q2 q3
   go_wp2_with fail
   go_ret2
   exact ⟨rfl,HB3.out⟩
  ·cases ht:getA c o.to with
   | none =>
    have KG:=Lib.hid (fun (W:World) (h:Below w.heap.size w W)=>get_some v c o.frm a W (hR.stay h) hr (by omega) hg)
    have KT:=Lib.hid (fun (W:World) (h:Below w.heap.size w W)=>get_none v c o.to W (hR.stay h) hr (by omega) ht)
    rw [accF_3n hg h0 hs ht]
    clear hg
    obtain ⟨kd,fr,tt,nm,ps,ss,en,_,_,_,hnm,_,_,_⟩:=o
    simp only at *
    have hB0:=(Below.refl w.heap.size w).alloc (Nat.le_refl _) (.cells #[.int .i64 kd,.int .u32 (fr:Int),.int .u32 (tt:Int),.string nm,vP,vS,.int .i32 en,.int .i64 pos] 49)
    have hG:=HBox.new w [.int .i64 kd,.int .u32 (fr:Int),.int .u32 (tt:Int),.string nm,vP,vS,.int .i32 en,.int .i64 pos] 49
    change HBox (w.alloc (.cells #[.int .i64 kd,.int .u32 (fr:Int),.int .u32 (tt:Int),.string nm,vP,vS,.int .i32 en,.int .i64 pos] 49)) _ _ _ at hG
    obtain ⟨ac,an,ak,ap,_,_,_,_⟩:=a
    have k1:((tt:Int) == (fr:Int))=false:=by rw [beq_eq_false_iff_ne];omega
    clear hs
    clear h0 hR hr
    go_enter Tryz.func57,Tryz.ntmps57
    go_upto_region 1 with fail
    generalize w.alloc (.cells #[.int .i64 kd,.int .u32 (fr:Int),.int .u32 (tt:Int),.string nm,vP,vS,.int .i32 en,.int .i64 pos] 49)=W1 at *
    obtain ⟨G,hGG⟩:∃ G,w.heap.size=G:=⟨_,rfl⟩
    rw [hGG] at hG ⊢
    have HGG:=Lib.hid hGG
    have HB0:=Lib.hid hB0
    have HG1:=Lib.hid hG
    clear hB0
    have x0:=hG.cell (j:=0) rfl
    have x1:=hG.cell (j:=1) rfl
    have x2:=hG.cell (j:=2) rfl
    have x3:=hG.cell (j:=3) rfl
    clear hG hGG
    unfold cv at KG
    go_upto_region 2 with (go_at_call 85;refine (KG.out _ HB0.out).mono ?_;rintro e w2 ⟨rfl,h2⟩;have HB2:=Lib.hid (HB0.out.trans (h2.mono HB0.out.size));have HG2:=Lib.hid (HG1.out.stay h2);have q0:=HG2.out.cell (j:=0) rfl;have q1:=HG2.out.cell (j:=1) rfl;have q2:=HG2.out.cell (j:=2) rfl;have q3:=HG2.out.cell (j:=3) rfl;clear h2)
    have hA:=HBox.new w2 [.int .u32 (ac:Int),.string an,.int .u8 (ak:Int),.int .u32 (ap:Int)] 82
    change HBox (w2.alloc (.cells #[.int .u32 (ac:Int),.string an,.int .u8 (ak:Int),.int .u32 (ap:Int)] 82)) _ _ _ at hA
    have hB3:=HB2.out.alloc (by have:=HB2.out.size;have:=HGG.out;omega) (.cells #[.int .u32 (ac:Int),.string an,.int .u8 (ak:Int),.int .u32 (ap:Int)] 82)
    have hG3:=HG2.out.alloc (.cells #[.int .u32 (ac:Int),.string an,.int .u8 (ak:Int),.int .u32 (ap:Int)] 82)
    generalize w2.alloc (.cells #[.int .u32 (ac:Int),.string an,.int .u8 (ak:Int),.int .u32 (ap:Int)] 82)=W3 at *
    obtain ⟨A,hAA⟩:∃ A,w2.heap.size=A:=⟨_,rfl⟩
    have hGA:G<A:=by have:=HG2.out.size;omega
    rw [hAA] at hA ⊢
    clear hAA
    have HB3:=Lib.hid hB3
    have HG3:=Lib.hid hG3
    have HA3:=Lib.hid hA
    have a0:=hA.cell (j:=0) rfl
    have a1:=hA.cell (j:=1) rfl
    have a2:=hA.cell (j:=2) rfl
    have a3:=hA.cell (j:=3) rfl
    have f0:=hA.frozen 0
    have f1:=hA.frozen 1
    have f3:=hA.frozen 3
    have sA:=hA.size
    have sG:G<W3.heap.size:=HG3.out.size
    have y0:=HG3.out.cell (j:=0) rfl
    have y1:=HG3.out.cell (j:=1) rfl
    have y2:=HG3.out.cell (j:=2) rfl
    have y3:=HG3.out.cell (j:=3) rfl
    clear hA hB3 hG3 x0 x1 x2 x3 q0 q1 q2 q3
    go_wp2_with (go_at_call 85;refine (KT.out _ HB3.out).mono ?_;rintro e w5 ⟨rfl,h5⟩;have HB5:=Lib.hid (HB3.out.trans (h5.mono HB3.out.size));have HG5:=Lib.hid (HG3.out.stay h5);have HA5:=Lib.hid (HA3.out.stay h5);clear h5)
    go_ret2
    exact ⟨rfl,HB5.out.alloc (by have:=HB5.out.size;have:=HGG.out;omega) _⟩
   | some b =>
    by_cases hk:b.kind=a.kind
    case neg =>
     have KG:=Lib.hid (fun (W:World) (h:Below w.heap.size w W)=>get_some v c o.frm a W (hR.stay h) hr (by omega) hg)
     have KT:=Lib.hid (fun (W:World) (h:Below w.heap.size w W)=>get_some v c o.to b W (hR.stay h) hr (by omega) ht)
     rw [accF_3k hg h0 hs ht hk]
     clear hg
     obtain ⟨kd,fr,tt,nm,ps,ss,en,_,_,_,hnm,_,_,_⟩:=o
     simp only at *
     have hB0:=(Below.refl w.heap.size w).alloc (Nat.le_refl _) (.cells #[.int .i64 kd,.int .u32 (fr:Int),.int .u32 (tt:Int),.string nm,vP,vS,.int .i32 en,.int .i64 pos] 49)
     have hG:=HBox.new w [.int .i64 kd,.int .u32 (fr:Int),.int .u32 (tt:Int),.string nm,vP,vS,.int .i32 en,.int .i64 pos] 49
     change HBox (w.alloc (.cells #[.int .i64 kd,.int .u32 (fr:Int),.int .u32 (tt:Int),.string nm,vP,vS,.int .i32 en,.int .i64 pos] 49)) _ _ _ at hG
     obtain ⟨ac,an,ak,ap,_,_,_,_⟩:=a
     have k1:((tt:Int) == (fr:Int))=false:=by rw [beq_eq_false_iff_ne];omega
     clear hs
     obtain ⟨bc,bn,bk,bp,_,_,_,_⟩:=b
     try simp only at *
     have k2:((bk:Int) != (ak:Int))=true:=by rw [bne_iff_ne];omega
     clear hk
     clear h0 hR hr
     go_enter Tryz.func57,Tryz.ntmps57
     go_upto_region 1 with fail
     generalize w.alloc (.cells #[.int .i64 kd,.int .u32 (fr:Int),.int .u32 (tt:Int),.string nm,vP,vS,.int .i32 en,.int .i64 pos] 49)=W1 at *
     obtain ⟨G,hGG⟩:∃ G,w.heap.size=G:=⟨_,rfl⟩
     rw [hGG] at hG ⊢
     have HGG:=Lib.hid hGG
     have HB0:=Lib.hid hB0
     have HG1:=Lib.hid hG
     clear hB0
     have x0:=hG.cell (j:=0) rfl
     have x1:=hG.cell (j:=1) rfl
     have x2:=hG.cell (j:=2) rfl
     have x3:=hG.cell (j:=3) rfl
     clear hG hGG
     unfold cv at KG
     go_upto_region 2 with (go_at_call 85;refine (KG.out _ HB0.out).mono ?_;rintro e w2 ⟨rfl,h2⟩;have HB2:=Lib.hid (HB0.out.trans (h2.mono HB0.out.size));have HG2:=Lib.hid (HG1.out.stay h2);have q0:=HG2.out.cell (j:=0) rfl;have q1:=HG2.out.cell (j:=1) rfl;have q2:=HG2.out.cell (j:=2) rfl;have q3:=HG2.out.cell (j:=3) rfl;clear h2)
     have hA:=HBox.new w2 [.int .u32 (ac:Int),.string an,.int .u8 (ak:Int),.int .u32 (ap:Int)] 82
     change HBox (w2.alloc (.cells #[.int .u32 (ac:Int),.string an,.int .u8 (ak:Int),.int .u32 (ap:Int)] 82)) _ _ _ at hA
     have hB3:=HB2.out.alloc (by have:=HB2.out.size;have:=HGG.out;omega) (.cells #[.int .u32 (ac:Int),.string an,.int .u8 (ak:Int),.int .u32 (ap:Int)] 82)
     have hG3:=HG2.out.alloc (.cells #[.int .u32 (ac:Int),.string an,.int .u8 (ak:Int),.int .u32 (ap:Int)] 82)
     generalize w2.alloc (.cells #[.int .u32 (ac:Int),.string an,.int .u8 (ak:Int),.int .u32 (ap:Int)] 82)=W3 at *
     obtain ⟨A,hAA⟩:∃ A,w2.heap.size=A:=⟨_,rfl⟩
     have hGA:G<A:=by have:=HG2.out.size;omega
     rw [hAA] at hA ⊢
     clear hAA
     have HB3:=Lib.hid hB3
     have HG3:=Lib.hid hG3
     have HA3:=Lib.hid hA
     have a0:=hA.cell (j:=0) rfl
     have a1:=hA.cell (j:=1) rfl
     have a2:=hA.cell (j:=2) rfl
     have a3:=hA.cell (j:=3) rfl
     have f0:=hA.frozen 0
     have f1:=hA.frozen 1
     have f3:=hA.frozen 3
     have sA:=hA.size
     have sG:G<W3.heap.size:=HG3.out.size
     have y0:=HG3.out.cell (j:=0) rfl
     have y1:=HG3.out.cell (j:=1) rfl
     have y2:=HG3.out.cell (j:=2) rfl
     have y3:=HG3.out.cell (j:=3) rfl
     clear hA hB3 hG3 x0 x1 x2 x3 q0 q1 q2 q3
     unfold cv at KT
     go_upto_region 7 with (go_at_call 85;refine (KT.out _ HB3.out).mono ?_;rintro e w5 ⟨rfl,h5⟩;have HB5:=Lib.hid (HB3.out.trans (h5.mono HB3.out.size));have HG5:=Lib.hid (HG3.out.stay h5);have HA5:=Lib.hid (HA3.out.stay h5);clear h5)
     have HA6:=Lib.hid (HA5.out.alloc (.cells #[.int .u32 (bc:Int),.string bn,.int .u8 (bk:Int),.int .u32 (bp:Int)] 82))
     have HG6:=Lib.hid (HG5.out.alloc (.cells #[.int .u32 (bc:Int),.string bn,.int .u8 (bk:Int),.int .u32 (bp:Int)] 82))
     have HB6:=Lib.hid (HB5.out.alloc (by have:=HB5.out.size;have:=HGG.out;omega) (.cells #[.int .u32 (bc:Int),.string bn,.int .u8 (bk:Int),.int .u32 (bp:Int)] 82))
     have hQ:=HBox.new w5 [.int .u32 (bc:Int),.string bn,.int .u8 (bk:Int),.int .u32 (bp:Int)] 82
     change HBox (w5.alloc (.cells #[.int .u32 (bc:Int),.string bn,.int .u8 (bk:Int),.int .u32 (bp:Int)] 82)) _ _ _ at hQ
     generalize w5.alloc (.cells #[.int .u32 (bc:Int),.string bn,.int .u8 (bk:Int),.int .u32 (bp:Int)] 82)=W6 at *
     generalize w5.heap.size=Q at *
     clear a0 a1 a2 a3 f0 f1 f3 y0 y1 y2 y3 sA sG
     have b2:=hQ.cell (j:=2) rfl
     have a2:=HA6.out.cell (j:=2) rfl
     have q0:=HG6.out.cell (j:=0) rfl
     have q1:=HG6.out.cell (j:=1) rfl
     have q2:=HG6.out.cell (j:=2) rfl
     clear hQ
     go_wp2_with fail
     go_ret2
     exact ⟨rfl,HB6.out⟩
    case pos =>
     have KK:=Lib.hid (fun (W:World) (h:Below w.heap.size w W)=>kids_v v c o.frm W (hR.stay h) (by omega))
     by_cases hc:kidsA c o.frm=[]
     case neg =>
      have hlen:0<(kidsA c o.frm).length:=List.length_pos_iff.2 hc
      have KG:=Lib.hid (fun (W:World) (h:Below w.heap.size w W)=>get_some v c o.frm a W (hR.stay h) hr (by omega) hg)
      have KT:=Lib.hid (fun (W:World) (h:Below w.heap.size w W)=>get_some v c o.to b W (hR.stay h) hr (by omega) ht)
      rw [accF_3c hg h0 hs ht hk hc]
      clear hg
      obtain ⟨kd,fr,tt,nm,ps,ss,en,_,_,_,hnm,_,_,_⟩:=o
      simp only at *
      have hB0:=(Below.refl w.heap.size w).alloc (Nat.le_refl _) (.cells #[.int .i64 kd,.int .u32 (fr:Int),.int .u32 (tt:Int),.string nm,vP,vS,.int .i32 en,.int .i64 pos] 49)
      have hG:=HBox.new w [.int .i64 kd,.int .u32 (fr:Int),.int .u32 (tt:Int),.string nm,vP,vS,.int .i32 en,.int .i64 pos] 49
      change HBox (w.alloc (.cells #[.int .i64 kd,.int .u32 (fr:Int),.int .u32 (tt:Int),.string nm,vP,vS,.int .i32 en,.int .i64 pos] 49)) _ _ _ at hG
      obtain ⟨ac,an,ak,ap,_,_,_,_⟩:=a
      have k1:((tt:Int) == (fr:Int))=false:=by rw [beq_eq_false_iff_ne];omega
      clear hs
      obtain ⟨bc,bn,bk,bp,_,_,_,_⟩:=b
      try simp only at *
      have k2:((bk:Int) != (ak:Int))=false:=by rw [hk];exact bne_self_eq_false _
      clear hk
      clear h0 hR hr
      go_enter Tryz.func57,Tryz.ntmps57
      go_upto_region 1 with fail
      generalize w.alloc (.cells #[.int .i64 kd,.int .u32 (fr:Int),.int .u32 (tt:Int),.string nm,vP,vS,.int .i32 en,.int .i64 pos] 49)=W1 at *
      obtain ⟨G,hGG⟩:∃ G,w.heap.size=G:=⟨_,rfl⟩
      rw [hGG] at hG ⊢
      have HGG:=Lib.hid hGG
      have HB0:=Lib.hid hB0
      have HG1:=Lib.hid hG
      clear hB0
      have x0:=hG.cell (j:=0) rfl
      have x1:=hG.cell (j:=1) rfl
      have x2:=hG.cell (j:=2) rfl
      have x3:=hG.cell (j:=3) rfl
      clear hG hGG
      unfold cv at KG
      go_upto_region 2 with (go_at_call 85;refine (KG.out _ HB0.out).mono ?_;rintro e w2 ⟨rfl,h2⟩;have HB2:=Lib.hid (HB0.out.trans (h2.mono HB0.out.size));have HG2:=Lib.hid (HG1.out.stay h2);have q0:=HG2.out.cell (j:=0) rfl;have q1:=HG2.out.cell (j:=1) rfl;have q2:=HG2.out.cell (j:=2) rfl;have q3:=HG2.out.cell (j:=3) rfl;clear h2)
      have hA:=HBox.new w2 [.int .u32 (ac:Int),.string an,.int .u8 (ak:Int),.int .u32 (ap:Int)] 82
      change HBox (w2.alloc (.cells #[.int .u32 (ac:Int),.string an,.int .u8 (ak:Int),.int .u32 (ap:Int)] 82)) _ _ _ at hA
      have hB3:=HB2.out.alloc (by have:=HB2.out.size;have:=HGG.out;omega) (.cells #[.int .u32 (ac:Int),.string an,.int .u8 (ak:Int),.int .u32 (ap:Int)] 82)
      have hG3:=HG2.out.alloc (.cells #[.int .u32 (ac:Int),.string an,.int .u8 (ak:Int),.int .u32 (ap:Int)] 82)
      generalize w2.alloc (.cells #[.int .u32 (ac:Int),.string an,.int .u8 (ak:Int),.int .u32 (ap:Int)] 82)=W3 at *
      obtain ⟨A,hAA⟩:∃ A,w2.heap.size=A:=⟨_,rfl⟩
      have hGA:G<A:=by have:=HG2.out.size;omega
      rw [hAA] at hA ⊢
      clear hAA
      have HB3:=Lib.hid hB3
      have HG3:=Lib.hid hG3
      have HA3:=Lib.hid hA
      have a0:=hA.cell (j:=0) rfl
      have a1:=hA.cell (j:=1) rfl
      have a2:=hA.cell (j:=2) rfl
      have a3:=hA.cell (j:=3) rfl
      have f0:=hA.frozen 0
      have f1:=hA.frozen 1
      have f3:=hA.frozen 3
      have sA:=hA.size
      have sG:G<W3.heap.size:=HG3.out.size
      have y0:=HG3.out.cell (j:=0) rfl
      have y1:=HG3.out.cell (j:=1) rfl
      have y2:=HG3.out.cell (j:=2) rfl
      have y3:=HG3.out.cell (j:=3) rfl
      clear hA hB3 hG3 x0 x1 x2 x3 q0 q1 q2 q3
      unfold cv at KT
      obtain ⟨KL,hKL⟩:∃ k,(kidsA c fr).length=k:=⟨_,rfl⟩
      rw [hKL] at KK hlen
      clear hKL hc
      have k3:decide ((KL:Int) > 0)=true:=decide_eq_true (by omega)
      have k4:(0:Int)<(KL:Int):=by omega
      go_upto_region 7 with (go_at_call 85;refine (KT.out _ HB3.out).mono ?_;rintro e w5 ⟨rfl,h5⟩;have HB5:=Lib.hid (HB3.out.trans (h5.mono HB3.out.size));have HG5:=Lib.hid (HG3.out.stay h5);have HA5:=Lib.hid (HA3.out.stay h5);clear h5)
      have HA6:=Lib.hid (HA5.out.alloc (.cells #[.int .u32 (bc:Int),.string bn,.int .u8 (bk:Int),.int .u32 (bp:Int)] 82))
      have HG6:=Lib.hid (HG5.out.alloc (.cells #[.int .u32 (bc:Int),.string bn,.int .u8 (bk:Int),.int .u32 (bp:Int)] 82))
      have HB6:=Lib.hid (HB5.out.alloc (by have:=HB5.out.size;have:=HGG.out;omega) (.cells #[.int .u32 (bc:Int),.string bn,.int .u8 (bk:Int),.int .u32 (bp:Int)] 82))
      have hQ:=HBox.new w5 [.int .u32 (bc:Int),.string bn,.int .u8 (bk:Int),.int .u32 (bp:Int)] 82
      change HBox (w5.alloc (.cells #[.int .u32 (bc:Int),.string bn,.int .u8 (bk:Int),.int .u32 (bp:Int)] 82)) _ _ _ at hQ
      generalize w5.alloc (.cells #[.int .u32 (bc:Int),.string bn,.int .u8 (bk:Int),.int .u32 (bp:Int)] 82)=W6 at *
      generalize w5.heap.size=Q at *
      clear a0 a1 a2 a3 f0 f1 f3 y0 y1 y2 y3 sA sG
      have b2:=hQ.cell (j:=2) rfl
      have a2:=HA6.out.cell (j:=2) rfl
      have q0:=HG6.out.cell (j:=0) rfl
      have q1:=HG6.out.cell (j:=1) rfl
      have q2:=HG6.out.cell (j:=2) rfl
      clear hQ
      go_wp2_with (go_at_call 89;refine (KK.out _ HB6.out).mono ?_;rintro e w7 ⟨r7,c7,rfl,h7⟩;have HB7:=Lib.hid (HB6.out.trans (h7.mono HB6.out.size));have HG7:=Lib.hid (HG6.out.stay h7);have z1:=HG7.out.cell (j:=1) rfl;clear h7)
      go_ret2
      exact ⟨rfl,HB7.out⟩
     case pos =>
      have KO:=Lib.hid (fun (W:World) (h:Below w.heap.size w W)=>out_v v c o.frm W (hR.stay h) hr (by omega))
      have KG:=Lib.hid (fun (W:World) (h:Below w.heap.size w W)=>get_some v c o.frm a W (hR.stay h) hr (by omega) hg)
      have KT:=Lib.hid (fun (W:World) (h:Below w.heap.size w W)=>get_some v c o.to b W (hR.stay h) hr (by omega) ht)
      rw [accF_3 hg h0 hs ht hk hc]
      clear hg
      obtain ⟨kd,fr,tt,nm,ps,ss,en,_,_,_,hnm,_,_,_⟩:=o
      simp only at *
      have hB0:=(Below.refl w.heap.size w).alloc (Nat.le_refl _) (.cells #[.int .i64 kd,.int .u32 (fr:Int),.int .u32 (tt:Int),.string nm,vP,vS,.int .i32 en,.int .i64 pos] 49)
      have hG:=HBox.new w [.int .i64 kd,.int .u32 (fr:Int),.int .u32 (tt:Int),.string nm,vP,vS,.int .i32 en,.int .i64 pos] 49
      change HBox (w.alloc (.cells #[.int .i64 kd,.int .u32 (fr:Int),.int .u32 (tt:Int),.string nm,vP,vS,.int .i32 en,.int .i64 pos] 49)) _ _ _ at hG
      obtain ⟨ac,an,ak,ap,_,_,_,_⟩:=a
      have k1:((tt:Int) == (fr:Int))=false:=by rw [beq_eq_false_iff_ne];omega
      clear hs
      obtain ⟨bc,bn,bk,bp,_,_,_,_⟩:=b
      try simp only at *
      have k2:((bk:Int) != (ak:Int))=false:=by rw [hk];exact bne_self_eq_false _
      clear hk
      clear h0 hR hr
      go_enter Tryz.func57,Tryz.ntmps57
      go_upto_region 1 with fail
      generalize w.alloc (.cells #[.int .i64 kd,.int .u32 (fr:Int),.int .u32 (tt:Int),.string nm,vP,vS,.int .i32 en,.int .i64 pos] 49)=W1 at *
      obtain ⟨G,hGG⟩:∃ G,w.heap.size=G:=⟨_,rfl⟩
      rw [hGG] at hG ⊢
      have HGG:=Lib.hid hGG
      have HB0:=Lib.hid hB0
      have HG1:=Lib.hid hG
      clear hB0
      have x0:=hG.cell (j:=0) rfl
      have x1:=hG.cell (j:=1) rfl
      have x2:=hG.cell (j:=2) rfl
      have x3:=hG.cell (j:=3) rfl
      clear hG hGG
      unfold cv at KG
      go_upto_region 2 with (go_at_call 85;refine (KG.out _ HB0.out).mono ?_;rintro e w2 ⟨rfl,h2⟩;have HB2:=Lib.hid (HB0.out.trans (h2.mono HB0.out.size));have HG2:=Lib.hid (HG1.out.stay h2);have q0:=HG2.out.cell (j:=0) rfl;have q1:=HG2.out.cell (j:=1) rfl;have q2:=HG2.out.cell (j:=2) rfl;have q3:=HG2.out.cell (j:=3) rfl;clear h2)
      have hA:=HBox.new w2 [.int .u32 (ac:Int),.string an,.int .u8 (ak:Int),.int .u32 (ap:Int)] 82
      change HBox (w2.alloc (.cells #[.int .u32 (ac:Int),.string an,.int .u8 (ak:Int),.int .u32 (ap:Int)] 82)) _ _ _ at hA
      have hB3:=HB2.out.alloc (by have:=HB2.out.size;have:=HGG.out;omega) (.cells #[.int .u32 (ac:Int),.string an,.int .u8 (ak:Int),.int .u32 (ap:Int)] 82)
      have hG3:=HG2.out.alloc (.cells #[.int .u32 (ac:Int),.string an,.int .u8 (ak:Int),.int .u32 (ap:Int)] 82)
      generalize w2.alloc (.cells #[.int .u32 (ac:Int),.string an,.int .u8 (ak:Int),.int .u32 (ap:Int)] 82)=W3 at *
      obtain ⟨A,hAA⟩:∃ A,w2.heap.size=A:=⟨_,rfl⟩
      have hGA:G<A:=by have:=HG2.out.size;omega
      rw [hAA] at hA ⊢
      clear hAA
      have HB3:=Lib.hid hB3
      have HG3:=Lib.hid hG3
      have HA3:=Lib.hid hA
      have a0:=hA.cell (j:=0) rfl
      have a1:=hA.cell (j:=1) rfl
      have a2:=hA.cell (j:=2) rfl
      have a3:=hA.cell (j:=3) rfl
      have f0:=hA.frozen 0
      have f1:=hA.frozen 1
      have f3:=hA.frozen 3
      have sA:=hA.size
      have sG:G<W3.heap.size:=HG3.out.size
      have y0:=HG3.out.cell (j:=0) rfl
      have y1:=HG3.out.cell (j:=1) rfl
      have y2:=HG3.out.cell (j:=2) rfl
      have y3:=HG3.out.cell (j:=3) rfl
      clear hA hB3 hG3 x0 x1 x2 x3 q0 q1 q2 q3
      unfold cv at KT
      rw [hc] at KK
      go_upto_region 7 with (go_at_call 85;refine (KT.out _ HB3.out).mono ?_;rintro e w5 ⟨rfl,h5⟩;have HB5:=Lib.hid (HB3.out.trans (h5.mono HB3.out.size));have HG5:=Lib.hid (HG3.out.stay h5);have HA5:=Lib.hid (HA3.out.stay h5);clear h5)
      have HA6:=Lib.hid (HA5.out.alloc (.cells #[.int .u32 (bc:Int),.string bn,.int .u8 (bk:Int),.int .u32 (bp:Int)] 82))
      have HG6:=Lib.hid (HG5.out.alloc (.cells #[.int .u32 (bc:Int),.string bn,.int .u8 (bk:Int),.int .u32 (bp:Int)] 82))
      have HB6:=Lib.hid (HB5.out.alloc (by have:=HB5.out.size;have:=HGG.out;omega) (.cells #[.int .u32 (bc:Int),.string bn,.int .u8 (bk:Int),.int .u32 (bp:Int)] 82))
      have hQ:=HBox.new w5 [.int .u32 (bc:Int),.string bn,.int .u8 (bk:Int),.int .u32 (bp:Int)] 82
      change HBox (w5.alloc (.cells #[.int .u32 (bc:Int),.string bn,.int .u8 (bk:Int),.int .u32 (bp:Int)] 82)) _ _ _ at hQ
      generalize w5.alloc (.cells #[.int .u32 (bc:Int),.string bn,.int .u8 (bk:Int),.int .u32 (bp:Int)] 82)=W6 at *
      generalize w5.heap.size=Q at *
      clear a0 a1 a2 a3 f0 f1 f3 y0 y1 y2 y3 sA sG
      have b2:=hQ.cell (j:=2) rfl
      have a2:=HA6.out.cell (j:=2) rfl
      have q0:=HG6.out.cell (j:=0) rfl
      have q1:=HG6.out.cell (j:=1) rfl
      have q2:=HG6.out.cell (j:=2) rfl
      clear hQ
      go_wp2_with (first
       | (go_at_call 86;refine (KO.out _ HB7.out).mono ?_;rintro e w8 ⟨v8,rfl,hr8,h8⟩;have HB8:=Lib.hid (HB7.out.trans (h8.mono HB7.out.size));have HR8:=Lib.hid hr8;clear h8 hr8)
       | (go_at_call 89;refine (KK.out _ HB6.out).mono ?_;rintro e w7 ⟨r7,c7,rfl,h7⟩;have HB7:=Lib.hid (HB6.out.trans (h7.mono HB6.out.size));have HG7:=Lib.hid (HG6.out.stay h7);have z1:=HG7.out.cell (j:=1) rfl;clear h7))
      go_ret2
      exact ⟨⟨v8,rfl,HR8.out⟩,HB8.out⟩
def R8n (v:Value) (G fr tt:Nat) (c1 c2 c3:List Ac) (ag:Value):Nat→Value→World→Prop
 | 0,u,_=>u=v
 | 1,u,_=>u = .pointer (some ⟨G,1,none⟩)
 | 2,u,_=>u = .int .u32 (fr:Int)
 | 3,u,w=>Recs cc 4 w u c1
 | 4,u,_=>u = .pointer (some ⟨G,1,none⟩)
 | 5,u,_=>u = .int .u32 (fr:Int)
 | 6,u,_=>u = .pointer (some ⟨G,2,none⟩)
 | 7,u,_=>u = .int .u32 (tt:Int)
 | 8,u,w=>Recs cc 4 w u c2
 | 9,u,_=>u=ag
 | 10,u,w=>Recs cc 4 w u c3
 | 11,u,w=>Recs cc 4 w u c3
 | _,u,_=>u = .int .i64 0
theorem R8n.stay {v:Value} {G fr tt:Nat} {c1 c2 c3:List Ac} {ag:Value} {w w':World} (hb:Below w.heap.size w w'):∀ j u,R8n v G fr tt c1 c2 c3 ag j u w→R8n v G fr tt c1 c2 c3 ag j u w'
 | 0,_,h=>h
 | 1,_,h=>h
 | 2,_,h=>h
 | 3,_,h=>Recs.stay h hb
 | 4,_,h=>h
 | 5,_,h=>h
 | 6,_,h=>h
 | 7,_,h=>h
 | 8,_,h=>Recs.stay h hb
 | 9,_,h=>h
 | 10,_,h=>Recs.stay h hb
 | 11,_,h=>Recs.stay h hb
 | _+12,_,h=>h
theorem renumbered_c (o:Rop) (vP vS:Value) (pos:Int) (v:Value) (c:List Ac) (w:World) (hR:Recs cc 4 w v c) (hr:RiseA c) (hl:c.length≤300) (h0:o.kind=0) :
 Calls Tryz.prog 55 #[v,ropV o vP vS pos] w fun e w'=>AccR w' e (accF c o)∧Below w.heap.size w w':=by
 have HR:=Lib.hid hR
 unfold ropV
 cases hg:getA c o.frm with
 | none =>
  have KG:=Lib.hid (fun (W:World) (h:Below w.heap.size w W)=>get_none v c o.frm W (hR.stay h) hr (by omega) hg)
  rw [accF_none hg]
  clear hR hg h0 hr
  obtain ⟨kd,fr,tt,nm,ps,ss,en,_,_,_,hnm,_,_,_⟩:=o
  simp only at *
  have hB0:=(Below.refl w.heap.size w).alloc (Nat.le_refl _) (.cells #[.int .i64 kd,.int .u32 (fr:Int),.int .u32 (tt:Int),.string nm,vP,vS,.int .i32 en,.int .i64 pos] 49)
  have hG:=HBox.new w [.int .i64 kd,.int .u32 (fr:Int),.int .u32 (tt:Int),.string nm,vP,vS,.int .i32 en,.int .i64 pos] 49
  change HBox (w.alloc (.cells #[.int .i64 kd,.int .u32 (fr:Int),.int .u32 (tt:Int),.string nm,vP,vS,.int .i32 en,.int .i64 pos] 49)) _ _ _ at hG
  go_enter Tryz.func55,Tryz.ntmps55
  go_upto_region 1 with fail
  generalize w.alloc (.cells #[.int .i64 kd,.int .u32 (fr:Int),.int .u32 (tt:Int),.string nm,vP,vS,.int .i32 en,.int .i64 pos] 49)=W1 at *
  obtain ⟨G,hGG⟩:∃ G,w.heap.size=G:=⟨_,rfl⟩
  rw [hGG] at hG ⊢
  have HGG:=Lib.hid hGG
  have HB0:=Lib.hid hB0
  have HG1:=Lib.hid hG
  clear hB0
  have x0:=hG.cell (j:=0) rfl
  have x1:=hG.cell (j:=1) rfl
  have x2:=hG.cell (j:=2) rfl
  have x3:=hG.cell (j:=3) rfl
  clear hG hGG
  go_wp2_with (go_at_call 85;refine (KG.out _ HB0.out).mono ?_;rintro e w2 ⟨rfl,h2⟩;have HB2:=Lib.hid (HB0.out.trans (h2.mono HB0.out.size));have HG2:=Lib.hid (HG1.out.stay h2);have q0:=HG2.out.cell (j:=0) rfl;have q1:=HG2.out.cell (j:=1) rfl;have q2:=HG2.out.cell (j:=2) rfl;have q3:=HG2.out.cell (j:=3) rfl;clear h2)
  go_ret2
  exact ⟨rfl,HB2.out.alloc (by have:=HB2.out.size;have:=HGG.out;omega) _⟩
 | some a =>
  cases ht:getA c o.to with
  | some b =>
   have KG:=Lib.hid (fun (W:World) (h:Below w.heap.size w W)=>get_some v c o.frm a W (hR.stay h) hr (by omega) hg)
   have KT:=Lib.hid (fun (W:World) (h:Below w.heap.size w W)=>get_some v c o.to b W (hR.stay h) hr (by omega) ht)
   rw [accF_0t hg h0 (by rw [ht];rfl)]
   clear hg
   obtain ⟨kd,fr,tt,nm,ps,ss,en,_,_,_,hnm,_,_,_⟩:=o
   simp only at *
   have hB0:=(Below.refl w.heap.size w).alloc (Nat.le_refl _) (.cells #[.int .i64 kd,.int .u32 (fr:Int),.int .u32 (tt:Int),.string nm,vP,vS,.int .i32 en,.int .i64 pos] 49)
   have hG:=HBox.new w [.int .i64 kd,.int .u32 (fr:Int),.int .u32 (tt:Int),.string nm,vP,vS,.int .i32 en,.int .i64 pos] 49
   change HBox (w.alloc (.cells #[.int .i64 kd,.int .u32 (fr:Int),.int .u32 (tt:Int),.string nm,vP,vS,.int .i32 en,.int .i64 pos] 49)) _ _ _ at hG
   obtain ⟨ac,an,ak,ap,_,_,_,_⟩:=a
   obtain ⟨bc,bn,bk,bp,_,_,_,_⟩:=b
   try simp only at *
   clear h0 hR hr
   go_enter Tryz.func55,Tryz.ntmps55
   go_upto_region 1 with fail
   generalize w.alloc (.cells #[.int .i64 kd,.int .u32 (fr:Int),.int .u32 (tt:Int),.string nm,vP,vS,.int .i32 en,.int .i64 pos] 49)=W1 at *
   obtain ⟨G,hGG⟩:∃ G,w.heap.size=G:=⟨_,rfl⟩
   rw [hGG] at hG ⊢
   have HGG:=Lib.hid hGG
   have HB0:=Lib.hid hB0
   have HG1:=Lib.hid hG
   clear hB0
   have x0:=hG.cell (j:=0) rfl
   have x1:=hG.cell (j:=1) rfl
   have x2:=hG.cell (j:=2) rfl
   have x3:=hG.cell (j:=3) rfl
   clear hG hGG
   unfold cv at KG
   go_upto_region 2 with (go_at_call 85;refine (KG.out _ HB0.out).mono ?_;rintro e w2 ⟨rfl,h2⟩;have HB2:=Lib.hid (HB0.out.trans (h2.mono HB0.out.size));have HG2:=Lib.hid (HG1.out.stay h2);have q0:=HG2.out.cell (j:=0) rfl;have q1:=HG2.out.cell (j:=1) rfl;have q2:=HG2.out.cell (j:=2) rfl;have q3:=HG2.out.cell (j:=3) rfl;clear h2)
   have hA:=HBox.new w2 [.int .u32 (ac:Int),.string an,.int .u8 (ak:Int),.int .u32 (ap:Int)] 82
   change HBox (w2.alloc (.cells #[.int .u32 (ac:Int),.string an,.int .u8 (ak:Int),.int .u32 (ap:Int)] 82)) _ _ _ at hA
   have hB3:=HB2.out.alloc (by have:=HB2.out.size;have:=HGG.out;omega) (.cells #[.int .u32 (ac:Int),.string an,.int .u8 (ak:Int),.int .u32 (ap:Int)] 82)
   have hG3:=HG2.out.alloc (.cells #[.int .u32 (ac:Int),.string an,.int .u8 (ak:Int),.int .u32 (ap:Int)] 82)
   generalize w2.alloc (.cells #[.int .u32 (ac:Int),.string an,.int .u8 (ak:Int),.int .u32 (ap:Int)] 82)=W3 at *
   obtain ⟨A,hAA⟩:∃ A,w2.heap.size=A:=⟨_,rfl⟩
   have hGA:G<A:=by have:=HG2.out.size;omega
   rw [hAA] at hA ⊢
   clear hAA
   have HB3:=Lib.hid hB3
   have HG3:=Lib.hid hG3
   have HA3:=Lib.hid hA
   have a0:=hA.cell (j:=0) rfl
   have a1:=hA.cell (j:=1) rfl
   have a2:=hA.cell (j:=2) rfl
   have a3:=hA.cell (j:=3) rfl
   have f0:=hA.frozen 0
   have f1:=hA.frozen 1
   have f3:=hA.frozen 3
   have sA:=hA.size
   have sG:G<W3.heap.size:=HG3.out.size
   have y0:=HG3.out.cell (j:=0) rfl
   have y1:=HG3.out.cell (j:=1) rfl
   have y2:=HG3.out.cell (j:=2) rfl
   have y3:=HG3.out.cell (j:=3) rfl
   clear hA hB3 hG3 x0 x1 x2 x3 q0 q1 q2 q3
   unfold cv at KT
   go_wp2_with (go_at_call 85;refine (KT.out _ HB3.out).mono ?_;rintro e w5 ⟨rfl,h5⟩;have HB5:=Lib.hid (HB3.out.trans (h5.mono HB3.out.size));have HG5:=Lib.hid (HG3.out.stay h5);have HA5:=Lib.hid (HA3.out.stay h5);clear h5)
   go_ret2
   exact ⟨rfl,HB5.out.alloc (by have:=HB5.out.size;have:=HGG.out;omega) _⟩
  | none =>
   have KG:=Lib.hid (fun (W:World) (h:Below w.heap.size w W)=>get_some v c o.frm a W (hR.stay h) hr (by omega) hg)
   have KT:=Lib.hid (fun (W:World) (h:Below w.heap.size w W)=>get_none v c o.to W (hR.stay h) hr (by omega) ht)
   have KO:=Lib.hid (fun (W:World) (h:Below w.heap.size w W)=>out_v v c o.frm W (hR.stay h) hr (by omega))
   have KV:=Lib.hid (fun (W:World) (v':Value) (h:Recs cc 4 W v' (outA c o.frm))=>moved_v v' (outA c o.frm) o.frm o.to o.ht W h (by have:=outA_len c o.frm;omega))
   have KW:=Lib.hid (fun (W:World) (v':Value) (h:Recs cc 4 W v' (moveA (outA c o.frm) o.frm o.to o.ht))=>with_v v' _ (a.re o.to o.ht) W h (move_rise (outA_rise hr o.frm) o.frm o.to o.ht) (by rw [mvA_len];have:=outA_len c o.frm;omega))
   rw [accF_0 hg h0 (by rw [ht];rfl)]
   clear hg
   obtain ⟨kd,fr,tt,nm,ps,ss,en,_,_,_,hnm,_,_,_⟩:=o
   simp only at *
   have hB0:=(Below.refl w.heap.size w).alloc (Nat.le_refl _) (.cells #[.int .i64 kd,.int .u32 (fr:Int),.int .u32 (tt:Int),.string nm,vP,vS,.int .i32 en,.int .i64 pos] 49)
   have hG:=HBox.new w [.int .i64 kd,.int .u32 (fr:Int),.int .u32 (tt:Int),.string nm,vP,vS,.int .i32 en,.int .i64 pos] 49
   change HBox (w.alloc (.cells #[.int .i64 kd,.int .u32 (fr:Int),.int .u32 (tt:Int),.string nm,vP,vS,.int .i32 en,.int .i64 pos] 49)) _ _ _ at hG
   obtain ⟨ac,an,ak,ap,_,_,_,_⟩:=a
   have HTT:Hid (tt<4294967296):=by assumption
   have HAK:Hid (ak<256∧ap<4294967296∧an.size≤9223372036854775807):=⟨by assumption,by assumption,by assumption⟩
   clear h0 hR hr
   go_enter Tryz.func55,Tryz.ntmps55
   go_upto_region 1 with fail
   generalize w.alloc (.cells #[.int .i64 kd,.int .u32 (fr:Int),.int .u32 (tt:Int),.string nm,vP,vS,.int .i32 en,.int .i64 pos] 49)=W1 at *
   obtain ⟨G,hGG⟩:∃ G,w.heap.size=G:=⟨_,rfl⟩
   rw [hGG] at hG ⊢
   have HGG:=Lib.hid hGG
   have HB0:=Lib.hid hB0
   have HG1:=Lib.hid hG
   clear hB0
   have x0:=hG.cell (j:=0) rfl
   have x1:=hG.cell (j:=1) rfl
   have x2:=hG.cell (j:=2) rfl
   have x3:=hG.cell (j:=3) rfl
   clear hG hGG
   unfold cv at KG
   go_upto_region 2 with (go_at_call 85;refine (KG.out _ HB0.out).mono ?_;rintro e w2 ⟨rfl,h2⟩;have HB2:=Lib.hid (HB0.out.trans (h2.mono HB0.out.size));have HG2:=Lib.hid (HG1.out.stay h2);have q0:=HG2.out.cell (j:=0) rfl;have q1:=HG2.out.cell (j:=1) rfl;have q2:=HG2.out.cell (j:=2) rfl;have q3:=HG2.out.cell (j:=3) rfl;clear h2)
   have hA:=HBox.new w2 [.int .u32 (ac:Int),.string an,.int .u8 (ak:Int),.int .u32 (ap:Int)] 82
   change HBox (w2.alloc (.cells #[.int .u32 (ac:Int),.string an,.int .u8 (ak:Int),.int .u32 (ap:Int)] 82)) _ _ _ at hA
   have hB3:=HB2.out.alloc (by have:=HB2.out.size;have:=HGG.out;omega) (.cells #[.int .u32 (ac:Int),.string an,.int .u8 (ak:Int),.int .u32 (ap:Int)] 82)
   have hG3:=HG2.out.alloc (.cells #[.int .u32 (ac:Int),.string an,.int .u8 (ak:Int),.int .u32 (ap:Int)] 82)
   generalize w2.alloc (.cells #[.int .u32 (ac:Int),.string an,.int .u8 (ak:Int),.int .u32 (ap:Int)] 82)=W3 at *
   obtain ⟨A,hAA⟩:∃ A,w2.heap.size=A:=⟨_,rfl⟩
   have hGA:G<A:=by have:=HG2.out.size;omega
   rw [hAA] at hA ⊢
   clear hAA
   have HB3:=Lib.hid hB3
   have HG3:=Lib.hid hG3
   have HA3:=Lib.hid hA
   have a0:=hA.cell (j:=0) rfl
   have a1:=hA.cell (j:=1) rfl
   have a2:=hA.cell (j:=2) rfl
   have a3:=hA.cell (j:=3) rfl
   have f0:=hA.frozen 0
   have f1:=hA.frozen 1
   have f3:=hA.frozen 3
   have sA:=hA.size
   have sG:G<W3.heap.size:=HG3.out.size
   have y0:=HG3.out.cell (j:=0) rfl
   have y1:=HG3.out.cell (j:=1) rfl
   have y2:=HG3.out.cell (j:=2) rfl
   have y3:=HG3.out.cell (j:=3) rfl
   clear hA hB3 hG3 x0 x1 x2 x3 q0 q1 q2 q3
   unfold cv at KW
   simp only [Ac.re] at KW
   go_upto_region 5 with (go_at_call 85;refine (KT.out _ HB3.out).mono ?_;rintro e w5 ⟨rfl,h5⟩;have HB5:=Lib.hid (HB3.out.trans (h5.mono HB3.out.size));have HG5:=Lib.hid (HG3.out.stay h5);have HA5:=Lib.hid (HA3.out.stay h5);have q0:=HG5.out.cell (j:=0) rfl;have q1:=HG5.out.cell (j:=1) rfl;have q2:=HG5.out.cell (j:=2) rfl;have b2:=HA5.out.cell (j:=2) rfl;have sw5:=HG5.out.size;clear h5)
   have HA6:=Lib.hid (HA5.out.alloc (.cells #[.int .u32 0,.string ⟨#[]⟩,.int .u8 0,.int .u32 0] 82))
   have HG6:=Lib.hid (HG5.out.alloc (.cells #[.int .u32 0,.string ⟨#[]⟩,.int .u8 0,.int .u32 0] 82))
   have HB6:=Lib.hid (HB5.out.alloc (by have:=HB5.out.size;have:=HGG.out;omega) (.cells #[.int .u32 0,.string ⟨#[]⟩,.int .u8 0,.int .u32 0] 82))
   generalize w5.alloc (.cells #[.int .u32 0,.string ⟨#[]⟩,.int .u8 0,.int .u32 0] 82)=W6 at *
   generalize w5.heap.size=Q at *
   clear a0 a1 a2 a3 f0 f1 f3 y0 y1 y2 y3 sA sG q0 q1 q2 b2
   have f0:=HA6.out.frozen 0
   have a0:=HA6.out.cell (j:=0) rfl
   have y2:=HG6.out.cell (j:=2) rfl
   have sA:A<W6.heap.size:=HA6.out.size
   go_upto_region 8 with fail
   have hA7:=HA6.out.set 0 (.int .u32 (tt:Int))
   change HBox _ A [.int .u32 (tt:Int),.string an,.int .u8 (ak:Int),.int .u32 (ap:Int)] _ at hA7
   have hG7:=HG6.out.grown (grownBy_set W6 ⟨A,0,none⟩ (.int .u32 (tt:Int))) (fun e=>by have:=Option.some.inj (show some G=some A from e);omega)
   have hB7:=HB6.out.setCell (p:=⟨A,0,none⟩) (by have:=HGG.out;show w.heap.size≤A;omega) (.int .u32 (tt:Int))
   generalize W6.setCell ⟨A,0,none⟩ (.int .u32 (tt:Int))=W7 at *
   have HA7:=Lib.hid hA7
   have HG7:=Lib.hid hG7
   have HB7:=Lib.hid hB7
   clear f0 a0 y2 sA hA7 hG7 hB7
   have z1:=HG7.out.cell (j:=1) rfl
   have z2:=HG7.out.cell (j:=2) rfl
   have b0:=HA7.out.cell (j:=0) rfl
   have b1:=HA7.out.cell (j:=1) rfl
   have b2:=HA7.out.cell (j:=2) rfl
   have b3:=HA7.out.cell (j:=3) rfl
   have hmix:Tryz.prog.follows .mixedOrders=true:=by kernel_rfl
   refine wp_region_say 13 (fun w'=>Below W7.heap.size W7 w') (R8n v G fr tt (outA c fr) (moveA (outA c fr) fr tt HTT.out) (withA (moveA (outA c fr) fr tt HTT.out) ⟨tt,an,ak,ap,HTT.out,HAK.out.1,HAK.out.2.1,HAK.out.2.2⟩) (.agg #[.int .u32 (tt:Int),.string an,.int .u8 (ak:Int),.int .u32 (ap:Int)])) hmix rfl (by kernel_rfl) (by kernel_rfl) (by kernel_rfl) (Below.refl _ _).drew ?_ ?_
   ·intro s a w' i hi hC hdep hfar hrd
    have hBw:Below w.heap.size w w':=HB7.out.trans (hC.mono HB7.out.size)
    rcases (by omega:i=0∨i=1∨i=2∨i=3∨i=4∨i=5∨i=6∨i=7∨i=8∨i=9∨i=10∨i=11∨i=12) with rfl | rfl | rfl | rfl | rfl | rfl | rfl | rfl | rfl | rfl | rfl | rfl | rfl
    ·refine runG (.move (.tmp 0)) (some 30) (gd:=none) (by unfold opG;kernel_rfl) trivial v (w':=w') (fun o ho=>by unfold execOp;rw [ho];simp only [show a.eval (.tmp 0)=v from (hfar 0 (by kernel_rfl)).trans (by kernel_rfl)];go_simp) ?_
     exact ⟨_,congrArg (fun d=>a.put d v) (by kernel_rfl),hC,rfl,fun j u h=>h⟩
    ·refine runG (.fieldAddr 49 (.tmp 3) 1) (some 31) (gd:=none) (by unfold opG;kernel_rfl) trivial (.pointer (some ⟨G,1,none⟩)) (w':=w') (fun o ho=>by unfold execOp;rw [ho];simp only [show a.eval (.tmp 3)=Value.pointer (some ⟨G,0,none⟩) from (hfar 3 (by kernel_rfl)).trans (by kernel_rfl)];go_simp) ?_
     exact ⟨_,congrArg (fun d=>a.put d (.pointer (some ⟨G,1,none⟩))) (by kernel_rfl),hC,rfl,fun j u h=>h⟩
    ·have cz:=((HG7.out.stay hC).cell (j:=1) rfl)
     refine runG (.load 46 (.tmp 31)) (some 32) (gd:=none) (by unfold opG;kernel_rfl) trivial (.int .u32 (fr:Int)) (w':=w') (fun o ho=>by unfold execOp;rw [ho];simp only [show a.eval (.tmp 31)=Value.pointer (some ⟨G,1,none⟩) from hrd 1 31 (hdep 1 (by kernel_rfl)) (by kernel_rfl)];go_simp) ?_
     exact ⟨_,congrArg (fun d=>a.put d (.int .u32 (fr:Int))) (by kernel_rfl),hC,rfl,fun j u h=>h⟩
    ·obtain ⟨v3,hv3⟩:∃ y,y=v:=⟨_,rfl⟩
     refine callG (.call { callee:=.value (.func 86),args:=#[.tmp 30,.tmp 32],argTypes:=#[34,46] }) (some 33) (gd:=none) (by unfold opG;kernel_rfl) trivial 86 #[v,(.int .u32 (fr:Int))] (fun o ho=>by unfold execOp;rw [ho];simp only [resolve,List.map_toArray,List.map_cons,List.map_nil,show a.eval (.tmp 30)=v from hrd 0 30 (hdep 0 (by kernel_rfl)) (by kernel_rfl),show a.eval (.tmp 32)=Value.int .u32 (fr:Int) from hrd 2 32 (hdep 2 (by kernel_rfl)) (by kernel_rfl)];go_simp) (KO.out w' hBw) ?_
     rintro e w'' ⟨v8,rfl,hr8,hb⟩
     exact ⟨_,rfl,_,congrArg (fun d=>a.put d _) (by kernel_rfl),hC.trans (hb.mono hC.size),hr8,R8n.stay hb⟩
    ·refine runG (.fieldAddr 49 (.tmp 3) 1) (some 34) (gd:=none) (by unfold opG;kernel_rfl) trivial (.pointer (some ⟨G,1,none⟩)) (w':=w') (fun o ho=>by unfold execOp;rw [ho];simp only [show a.eval (.tmp 3)=Value.pointer (some ⟨G,0,none⟩) from (hfar 3 (by kernel_rfl)).trans (by kernel_rfl)];go_simp) ?_
     exact ⟨_,congrArg (fun d=>a.put d (.pointer (some ⟨G,1,none⟩))) (by kernel_rfl),hC,rfl,fun j u h=>h⟩
    ·have cz:=((HG7.out.stay hC).cell (j:=1) rfl)
     refine runG (.load 46 (.tmp 34)) (some 35) (gd:=none) (by unfold opG;kernel_rfl) trivial (.int .u32 (fr:Int)) (w':=w') (fun o ho=>by unfold execOp;rw [ho];simp only [show a.eval (.tmp 34)=Value.pointer (some ⟨G,1,none⟩) from hrd 4 34 (hdep 4 (by kernel_rfl)) (by kernel_rfl)];go_simp) ?_
     exact ⟨_,congrArg (fun d=>a.put d (.int .u32 (fr:Int))) (by kernel_rfl),hC,rfl,fun j u h=>h⟩
    ·refine runG (.fieldAddr 49 (.tmp 3) 2) (some 36) (gd:=none) (by unfold opG;kernel_rfl) trivial (.pointer (some ⟨G,2,none⟩)) (w':=w') (fun o ho=>by unfold execOp;rw [ho];simp only [show a.eval (.tmp 3)=Value.pointer (some ⟨G,0,none⟩) from (hfar 3 (by kernel_rfl)).trans (by kernel_rfl)];go_simp) ?_
     exact ⟨_,congrArg (fun d=>a.put d (.pointer (some ⟨G,2,none⟩))) (by kernel_rfl),hC,rfl,fun j u h=>h⟩
    ·have cz:=((HG7.out.stay hC).cell (j:=2) rfl)
     refine runG (.load 46 (.tmp 36)) (some 37) (gd:=none) (by unfold opG;kernel_rfl) trivial (.int .u32 (tt:Int)) (w':=w') (fun o ho=>by unfold execOp;rw [ho];simp only [show a.eval (.tmp 36)=Value.pointer (some ⟨G,2,none⟩) from hrd 6 36 (hdep 6 (by kernel_rfl)) (by kernel_rfl)];go_simp) ?_
     exact ⟨_,congrArg (fun d=>a.put d (.int .u32 (tt:Int))) (by kernel_rfl),hC,rfl,fun j u h=>h⟩
    ·have hr8:=hrd 3 33 (hdep 3 (by kernel_rfl)) (by kernel_rfl)
     refine callG (.call { callee:=.value (.func 87),args:=#[.tmp 33,.tmp 35,.tmp 37],argTypes:=#[34,46,46] }) (some 38) (gd:=none) (by unfold opG;kernel_rfl) trivial 87 #[_,(.int .u32 (fr:Int)),(.int .u32 (tt:Int))] (fun o ho=>by unfold execOp;rw [ho];simp only [resolve,List.map_toArray,List.map_cons,List.map_nil,show a.eval (.tmp 35)=Value.int .u32 (fr:Int) from hrd 5 35 (hdep 5 (by kernel_rfl)) (by kernel_rfl),show a.eval (.tmp 37)=Value.int .u32 (tt:Int) from hrd 7 37 (hdep 7 (by kernel_rfl)) (by kernel_rfl)];go_simp) (KV.out w' _ hr8) ?_
     rintro e w'' ⟨v8,rfl,hr9,hb⟩
     exact ⟨_,rfl,_,congrArg (fun d=>a.put d _) (by kernel_rfl),hC.trans (hb.mono hC.size),hr9,R8n.stay hb⟩
    ·have b0:=((HA7.out.stay hC).cell (j:=0) rfl)
     have b1:=((HA7.out.stay hC).cell (j:=1) rfl)
     have b2:=((HA7.out.stay hC).cell (j:=2) rfl)
     have b3:=((HA7.out.stay hC).cell (j:=3) rfl)
     refine runG (.load 82 (.tmp 6)) (some 39) (gd:=none) (by unfold opG;kernel_rfl) trivial (.agg #[.int .u32 (tt:Int),.string an,.int .u8 (ak:Int),.int .u32 (ap:Int)]) (w':=w') (fun o ho=>by unfold execOp;rw [ho];simp only [show a.eval (.tmp 6)=Value.pointer (some ⟨A,0,none⟩) from (hfar 6 (by kernel_rfl)).trans (by kernel_rfl)];go_simp) ?_
     exact ⟨_,congrArg (fun d=>a.put d (.agg #[.int .u32 (tt:Int),.string an,.int .u8 (ak:Int),.int .u32 (ap:Int)])) (by kernel_rfl),hC,rfl,fun j u h=>h⟩
    ·have hr9:=hrd 8 38 (hdep 8 (by kernel_rfl)) (by kernel_rfl)
     refine callG (.call { callee:=.value (.func 88),args:=#[.tmp 38,.tmp 39],argTypes:=#[34,82] }) (some 40) (gd:=none) (by unfold opG;kernel_rfl) trivial 88 #[_,(.agg #[.int .u32 (tt:Int),.string an,.int .u8 (ak:Int),.int .u32 (ap:Int)])] (fun o ho=>by unfold execOp;rw [ho];simp only [resolve,List.map_toArray,List.map_cons,List.map_nil,show a.eval (.tmp 39)=Value.agg #[.int .u32 (tt:Int),.string an,.int .u8 (ak:Int),.int .u32 (ap:Int)] from hrd 9 39 (hdep 9 (by kernel_rfl)) (by kernel_rfl)];go_simp) (KW.out w' _ hr9) ?_
     rintro e w'' ⟨v8,rfl,hr10,hb⟩
     exact ⟨_,rfl,_,congrArg (fun d=>a.put d _) (by kernel_rfl),hC.trans (hb.mono hC.size),hr10,R8n.stay hb⟩
    ·have hr10:=hrd 10 40 (hdep 10 (by kernel_rfl)) (by kernel_rfl)
     refine runG (.assign (.tmp 40)) (some 4) (gd:=none) (by unfold opG;kernel_rfl) trivial (a.eval (.tmp 40)) (w':=w') (fun o ho=>by unfold execOp;rw [ho];simp only [];go_simp) ?_
     exact ⟨_,congrArg (fun d=>a.put d (a.eval (.tmp 40))) (by kernel_rfl),hC,hr10,fun j u h=>h⟩
    ·refine runG (.assign (.const (.int .i64 0))) (some 5) (gd:=none) (by unfold opG;kernel_rfl) trivial (.int .i64 0) (w':=w') (fun o ho=>by unfold execOp;rw [ho];simp only [];go_simp) ?_
     exact ⟨_,congrArg (fun d=>a.put d (.int .i64 0)) (by kernel_rfl),hC,rfl,fun j u h=>h⟩
   ·intro b w' hC hR
    have e11:=hR 11 (by omega)
    have e12:=hR 12 (by omega)
    simp only [putL,if_true,Nat.reduceAdd,Act.put,List.getElem_toArray,List.getElem_cons_zero,List.getElem_cons_succ,List.setIfInBounds_toArray,List.set_cons_zero,List.set_cons_succ]
    rw [show b 12=Value.int .i64 0 from e12]
    have hE:Recs cc 4 w' (b 11) _:=e11
    generalize b 11=v11 at *
    have HE:=Lib.hid hE
    have HC:=Lib.hid hC
    clear hR e11 e12 hE hC
    go_wp2_with fail
    go_ret2
    exact ⟨⟨v11,rfl,HE.out⟩,HB7.out.trans (HC.out.mono HB7.out.size)⟩
theorem divided_c (o:Rop) (vP vS:Value) (pos:Int) (v:Value) (c:List Ac) (w:World) (hR:Recs cc 4 w v c) (hr:RiseA c) (hl:c.length≤300) (h0:o.kind=4) (hM:RopM w o vP vS) :
 Calls Tryz.prog 58 #[v,ropV o vP vS pos] w fun e w'=>AccR w' e (accF c o)∧Below w.heap.size w w':=by
 have HR:=Lib.hid hR
 unfold ropV
 cases hg:getA c o.frm with
 | none =>
  have KG:=Lib.hid (fun (W:World) (h:Below w.heap.size w W)=>get_none v c o.frm W (hR.stay h) hr (by omega) hg)
  rw [accF_none hg]
  clear hR hg h0 hr hM
  obtain ⟨kd,fr,tt,nm,ps,ss,en,_,_,_,hnm,_,_,_⟩:=o
  simp only at *
  have hB0:=(Below.refl w.heap.size w).alloc (Nat.le_refl _) (.cells #[.int .i64 kd,.int .u32 (fr:Int),.int .u32 (tt:Int),.string nm,vP,vS,.int .i32 en,.int .i64 pos] 49)
  have hG:=HBox.new w [.int .i64 kd,.int .u32 (fr:Int),.int .u32 (tt:Int),.string nm,vP,vS,.int .i32 en,.int .i64 pos] 49
  change HBox (w.alloc (.cells #[.int .i64 kd,.int .u32 (fr:Int),.int .u32 (tt:Int),.string nm,vP,vS,.int .i32 en,.int .i64 pos] 49)) _ _ _ at hG
  go_enter Tryz.func58,Tryz.ntmps58
  go_upto_region 1 with fail
  generalize w.alloc (.cells #[.int .i64 kd,.int .u32 (fr:Int),.int .u32 (tt:Int),.string nm,vP,vS,.int .i32 en,.int .i64 pos] 49)=W1 at *
  obtain ⟨G,hGG⟩:∃ G,w.heap.size=G:=⟨_,rfl⟩
  rw [hGG] at hG ⊢
  have HGG:=Lib.hid hGG
  have HB0:=Lib.hid hB0
  have HG1:=Lib.hid hG
  clear hB0
  have x0:=hG.cell (j:=0) rfl
  have x1:=hG.cell (j:=1) rfl
  have x2:=hG.cell (j:=2) rfl
  have x3:=hG.cell (j:=3) rfl
  clear hG hGG
  go_wp2_with (go_at_call 85;refine (KG.out _ HB0.out).mono ?_;rintro e w2 ⟨rfl,h2⟩;have HB2:=Lib.hid (HB0.out.trans (h2.mono HB0.out.size));have HG2:=Lib.hid (HG1.out.stay h2);have q0:=HG2.out.cell (j:=0) rfl;have q1:=HG2.out.cell (j:=1) rfl;have q2:=HG2.out.cell (j:=2) rfl;have q3:=HG2.out.cell (j:=3) rfl;clear h2)
  go_ret2
  exact ⟨rfl,HB2.out.alloc (by have:=HB2.out.size;have:=HGG.out;omega) _⟩
 | some a =>
  have KK:=Lib.hid (fun (W:World) (h:Below w.heap.size w W)=>kids_v v c o.frm W (hR.stay h) (by omega))
  by_cases hc:kidsA c o.frm=[]
  case neg =>
   have hlen:0<(kidsA c o.frm).length:=List.length_pos_iff.2 hc
   have KG:=Lib.hid (fun (W:World) (h:Below w.heap.size w W)=>get_some v c o.frm a W (hR.stay h) hr (by omega) hg)
   rw [accF_4c hg h0 hc]
   clear hg
   obtain ⟨kd,fr,tt,nm,ps,ss,en,_,_,_,hnm,_,_,_⟩:=o
   simp only at *
   have hB0:=(Below.refl w.heap.size w).alloc (Nat.le_refl _) (.cells #[.int .i64 kd,.int .u32 (fr:Int),.int .u32 (tt:Int),.string nm,vP,vS,.int .i32 en,.int .i64 pos] 49)
   have hG:=HBox.new w [.int .i64 kd,.int .u32 (fr:Int),.int .u32 (tt:Int),.string nm,vP,vS,.int .i32 en,.int .i64 pos] 49
   change HBox (w.alloc (.cells #[.int .i64 kd,.int .u32 (fr:Int),.int .u32 (tt:Int),.string nm,vP,vS,.int .i32 en,.int .i64 pos] 49)) _ _ _ at hG
   obtain ⟨ac,an,ak,ap,_,_,_,_⟩:=a
   obtain ⟨KL,hKL⟩:∃ k,(kidsA c fr).length=k:=⟨_,rfl⟩
   rw [hKL] at KK hlen
   clear hKL hc
   have k3:decide ((KL:Int) > 0)=true:=decide_eq_true (by omega)
   have k4:(0:Int)<(KL:Int):=by omega
   clear h0 hR hr hM
   go_enter Tryz.func58,Tryz.ntmps58
   go_upto_region 1 with fail
   generalize w.alloc (.cells #[.int .i64 kd,.int .u32 (fr:Int),.int .u32 (tt:Int),.string nm,vP,vS,.int .i32 en,.int .i64 pos] 49)=W1 at *
   obtain ⟨G,hGG⟩:∃ G,w.heap.size=G:=⟨_,rfl⟩
   rw [hGG] at hG ⊢
   have HGG:=Lib.hid hGG
   have HB0:=Lib.hid hB0
   have HG1:=Lib.hid hG
   clear hB0
   have x0:=hG.cell (j:=0) rfl
   have x1:=hG.cell (j:=1) rfl
   have x2:=hG.cell (j:=2) rfl
   have x3:=hG.cell (j:=3) rfl
   clear hG hGG
   unfold cv at KG
   go_upto_region 2 with (go_at_call 85;refine (KG.out _ HB0.out).mono ?_;rintro e w2 ⟨rfl,h2⟩;have HB2:=Lib.hid (HB0.out.trans (h2.mono HB0.out.size));have HG2:=Lib.hid (HG1.out.stay h2);have q0:=HG2.out.cell (j:=0) rfl;have q1:=HG2.out.cell (j:=1) rfl;have q2:=HG2.out.cell (j:=2) rfl;have q3:=HG2.out.cell (j:=3) rfl;clear h2)
   have hA:=HBox.new w2 [.int .u32 (ac:Int),.string an,.int .u8 (ak:Int),.int .u32 (ap:Int)] 82
   change HBox (w2.alloc (.cells #[.int .u32 (ac:Int),.string an,.int .u8 (ak:Int),.int .u32 (ap:Int)] 82)) _ _ _ at hA
   have hB3:=HB2.out.alloc (by have:=HB2.out.size;have:=HGG.out;omega) (.cells #[.int .u32 (ac:Int),.string an,.int .u8 (ak:Int),.int .u32 (ap:Int)] 82)
   have hG3:=HG2.out.alloc (.cells #[.int .u32 (ac:Int),.string an,.int .u8 (ak:Int),.int .u32 (ap:Int)] 82)
   generalize w2.alloc (.cells #[.int .u32 (ac:Int),.string an,.int .u8 (ak:Int),.int .u32 (ap:Int)] 82)=W3 at *
   obtain ⟨A,hAA⟩:∃ A,w2.heap.size=A:=⟨_,rfl⟩
   have hGA:G<A:=by have:=HG2.out.size;omega
   rw [hAA] at hA ⊢
   clear hAA
   have HB3:=Lib.hid hB3
   have HG3:=Lib.hid hG3
   have HA3:=Lib.hid hA
   have a0:=hA.cell (j:=0) rfl
   have a1:=hA.cell (j:=1) rfl
   have a2:=hA.cell (j:=2) rfl
   have a3:=hA.cell (j:=3) rfl
   have f0:=hA.frozen 0
   have f1:=hA.frozen 1
   have f3:=hA.frozen 3
   have sA:=hA.size
   have sG:G<W3.heap.size:=HG3.out.size
   have y0:=HG3.out.cell (j:=0) rfl
   have y1:=HG3.out.cell (j:=1) rfl
   have y2:=HG3.out.cell (j:=2) rfl
   have y3:=HG3.out.cell (j:=3) rfl
   clear hA hB3 hG3 x0 x1 x2 x3 q0 q1 q2 q3
   go_wp2_with (go_at_call 89;refine (KK.out _ HB3.out).mono ?_;rintro e w7 ⟨r7,c7,rfl,h7⟩;have HB7:=Lib.hid (HB3.out.trans (h7.mono HB3.out.size));have HG7:=Lib.hid (HG3.out.stay h7);have HA7:=Lib.hid (HA3.out.stay h7);have z1:=HG7.out.cell (j:=1) rfl;have z4:=HG7.out.cell (j:=4) rfl;clear h7)
   go_ret2
   exact ⟨rfl,HB7.out⟩
  case pos =>
   rw [hc] at KK
   obtain ⟨rp,cp,hvp,hPc⟩:=cap_of hM.parts
   obtain ⟨N,hN⟩:∃ N,o.parts.length=N:=⟨_,rfl⟩
   rw [hN] at hvp hPc
   by_cases hs:o.parts.length<1∨8<o.parts.length
   case pos =>
    have hs':=hs
    rw [hN] at hs'
    have KG:=Lib.hid (fun (W:World) (h:Below w.heap.size w W)=>get_some v c o.frm a W (hR.stay h) hr (by omega) hg)
    subst hvp
    rw [accF_4s hg h0 hc hs]
    clear hg
    obtain ⟨kd,fr,tt,nm,ps,ss,en,_,_,_,hnm,_,_,_⟩:=o
    simp only at *
    have hB0:=(Below.refl w.heap.size w).alloc (Nat.le_refl _) (.cells #[.int .i64 kd,.int .u32 (fr:Int),.int .u32 (tt:Int),.string nm,.slice rp N cp,vS,.int .i32 en,.int .i64 pos] 49)
    have hG:=HBox.new w [.int .i64 kd,.int .u32 (fr:Int),.int .u32 (tt:Int),.string nm,.slice rp N cp,vS,.int .i32 en,.int .i64 pos] 49
    change HBox (w.alloc (.cells #[.int .i64 kd,.int .u32 (fr:Int),.int .u32 (tt:Int),.string nm,.slice rp N cp,vS,.int .i32 en,.int .i64 pos] 49)) _ _ _ at hG
    obtain ⟨ac,an,ak,ap,_,_,_,_⟩:=a
    clear hs hN hc
    clear h0 hR hr hM
    go_enter Tryz.func58,Tryz.ntmps58
    go_upto_region 1 with fail
    generalize w.alloc (.cells #[.int .i64 kd,.int .u32 (fr:Int),.int .u32 (tt:Int),.string nm,.slice rp N cp,vS,.int .i32 en,.int .i64 pos] 49)=W1 at *
    obtain ⟨G,hGG⟩:∃ G,w.heap.size=G:=⟨_,rfl⟩
    rw [hGG] at hG ⊢
    have HGG:=Lib.hid hGG
    have HB0:=Lib.hid hB0
    have HG1:=Lib.hid hG
    clear hB0
    have x0:=hG.cell (j:=0) rfl
    have x1:=hG.cell (j:=1) rfl
    have x2:=hG.cell (j:=2) rfl
    have x3:=hG.cell (j:=3) rfl
    clear hG hGG
    unfold cv at KG
    go_upto_region 2 with (go_at_call 85;refine (KG.out _ HB0.out).mono ?_;rintro e w2 ⟨rfl,h2⟩;have HB2:=Lib.hid (HB0.out.trans (h2.mono HB0.out.size));have HG2:=Lib.hid (HG1.out.stay h2);have q0:=HG2.out.cell (j:=0) rfl;have q1:=HG2.out.cell (j:=1) rfl;have q2:=HG2.out.cell (j:=2) rfl;have q3:=HG2.out.cell (j:=3) rfl;clear h2)
    have hA:=HBox.new w2 [.int .u32 (ac:Int),.string an,.int .u8 (ak:Int),.int .u32 (ap:Int)] 82
    change HBox (w2.alloc (.cells #[.int .u32 (ac:Int),.string an,.int .u8 (ak:Int),.int .u32 (ap:Int)] 82)) _ _ _ at hA
    have hB3:=HB2.out.alloc (by have:=HB2.out.size;have:=HGG.out;omega) (.cells #[.int .u32 (ac:Int),.string an,.int .u8 (ak:Int),.int .u32 (ap:Int)] 82)
    have hG3:=HG2.out.alloc (.cells #[.int .u32 (ac:Int),.string an,.int .u8 (ak:Int),.int .u32 (ap:Int)] 82)
    generalize w2.alloc (.cells #[.int .u32 (ac:Int),.string an,.int .u8 (ak:Int),.int .u32 (ap:Int)] 82)=W3 at *
    obtain ⟨A,hAA⟩:∃ A,w2.heap.size=A:=⟨_,rfl⟩
    have hGA:G<A:=by have:=HG2.out.size;omega
    rw [hAA] at hA ⊢
    clear hAA
    have HB3:=Lib.hid hB3
    have HG3:=Lib.hid hG3
    have HA3:=Lib.hid hA
    have a0:=hA.cell (j:=0) rfl
    have a1:=hA.cell (j:=1) rfl
    have a2:=hA.cell (j:=2) rfl
    have a3:=hA.cell (j:=3) rfl
    have f0:=hA.frozen 0
    have f1:=hA.frozen 1
    have f3:=hA.frozen 3
    have sA:=hA.size
    have sG:G<W3.heap.size:=HG3.out.size
    have y0:=HG3.out.cell (j:=0) rfl
    have y1:=HG3.out.cell (j:=1) rfl
    have y2:=HG3.out.cell (j:=2) rfl
    have y3:=HG3.out.cell (j:=3) rfl
    clear hA hB3 hG3 x0 x1 x2 x3 q0 q1 q2 q3
    rcases hs' with hs' | hs'
    ·have k1:decide ((N:Int)<1)=true:=decide_eq_true (by omega)
     have k2:(N:Int)<1:=by omega
     go_wp2_with (go_at_call 89;refine (KK.out _ HB3.out).mono ?_;rintro e w7 ⟨r7,c7,rfl,h7⟩;have HB7:=Lib.hid (HB3.out.trans (h7.mono HB3.out.size));have HG7:=Lib.hid (HG3.out.stay h7);have HA7:=Lib.hid (HA3.out.stay h7);have z1:=HG7.out.cell (j:=1) rfl;have z4:=HG7.out.cell (j:=4) rfl;clear h7)
     go_ret2
     exact ⟨rfl,HB7.out⟩
    ·have k1:decide ((N:Int)<1)=false:=decide_eq_false (by omega)
     have k2:¬ (N:Int)<1:=by omega
     have k3:decide ((N:Int) > 8)=true:=decide_eq_true (by omega)
     have k4:(8:Int)<(N:Int):=by omega
     go_wp2_with (go_at_call 89;refine (KK.out _ HB3.out).mono ?_;rintro e w7 ⟨r7,c7,rfl,h7⟩;have HB7:=Lib.hid (HB3.out.trans (h7.mono HB3.out.size));have HG7:=Lib.hid (HG3.out.stay h7);have HA7:=Lib.hid (HA3.out.stay h7);have z1:=HG7.out.cell (j:=1) rfl;have z4:=HG7.out.cell (j:=4) rfl;clear h7)
     go_ret2
     exact ⟨rfl,HB7.out⟩
   case neg =>
    have hs':=hs
    rw [hN] at hs'
    have HP:=Lib.hid hM.parts
    have HPB:=Lib.hid o.hp
    obtain ⟨AA,hAA0⟩:∃ AA,a=AA:=⟨_,rfl⟩
    have HF:=Lib.hid (show (match splitO AA o.parts c with | .error e=>accF c o = .error e | .ok c'=>accF c o = .ok (outA c' o.frm)) from by
     rw [← hAA0]
     split
     ·rename_i e he;exact accF_4e hg h0 hc hs he
     ·rename_i c' he;exact accF_4 hg h0 hc hs he)
    have HAA:=Lib.hid hAA0
    clear hAA0
    have KW:=Lib.hid (fun (c':List Ac) (x:Ac) (v':Value) (W:World) (h:Recs cc 4 W v' c') (hr':RiseA c') (hl':c'.length≤310)=>with_v v' c' x W h hr' (by omega))
    have KO:=Lib.hid (fun (c':List Ac) (v':Value) (W:World) (h:Recs cc 4 W v' c') (hr':RiseA c') (hl':c'.length≤310)=>out_v v' c' o.frm W h hr' (by omega))
    have KN:=Lib.hid (fun (c':List Ac) (v':Value) (n:Nat) (W:World) (h:Recs cc 4 W v' c') (hr':RiseA c') (hl':c'.length≤310)=>get_none v' c' n W h hr' (by omega))
    have KS:=Lib.hid (fun (c':List Ac) (v':Value) (n:Nat) (x:Ac) (W:World) (h:Recs cc 4 W v' c') (hr':RiseA c') (hl':c'.length≤310)=>get_some v' c' n x W h hr' (by omega))
    have KC:=Lib.hid (fun (n:Nat) (W:World)=>code_c n W)
    generalize accF c o=AF at *
    have HR0:=Lib.hid hr
    have HAC:=Lib.hid (show a.code<4294967296∧a.kind<256∧a.par<4294967296∧a.name.size≤9223372036854775807 from ⟨a.hc,a.hk,a.hp,a.hn⟩)
    have KG:=Lib.hid (fun (W:World) (h:Below w.heap.size w W)=>get_some v c o.frm a W (hR.stay h) hr (by omega) hg)
    subst hvp
    clear hg
    obtain ⟨kd,fr,tt,nm,ps,ss,en,_,_,_,hnm,_,_,_⟩:=o
    simp only at *
    have hB0:=(Below.refl w.heap.size w).alloc (Nat.le_refl _) (.cells #[.int .i64 kd,.int .u32 (fr:Int),.int .u32 (tt:Int),.string nm,.slice rp N cp,vS,.int .i32 en,.int .i64 pos] 49)
    have hG:=HBox.new w [.int .i64 kd,.int .u32 (fr:Int),.int .u32 (tt:Int),.string nm,.slice rp N cp,vS,.int .i32 en,.int .i64 pos] 49
    change HBox (w.alloc (.cells #[.int .i64 kd,.int .u32 (fr:Int),.int .u32 (tt:Int),.string nm,.slice rp N cp,vS,.int .i32 en,.int .i64 pos] 49)) _ _ _ at hG
    obtain ⟨ps',hps⟩:∃ l,ps=l:=⟨_,rfl⟩
    obtain ⟨ac,an,ak,ap,_,_,_,_⟩:=a
    clear hs hc
    clear h0 hR hr hM
    go_enter Tryz.func58,Tryz.ntmps58
    go_upto_region 1 with fail
    generalize w.alloc (.cells #[.int .i64 kd,.int .u32 (fr:Int),.int .u32 (tt:Int),.string nm,.slice rp N cp,vS,.int .i32 en,.int .i64 pos] 49)=W1 at *
    obtain ⟨G,hGG⟩:∃ G,w.heap.size=G:=⟨_,rfl⟩
    rw [hGG] at hG ⊢
    have HGG:=Lib.hid hGG
    have HB0:=Lib.hid hB0
    have HG1:=Lib.hid hG
    clear hB0
    have x0:=hG.cell (j:=0) rfl
    have x1:=hG.cell (j:=1) rfl
    have x2:=hG.cell (j:=2) rfl
    have x3:=hG.cell (j:=3) rfl
    clear hG hGG
    unfold cv at KG
    go_upto_region 2 with (go_at_call 85;refine (KG.out _ HB0.out).mono ?_;rintro e w2 ⟨rfl,h2⟩;have HB2:=Lib.hid (HB0.out.trans (h2.mono HB0.out.size));have HG2:=Lib.hid (HG1.out.stay h2);have q0:=HG2.out.cell (j:=0) rfl;have q1:=HG2.out.cell (j:=1) rfl;have q2:=HG2.out.cell (j:=2) rfl;have q3:=HG2.out.cell (j:=3) rfl;clear h2)
    have hA:=HBox.new w2 [.int .u32 (ac:Int),.string an,.int .u8 (ak:Int),.int .u32 (ap:Int)] 82
    change HBox (w2.alloc (.cells #[.int .u32 (ac:Int),.string an,.int .u8 (ak:Int),.int .u32 (ap:Int)] 82)) _ _ _ at hA
    have hB3:=HB2.out.alloc (by have:=HB2.out.size;have:=HGG.out;omega) (.cells #[.int .u32 (ac:Int),.string an,.int .u8 (ak:Int),.int .u32 (ap:Int)] 82)
    have hG3:=HG2.out.alloc (.cells #[.int .u32 (ac:Int),.string an,.int .u8 (ak:Int),.int .u32 (ap:Int)] 82)
    generalize w2.alloc (.cells #[.int .u32 (ac:Int),.string an,.int .u8 (ak:Int),.int .u32 (ap:Int)] 82)=W3 at *
    obtain ⟨A,hAA⟩:∃ A,w2.heap.size=A:=⟨_,rfl⟩
    have hGA:G<A:=by have:=HG2.out.size;omega
    rw [hAA] at hA ⊢
    clear hAA
    have HB3:=Lib.hid hB3
    have HG3:=Lib.hid hG3
    have HA3:=Lib.hid hA
    have a0:=hA.cell (j:=0) rfl
    have a1:=hA.cell (j:=1) rfl
    have a2:=hA.cell (j:=2) rfl
    have a3:=hA.cell (j:=3) rfl
    have f0:=hA.frozen 0
    have f1:=hA.frozen 1
    have f3:=hA.frozen 3
    have sA:=hA.size
    have sG:G<W3.heap.size:=HG3.out.size
    have y0:=HG3.out.cell (j:=0) rfl
    have y1:=HG3.out.cell (j:=1) rfl
    have y2:=HG3.out.cell (j:=2) rfl
    have y3:=HG3.out.cell (j:=3) rfl
    clear hA hB3 hG3 x0 x1 x2 x3 q0 q1 q2 q3
    have k1:decide ((N:Int)<1)=false:=decide_eq_false (by omega)
    have k2:¬ (N:Int)<1:=by omega
    have k3:decide ((N:Int) > 8)=false:=decide_eq_false (by omega)
    have k4:¬ (8:Int)<(N:Int):=by omega
    go_upto_region 9 with (go_at_call 89;refine (KK.out _ HB3.out).mono ?_;rintro e w7 ⟨r7,c7,rfl,h7⟩;have HB7:=Lib.hid (HB3.out.trans (h7.mono HB3.out.size));have HG7:=Lib.hid (HG3.out.stay h7);have HA7:=Lib.hid (HA3.out.stay h7);have z1:=HG7.out.cell (j:=1) rfl;have z4:=HG7.out.cell (j:=4) rfl;clear h7)
    have hN8:N≤8:=by omega
    clear a0 a1 a2 a3 f0 f1 f3 y0 y1 y2 y3 sA sG z1 z4 k1 k2 k3 k4 hs'
    have HNN:=Lib.hid hN
    have HRV:Hid (Recs cc 4 w7 v c):=HR.out.stay HB7.out
    clear hN
    go_loopw [0,9,10,11,12,44] (fun v0 s9 s10 s11 s12 vi wr=>∃ (i:Nat) (c':List Ac),vi = .int .i64 (i:Int)∧i≤N∧Hid (c'.length≤c.length+i∧RiseA c'∧splitO AA ps c=splitO AA (ps.drop i) c')∧Hid (Recs cc 4 wr v0 c')∧Hid (Below w7.heap.size w7 wr)) (fun _ _ _ _ _ vi _=>N-(intOf vi).toNat)
    case atStart=>exact ⟨0,c,rfl,by omega,⟨by omega,HR0.out,rfl⟩,HRV,Below.refl _ _⟩
    case round =>
     obtain ⟨i,c',rfl,hi,HC,HV,HW⟩:=hrel
     have HB8:=Lib.hid (HB7.out.trans (HW.out.mono HB7.out.size))
     by_cases hlt:i<N
     ·obtain ⟨p,hp⟩:∃ p,ps[i]?=some p:=⟨ps[i]'(by have:=HNN.out;omega),List.getElem?_eq_getElem (by have:=HNN.out;omega)⟩
      have hpb:=HPB.out p (List.mem_of_getElem? hp)
      obtain ⟨gp,op,rfl,hgp,hcell⟩:=(HP.out.stay HB8.out).at hp
      have c0:=hcell 0 _ rfl
      have c1:=hcell 1 _ rfl
      rw [Nat.add_zero] at c0
      have hdr:ps.drop i=p :: ps.drop (i+1):=by
       obtain ⟨h1,h2⟩:=List.getElem?_eq_some_iff.1 hp
       rw [List.drop_eq_getElem_cons h1,h2]
      rw [hdr] at HC
      obtain ⟨p1,p2⟩:=p
      simp only at c0 c1 hpb
      have hz:(i:Int)<(N:Int):=by omega
      have hB9:=HB8.out.alloc (HB8.out.size) (.cells #[.int .u32 (p1:Int),.int .i64 p2] 94)
      have hQ:=HBox.new wr [.int .u32 (p1:Int),.int .i64 p2] 94
      change HBox (wr.alloc (.cells #[.int .u32 (p1:Int),.int .i64 p2] 94)) _ _ _ at hQ
      have hV9:=HV.out.stay ((Below.refl _ _).alloc (Nat.le_refl _) (.cells #[.int .u32 (p1:Int),.int .i64 p2] 94))
      have hW9:=HW.out.alloc HW.out.size (.cells #[.int .u32 (p1:Int),.int .i64 p2] 94)
      clear hcell hdr hp hgp
      go_upto_region 11 with fail
      generalize wr.alloc (.cells #[.int .u32 (p1:Int),.int .i64 p2] 94)=W9 at *
      generalize wr.heap.size=Q at *
      clear c0 c1 HV HW HB8
      have HQ:=Lib.hid hQ
      have HB9:=Lib.hid hB9
      have HV9:=Lib.hid hV9
      have HW9:=Lib.hid hW9
      have q0:=hQ.cell (j:=0) rfl
      have q1:=hQ.cell (j:=1) rfl
      clear hQ hB9 hV9 hW9
      have KC1:=KC.out p1 W9
      have KC2:=Lib.hid KC1
      clear KC1
      by_cases e1:p1<1∨999999<p1
      ·have hd:(decide (0<p1) && decide (p1≤999999))=false:=by rcases e1 with e | e <;> simp <;> omega
       rw [hd] at KC2
       have HE:Hid (AF = .error 5):=by
        have:=HF.out
        rw [HC.out.2.2,splitO_r (by simp only;omega)] at this
        exact this
       go_wp2_with (go_at_call 90;refine KC2.out.mono ?_;rintro e w10 ⟨rfl,rfl⟩)
       go_ret2
       rw [HE.out]
       exact ⟨rfl,HB9.out⟩
      ·have hd:(decide (0<p1) && decide (p1≤999999))=true:=by simp;omega
       rw [hd] at KC2
       by_cases e2:p2<1
       ·have e2z:decide (p2<1)=true:=decide_eq_true e2
        have HE:Hid (AF = .error 5):=by
         have:=HF.out
         rw [HC.out.2.2,splitO_r (by simp only;omega)] at this
         exact this
        go_wp2_with (go_at_call 90;refine KC2.out.mono ?_;rintro e w10 ⟨rfl,rfl⟩)
        go_ret2
        rw [HE.out]
        exact ⟨rfl,HB9.out⟩
       ·have e2z:decide (p2<1)=false:=decide_eq_false e2
        by_cases e3:1000000<p2
        ·have e3z:decide (p2 > 1000000)=true:=decide_eq_true e3
         have HE:Hid (AF = .error 5):=by
          have:=HF.out
          rw [HC.out.2.2,splitO_r (by simp only;omega)] at this
          exact this
         go_wp2_with (go_at_call 90;refine KC2.out.mono ?_;rintro e w10 ⟨rfl,rfl⟩)
         go_ret2
         rw [HE.out]
         exact ⟨rfl,HB9.out⟩
        ·have e3z:decide (p2 > 1000000)=false:=decide_eq_false (by omega)
         have hin:¬ (p1<1∨999999<p1∨p2<1∨1000000<p2):=by omega
         have HIN:=Lib.hid hin
         clear hin e1
         cases hgx:getA c' p1 with
         | some x =>
          have HE:Hid (AF = .error 7):=by
           have:=HF.out
           rw [HC.out.2.2,splitO_t HIN.out (by simp only;rw [hgx];rfl)] at this
           exact this
          have KX:=Lib.hid (KS.out c' _ p1 x W9 HV9.out HC.out.2.1 (by have:=HC.out.1;omega) hgx)
          clear hgx
          obtain ⟨xc,xn,xk,xp,_,_,_,_⟩:=x
          unfold cv at KX
          go_wp2_with (first
           | (go_at_call 85;refine KX.out.mono ?_;rintro e w10 ⟨rfl,h10⟩;have HB10:=Lib.hid (HB9.out.trans (h10.mono HB9.out.size));clear h10)
           | (go_at_call 90;refine KC2.out.mono ?_;rintro e w10 ⟨rfl,rfl⟩))
          go_ret2
          rw [HE.out]
          exact ⟨rfl,HB10.out.alloc HB10.out.size _⟩
         | none =>
          have KX:=Lib.hid (KN.out c' _ p1 W9 HV9.out HC.out.2.1 (by have:=HC.out.1;omega) hgx)
          have HGX:=Lib.hid hgx
          clear hgx
          go_upto_region 16 with (first
           | (go_at_call 85;refine KX.out.mono ?_;rintro e w10 ⟨rfl,h10⟩;have HB10:=Lib.hid (HB9.out.trans (h10.mono HB9.out.size));have HV10:=Lib.hid (HV9.out.stay h10);have HQ10:=Lib.hid (HQ.out.stay h10);have HW10:=Lib.hid (HW9.out.trans (h10.mono HW9.out.size));clear h10)
           | (go_at_call 90;refine KC2.out.mono ?_;rintro e w10 ⟨rfl,rfl⟩))
          have hB11:=HB10.out.alloc HB10.out.size (.cells #[.int .u32 0,.string ⟨#[]⟩,.int .u8 0,.int .u32 0] 82)
          have hV11:=HV10.out.stay ((Below.refl _ _).alloc (Nat.le_refl _) (.cells #[.int .u32 0,.string ⟨#[]⟩,.int .u8 0,.int .u32 0] 82))
          have hQ11:=HQ10.out.alloc (.cells #[.int .u32 0,.string ⟨#[]⟩,.int .u8 0,.int .u32 0] 82)
          have hW11:=HW10.out.alloc HW10.out.size (.cells #[.int .u32 0,.string ⟨#[]⟩,.int .u8 0,.int .u32 0] 82)
          generalize w10.alloc (.cells #[.int .u32 0,.string ⟨#[]⟩,.int .u8 0,.int .u32 0] 82)=W11 at *
          generalize w10.heap.size=Y at *
          have HB11:=Lib.hid hB11
          have HV11:=Lib.hid hV11
          have HW11:=Lib.hid hW11
          have q0:=hQ11.cell (j:=0) rfl
          have hA11:=HA7.out.stay hW11
          have a0:=hA11.cell (j:=0) rfl
          have a1:=hA11.cell (j:=1) rfl
          have a2:=hA11.cell (j:=2) rfl
          have a3:=hA11.cell (j:=3) rfl
          have hQs:=hQ11.size
          clear hB11 hV11 hW11 hQ11 hA11
          go_upto_region 18 with fail
          have hZ:=HBox.new W11 [.int .u32 (p1:Int),.string an,.int .u8 (ak:Int),.int .u32 (ap:Int)] 82
          change HBox (W11.alloc (.cells #[.int .u32 (p1:Int),.string an,.int .u8 (ak:Int),.int .u32 (ap:Int)] 82)) _ _ _ at hZ
          have hB12:=HB11.out.alloc HB11.out.size (.cells #[.int .u32 (p1:Int),.string an,.int .u8 (ak:Int),.int .u32 (ap:Int)] 82)
          have hV12:=HV11.out.stay ((Below.refl _ _).alloc (Nat.le_refl _) (.cells #[.int .u32 (p1:Int),.string an,.int .u8 (ak:Int),.int .u32 (ap:Int)] 82))
          have hW12:=HW11.out.alloc HW11.out.size (.cells #[.int .u32 (p1:Int),.string an,.int .u8 (ak:Int),.int .u32 (ap:Int)] 82)
          generalize W11.alloc (.cells #[.int .u32 (p1:Int),.string an,.int .u8 (ak:Int),.int .u32 (ap:Int)] 82)=W12 at *
          generalize W11.heap.size=X at *
          clear a0 a1 a2 a3 q0 hQs
          have HB12:=Lib.hid hB12
          have HV12:=Lib.hid hV12
          have HW12:=Lib.hid hW12
          have a0:=hZ.cell (j:=0) rfl
          have a1:=hZ.cell (j:=1) rfl
          have a2:=hZ.cell (j:=2) rfl
          have a3:=hZ.cell (j:=3) rfl
          clear hZ hB12 hV12 hW12
          have hpt:p1<4294967296:=by omega
          have KZ:=Lib.hid (KW.out c' ⟨p1,an,ak,ap,hpt,by assumption,by assumption,by assumption⟩ _ W12 HV12.out HC.out.2.1 (by have:=HC.out.1;omega))
          have HNX:Hid ((withA c' ⟨p1,an,ak,ap,hpt,by assumption,by assumption,by assumption⟩).length≤c.length+(i+1)∧RiseA (withA c' ⟨p1,an,ak,ap,hpt,by assumption,by assumption,by assumption⟩)∧splitO AA ps c=splitO AA (ps.drop (i+1)) (withA c' ⟨p1,an,ak,ap,hpt,by assumption,by assumption,by assumption⟩)):=by
           refine ⟨by have:=withA_len c' ⟨p1,an,ak,ap,hpt,by assumption,by assumption,by assumption⟩;have:=HC.out.1;omega,withA_rise HC.out.2.1 _,?_⟩
           rw [HC.out.2.2,splitO_g HIN.out (by simp only;rw [HGX.out];rfl) hpt,← HAA.out]
           rfl
          unfold cv at KZ
          go_wp2_with (go_at_call 88;refine KZ.out.mono ?_;rintro e w13 ⟨v13,rfl,hr13,h13⟩;have HR13:=Lib.hid hr13;have HW13:=Lib.hid (HW12.out.trans (h13.mono HW12.out.size));clear hr13 h13)
          go_roundw
          case rel=>exact ⟨i+1,_,by go_num,by omega,HNX,HR13,HW13⟩
          case measure=>simp [intOf];omega
     ·have hz:¬ (i:Int)<(N:Int):=by omega
      have hW8:=HW.out
      have hG8:=HG7.out.stay hW8
      have z1:=hG8.cell (j:=1) rfl
      clear hG8 hW8
      have KZ:=Lib.hid (KO.out c' _ wr HV.out HC.out.2.1 (by have:=HC.out.1;omega))
      have HE:Hid (AF = .ok (outA c' fr)):=by
       have:=HF.out
       obtain rfl:i=N:=by omega
       rw [HC.out.2.2,List.drop_eq_nil_of_le (by have:=HNN.out;omega)] at this
       exact this
      go_wp2_with (go_at_call 86;refine KZ.out.mono ?_;rintro e w13 ⟨v13,rfl,hr13,h13⟩;have HR13:=Lib.hid hr13;have HB13:=Lib.hid (HB8.out.trans (h13.mono HB8.out.size));clear hr13 h13)
      go_ret2
      rw [HE.out]
      exact ⟨⟨v13,rfl,HR13.out⟩,HB13.out⟩
theorem recoded_c (o:Rop) (vP vS:Value) (pos:Int) (v:Value) (u:List Nat) (w:World) (hR:Recs uc 1 w v u) (hr:RiseU u) (hl:u.length≤100) (h0:o.kind=5∨o.kind=6) :
 Calls Tryz.prog 59 #[v,ropV o vP vS pos] w fun e w'=>UniR w' e (unitF u o)∧Below w.heap.size w w':=by
 unfold ropV
 have KH:=Lib.hid (fun (n:Nat) (W:World) (h:Below w.heap.size w W)=>has_u v u n W (hR.stay h))
 have KO:=Lib.hid (fun (W:World) (h:Below w.heap.size w W)=>without_u v u o.frm W (hR.stay h) (by omega))
 have KW:=Lib.hid (fun (v':Value) (W:World) (h:Recs uc 1 W v' (outU u o.frm))=>with_u v' (outU u o.frm) o.to W h (outU_rise hr o.frm) (by have:=outU_len u o.frm;omega))
 have HUL:=Lib.hid (show (outU u o.frm).length≤900 by have:=outU_len u o.frm;omega)
 clear hR hr hl
 by_cases h1:999<o.frm
 case pos =>
  rw [unitF_r (.inl h1)]
  obtain ⟨kd,fr,tt,nm,ps,ss,en,_,_,_,hnm,_,_,_⟩:=o
  simp only at *
  have hB0:=(Below.refl w.heap.size w).alloc (Nat.le_refl _) (.cells #[.int .i64 kd,.int .u32 (fr:Int),.int .u32 (tt:Int),.string nm,vP,vS,.int .i32 en,.int .i64 pos] 49)
  have hG:=HBox.new w [.int .i64 kd,.int .u32 (fr:Int),.int .u32 (tt:Int),.string nm,vP,vS,.int .i32 en,.int .i64 pos] 49
  change HBox (w.alloc (.cells #[.int .i64 kd,.int .u32 (fr:Int),.int .u32 (tt:Int),.string nm,vP,vS,.int .i32 en,.int .i64 pos] 49)) _ _ _ at hG
  have k1:decide ((fr:Int) > 999)=true:=decide_eq_true (by omega)
  clear h0 h1
  go_enter Tryz.func59,Tryz.ntmps59
  go_upto_region 1 with fail
  generalize w.alloc (.cells #[.int .i64 kd,.int .u32 (fr:Int),.int .u32 (tt:Int),.string nm,vP,vS,.int .i32 en,.int .i64 pos] 49)=W1 at *
  obtain ⟨G,hGG⟩:∃ G,w.heap.size=G:=⟨_,rfl⟩
  rw [hGG] at hG ⊢
  have HGG:=Lib.hid hGG
  have HB0:=Lib.hid hB0
  have HG1:=Lib.hid hG
  clear hB0
  have x0:=hG.cell (j:=0) rfl
  have x1:=hG.cell (j:=1) rfl
  have x2:=hG.cell (j:=2) rfl
  have x3:=hG.cell (j:=3) rfl
  clear hG hGG
  go_wp2_with fail
  go_ret2
  exact ⟨rfl,HB0.out⟩
 case neg =>
  by_cases h2:999<o.to
  case pos =>
   rw [unitF_r (.inr h2)]
   obtain ⟨kd,fr,tt,nm,ps,ss,en,_,_,_,hnm,_,_,_⟩:=o
   simp only at *
   have hB0:=(Below.refl w.heap.size w).alloc (Nat.le_refl _) (.cells #[.int .i64 kd,.int .u32 (fr:Int),.int .u32 (tt:Int),.string nm,vP,vS,.int .i32 en,.int .i64 pos] 49)
   have hG:=HBox.new w [.int .i64 kd,.int .u32 (fr:Int),.int .u32 (tt:Int),.string nm,vP,vS,.int .i32 en,.int .i64 pos] 49
   change HBox (w.alloc (.cells #[.int .i64 kd,.int .u32 (fr:Int),.int .u32 (tt:Int),.string nm,vP,vS,.int .i32 en,.int .i64 pos] 49)) _ _ _ at hG
   have k1:decide ((fr:Int) > 999)=false:=decide_eq_false (by omega)
   have k2:decide ((tt:Int) > 999)=true:=decide_eq_true (by omega)
   clear h0 h1 h2
   go_enter Tryz.func59,Tryz.ntmps59
   go_upto_region 1 with fail
   generalize w.alloc (.cells #[.int .i64 kd,.int .u32 (fr:Int),.int .u32 (tt:Int),.string nm,vP,vS,.int .i32 en,.int .i64 pos] 49)=W1 at *
   obtain ⟨G,hGG⟩:∃ G,w.heap.size=G:=⟨_,rfl⟩
   rw [hGG] at hG ⊢
   have HGG:=Lib.hid hGG
   have HB0:=Lib.hid hB0
   have HG1:=Lib.hid hG
   clear hB0
   have x0:=hG.cell (j:=0) rfl
   have x1:=hG.cell (j:=1) rfl
   have x2:=hG.cell (j:=2) rfl
   have x3:=hG.cell (j:=3) rfl
   clear hG hGG
   go_wp2_with fail
   go_ret2
   exact ⟨rfl,HB0.out⟩
  case neg =>
   have hn:¬ (999<o.frm∨999<o.to):=by omega
   by_cases h3:o.frm ∈ u
   case neg =>
    rw [unitF_n hn h3]
    obtain ⟨kd,fr,tt,nm,ps,ss,en,_,_,_,hnm,_,_,_⟩:=o
    simp only at *
    have hB0:=(Below.refl w.heap.size w).alloc (Nat.le_refl _) (.cells #[.int .i64 kd,.int .u32 (fr:Int),.int .u32 (tt:Int),.string nm,vP,vS,.int .i32 en,.int .i64 pos] 49)
    have hG:=HBox.new w [.int .i64 kd,.int .u32 (fr:Int),.int .u32 (tt:Int),.string nm,vP,vS,.int .i32 en,.int .i64 pos] 49
    change HBox (w.alloc (.cells #[.int .i64 kd,.int .u32 (fr:Int),.int .u32 (tt:Int),.string nm,vP,vS,.int .i32 en,.int .i64 pos] 49)) _ _ _ at hG
    have k1:decide ((fr:Int) > 999)=false:=decide_eq_false (by omega)
    have k2:decide ((tt:Int) > 999)=false:=decide_eq_false (by omega)
    have u1:IntKind.u16.wrap (fr:Int)=(fr:Int):=by rw [IntKind.wrap_u16];omega
    have u2:IntKind.u16.wrap (tt:Int)=(tt:Int):=by rw [IntKind.wrap_u16];omega
    have m1:decide (fr ∈ u)=false:=decide_eq_false h3
    clear h0 h1 h2 h3 hn
    go_enter Tryz.func59,Tryz.ntmps59
    go_upto_region 1 with fail
    generalize w.alloc (.cells #[.int .i64 kd,.int .u32 (fr:Int),.int .u32 (tt:Int),.string nm,vP,vS,.int .i32 en,.int .i64 pos] 49)=W1 at *
    obtain ⟨G,hGG⟩:∃ G,w.heap.size=G:=⟨_,rfl⟩
    rw [hGG] at hG ⊢
    have HGG:=Lib.hid hGG
    have HB0:=Lib.hid hB0
    have HG1:=Lib.hid hG
    clear hB0
    have x0:=hG.cell (j:=0) rfl
    have x1:=hG.cell (j:=1) rfl
    have x2:=hG.cell (j:=2) rfl
    have x3:=hG.cell (j:=3) rfl
    clear hG hGG
    have mixed:Tryz.prog.follows .mixedOrders=true:=by kernel_rfl
    go_upto_region 3 with fail
    go_region
    clear x0 x1 x2 x3
    have HG1b:=Lib.hid (HG1.out.stay (Below.refl _ _).drew)
    have HB1b:=Lib.hid HB0.out.drew
    change Hid (HBox _ G _ _) at HG1b
    generalize W1.drew=W1b at *
    have x0:=HG1b.out.cell (j:=0) rfl
    have x1:=HG1b.out.cell (j:=1) rfl
    have x2:=HG1b.out.cell (j:=2) rfl
    go_wp2_with (go_at_call 91;refine (KH.out fr _ HB1b.out).mono ?_;rintro e w2 ⟨rfl,h2⟩;have HB2:=Lib.hid (HB1b.out.trans (h2.mono HB1b.out.size));have HG2:=Lib.hid (HG1b.out.stay h2);have q0:=HG2.out.cell (j:=0) rfl;have q1:=HG2.out.cell (j:=1) rfl;have q2:=HG2.out.cell (j:=2) rfl;clear h2)
    go_ret2
    exact ⟨rfl,HB2.out⟩
   case pos =>
    rcases h0 with h0 | h0
    ·by_cases h4:o.to ∈ u
     ·rw [unitF_t hn h3 h0 h4]
      obtain ⟨kd,fr,tt,nm,ps,ss,en,_,_,_,hnm,_,_,_⟩:=o
      simp only at *
      have hB0:=(Below.refl w.heap.size w).alloc (Nat.le_refl _) (.cells #[.int .i64 kd,.int .u32 (fr:Int),.int .u32 (tt:Int),.string nm,vP,vS,.int .i32 en,.int .i64 pos] 49)
      have hG:=HBox.new w [.int .i64 kd,.int .u32 (fr:Int),.int .u32 (tt:Int),.string nm,vP,vS,.int .i32 en,.int .i64 pos] 49
      change HBox (w.alloc (.cells #[.int .i64 kd,.int .u32 (fr:Int),.int .u32 (tt:Int),.string nm,vP,vS,.int .i32 en,.int .i64 pos] 49)) _ _ _ at hG
      have k1:decide ((fr:Int) > 999)=false:=decide_eq_false (by omega)
      have k2:decide ((tt:Int) > 999)=false:=decide_eq_false (by omega)
      have u1:IntKind.u16.wrap (fr:Int)=(fr:Int):=by rw [IntKind.wrap_u16];omega
      have u2:IntKind.u16.wrap (tt:Int)=(tt:Int):=by rw [IntKind.wrap_u16];omega
      have m1:decide (fr ∈ u)=true:=decide_eq_true h3
      have j1:((kd:Int) == 6)=false:=by rw [h0];rfl
      have m2:decide (tt ∈ u)=true:=decide_eq_true h4
      clear h4
      clear h0 h1 h2 h3 hn
      go_enter Tryz.func59,Tryz.ntmps59
      go_upto_region 1 with fail
      generalize w.alloc (.cells #[.int .i64 kd,.int .u32 (fr:Int),.int .u32 (tt:Int),.string nm,vP,vS,.int .i32 en,.int .i64 pos] 49)=W1 at *
      obtain ⟨G,hGG⟩:∃ G,w.heap.size=G:=⟨_,rfl⟩
      rw [hGG] at hG ⊢
      have HGG:=Lib.hid hGG
      have HB0:=Lib.hid hB0
      have HG1:=Lib.hid hG
      clear hB0
      have x0:=hG.cell (j:=0) rfl
      have x1:=hG.cell (j:=1) rfl
      have x2:=hG.cell (j:=2) rfl
      have x3:=hG.cell (j:=3) rfl
      clear hG hGG
      have mixed:Tryz.prog.follows .mixedOrders=true:=by kernel_rfl
      go_upto_region 3 with fail
      go_region
      clear x0 x1 x2 x3
      have HG1b:=Lib.hid (HG1.out.stay (Below.refl _ _).drew)
      have HB1b:=Lib.hid HB0.out.drew
      change Hid (HBox _ G _ _) at HG1b
      generalize W1.drew=W1b at *
      have x0:=HG1b.out.cell (j:=0) rfl
      have x1:=HG1b.out.cell (j:=1) rfl
      have x2:=HG1b.out.cell (j:=2) rfl
      go_wp2_with (first
       | (have hN:=HB2;clear hN;go_at_call 91;refine (KH.out tt _ HB2.out).mono ?_;rintro e w3 ⟨rfl,h3⟩;have HB3:=Lib.hid (HB2.out.trans (h3.mono HB2.out.size));have HG3:=Lib.hid (HG2.out.stay h3);clear h3)
       | (go_at_call 91;refine (KH.out fr _ HB1b.out).mono ?_;rintro e w2 ⟨rfl,h2⟩;have HB2:=Lib.hid (HB1b.out.trans (h2.mono HB1b.out.size));have HG2:=Lib.hid (HG1b.out.stay h2);have q0:=HG2.out.cell (j:=0) rfl;have q1:=HG2.out.cell (j:=1) rfl;have q2:=HG2.out.cell (j:=2) rfl;clear h2))
      go_ret2
      exact ⟨rfl,HB3.out⟩
     ·rw [unitF_5 hn h3 h0 h4]
      obtain ⟨kd,fr,tt,nm,ps,ss,en,_,_,_,hnm,_,_,_⟩:=o
      simp only at *
      have hB0:=(Below.refl w.heap.size w).alloc (Nat.le_refl _) (.cells #[.int .i64 kd,.int .u32 (fr:Int),.int .u32 (tt:Int),.string nm,vP,vS,.int .i32 en,.int .i64 pos] 49)
      have hG:=HBox.new w [.int .i64 kd,.int .u32 (fr:Int),.int .u32 (tt:Int),.string nm,vP,vS,.int .i32 en,.int .i64 pos] 49
      change HBox (w.alloc (.cells #[.int .i64 kd,.int .u32 (fr:Int),.int .u32 (tt:Int),.string nm,vP,vS,.int .i32 en,.int .i64 pos] 49)) _ _ _ at hG
      have k1:decide ((fr:Int) > 999)=false:=decide_eq_false (by omega)
      have k2:decide ((tt:Int) > 999)=false:=decide_eq_false (by omega)
      have u1:IntKind.u16.wrap (fr:Int)=(fr:Int):=by rw [IntKind.wrap_u16];omega
      have u2:IntKind.u16.wrap (tt:Int)=(tt:Int):=by rw [IntKind.wrap_u16];omega
      have m1:decide (fr ∈ u)=true:=decide_eq_true h3
      have j1:((kd:Int) == 6)=false:=by rw [h0];rfl
      have m2:decide (tt ∈ u)=false:=decide_eq_false h4
      clear h4
      clear h0 h1 h2 h3 hn
      go_enter Tryz.func59,Tryz.ntmps59
      go_upto_region 1 with fail
      generalize w.alloc (.cells #[.int .i64 kd,.int .u32 (fr:Int),.int .u32 (tt:Int),.string nm,vP,vS,.int .i32 en,.int .i64 pos] 49)=W1 at *
      obtain ⟨G,hGG⟩:∃ G,w.heap.size=G:=⟨_,rfl⟩
      rw [hGG] at hG ⊢
      have HGG:=Lib.hid hGG
      have HB0:=Lib.hid hB0
      have HG1:=Lib.hid hG
      clear hB0
      have x0:=hG.cell (j:=0) rfl
      have x1:=hG.cell (j:=1) rfl
      have x2:=hG.cell (j:=2) rfl
      have x3:=hG.cell (j:=3) rfl
      clear hG hGG
      have mixed:Tryz.prog.follows .mixedOrders=true:=by kernel_rfl
      go_upto_region 3 with fail
      go_region
      clear x0 x1 x2 x3
      have HG1b:=Lib.hid (HG1.out.stay (Below.refl _ _).drew)
      have HB1b:=Lib.hid HB0.out.drew
      change Hid (HBox _ G _ _) at HG1b
      generalize W1.drew=W1b at *
      have x0:=HG1b.out.cell (j:=0) rfl
      have x1:=HG1b.out.cell (j:=1) rfl
      have x2:=HG1b.out.cell (j:=2) rfl
      go_wp2_with (first
       | (go_at_call 93;refine (KW.out _ _ HR4.out).mono ?_;rintro e w5 ⟨v5,rfl,hr5,h5⟩;have HB5:=Lib.hid (HB4.out.trans (h5.mono HB4.out.size));have HR5:=Lib.hid hr5;clear h5 hr5)
       | (go_at_call 92;refine (KO.out _ HB3.out).mono ?_;rintro e w4 ⟨v4,rfl,hr4,h4⟩;have HB4:=Lib.hid (HB3.out.trans (h4.mono HB3.out.size));have HR4:=Lib.hid (recs_of_owns uc_len hr4 rfl (by have:=HUL.out;omega));clear h4 hr4)
       | (have hN:=HB2;clear hN;go_at_call 91;refine (KH.out tt _ HB2.out).mono ?_;rintro e w3 ⟨rfl,h3⟩;have HB3:=Lib.hid (HB2.out.trans (h3.mono HB2.out.size));have HG3:=Lib.hid (HG2.out.stay h3);clear h3)
       | (go_at_call 91;refine (KH.out fr _ HB1b.out).mono ?_;rintro e w2 ⟨rfl,h2⟩;have HB2:=Lib.hid (HB1b.out.trans (h2.mono HB1b.out.size));have HG2:=Lib.hid (HG1b.out.stay h2);have q0:=HG2.out.cell (j:=0) rfl;have q1:=HG2.out.cell (j:=1) rfl;have q2:=HG2.out.cell (j:=2) rfl;clear h2))
      go_ret2
      exact ⟨⟨v5,rfl,HR5.out⟩,HB5.out⟩
    ·by_cases h5:o.to=o.frm
     ·rw [unitF_s hn h3 h0 h5]
      obtain ⟨kd,fr,tt,nm,ps,ss,en,_,_,_,hnm,_,_,_⟩:=o
      simp only at *
      have hB0:=(Below.refl w.heap.size w).alloc (Nat.le_refl _) (.cells #[.int .i64 kd,.int .u32 (fr:Int),.int .u32 (tt:Int),.string nm,vP,vS,.int .i32 en,.int .i64 pos] 49)
      have hG:=HBox.new w [.int .i64 kd,.int .u32 (fr:Int),.int .u32 (tt:Int),.string nm,vP,vS,.int .i32 en,.int .i64 pos] 49
      change HBox (w.alloc (.cells #[.int .i64 kd,.int .u32 (fr:Int),.int .u32 (tt:Int),.string nm,vP,vS,.int .i32 en,.int .i64 pos] 49)) _ _ _ at hG
      have k1:decide ((fr:Int) > 999)=false:=decide_eq_false (by omega)
      have k2:decide ((tt:Int) > 999)=false:=decide_eq_false (by omega)
      have u1:IntKind.u16.wrap (fr:Int)=(fr:Int):=by rw [IntKind.wrap_u16];omega
      have u2:IntKind.u16.wrap (tt:Int)=(tt:Int):=by rw [IntKind.wrap_u16];omega
      have m1:decide (fr ∈ u)=true:=decide_eq_true h3
      have j1:((kd:Int) == 6)=true:=by rw [h0];rfl
      have j2:((tt:Int) == (fr:Int))=true:=by rw [h5];exact beq_self_eq_true _
      clear h5
      clear h0 h1 h2 h3 hn
      go_enter Tryz.func59,Tryz.ntmps59
      go_upto_region 1 with fail
      generalize w.alloc (.cells #[.int .i64 kd,.int .u32 (fr:Int),.int .u32 (tt:Int),.string nm,vP,vS,.int .i32 en,.int .i64 pos] 49)=W1 at *
      obtain ⟨G,hGG⟩:∃ G,w.heap.size=G:=⟨_,rfl⟩
      rw [hGG] at hG ⊢
      have HGG:=Lib.hid hGG
      have HB0:=Lib.hid hB0
      have HG1:=Lib.hid hG
      clear hB0
      have x0:=hG.cell (j:=0) rfl
      have x1:=hG.cell (j:=1) rfl
      have x2:=hG.cell (j:=2) rfl
      have x3:=hG.cell (j:=3) rfl
      clear hG hGG
      have mixed:Tryz.prog.follows .mixedOrders=true:=by kernel_rfl
      go_upto_region 3 with fail
      go_region
      clear x0 x1 x2 x3
      have HG1b:=Lib.hid (HG1.out.stay (Below.refl _ _).drew)
      have HB1b:=Lib.hid HB0.out.drew
      change Hid (HBox _ G _ _) at HG1b
      generalize W1.drew=W1b at *
      have x0:=HG1b.out.cell (j:=0) rfl
      have x1:=HG1b.out.cell (j:=1) rfl
      have x2:=HG1b.out.cell (j:=2) rfl
      go_wp2_with (first
       | (go_at_call 91;refine (KH.out fr _ HB1b.out).mono ?_;rintro e w2 ⟨rfl,h2⟩;have HB2:=Lib.hid (HB1b.out.trans (h2.mono HB1b.out.size));have HG2:=Lib.hid (HG1b.out.stay h2);have q0:=HG2.out.cell (j:=0) rfl;have q1:=HG2.out.cell (j:=1) rfl;have q2:=HG2.out.cell (j:=2) rfl;clear h2))
      go_ret2
      exact ⟨rfl,HB2.out⟩
     ·by_cases h4:o.to ∈ u
      ·rw [unitF_6 hn h3 h0 h5 h4]
       obtain ⟨kd,fr,tt,nm,ps,ss,en,_,_,_,hnm,_,_,_⟩:=o
       simp only at *
       have hB0:=(Below.refl w.heap.size w).alloc (Nat.le_refl _) (.cells #[.int .i64 kd,.int .u32 (fr:Int),.int .u32 (tt:Int),.string nm,vP,vS,.int .i32 en,.int .i64 pos] 49)
       have hG:=HBox.new w [.int .i64 kd,.int .u32 (fr:Int),.int .u32 (tt:Int),.string nm,vP,vS,.int .i32 en,.int .i64 pos] 49
       change HBox (w.alloc (.cells #[.int .i64 kd,.int .u32 (fr:Int),.int .u32 (tt:Int),.string nm,vP,vS,.int .i32 en,.int .i64 pos] 49)) _ _ _ at hG
       have k1:decide ((fr:Int) > 999)=false:=decide_eq_false (by omega)
       have k2:decide ((tt:Int) > 999)=false:=decide_eq_false (by omega)
       have u1:IntKind.u16.wrap (fr:Int)=(fr:Int):=by rw [IntKind.wrap_u16];omega
       have u2:IntKind.u16.wrap (tt:Int)=(tt:Int):=by rw [IntKind.wrap_u16];omega
       have m1:decide (fr ∈ u)=true:=decide_eq_true h3
       have j1:((kd:Int) == 6)=true:=by rw [h0];rfl
       have j2:((tt:Int) == (fr:Int))=false:=by rw [beq_eq_false_iff_ne];omega
       clear h5
       have m2:decide (tt ∈ u)=true:=decide_eq_true h4
       clear h4
       clear h0 h1 h2 h3 hn
       go_enter Tryz.func59,Tryz.ntmps59
       go_upto_region 1 with fail
       generalize w.alloc (.cells #[.int .i64 kd,.int .u32 (fr:Int),.int .u32 (tt:Int),.string nm,vP,vS,.int .i32 en,.int .i64 pos] 49)=W1 at *
       obtain ⟨G,hGG⟩:∃ G,w.heap.size=G:=⟨_,rfl⟩
       rw [hGG] at hG ⊢
       have HGG:=Lib.hid hGG
       have HB0:=Lib.hid hB0
       have HG1:=Lib.hid hG
       clear hB0
       have x0:=hG.cell (j:=0) rfl
       have x1:=hG.cell (j:=1) rfl
       have x2:=hG.cell (j:=2) rfl
       have x3:=hG.cell (j:=3) rfl
       clear hG hGG
       have mixed:Tryz.prog.follows .mixedOrders=true:=by kernel_rfl
       go_upto_region 3 with fail
       go_region
       clear x0 x1 x2 x3
       have HG1b:=Lib.hid (HG1.out.stay (Below.refl _ _).drew)
       have HB1b:=Lib.hid HB0.out.drew
       change Hid (HBox _ G _ _) at HG1b
       generalize W1.drew=W1b at *
       have x0:=HG1b.out.cell (j:=0) rfl
       have x1:=HG1b.out.cell (j:=1) rfl
       have x2:=HG1b.out.cell (j:=2) rfl
       go_wp2_with (first
        | (go_at_call 93;refine (KW.out _ _ HR4.out).mono ?_;rintro e w5 ⟨v5,rfl,hr5,h5⟩;have HB5:=Lib.hid (HB4.out.trans (h5.mono HB4.out.size));have HR5:=Lib.hid hr5;clear h5 hr5)
        | (go_at_call 92;refine (KO.out _ HB3.out).mono ?_;rintro e w4 ⟨v4,rfl,hr4,h4⟩;have HB4:=Lib.hid (HB3.out.trans (h4.mono HB3.out.size));have HR4:=Lib.hid (recs_of_owns uc_len hr4 rfl (by have:=HUL.out;omega));clear h4 hr4)
        | (have hN:=HB2;clear hN;go_at_call 91;refine (KH.out tt _ HB2.out).mono ?_;rintro e w3 ⟨rfl,h3⟩;have HB3:=Lib.hid (HB2.out.trans (h3.mono HB2.out.size));have HG3:=Lib.hid (HG2.out.stay h3);clear h3)
        | (go_at_call 91;refine (KH.out fr _ HB1b.out).mono ?_;rintro e w2 ⟨rfl,h2⟩;have HB2:=Lib.hid (HB1b.out.trans (h2.mono HB1b.out.size));have HG2:=Lib.hid (HG1b.out.stay h2);have q0:=HG2.out.cell (j:=0) rfl;have q1:=HG2.out.cell (j:=1) rfl;have q2:=HG2.out.cell (j:=2) rfl;clear h2))
       go_ret2
       exact ⟨⟨v5,rfl,HR5.out⟩,HB5.out⟩
      ·rw [unitF_m hn h3 h0 h5 h4]
       obtain ⟨kd,fr,tt,nm,ps,ss,en,_,_,_,hnm,_,_,_⟩:=o
       simp only at *
       have hB0:=(Below.refl w.heap.size w).alloc (Nat.le_refl _) (.cells #[.int .i64 kd,.int .u32 (fr:Int),.int .u32 (tt:Int),.string nm,vP,vS,.int .i32 en,.int .i64 pos] 49)
       have hG:=HBox.new w [.int .i64 kd,.int .u32 (fr:Int),.int .u32 (tt:Int),.string nm,vP,vS,.int .i32 en,.int .i64 pos] 49
       change HBox (w.alloc (.cells #[.int .i64 kd,.int .u32 (fr:Int),.int .u32 (tt:Int),.string nm,vP,vS,.int .i32 en,.int .i64 pos] 49)) _ _ _ at hG
       have k1:decide ((fr:Int) > 999)=false:=decide_eq_false (by omega)
       have k2:decide ((tt:Int) > 999)=false:=decide_eq_false (by omega)
       have u1:IntKind.u16.wrap (fr:Int)=(fr:Int):=by rw [IntKind.wrap_u16];omega
       have u2:IntKind.u16.wrap (tt:Int)=(tt:Int):=by rw [IntKind.wrap_u16];omega
       have m1:decide (fr ∈ u)=true:=decide_eq_true h3
       have j1:((kd:Int) == 6)=true:=by rw [h0];rfl
       have j2:((tt:Int) == (fr:Int))=false:=by rw [beq_eq_false_iff_ne];omega
       clear h5
       have m2:decide (tt ∈ u)=false:=decide_eq_false h4
       clear h4
       clear h0 h1 h2 h3 hn
       go_enter Tryz.func59,Tryz.ntmps59
       go_upto_region 1 with fail
       generalize w.alloc (.cells #[.int .i64 kd,.int .u32 (fr:Int),.int .u32 (tt:Int),.string nm,vP,vS,.int .i32 en,.int .i64 pos] 49)=W1 at *
       obtain ⟨G,hGG⟩:∃ G,w.heap.size=G:=⟨_,rfl⟩
       rw [hGG] at hG ⊢
       have HGG:=Lib.hid hGG
       have HB0:=Lib.hid hB0
       have HG1:=Lib.hid hG
       clear hB0
       have x0:=hG.cell (j:=0) rfl
       have x1:=hG.cell (j:=1) rfl
       have x2:=hG.cell (j:=2) rfl
       have x3:=hG.cell (j:=3) rfl
       clear hG hGG
       have mixed:Tryz.prog.follows .mixedOrders=true:=by kernel_rfl
       go_upto_region 3 with fail
       go_region
       clear x0 x1 x2 x3
       have HG1b:=Lib.hid (HG1.out.stay (Below.refl _ _).drew)
       have HB1b:=Lib.hid HB0.out.drew
       change Hid (HBox _ G _ _) at HG1b
       generalize W1.drew=W1b at *
       have x0:=HG1b.out.cell (j:=0) rfl
       have x1:=HG1b.out.cell (j:=1) rfl
       have x2:=HG1b.out.cell (j:=2) rfl
       go_wp2_with (first
        | (have hN:=HB2;clear hN;go_at_call 91;refine (KH.out tt _ HB2.out).mono ?_;rintro e w3 ⟨rfl,h3⟩;have HB3:=Lib.hid (HB2.out.trans (h3.mono HB2.out.size));have HG3:=Lib.hid (HG2.out.stay h3);clear h3)
        | (go_at_call 91;refine (KH.out fr _ HB1b.out).mono ?_;rintro e w2 ⟨rfl,h2⟩;have HB2:=Lib.hid (HB1b.out.trans (h2.mono HB1b.out.size));have HG2:=Lib.hid (HG1b.out.stay h2);have q0:=HG2.out.cell (j:=0) rfl;have q1:=HG2.out.cell (j:=1) rfl;have q2:=HG2.out.cell (j:=2) rfl;clear h2))
       go_ret2
       exact ⟨rfl,HB3.out⟩
def IsS (v:Value):Prop:=∃ r n c,v = .slice r n c
theorem IsS.of {α:Type} {enc:α→List Value} {k:Nat} {w:World} {v:Value} {xs:List α} (h:Recs enc k w v xs):IsS v:=by
 obtain ⟨r,c,rfl,_⟩:=h.form
 exact ⟨_,_,_,rfl⟩
theorem IsS.ne {v:Value} (h:IsS v) (k:IntKind) (n:Int):v ≠ .int k n:=by
 obtain ⟨r,m,c,rfl⟩:=h
 intro e
 cases e
theorem nilS:IsS (.slice none 0 0):=⟨_,_,_,rfl⟩
def AccX (w':World) (x:Value) (z:Int):Except Int (List Ac)→Prop
 | .error c=>z=c
 | .ok c=>z=0∧IsS x∧Recs cc 4 w' x c
def UniX (w':World) (x:Value) (z:Int):Except Int (List Nat)→Prop
 | .error c=>z=c
 | .ok u=>z=0∧IsS x∧Recs uc 1 w' x u
theorem AccR.two {w':World} {e:Ending} {r:Except Int (List Ac)} (h:AccR w' e r):∃ x z,e = .returned (.tuple #[x,.int .i64 z])∧AccX w' x z r∧IsS x:=by
 cases r with
 | error c=>exact ⟨_,_,h,rfl,nilS⟩
 | ok c=>obtain ⟨v,rfl,h⟩:=h;exact ⟨_,_,rfl,⟨rfl,IsS.of h,h⟩,IsS.of h⟩
theorem UniR.two {w':World} {e:Ending} {r:Except Int (List Nat)} (h:UniR w' e r):∃ x z,e = .returned (.tuple #[x,.int .i64 z])∧UniX w' x z r∧IsS x:=by
 cases r with
 | error c=>exact ⟨_,_,h,rfl,nilS⟩
 | ok c=>obtain ⟨v,rfl,h⟩:=h;exact ⟨_,_,rfl,⟨rfl,IsS.of h,h⟩,IsS.of h⟩
theorem AccX.stay {w w':World} {x:Value} {z:Int} {r:Except Int (List Ac)} (h:AccX w x z r) (hb:Below w.heap.size w w'):AccX w' x z r:=by
 cases r with
 | error c=>exact h
 | ok c=>exact ⟨h.1,h.2.1,h.2.2.stay hb⟩
theorem UniX.stay {w w':World} {x:Value} {z:Int} {r:Except Int (List Nat)} (h:UniX w x z r) (hb:Below w.heap.size w w'):UniX w' x z r:=by
 cases r with
 | error c=>exact h
 | ok c=>exact ⟨h.1,h.2.1,h.2.2.stay hb⟩
def DoneR (K:Value→List Int→Prop) (w':World) (e:Ending):Except Int Fr→Prop
 | .error c=>∃ a1 b1 d1 a2 b2 d2 a3 b3 d3 x3,e = .returned (.tuple #[.agg #[.slice a1 b1 d1,.slice a2 b2 d2,.slice a3 b3 d3,.int .i32 x3],.int .i64 c])
 | .ok g=>∃ vC vU vS,e = .returned (.tuple #[frV vC vU vS g.E,.int .i64 0])∧FrM g vC vU vS w'∧K vS g.S
theorem HBox.set4g {w:World} {b:Nat} {c0 c1 c2 c3:Value} {T:TypeId} (h:HBox w b [c0,c1,c2,c3] T) (d0 d1 d2 d3:Value):HBox ((((w.setCell ⟨b,0,none⟩ d0).setCell ⟨b,1,none⟩ d1).setCell ⟨b,2,none⟩ d2).setCell ⟨b,3,none⟩ d3) b [d0,d1,d2,d3] T :=
 (((h.set 0 d0).set 1 d1).set 2 d2).set 3 d3
theorem Recs.setF {α:Type} {enc:α→List Value} {k:Nat} {W:World} {v:Value} {xs:List α} (h:Recs enc k W v xs) {X:Nat} {a b c:Value} {e:Int} {T:TypeId} (hB:HBox W X [a,b,c,.int .i32 e] T) (ha:IsS a) (hb:IsS b) (hc:IsS c)
 (h0:∀ x,∃ kk n,(enc x)[0]?=some (.int kk n)∧kk ≠ .i32) (j:Nat) (u:Value):Recs enc k (W.setCell ⟨X,j,none⟩ u) v xs:=by
 rcases h with h | ⟨g,off,cap,h1,h2,h3,h4,h5⟩
 ·exact .inl h
 ·cases hx:xs with
  | nil=>subst hx;exact .inl ⟨_,_,h1,rfl⟩
  | cons y r =>
   rw [← hx]
   have hne:g≠X:=fun e1=>by
    subst e1
    obtain ⟨kk,n,q1,q2⟩:=h0 y
    have q3:=h5 0 y (by rw [hx];rfl) 0 _ q1
    have hB':W.heap[g]?=some (.cells #[a,b,c,.int .i32 e] T (0,0)):=hB
    unfold World.cell? at q3
    simp only [hB'] at q3
    simp only [Nat.zero_mul,Nat.add_zero,Option.isSome_none,Bool.false_eq_true,if_false] at q3
    rcases off with _ | _ | _ | _ | off
    ·simp at q3;exact ha.ne _ _ q3
    ·simp at q3;exact hb.ne _ _ q3
    ·simp at q3;exact hc.ne _ _ q3
    ·simp at q3;exact q2 q3.1.symm
    ·simp at q3
   have hg:=grownBy_set W ⟨X,j,none⟩ u
   exact .inr ⟨g,off,cap,h1,by simpa using h2,h3,h4,fun i x hx j u hu=>(World.cell?_of_block (a:=⟨g,off+i * k+j,none⟩) (hg.block g h2 (fun e=>hne (Option.some.inj e)))).trans (h5 i x hx j u hu)⟩
theorem cc_num (x:Ac):∃ kk n,(cc x)[0]?=some (.int kk n)∧kk ≠ .i32:=⟨_,_,rfl,by decide⟩
theorem uc_num (x:Nat):∃ kk n,(uc x)[0]?=some (.int kk n)∧kk ≠ .i32:=⟨_,_,rfl,by decide⟩
theorem AccX.setF {W:World} {x:Value} {z:Int} {r:Except Int (List Ac)} (h:AccX W x z r) {X:Nat} {a b c:Value} {e:Int} {T:TypeId} (hB:HBox W X [a,b,c,.int .i32 e] T) (ha:IsS a) (hb:IsS b) (hc:IsS c) (j:Nat) (u:Value):AccX (W.setCell ⟨X,j,none⟩ u) x z r:=by
 cases r with
 | error c=>exact h
 | ok c=>exact ⟨h.1,h.2.1,h.2.2.setF hB ha hb hc cc_num j u⟩
theorem UniX.setF {W:World} {x:Value} {z:Int} {r:Except Int (List Nat)} (h:UniX W x z r) {X:Nat} {a b c:Value} {e:Int} {T:TypeId} (hB:HBox W X [a,b,c,.int .i32 e] T) (ha:IsS a) (hb:IsS b) (hc:IsS c) (j:Nat) (u:Value):UniX (W.setCell ⟨X,j,none⟩ u) x z r:=by
 cases r with
 | error c=>exact h
 | ok c=>exact ⟨h.1,h.2.1,h.2.2.setF hB ha hb hc uc_num j u⟩
theorem chart_fin {w W5:World} {G Z:Nat} {vC vU vS x:Value} {E z:Int} {T T':TypeId} {f:Fr} {r:Except Int (List Ac)} (hG:HBox W5 G [vC,vU,vS,.int .i32 E] T) (hZ:HBox W5 Z [.slice none 0 0,.slice none 0 0,.slice none 0 0,.int .i32 0] T') (hF:FrM f vC vU vS w) (hb:Below w.heap.size w W5) (h1:w.heap.size≤G) (h2:w.heap.size≤Z) (hne:G≠Z) (hx:AccX W5 x z r) (hS:IsS x) :
 HBox (((((W5.setCell ⟨G,0,none⟩ x).setCell ⟨Z,0,none⟩ x).setCell ⟨Z,1,none⟩ vU).setCell ⟨Z,2,none⟩ vS).setCell ⟨Z,3,none⟩ (.int .i32 E)) Z [x,vU,vS,.int .i32 E] T'∧Below w.heap.size w (((((W5.setCell ⟨G,0,none⟩ x).setCell ⟨Z,0,none⟩ x).setCell ⟨Z,1,none⟩ vU).setCell ⟨Z,2,none⟩ vS).setCell ⟨Z,3,none⟩ (.int .i32 E))∧AccX (((((W5.setCell ⟨G,0,none⟩ x).setCell ⟨Z,0,none⟩ x).setCell ⟨Z,1,none⟩ vU).setCell ⟨Z,2,none⟩ vS).setCell ⟨Z,3,none⟩ (.int .i32 E)) x z r:=by
 have sC:=IsS.of hF.c
 have sU:=IsS.of hF.u
 have sS:=IsS.of hF.s
 have z0:=hZ.grown (grownBy_set W5 ⟨G,0,none⟩ x) (fun e=>hne (Option.some.inj (show some Z=some G from e)).symm)
 have z1:=z0.set 0 x
 change HBox _ Z [x,.slice none 0 0,.slice none 0 0,.int .i32 0] _ at z1
 have z2:=z1.set 1 vU
 change HBox _ Z [x,vU,.slice none 0 0,.int .i32 0] _ at z2
 have z3:=z2.set 2 vS
 change HBox _ Z [x,vU,vS,.int .i32 0] _ at z3
 have z4:=z3.set 3 (.int .i32 E)
 change HBox _ Z [x,vU,vS,.int .i32 E] _ at z4
 exact ⟨z4,(((((hb.setCell (p:=⟨G,0,none⟩) h1 x).setCell (p:=⟨Z,0,none⟩) h2 x).setCell (p:=⟨Z,1,none⟩) h2 vU).setCell (p:=⟨Z,2,none⟩) h2 vS).setCell (p:=⟨Z,3,none⟩) h2 (.int .i32 E)),
  ((((hx.setF hG sC sU sS 0 x).setF z0 nilS nilS nilS 0 x).setF z1 hS nilS nilS 1 vU).setF z2 hS sU nilS 2 vS).setF z3 hS sU sS 3 (.int .i32 E)⟩
theorem unit_fin {w W5:World} {G Z:Nat} {vC vU vS x:Value} {E z:Int} {T T':TypeId} {f:Fr} {r:Except Int (List Nat)} (hG:HBox W5 G [vC,vU,vS,.int .i32 E] T) (hZ:HBox W5 Z [.slice none 0 0,.slice none 0 0,.slice none 0 0,.int .i32 0] T') (hF:FrM f vC vU vS w) (hb:Below w.heap.size w W5) (h1:w.heap.size≤G) (h2:w.heap.size≤Z) (hne:G≠Z) (hx:UniX W5 x z r) (hS:IsS x) :
 HBox (((((W5.setCell ⟨G,1,none⟩ x).setCell ⟨Z,0,none⟩ vC).setCell ⟨Z,1,none⟩ x).setCell ⟨Z,2,none⟩ vS).setCell ⟨Z,3,none⟩ (.int .i32 E)) Z [vC,x,vS,.int .i32 E] T'∧Below w.heap.size w (((((W5.setCell ⟨G,1,none⟩ x).setCell ⟨Z,0,none⟩ vC).setCell ⟨Z,1,none⟩ x).setCell ⟨Z,2,none⟩ vS).setCell ⟨Z,3,none⟩ (.int .i32 E))∧UniX (((((W5.setCell ⟨G,1,none⟩ x).setCell ⟨Z,0,none⟩ vC).setCell ⟨Z,1,none⟩ x).setCell ⟨Z,2,none⟩ vS).setCell ⟨Z,3,none⟩ (.int .i32 E)) x z r:=by
 have sC:=IsS.of hF.c
 have sU:=IsS.of hF.u
 have sS:=IsS.of hF.s
 have z0:=hZ.grown (grownBy_set W5 ⟨G,1,none⟩ x) (fun e=>hne (Option.some.inj (show some Z=some G from e)).symm)
 have z1:=z0.set 0 vC
 change HBox _ Z [vC,.slice none 0 0,.slice none 0 0,.int .i32 0] _ at z1
 have z2:=z1.set 1 x
 change HBox _ Z [vC,x,.slice none 0 0,.int .i32 0] _ at z2
 have z3:=z2.set 2 vS
 change HBox _ Z [vC,x,vS,.int .i32 0] _ at z3
 have z4:=z3.set 3 (.int .i32 E)
 change HBox _ Z [vC,x,vS,.int .i32 E] _ at z4
 exact ⟨z4,(((((hb.setCell (p:=⟨G,1,none⟩) h1 x).setCell (p:=⟨Z,0,none⟩) h2 vC).setCell (p:=⟨Z,1,none⟩) h2 x).setCell (p:=⟨Z,2,none⟩) h2 vS).setCell (p:=⟨Z,3,none⟩) h2 (.int .i32 E)),
  ((((hx.setF hG sC sU sS 1 x).setF z0 nilS nilS nilS 0 vC).setF z1 sC nilS nilS 1 x).setF z2 sC hS nilS 2 vS).setF z3 sC hS sS 3 (.int .i32 E)⟩
theorem done_c (f:Fr) (vC vU vS:Value) (o:Rop) (vP vO:Value) (pos:Int) (w:World) (hF:FrM f vC vU vS w) (hk:chkF f=0) (hM:RopM w o vP vO) (K:Value→List Int→Prop) (hK1:K vS f.S) (hK2:K vO o.starts) :
 Calls Tryz.prog 35 #[frV vC vU vS f.E,ropV o vP vO pos] w fun e w'=>DoneR K w' e (doneF f o)∧Below w.heap.size w w':=by
 have ho:=FrOk.of hk
 obtain ⟨r1,n1,c1,rfl⟩:=IsS.of hF.c
 obtain ⟨r2,n2,c2,rfl⟩:=IsS.of hF.u
 obtain ⟨r3,n3,c3,rfl⟩:=IsS.of hF.s
 obtain ⟨r4,n4,c4,rfl⟩:=IsS.of hM.starts
 rcases (show o.kind=0∨o.kind=1∨o.kind=2∨o.kind=3∨o.kind=4∨o.kind=5∨o.kind=6∨o.kind=7∨(o.kind<0∨7<o.kind) by omega) with h0 | h0 | h0 | h0 | h0 | h0 | h0 | h0 | h0
 ·have KC:=Lib.hid (fun (W:World) (h:Below w.heap.size w W)=>renumbered_c o vP (.slice r4 n4 c4) pos _ f.C W (hF.c.stay h) ho.riseA (by have:=ho.lenA;omega) h0)
  have hd:doneF f o=(match accF f.C o with | .error e=>.error e | .ok c=>.ok ⟨c,f.U,f.S,f.E⟩):=by unfold doneF;rw [if_pos (by omega)];rfl
  have HD:=Lib.hid hd
  clear hd ho hk
  generalize doneF f o=RR at *
  generalize accF f.C o=r at *
  obtain ⟨FC,FU,FS,E⟩:=f
  obtain ⟨kd,fr,tt,nm,ps,ss,en,_,_,_,_,_,_,_⟩:=o
  simp only at *
  unfold frV ropV
  have k0:((kd:Int) == 0)=true:=by rw [h0];rfl
  have k1:((kd:Int) == 1)=false:=by rw [h0];rfl
  have k2:((kd:Int) == 2)=false:=by rw [h0];rfl
  have k3:((kd:Int) == 3)=false:=by rw [h0];rfl
  have k4:((kd:Int) == 4)=false:=by rw [h0];rfl
  have k5:((kd:Int) == 5)=false:=by rw [h0];rfl
  have k6:((kd:Int) == 6)=false:=by rw [h0];rfl
  have k7:((kd:Int) == 7)=false:=by rw [h0];rfl
  unfold ropV at KC
  simp only at KC
  clear h0
  have hB0:=(((Below.refl w.heap.size w).alloc (Nat.le_refl _) (.cells #[.slice r1 n1 c1,.slice r2 n2 c2,.slice r3 n3 c3,.int .i32 E] 41)).alloc (by simp) (.cells #[.int .i64 kd,.int .u32 (fr:Int),.int .u32 (tt:Int),.string nm,vP,.slice r4 n4 c4,.int .i32 en,.int .i64 pos] 49)).alloc (by simp;omega) (.cells #[.slice none 0 0,.slice none 0 0,.slice none 0 0,.int .i32 0] 41)
  have hG:=((HBox.new w [.slice r1 n1 c1,.slice r2 n2 c2,.slice r3 n3 c3,.int .i32 E] 41).alloc (.cells #[.int .i64 kd,.int .u32 (fr:Int),.int .u32 (tt:Int),.string nm,vP,.slice r4 n4 c4,.int .i32 en,.int .i64 pos] 49)).alloc (.cells #[.slice none 0 0,.slice none 0 0,.slice none 0 0,.int .i32 0] 41)
  have hO:=(HBox.new (w.alloc (.cells #[.slice r1 n1 c1,.slice r2 n2 c2,.slice r3 n3 c3,.int .i32 E] 41)) [.int .i64 kd,.int .u32 (fr:Int),.int .u32 (tt:Int),.string nm,vP,.slice r4 n4 c4,.int .i32 en,.int .i64 pos] 49).alloc (.cells #[.slice none 0 0,.slice none 0 0,.slice none 0 0,.int .i32 0] 41)
  have hZ:=HBox.new ((w.alloc (.cells #[.slice r1 n1 c1,.slice r2 n2 c2,.slice r3 n3 c3,.int .i32 E] 41)).alloc (.cells #[.int .i64 kd,.int .u32 (fr:Int),.int .u32 (tt:Int),.string nm,vP,.slice r4 n4 c4,.int .i32 en,.int .i64 pos] 49)) [.slice none 0 0,.slice none 0 0,.slice none 0 0,.int .i32 0] 41
  rw [show (w.alloc (.cells #[.slice r1 n1 c1,.slice r2 n2 c2,.slice r3 n3 c3,.int .i32 E] 41)).heap.size=w.heap.size+1 by simp] at hO
  rw [show ((w.alloc (.cells #[.slice r1 n1 c1,.slice r2 n2 c2,.slice r3 n3 c3,.int .i32 E] 41)).alloc (.cells #[.int .i64 kd,.int .u32 (fr:Int),.int .u32 (tt:Int),.string nm,vP,.slice r4 n4 c4,.int .i32 en,.int .i64 pos] 49)).heap.size=w.heap.size+1+1 by simp] at hZ
  change HBox (((w.alloc (.cells #[.slice r1 n1 c1,.slice r2 n2 c2,.slice r3 n3 c3,.int .i32 E] 41)).alloc (.cells #[.int .i64 kd,.int .u32 (fr:Int),.int .u32 (tt:Int),.string nm,vP,.slice r4 n4 c4,.int .i32 en,.int .i64 pos] 49)).alloc (.cells #[.slice none 0 0,.slice none 0 0,.slice none 0 0,.int .i32 0] 41)) _ _ _ at hG hO hZ
  go_enter Tryz.func35,Tryz.ntmps35
  go_upto_region 1 with fail
  generalize ((w.alloc (.cells #[.slice r1 n1 c1,.slice r2 n2 c2,.slice r3 n3 c3,.int .i32 E] 41)).alloc (.cells #[.int .i64 kd,.int .u32 (fr:Int),.int .u32 (tt:Int),.string nm,vP,.slice r4 n4 c4,.int .i32 en,.int .i64 pos] 49)).alloc (.cells #[.slice none 0 0,.slice none 0 0,.slice none 0 0,.int .i32 0] 41)=W1 at *
  obtain ⟨G,hGG⟩:∃ G,w.heap.size=G:=⟨_,rfl⟩
  rw [hGG] at hG hO hZ ⊢
  have HGG:=Lib.hid hGG
  have HB0:=Lib.hid hB0
  have HG1:=Lib.hid hG
  have HO1:=Lib.hid hO
  have HZ1:=Lib.hid hZ
  have HF:=Lib.hid hF
  have HM:=Lib.hid hM
  have g0:=hG.cell (j:=0) rfl
  have g1:=hG.cell (j:=1) rfl
  have g2:=hG.cell (j:=2) rfl
  have g3:=hG.cell (j:=3) rfl
  have o0:=hO.cell (j:=0) rfl
  have o1:=hO.cell (j:=1) rfl
  have o2:=hO.cell (j:=2) rfl
  have o3:=hO.cell (j:=3) rfl
  have o4:=hO.cell (j:=4) rfl
  have o5:=hO.cell (j:=5) rfl
  have o6:=hO.cell (j:=6) rfl
  have o7:=hO.cell (j:=7) rfl
  clear hG hO hZ hB0 hGG hF hM
  go_wp2_with (go_at_call 55;refine (KC.out _ HB0.out).mono ?_;rintro e w5 ⟨hr,h5⟩;obtain ⟨x5,z5,rfl,hx,⟨rx,nx,cx,rfl⟩⟩:=AccR.two hr;have HX5:=Lib.hid hx;have HB5:=Lib.hid (HB0.out.trans (h5.mono HB0.out.size));have HG5:=Lib.hid (HG1.out.stay h5);have HZ5:=Lib.hid (HZ1.out.stay h5);have p0:=HG5.out.cell (j:=0) rfl;have q0:=HZ5.out.cell (j:=0) rfl;have s0:=HG5.out.frozen 0;have t0:=HZ5.out.frozen 0;have p1:=HG5.out.cell (j:=1) rfl;have q1:=HZ5.out.cell (j:=1) rfl;have s1:=HG5.out.frozen 1;have t1:=HZ5.out.frozen 1;have p2:=HG5.out.cell (j:=2) rfl;have q2:=HZ5.out.cell (j:=2) rfl;have s2:=HG5.out.frozen 2;have t2:=HZ5.out.frozen 2;have p3:=HG5.out.cell (j:=3) rfl;have q3:=HZ5.out.cell (j:=3) rfl;have s3:=HG5.out.frozen 3;have t3:=HZ5.out.frozen 3;have hs1:=HG5.out.size;have hs2:=HZ5.out.size;clear h5 hr hx)
  have hfin:=chart_fin HG5.out HZ5.out HF.out HB5.out (Nat.le_of_eq HGG.out) (by have:=HGG.out;omega) (by omega) HX5.out ⟨_,_,_,rfl⟩
  have HFIN:=Lib.hid hfin
  clear hfin
  generalize ((((w5.setCell ⟨G,0,none⟩ (.slice rx nx cx)).setCell ⟨G+1+1,0,none⟩ (.slice rx nx cx)).setCell ⟨G+1+1,1,none⟩ (.slice r2 n2 c2)).setCell ⟨G+1+1,2,none⟩ (.slice r3 n3 c3)).setCell ⟨G+1+1,3,none⟩ (.int .i32 E)=W9 at *
  have hb9:=HFIN.out.1
  have e0:=hb9.cell (j:=0) rfl
  have e1:=hb9.cell (j:=1) rfl
  have e2:=hb9.cell (j:=2) rfl
  have e3:=hb9.cell (j:=3) rfl
  clear hb9
  refine bodyPost_ret (v:=.tuple #[.agg #[(.slice rx nx cx),(.slice r2 n2 c2),.slice r3 n3 c3,.int .i32 E],.int .i64 z5]) (by simp [results,Tryz.results35,go_sem,e0,e1,e2,e3]) rfl ?_
  obtain ⟨_,q2,q3⟩:=HFIN.out
  refine ⟨?_,q2⟩
  rw [HD.out]
  cases r with
  | error c=>exact ⟨_,_,_,_,_,_,_,_,_,_,by rw [show z5=c from q3]⟩
  | ok c=>exact ⟨_,_,_,by rw [show z5=0 from q3.1];rfl,⟨q3.2.2,(HF.out.stay q2).u,(HF.out.stay q2).s⟩,hK1⟩
 ·have KC:=Lib.hid (fun (W:World) (h:Below w.heap.size w W)=>changed_c o vP (.slice r4 n4 c4) pos _ f.C W (hF.c.stay h) ho.riseA (by have:=ho.lenA;omega) (.inl h0))
  have hd:doneF f o=(match accF f.C o with | .error e=>.error e | .ok c=>.ok ⟨c,f.U,f.S,f.E⟩):=by unfold doneF;rw [if_pos (by omega)];rfl
  have HD:=Lib.hid hd
  clear hd ho hk
  generalize doneF f o=RR at *
  generalize accF f.C o=r at *
  obtain ⟨FC,FU,FS,E⟩:=f
  obtain ⟨kd,fr,tt,nm,ps,ss,en,_,_,_,_,_,_,_⟩:=o
  simp only at *
  unfold frV ropV
  have k0:((kd:Int) == 0)=false:=by rw [h0];rfl
  have k1:((kd:Int) == 1)=true:=by rw [h0];rfl
  have k2:((kd:Int) == 2)=false:=by rw [h0];rfl
  have k3:((kd:Int) == 3)=false:=by rw [h0];rfl
  have k4:((kd:Int) == 4)=false:=by rw [h0];rfl
  have k5:((kd:Int) == 5)=false:=by rw [h0];rfl
  have k6:((kd:Int) == 6)=false:=by rw [h0];rfl
  have k7:((kd:Int) == 7)=false:=by rw [h0];rfl
  unfold ropV at KC
  simp only at KC
  clear h0
  have hB0:=(((Below.refl w.heap.size w).alloc (Nat.le_refl _) (.cells #[.slice r1 n1 c1,.slice r2 n2 c2,.slice r3 n3 c3,.int .i32 E] 41)).alloc (by simp) (.cells #[.int .i64 kd,.int .u32 (fr:Int),.int .u32 (tt:Int),.string nm,vP,.slice r4 n4 c4,.int .i32 en,.int .i64 pos] 49)).alloc (by simp;omega) (.cells #[.slice none 0 0,.slice none 0 0,.slice none 0 0,.int .i32 0] 41)
  have hG:=((HBox.new w [.slice r1 n1 c1,.slice r2 n2 c2,.slice r3 n3 c3,.int .i32 E] 41).alloc (.cells #[.int .i64 kd,.int .u32 (fr:Int),.int .u32 (tt:Int),.string nm,vP,.slice r4 n4 c4,.int .i32 en,.int .i64 pos] 49)).alloc (.cells #[.slice none 0 0,.slice none 0 0,.slice none 0 0,.int .i32 0] 41)
  have hO:=(HBox.new (w.alloc (.cells #[.slice r1 n1 c1,.slice r2 n2 c2,.slice r3 n3 c3,.int .i32 E] 41)) [.int .i64 kd,.int .u32 (fr:Int),.int .u32 (tt:Int),.string nm,vP,.slice r4 n4 c4,.int .i32 en,.int .i64 pos] 49).alloc (.cells #[.slice none 0 0,.slice none 0 0,.slice none 0 0,.int .i32 0] 41)
  have hZ:=HBox.new ((w.alloc (.cells #[.slice r1 n1 c1,.slice r2 n2 c2,.slice r3 n3 c3,.int .i32 E] 41)).alloc (.cells #[.int .i64 kd,.int .u32 (fr:Int),.int .u32 (tt:Int),.string nm,vP,.slice r4 n4 c4,.int .i32 en,.int .i64 pos] 49)) [.slice none 0 0,.slice none 0 0,.slice none 0 0,.int .i32 0] 41
  rw [show (w.alloc (.cells #[.slice r1 n1 c1,.slice r2 n2 c2,.slice r3 n3 c3,.int .i32 E] 41)).heap.size=w.heap.size+1 by simp] at hO
  rw [show ((w.alloc (.cells #[.slice r1 n1 c1,.slice r2 n2 c2,.slice r3 n3 c3,.int .i32 E] 41)).alloc (.cells #[.int .i64 kd,.int .u32 (fr:Int),.int .u32 (tt:Int),.string nm,vP,.slice r4 n4 c4,.int .i32 en,.int .i64 pos] 49)).heap.size=w.heap.size+1+1 by simp] at hZ
  change HBox (((w.alloc (.cells #[.slice r1 n1 c1,.slice r2 n2 c2,.slice r3 n3 c3,.int .i32 E] 41)).alloc (.cells #[.int .i64 kd,.int .u32 (fr:Int),.int .u32 (tt:Int),.string nm,vP,.slice r4 n4 c4,.int .i32 en,.int .i64 pos] 49)).alloc (.cells #[.slice none 0 0,.slice none 0 0,.slice none 0 0,.int .i32 0] 41)) _ _ _ at hG hO hZ
  go_enter Tryz.func35,Tryz.ntmps35
  go_upto_region 1 with fail
  generalize ((w.alloc (.cells #[.slice r1 n1 c1,.slice r2 n2 c2,.slice r3 n3 c3,.int .i32 E] 41)).alloc (.cells #[.int .i64 kd,.int .u32 (fr:Int),.int .u32 (tt:Int),.string nm,vP,.slice r4 n4 c4,.int .i32 en,.int .i64 pos] 49)).alloc (.cells #[.slice none 0 0,.slice none 0 0,.slice none 0 0,.int .i32 0] 41)=W1 at *
  obtain ⟨G,hGG⟩:∃ G,w.heap.size=G:=⟨_,rfl⟩
  rw [hGG] at hG hO hZ ⊢
  have HGG:=Lib.hid hGG
  have HB0:=Lib.hid hB0
  have HG1:=Lib.hid hG
  have HO1:=Lib.hid hO
  have HZ1:=Lib.hid hZ
  have HF:=Lib.hid hF
  have HM:=Lib.hid hM
  have g0:=hG.cell (j:=0) rfl
  have g1:=hG.cell (j:=1) rfl
  have g2:=hG.cell (j:=2) rfl
  have g3:=hG.cell (j:=3) rfl
  have o0:=hO.cell (j:=0) rfl
  have o1:=hO.cell (j:=1) rfl
  have o2:=hO.cell (j:=2) rfl
  have o3:=hO.cell (j:=3) rfl
  have o4:=hO.cell (j:=4) rfl
  have o5:=hO.cell (j:=5) rfl
  have o6:=hO.cell (j:=6) rfl
  have o7:=hO.cell (j:=7) rfl
  clear hG hO hZ hB0 hGG hF hM
  go_wp2_with (go_at_call 56;refine (KC.out _ HB0.out).mono ?_;rintro e w5 ⟨hr,h5⟩;obtain ⟨x5,z5,rfl,hx,⟨rx,nx,cx,rfl⟩⟩:=AccR.two hr;have HX5:=Lib.hid hx;have HB5:=Lib.hid (HB0.out.trans (h5.mono HB0.out.size));have HG5:=Lib.hid (HG1.out.stay h5);have HZ5:=Lib.hid (HZ1.out.stay h5);have p0:=HG5.out.cell (j:=0) rfl;have q0:=HZ5.out.cell (j:=0) rfl;have s0:=HG5.out.frozen 0;have t0:=HZ5.out.frozen 0;have p1:=HG5.out.cell (j:=1) rfl;have q1:=HZ5.out.cell (j:=1) rfl;have s1:=HG5.out.frozen 1;have t1:=HZ5.out.frozen 1;have p2:=HG5.out.cell (j:=2) rfl;have q2:=HZ5.out.cell (j:=2) rfl;have s2:=HG5.out.frozen 2;have t2:=HZ5.out.frozen 2;have p3:=HG5.out.cell (j:=3) rfl;have q3:=HZ5.out.cell (j:=3) rfl;have s3:=HG5.out.frozen 3;have t3:=HZ5.out.frozen 3;have hs1:=HG5.out.size;have hs2:=HZ5.out.size;clear h5 hr hx)
  have hfin:=chart_fin HG5.out HZ5.out HF.out HB5.out (Nat.le_of_eq HGG.out) (by have:=HGG.out;omega) (by omega) HX5.out ⟨_,_,_,rfl⟩
  have HFIN:=Lib.hid hfin
  clear hfin
  generalize ((((w5.setCell ⟨G,0,none⟩ (.slice rx nx cx)).setCell ⟨G+1+1,0,none⟩ (.slice rx nx cx)).setCell ⟨G+1+1,1,none⟩ (.slice r2 n2 c2)).setCell ⟨G+1+1,2,none⟩ (.slice r3 n3 c3)).setCell ⟨G+1+1,3,none⟩ (.int .i32 E)=W9 at *
  have hb9:=HFIN.out.1
  have e0:=hb9.cell (j:=0) rfl
  have e1:=hb9.cell (j:=1) rfl
  have e2:=hb9.cell (j:=2) rfl
  have e3:=hb9.cell (j:=3) rfl
  clear hb9
  refine bodyPost_ret (v:=.tuple #[.agg #[(.slice rx nx cx),(.slice r2 n2 c2),.slice r3 n3 c3,.int .i32 E],.int .i64 z5]) (by simp [results,Tryz.results35,go_sem,e0,e1,e2,e3]) rfl ?_
  obtain ⟨_,q2,q3⟩:=HFIN.out
  refine ⟨?_,q2⟩
  rw [HD.out]
  cases r with
  | error c=>exact ⟨_,_,_,_,_,_,_,_,_,_,by rw [show z5=c from q3]⟩
  | ok c=>exact ⟨_,_,_,by rw [show z5=0 from q3.1];rfl,⟨q3.2.2,(HF.out.stay q2).u,(HF.out.stay q2).s⟩,hK1⟩
 ·have KC:=Lib.hid (fun (W:World) (h:Below w.heap.size w W)=>changed_c o vP (.slice r4 n4 c4) pos _ f.C W (hF.c.stay h) ho.riseA (by have:=ho.lenA;omega) (.inr h0))
  have hd:doneF f o=(match accF f.C o with | .error e=>.error e | .ok c=>.ok ⟨c,f.U,f.S,f.E⟩):=by unfold doneF;rw [if_pos (by omega)];rfl
  have HD:=Lib.hid hd
  clear hd ho hk
  generalize doneF f o=RR at *
  generalize accF f.C o=r at *
  obtain ⟨FC,FU,FS,E⟩:=f
  obtain ⟨kd,fr,tt,nm,ps,ss,en,_,_,_,_,_,_,_⟩:=o
  simp only at *
  unfold frV ropV
  have k0:((kd:Int) == 0)=false:=by rw [h0];rfl
  have k1:((kd:Int) == 1)=false:=by rw [h0];rfl
  have k2:((kd:Int) == 2)=true:=by rw [h0];rfl
  have k3:((kd:Int) == 3)=false:=by rw [h0];rfl
  have k4:((kd:Int) == 4)=false:=by rw [h0];rfl
  have k5:((kd:Int) == 5)=false:=by rw [h0];rfl
  have k6:((kd:Int) == 6)=false:=by rw [h0];rfl
  have k7:((kd:Int) == 7)=false:=by rw [h0];rfl
  unfold ropV at KC
  simp only at KC
  clear h0
  have hB0:=(((Below.refl w.heap.size w).alloc (Nat.le_refl _) (.cells #[.slice r1 n1 c1,.slice r2 n2 c2,.slice r3 n3 c3,.int .i32 E] 41)).alloc (by simp) (.cells #[.int .i64 kd,.int .u32 (fr:Int),.int .u32 (tt:Int),.string nm,vP,.slice r4 n4 c4,.int .i32 en,.int .i64 pos] 49)).alloc (by simp;omega) (.cells #[.slice none 0 0,.slice none 0 0,.slice none 0 0,.int .i32 0] 41)
  have hG:=((HBox.new w [.slice r1 n1 c1,.slice r2 n2 c2,.slice r3 n3 c3,.int .i32 E] 41).alloc (.cells #[.int .i64 kd,.int .u32 (fr:Int),.int .u32 (tt:Int),.string nm,vP,.slice r4 n4 c4,.int .i32 en,.int .i64 pos] 49)).alloc (.cells #[.slice none 0 0,.slice none 0 0,.slice none 0 0,.int .i32 0] 41)
  have hO:=(HBox.new (w.alloc (.cells #[.slice r1 n1 c1,.slice r2 n2 c2,.slice r3 n3 c3,.int .i32 E] 41)) [.int .i64 kd,.int .u32 (fr:Int),.int .u32 (tt:Int),.string nm,vP,.slice r4 n4 c4,.int .i32 en,.int .i64 pos] 49).alloc (.cells #[.slice none 0 0,.slice none 0 0,.slice none 0 0,.int .i32 0] 41)
  have hZ:=HBox.new ((w.alloc (.cells #[.slice r1 n1 c1,.slice r2 n2 c2,.slice r3 n3 c3,.int .i32 E] 41)).alloc (.cells #[.int .i64 kd,.int .u32 (fr:Int),.int .u32 (tt:Int),.string nm,vP,.slice r4 n4 c4,.int .i32 en,.int .i64 pos] 49)) [.slice none 0 0,.slice none 0 0,.slice none 0 0,.int .i32 0] 41
  rw [show (w.alloc (.cells #[.slice r1 n1 c1,.slice r2 n2 c2,.slice r3 n3 c3,.int .i32 E] 41)).heap.size=w.heap.size+1 by simp] at hO
  rw [show ((w.alloc (.cells #[.slice r1 n1 c1,.slice r2 n2 c2,.slice r3 n3 c3,.int .i32 E] 41)).alloc (.cells #[.int .i64 kd,.int .u32 (fr:Int),.int .u32 (tt:Int),.string nm,vP,.slice r4 n4 c4,.int .i32 en,.int .i64 pos] 49)).heap.size=w.heap.size+1+1 by simp] at hZ
  change HBox (((w.alloc (.cells #[.slice r1 n1 c1,.slice r2 n2 c2,.slice r3 n3 c3,.int .i32 E] 41)).alloc (.cells #[.int .i64 kd,.int .u32 (fr:Int),.int .u32 (tt:Int),.string nm,vP,.slice r4 n4 c4,.int .i32 en,.int .i64 pos] 49)).alloc (.cells #[.slice none 0 0,.slice none 0 0,.slice none 0 0,.int .i32 0] 41)) _ _ _ at hG hO hZ
  go_enter Tryz.func35,Tryz.ntmps35
  go_upto_region 1 with fail
  generalize ((w.alloc (.cells #[.slice r1 n1 c1,.slice r2 n2 c2,.slice r3 n3 c3,.int .i32 E] 41)).alloc (.cells #[.int .i64 kd,.int .u32 (fr:Int),.int .u32 (tt:Int),.string nm,vP,.slice r4 n4 c4,.int .i32 en,.int .i64 pos] 49)).alloc (.cells #[.slice none 0 0,.slice none 0 0,.slice none 0 0,.int .i32 0] 41)=W1 at *
  obtain ⟨G,hGG⟩:∃ G,w.heap.size=G:=⟨_,rfl⟩
  rw [hGG] at hG hO hZ ⊢
  have HGG:=Lib.hid hGG
  have HB0:=Lib.hid hB0
  have HG1:=Lib.hid hG
  have HO1:=Lib.hid hO
  have HZ1:=Lib.hid hZ
  have HF:=Lib.hid hF
  have HM:=Lib.hid hM
  have g0:=hG.cell (j:=0) rfl
  have g1:=hG.cell (j:=1) rfl
  have g2:=hG.cell (j:=2) rfl
  have g3:=hG.cell (j:=3) rfl
  have o0:=hO.cell (j:=0) rfl
  have o1:=hO.cell (j:=1) rfl
  have o2:=hO.cell (j:=2) rfl
  have o3:=hO.cell (j:=3) rfl
  have o4:=hO.cell (j:=4) rfl
  have o5:=hO.cell (j:=5) rfl
  have o6:=hO.cell (j:=6) rfl
  have o7:=hO.cell (j:=7) rfl
  clear hG hO hZ hB0 hGG hF hM
  go_wp2_with (go_at_call 56;refine (KC.out _ HB0.out).mono ?_;rintro e w5 ⟨hr,h5⟩;obtain ⟨x5,z5,rfl,hx,⟨rx,nx,cx,rfl⟩⟩:=AccR.two hr;have HX5:=Lib.hid hx;have HB5:=Lib.hid (HB0.out.trans (h5.mono HB0.out.size));have HG5:=Lib.hid (HG1.out.stay h5);have HZ5:=Lib.hid (HZ1.out.stay h5);have p0:=HG5.out.cell (j:=0) rfl;have q0:=HZ5.out.cell (j:=0) rfl;have s0:=HG5.out.frozen 0;have t0:=HZ5.out.frozen 0;have p1:=HG5.out.cell (j:=1) rfl;have q1:=HZ5.out.cell (j:=1) rfl;have s1:=HG5.out.frozen 1;have t1:=HZ5.out.frozen 1;have p2:=HG5.out.cell (j:=2) rfl;have q2:=HZ5.out.cell (j:=2) rfl;have s2:=HG5.out.frozen 2;have t2:=HZ5.out.frozen 2;have p3:=HG5.out.cell (j:=3) rfl;have q3:=HZ5.out.cell (j:=3) rfl;have s3:=HG5.out.frozen 3;have t3:=HZ5.out.frozen 3;have hs1:=HG5.out.size;have hs2:=HZ5.out.size;clear h5 hr hx)
  have hfin:=chart_fin HG5.out HZ5.out HF.out HB5.out (Nat.le_of_eq HGG.out) (by have:=HGG.out;omega) (by omega) HX5.out ⟨_,_,_,rfl⟩
  have HFIN:=Lib.hid hfin
  clear hfin
  generalize ((((w5.setCell ⟨G,0,none⟩ (.slice rx nx cx)).setCell ⟨G+1+1,0,none⟩ (.slice rx nx cx)).setCell ⟨G+1+1,1,none⟩ (.slice r2 n2 c2)).setCell ⟨G+1+1,2,none⟩ (.slice r3 n3 c3)).setCell ⟨G+1+1,3,none⟩ (.int .i32 E)=W9 at *
  have hb9:=HFIN.out.1
  have e0:=hb9.cell (j:=0) rfl
  have e1:=hb9.cell (j:=1) rfl
  have e2:=hb9.cell (j:=2) rfl
  have e3:=hb9.cell (j:=3) rfl
  clear hb9
  refine bodyPost_ret (v:=.tuple #[.agg #[(.slice rx nx cx),(.slice r2 n2 c2),.slice r3 n3 c3,.int .i32 E],.int .i64 z5]) (by simp [results,Tryz.results35,go_sem,e0,e1,e2,e3]) rfl ?_
  obtain ⟨_,q2,q3⟩:=HFIN.out
  refine ⟨?_,q2⟩
  rw [HD.out]
  cases r with
  | error c=>exact ⟨_,_,_,_,_,_,_,_,_,_,by rw [show z5=c from q3]⟩
  | ok c=>exact ⟨_,_,_,by rw [show z5=0 from q3.1];rfl,⟨q3.2.2,(HF.out.stay q2).u,(HF.out.stay q2).s⟩,hK1⟩
 ·have KC:=Lib.hid (fun (W:World) (h:Below w.heap.size w W)=>merged_c o vP (.slice r4 n4 c4) pos _ f.C W (hF.c.stay h) ho.riseA (by have:=ho.lenA;omega) h0)
  have hd:doneF f o=(match accF f.C o with | .error e=>.error e | .ok c=>.ok ⟨c,f.U,f.S,f.E⟩):=by unfold doneF;rw [if_pos (by omega)];rfl
  have HD:=Lib.hid hd
  clear hd ho hk
  generalize doneF f o=RR at *
  generalize accF f.C o=r at *
  obtain ⟨FC,FU,FS,E⟩:=f
  obtain ⟨kd,fr,tt,nm,ps,ss,en,_,_,_,_,_,_,_⟩:=o
  simp only at *
  unfold frV ropV
  have k0:((kd:Int) == 0)=false:=by rw [h0];rfl
  have k1:((kd:Int) == 1)=false:=by rw [h0];rfl
  have k2:((kd:Int) == 2)=false:=by rw [h0];rfl
  have k3:((kd:Int) == 3)=true:=by rw [h0];rfl
  have k4:((kd:Int) == 4)=false:=by rw [h0];rfl
  have k5:((kd:Int) == 5)=false:=by rw [h0];rfl
  have k6:((kd:Int) == 6)=false:=by rw [h0];rfl
  have k7:((kd:Int) == 7)=false:=by rw [h0];rfl
  unfold ropV at KC
  simp only at KC
  clear h0
  have hB0:=(((Below.refl w.heap.size w).alloc (Nat.le_refl _) (.cells #[.slice r1 n1 c1,.slice r2 n2 c2,.slice r3 n3 c3,.int .i32 E] 41)).alloc (by simp) (.cells #[.int .i64 kd,.int .u32 (fr:Int),.int .u32 (tt:Int),.string nm,vP,.slice r4 n4 c4,.int .i32 en,.int .i64 pos] 49)).alloc (by simp;omega) (.cells #[.slice none 0 0,.slice none 0 0,.slice none 0 0,.int .i32 0] 41)
  have hG:=((HBox.new w [.slice r1 n1 c1,.slice r2 n2 c2,.slice r3 n3 c3,.int .i32 E] 41).alloc (.cells #[.int .i64 kd,.int .u32 (fr:Int),.int .u32 (tt:Int),.string nm,vP,.slice r4 n4 c4,.int .i32 en,.int .i64 pos] 49)).alloc (.cells #[.slice none 0 0,.slice none 0 0,.slice none 0 0,.int .i32 0] 41)
  have hO:=(HBox.new (w.alloc (.cells #[.slice r1 n1 c1,.slice r2 n2 c2,.slice r3 n3 c3,.int .i32 E] 41)) [.int .i64 kd,.int .u32 (fr:Int),.int .u32 (tt:Int),.string nm,vP,.slice r4 n4 c4,.int .i32 en,.int .i64 pos] 49).alloc (.cells #[.slice none 0 0,.slice none 0 0,.slice none 0 0,.int .i32 0] 41)
  have hZ:=HBox.new ((w.alloc (.cells #[.slice r1 n1 c1,.slice r2 n2 c2,.slice r3 n3 c3,.int .i32 E] 41)).alloc (.cells #[.int .i64 kd,.int .u32 (fr:Int),.int .u32 (tt:Int),.string nm,vP,.slice r4 n4 c4,.int .i32 en,.int .i64 pos] 49)) [.slice none 0 0,.slice none 0 0,.slice none 0 0,.int .i32 0] 41
  rw [show (w.alloc (.cells #[.slice r1 n1 c1,.slice r2 n2 c2,.slice r3 n3 c3,.int .i32 E] 41)).heap.size=w.heap.size+1 by simp] at hO
  rw [show ((w.alloc (.cells #[.slice r1 n1 c1,.slice r2 n2 c2,.slice r3 n3 c3,.int .i32 E] 41)).alloc (.cells #[.int .i64 kd,.int .u32 (fr:Int),.int .u32 (tt:Int),.string nm,vP,.slice r4 n4 c4,.int .i32 en,.int .i64 pos] 49)).heap.size=w.heap.size+1+1 by simp] at hZ
  change HBox (((w.alloc (.cells #[.slice r1 n1 c1,.slice r2 n2 c2,.slice r3 n3 c3,.int .i32 E] 41)).alloc (.cells #[.int .i64 kd,.int .u32 (fr:Int),.int .u32 (tt:Int),.string nm,vP,.slice r4 n4 c4,.int .i32 en,.int .i64 pos] 49)).alloc (.cells #[.slice none 0 0,.slice none 0 0,.slice none 0 0,.int .i32 0] 41)) _ _ _ at hG hO hZ
  go_enter Tryz.func35,Tryz.ntmps35
  go_upto_region 1 with fail
  generalize ((w.alloc (.cells #[.slice r1 n1 c1,.slice r2 n2 c2,.slice r3 n3 c3,.int .i32 E] 41)).alloc (.cells #[.int .i64 kd,.int .u32 (fr:Int),.int .u32 (tt:Int),.string nm,vP,.slice r4 n4 c4,.int .i32 en,.int .i64 pos] 49)).alloc (.cells #[.slice none 0 0,.slice none 0 0,.slice none 0 0,.int .i32 0] 41)=W1 at *
  obtain ⟨G,hGG⟩:∃ G,w.heap.size=G:=⟨_,rfl⟩
  rw [hGG] at hG hO hZ ⊢
  have HGG:=Lib.hid hGG
  have HB0:=Lib.hid hB0
  have HG1:=Lib.hid hG
  have HO1:=Lib.hid hO
  have HZ1:=Lib.hid hZ
  have HF:=Lib.hid hF
  have HM:=Lib.hid hM
  have g0:=hG.cell (j:=0) rfl
  have g1:=hG.cell (j:=1) rfl
  have g2:=hG.cell (j:=2) rfl
  have g3:=hG.cell (j:=3) rfl
  have o0:=hO.cell (j:=0) rfl
  have o1:=hO.cell (j:=1) rfl
  have o2:=hO.cell (j:=2) rfl
  have o3:=hO.cell (j:=3) rfl
  have o4:=hO.cell (j:=4) rfl
  have o5:=hO.cell (j:=5) rfl
  have o6:=hO.cell (j:=6) rfl
  have o7:=hO.cell (j:=7) rfl
  clear hG hO hZ hB0 hGG hF hM
  go_wp2_with (go_at_call 57;refine (KC.out _ HB0.out).mono ?_;rintro e w5 ⟨hr,h5⟩;obtain ⟨x5,z5,rfl,hx,⟨rx,nx,cx,rfl⟩⟩:=AccR.two hr;have HX5:=Lib.hid hx;have HB5:=Lib.hid (HB0.out.trans (h5.mono HB0.out.size));have HG5:=Lib.hid (HG1.out.stay h5);have HZ5:=Lib.hid (HZ1.out.stay h5);have p0:=HG5.out.cell (j:=0) rfl;have q0:=HZ5.out.cell (j:=0) rfl;have s0:=HG5.out.frozen 0;have t0:=HZ5.out.frozen 0;have p1:=HG5.out.cell (j:=1) rfl;have q1:=HZ5.out.cell (j:=1) rfl;have s1:=HG5.out.frozen 1;have t1:=HZ5.out.frozen 1;have p2:=HG5.out.cell (j:=2) rfl;have q2:=HZ5.out.cell (j:=2) rfl;have s2:=HG5.out.frozen 2;have t2:=HZ5.out.frozen 2;have p3:=HG5.out.cell (j:=3) rfl;have q3:=HZ5.out.cell (j:=3) rfl;have s3:=HG5.out.frozen 3;have t3:=HZ5.out.frozen 3;have hs1:=HG5.out.size;have hs2:=HZ5.out.size;clear h5 hr hx)
  have hfin:=chart_fin HG5.out HZ5.out HF.out HB5.out (Nat.le_of_eq HGG.out) (by have:=HGG.out;omega) (by omega) HX5.out ⟨_,_,_,rfl⟩
  have HFIN:=Lib.hid hfin
  clear hfin
  generalize ((((w5.setCell ⟨G,0,none⟩ (.slice rx nx cx)).setCell ⟨G+1+1,0,none⟩ (.slice rx nx cx)).setCell ⟨G+1+1,1,none⟩ (.slice r2 n2 c2)).setCell ⟨G+1+1,2,none⟩ (.slice r3 n3 c3)).setCell ⟨G+1+1,3,none⟩ (.int .i32 E)=W9 at *
  have hb9:=HFIN.out.1
  have e0:=hb9.cell (j:=0) rfl
  have e1:=hb9.cell (j:=1) rfl
  have e2:=hb9.cell (j:=2) rfl
  have e3:=hb9.cell (j:=3) rfl
  clear hb9
  refine bodyPost_ret (v:=.tuple #[.agg #[(.slice rx nx cx),(.slice r2 n2 c2),.slice r3 n3 c3,.int .i32 E],.int .i64 z5]) (by simp [results,Tryz.results35,go_sem,e0,e1,e2,e3]) rfl ?_
  obtain ⟨_,q2,q3⟩:=HFIN.out
  refine ⟨?_,q2⟩
  rw [HD.out]
  cases r with
  | error c=>exact ⟨_,_,_,_,_,_,_,_,_,_,by rw [show z5=c from q3]⟩
  | ok c=>exact ⟨_,_,_,by rw [show z5=0 from q3.1];rfl,⟨q3.2.2,(HF.out.stay q2).u,(HF.out.stay q2).s⟩,hK1⟩
 ·have KC:=Lib.hid (fun (W:World) (h:Below w.heap.size w W)=>divided_c o vP (.slice r4 n4 c4) pos _ f.C W (hF.c.stay h) ho.riseA (by have:=ho.lenA;omega) h0 (hM.stay h))
  have hd:doneF f o=(match accF f.C o with | .error e=>.error e | .ok c=>.ok ⟨c,f.U,f.S,f.E⟩):=by unfold doneF;rw [if_pos (by omega)];rfl
  have HD:=Lib.hid hd
  clear hd ho hk
  generalize doneF f o=RR at *
  generalize accF f.C o=r at *
  obtain ⟨FC,FU,FS,E⟩:=f
  obtain ⟨kd,fr,tt,nm,ps,ss,en,_,_,_,_,_,_,_⟩:=o
  simp only at *
  unfold frV ropV
  have k0:((kd:Int) == 0)=false:=by rw [h0];rfl
  have k1:((kd:Int) == 1)=false:=by rw [h0];rfl
  have k2:((kd:Int) == 2)=false:=by rw [h0];rfl
  have k3:((kd:Int) == 3)=false:=by rw [h0];rfl
  have k4:((kd:Int) == 4)=true:=by rw [h0];rfl
  have k5:((kd:Int) == 5)=false:=by rw [h0];rfl
  have k6:((kd:Int) == 6)=false:=by rw [h0];rfl
  have k7:((kd:Int) == 7)=false:=by rw [h0];rfl
  unfold ropV at KC
  simp only at KC
  clear h0
  have hB0:=(((Below.refl w.heap.size w).alloc (Nat.le_refl _) (.cells #[.slice r1 n1 c1,.slice r2 n2 c2,.slice r3 n3 c3,.int .i32 E] 41)).alloc (by simp) (.cells #[.int .i64 kd,.int .u32 (fr:Int),.int .u32 (tt:Int),.string nm,vP,.slice r4 n4 c4,.int .i32 en,.int .i64 pos] 49)).alloc (by simp;omega) (.cells #[.slice none 0 0,.slice none 0 0,.slice none 0 0,.int .i32 0] 41)
  have hG:=((HBox.new w [.slice r1 n1 c1,.slice r2 n2 c2,.slice r3 n3 c3,.int .i32 E] 41).alloc (.cells #[.int .i64 kd,.int .u32 (fr:Int),.int .u32 (tt:Int),.string nm,vP,.slice r4 n4 c4,.int .i32 en,.int .i64 pos] 49)).alloc (.cells #[.slice none 0 0,.slice none 0 0,.slice none 0 0,.int .i32 0] 41)
  have hO:=(HBox.new (w.alloc (.cells #[.slice r1 n1 c1,.slice r2 n2 c2,.slice r3 n3 c3,.int .i32 E] 41)) [.int .i64 kd,.int .u32 (fr:Int),.int .u32 (tt:Int),.string nm,vP,.slice r4 n4 c4,.int .i32 en,.int .i64 pos] 49).alloc (.cells #[.slice none 0 0,.slice none 0 0,.slice none 0 0,.int .i32 0] 41)
  have hZ:=HBox.new ((w.alloc (.cells #[.slice r1 n1 c1,.slice r2 n2 c2,.slice r3 n3 c3,.int .i32 E] 41)).alloc (.cells #[.int .i64 kd,.int .u32 (fr:Int),.int .u32 (tt:Int),.string nm,vP,.slice r4 n4 c4,.int .i32 en,.int .i64 pos] 49)) [.slice none 0 0,.slice none 0 0,.slice none 0 0,.int .i32 0] 41
  rw [show (w.alloc (.cells #[.slice r1 n1 c1,.slice r2 n2 c2,.slice r3 n3 c3,.int .i32 E] 41)).heap.size=w.heap.size+1 by simp] at hO
  rw [show ((w.alloc (.cells #[.slice r1 n1 c1,.slice r2 n2 c2,.slice r3 n3 c3,.int .i32 E] 41)).alloc (.cells #[.int .i64 kd,.int .u32 (fr:Int),.int .u32 (tt:Int),.string nm,vP,.slice r4 n4 c4,.int .i32 en,.int .i64 pos] 49)).heap.size=w.heap.size+1+1 by simp] at hZ
  change HBox (((w.alloc (.cells #[.slice r1 n1 c1,.slice r2 n2 c2,.slice r3 n3 c3,.int .i32 E] 41)).alloc (.cells #[.int .i64 kd,.int .u32 (fr:Int),.int .u32 (tt:Int),.string nm,vP,.slice r4 n4 c4,.int .i32 en,.int .i64 pos] 49)).alloc (.cells #[.slice none 0 0,.slice none 0 0,.slice none 0 0,.int .i32 0] 41)) _ _ _ at hG hO hZ
  go_enter Tryz.func35,Tryz.ntmps35
  go_upto_region 1 with fail
  generalize ((w.alloc (.cells #[.slice r1 n1 c1,.slice r2 n2 c2,.slice r3 n3 c3,.int .i32 E] 41)).alloc (.cells #[.int .i64 kd,.int .u32 (fr:Int),.int .u32 (tt:Int),.string nm,vP,.slice r4 n4 c4,.int .i32 en,.int .i64 pos] 49)).alloc (.cells #[.slice none 0 0,.slice none 0 0,.slice none 0 0,.int .i32 0] 41)=W1 at *
  obtain ⟨G,hGG⟩:∃ G,w.heap.size=G:=⟨_,rfl⟩
  rw [hGG] at hG hO hZ ⊢
  have HGG:=Lib.hid hGG
  have HB0:=Lib.hid hB0
  have HG1:=Lib.hid hG
  have HO1:=Lib.hid hO
  have HZ1:=Lib.hid hZ
  have HF:=Lib.hid hF
  have HM:=Lib.hid hM
  have g0:=hG.cell (j:=0) rfl
  have g1:=hG.cell (j:=1) rfl
  have g2:=hG.cell (j:=2) rfl
  have g3:=hG.cell (j:=3) rfl
  have o0:=hO.cell (j:=0) rfl
  have o1:=hO.cell (j:=1) rfl
  have o2:=hO.cell (j:=2) rfl
  have o3:=hO.cell (j:=3) rfl
  have o4:=hO.cell (j:=4) rfl
  have o5:=hO.cell (j:=5) rfl
  have o6:=hO.cell (j:=6) rfl
  have o7:=hO.cell (j:=7) rfl
  clear hG hO hZ hB0 hGG hF hM
  go_wp2_with (go_at_call 58;refine (KC.out _ HB0.out).mono ?_;rintro e w5 ⟨hr,h5⟩;obtain ⟨x5,z5,rfl,hx,⟨rx,nx,cx,rfl⟩⟩:=AccR.two hr;have HX5:=Lib.hid hx;have HB5:=Lib.hid (HB0.out.trans (h5.mono HB0.out.size));have HG5:=Lib.hid (HG1.out.stay h5);have HZ5:=Lib.hid (HZ1.out.stay h5);have p0:=HG5.out.cell (j:=0) rfl;have q0:=HZ5.out.cell (j:=0) rfl;have s0:=HG5.out.frozen 0;have t0:=HZ5.out.frozen 0;have p1:=HG5.out.cell (j:=1) rfl;have q1:=HZ5.out.cell (j:=1) rfl;have s1:=HG5.out.frozen 1;have t1:=HZ5.out.frozen 1;have p2:=HG5.out.cell (j:=2) rfl;have q2:=HZ5.out.cell (j:=2) rfl;have s2:=HG5.out.frozen 2;have t2:=HZ5.out.frozen 2;have p3:=HG5.out.cell (j:=3) rfl;have q3:=HZ5.out.cell (j:=3) rfl;have s3:=HG5.out.frozen 3;have t3:=HZ5.out.frozen 3;have hs1:=HG5.out.size;have hs2:=HZ5.out.size;clear h5 hr hx)
  have hfin:=chart_fin HG5.out HZ5.out HF.out HB5.out (Nat.le_of_eq HGG.out) (by have:=HGG.out;omega) (by omega) HX5.out ⟨_,_,_,rfl⟩
  have HFIN:=Lib.hid hfin
  clear hfin
  generalize ((((w5.setCell ⟨G,0,none⟩ (.slice rx nx cx)).setCell ⟨G+1+1,0,none⟩ (.slice rx nx cx)).setCell ⟨G+1+1,1,none⟩ (.slice r2 n2 c2)).setCell ⟨G+1+1,2,none⟩ (.slice r3 n3 c3)).setCell ⟨G+1+1,3,none⟩ (.int .i32 E)=W9 at *
  have hb9:=HFIN.out.1
  have e0:=hb9.cell (j:=0) rfl
  have e1:=hb9.cell (j:=1) rfl
  have e2:=hb9.cell (j:=2) rfl
  have e3:=hb9.cell (j:=3) rfl
  clear hb9
  refine bodyPost_ret (v:=.tuple #[.agg #[(.slice rx nx cx),(.slice r2 n2 c2),.slice r3 n3 c3,.int .i32 E],.int .i64 z5]) (by simp [results,Tryz.results35,go_sem,e0,e1,e2,e3]) rfl ?_
  obtain ⟨_,q2,q3⟩:=HFIN.out
  refine ⟨?_,q2⟩
  rw [HD.out]
  cases r with
  | error c=>exact ⟨_,_,_,_,_,_,_,_,_,_,by rw [show z5=c from q3]⟩
  | ok c=>exact ⟨_,_,_,by rw [show z5=0 from q3.1];rfl,⟨q3.2.2,(HF.out.stay q2).u,(HF.out.stay q2).s⟩,hK1⟩
 ·have KC:=Lib.hid (fun (W:World) (h:Below w.heap.size w W)=>recoded_c o vP (.slice r4 n4 c4) pos _ f.U W (hF.u.stay h) ho.riseU (by have:=ho.lenU;omega) (.inl h0))
  have hd:doneF f o=(match unitF f.U o with | .error e=>.error e | .ok u=>.ok ⟨f.C,u,f.S,f.E⟩):=by unfold doneF;rw [if_neg (by omega),if_pos (by omega)];rfl
  have HD:=Lib.hid hd
  clear hd ho hk
  generalize doneF f o=RR at *
  generalize unitF f.U o=r at *
  obtain ⟨FC,FU,FS,E⟩:=f
  obtain ⟨kd,fr,tt,nm,ps,ss,en,_,_,_,_,_,_,_⟩:=o
  simp only at *
  unfold frV ropV
  have k0:((kd:Int) == 0)=false:=by rw [h0];rfl
  have k1:((kd:Int) == 1)=false:=by rw [h0];rfl
  have k2:((kd:Int) == 2)=false:=by rw [h0];rfl
  have k3:((kd:Int) == 3)=false:=by rw [h0];rfl
  have k4:((kd:Int) == 4)=false:=by rw [h0];rfl
  have k5:((kd:Int) == 5)=true:=by rw [h0];rfl
  have k6:((kd:Int) == 6)=false:=by rw [h0];rfl
  have k7:((kd:Int) == 7)=false:=by rw [h0];rfl
  unfold ropV at KC
  simp only at KC
  clear h0
  have hB0:=(((Below.refl w.heap.size w).alloc (Nat.le_refl _) (.cells #[.slice r1 n1 c1,.slice r2 n2 c2,.slice r3 n3 c3,.int .i32 E] 41)).alloc (by simp) (.cells #[.int .i64 kd,.int .u32 (fr:Int),.int .u32 (tt:Int),.string nm,vP,.slice r4 n4 c4,.int .i32 en,.int .i64 pos] 49)).alloc (by simp;omega) (.cells #[.slice none 0 0,.slice none 0 0,.slice none 0 0,.int .i32 0] 41)
  have hG:=((HBox.new w [.slice r1 n1 c1,.slice r2 n2 c2,.slice r3 n3 c3,.int .i32 E] 41).alloc (.cells #[.int .i64 kd,.int .u32 (fr:Int),.int .u32 (tt:Int),.string nm,vP,.slice r4 n4 c4,.int .i32 en,.int .i64 pos] 49)).alloc (.cells #[.slice none 0 0,.slice none 0 0,.slice none 0 0,.int .i32 0] 41)
  have hO:=(HBox.new (w.alloc (.cells #[.slice r1 n1 c1,.slice r2 n2 c2,.slice r3 n3 c3,.int .i32 E] 41)) [.int .i64 kd,.int .u32 (fr:Int),.int .u32 (tt:Int),.string nm,vP,.slice r4 n4 c4,.int .i32 en,.int .i64 pos] 49).alloc (.cells #[.slice none 0 0,.slice none 0 0,.slice none 0 0,.int .i32 0] 41)
  have hZ:=HBox.new ((w.alloc (.cells #[.slice r1 n1 c1,.slice r2 n2 c2,.slice r3 n3 c3,.int .i32 E] 41)).alloc (.cells #[.int .i64 kd,.int .u32 (fr:Int),.int .u32 (tt:Int),.string nm,vP,.slice r4 n4 c4,.int .i32 en,.int .i64 pos] 49)) [.slice none 0 0,.slice none 0 0,.slice none 0 0,.int .i32 0] 41
  rw [show (w.alloc (.cells #[.slice r1 n1 c1,.slice r2 n2 c2,.slice r3 n3 c3,.int .i32 E] 41)).heap.size=w.heap.size+1 by simp] at hO
  rw [show ((w.alloc (.cells #[.slice r1 n1 c1,.slice r2 n2 c2,.slice r3 n3 c3,.int .i32 E] 41)).alloc (.cells #[.int .i64 kd,.int .u32 (fr:Int),.int .u32 (tt:Int),.string nm,vP,.slice r4 n4 c4,.int .i32 en,.int .i64 pos] 49)).heap.size=w.heap.size+1+1 by simp] at hZ
  change HBox (((w.alloc (.cells #[.slice r1 n1 c1,.slice r2 n2 c2,.slice r3 n3 c3,.int .i32 E] 41)).alloc (.cells #[.int .i64 kd,.int .u32 (fr:Int),.int .u32 (tt:Int),.string nm,vP,.slice r4 n4 c4,.int .i32 en,.int .i64 pos] 49)).alloc (.cells #[.slice none 0 0,.slice none 0 0,.slice none 0 0,.int .i32 0] 41)) _ _ _ at hG hO hZ
  go_enter Tryz.func35,Tryz.ntmps35
  go_upto_region 1 with fail
  generalize ((w.alloc (.cells #[.slice r1 n1 c1,.slice r2 n2 c2,.slice r3 n3 c3,.int .i32 E] 41)).alloc (.cells #[.int .i64 kd,.int .u32 (fr:Int),.int .u32 (tt:Int),.string nm,vP,.slice r4 n4 c4,.int .i32 en,.int .i64 pos] 49)).alloc (.cells #[.slice none 0 0,.slice none 0 0,.slice none 0 0,.int .i32 0] 41)=W1 at *
  obtain ⟨G,hGG⟩:∃ G,w.heap.size=G:=⟨_,rfl⟩
  rw [hGG] at hG hO hZ ⊢
  have HGG:=Lib.hid hGG
  have HB0:=Lib.hid hB0
  have HG1:=Lib.hid hG
  have HO1:=Lib.hid hO
  have HZ1:=Lib.hid hZ
  have HF:=Lib.hid hF
  have HM:=Lib.hid hM
  have g0:=hG.cell (j:=0) rfl
  have g1:=hG.cell (j:=1) rfl
  have g2:=hG.cell (j:=2) rfl
  have g3:=hG.cell (j:=3) rfl
  have o0:=hO.cell (j:=0) rfl
  have o1:=hO.cell (j:=1) rfl
  have o2:=hO.cell (j:=2) rfl
  have o3:=hO.cell (j:=3) rfl
  have o4:=hO.cell (j:=4) rfl
  have o5:=hO.cell (j:=5) rfl
  have o6:=hO.cell (j:=6) rfl
  have o7:=hO.cell (j:=7) rfl
  clear hG hO hZ hB0 hGG hF hM
  go_wp2_with (go_at_call 59;refine (KC.out _ HB0.out).mono ?_;rintro e w5 ⟨hr,h5⟩;obtain ⟨x5,z5,rfl,hx,⟨rx,nx,cx,rfl⟩⟩:=UniR.two hr;have HX5:=Lib.hid hx;have HB5:=Lib.hid (HB0.out.trans (h5.mono HB0.out.size));have HG5:=Lib.hid (HG1.out.stay h5);have HZ5:=Lib.hid (HZ1.out.stay h5);have p0:=HG5.out.cell (j:=0) rfl;have q0:=HZ5.out.cell (j:=0) rfl;have s0:=HG5.out.frozen 0;have t0:=HZ5.out.frozen 0;have p1:=HG5.out.cell (j:=1) rfl;have q1:=HZ5.out.cell (j:=1) rfl;have s1:=HG5.out.frozen 1;have t1:=HZ5.out.frozen 1;have p2:=HG5.out.cell (j:=2) rfl;have q2:=HZ5.out.cell (j:=2) rfl;have s2:=HG5.out.frozen 2;have t2:=HZ5.out.frozen 2;have p3:=HG5.out.cell (j:=3) rfl;have q3:=HZ5.out.cell (j:=3) rfl;have s3:=HG5.out.frozen 3;have t3:=HZ5.out.frozen 3;have hs1:=HG5.out.size;have hs2:=HZ5.out.size;clear h5 hr hx)
  have hfin:=unit_fin HG5.out HZ5.out HF.out HB5.out (Nat.le_of_eq HGG.out) (by have:=HGG.out;omega) (by omega) HX5.out ⟨_,_,_,rfl⟩
  have HFIN:=Lib.hid hfin
  clear hfin
  generalize ((((w5.setCell ⟨G,1,none⟩ (.slice rx nx cx)).setCell ⟨G+1+1,0,none⟩ (.slice r1 n1 c1)).setCell ⟨G+1+1,1,none⟩ (.slice rx nx cx)).setCell ⟨G+1+1,2,none⟩ (.slice r3 n3 c3)).setCell ⟨G+1+1,3,none⟩ (.int .i32 E)=W9 at *
  have hb9:=HFIN.out.1
  have e0:=hb9.cell (j:=0) rfl
  have e1:=hb9.cell (j:=1) rfl
  have e2:=hb9.cell (j:=2) rfl
  have e3:=hb9.cell (j:=3) rfl
  clear hb9
  refine bodyPost_ret (v:=.tuple #[.agg #[(.slice r1 n1 c1),(.slice rx nx cx),.slice r3 n3 c3,.int .i32 E],.int .i64 z5]) (by simp [results,Tryz.results35,go_sem,e0,e1,e2,e3]) rfl ?_
  obtain ⟨_,q2,q3⟩:=HFIN.out
  refine ⟨?_,q2⟩
  rw [HD.out]
  cases r with
  | error c=>exact ⟨_,_,_,_,_,_,_,_,_,_,by rw [show z5=c from q3]⟩
  | ok c=>exact ⟨_,_,_,by rw [show z5=0 from q3.1];rfl,⟨(HF.out.stay q2).c,q3.2.2,(HF.out.stay q2).s⟩,hK1⟩
 ·have KC:=Lib.hid (fun (W:World) (h:Below w.heap.size w W)=>recoded_c o vP (.slice r4 n4 c4) pos _ f.U W (hF.u.stay h) ho.riseU (by have:=ho.lenU;omega) (.inr h0))
  have hd:doneF f o=(match unitF f.U o with | .error e=>.error e | .ok u=>.ok ⟨f.C,u,f.S,f.E⟩):=by unfold doneF;rw [if_neg (by omega),if_pos (by omega)];rfl
  have HD:=Lib.hid hd
  clear hd ho hk
  generalize doneF f o=RR at *
  generalize unitF f.U o=r at *
  obtain ⟨FC,FU,FS,E⟩:=f
  obtain ⟨kd,fr,tt,nm,ps,ss,en,_,_,_,_,_,_,_⟩:=o
  simp only at *
  unfold frV ropV
  have k0:((kd:Int) == 0)=false:=by rw [h0];rfl
  have k1:((kd:Int) == 1)=false:=by rw [h0];rfl
  have k2:((kd:Int) == 2)=false:=by rw [h0];rfl
  have k3:((kd:Int) == 3)=false:=by rw [h0];rfl
  have k4:((kd:Int) == 4)=false:=by rw [h0];rfl
  have k5:((kd:Int) == 5)=false:=by rw [h0];rfl
  have k6:((kd:Int) == 6)=true:=by rw [h0];rfl
  have k7:((kd:Int) == 7)=false:=by rw [h0];rfl
  unfold ropV at KC
  simp only at KC
  clear h0
  have hB0:=(((Below.refl w.heap.size w).alloc (Nat.le_refl _) (.cells #[.slice r1 n1 c1,.slice r2 n2 c2,.slice r3 n3 c3,.int .i32 E] 41)).alloc (by simp) (.cells #[.int .i64 kd,.int .u32 (fr:Int),.int .u32 (tt:Int),.string nm,vP,.slice r4 n4 c4,.int .i32 en,.int .i64 pos] 49)).alloc (by simp;omega) (.cells #[.slice none 0 0,.slice none 0 0,.slice none 0 0,.int .i32 0] 41)
  have hG:=((HBox.new w [.slice r1 n1 c1,.slice r2 n2 c2,.slice r3 n3 c3,.int .i32 E] 41).alloc (.cells #[.int .i64 kd,.int .u32 (fr:Int),.int .u32 (tt:Int),.string nm,vP,.slice r4 n4 c4,.int .i32 en,.int .i64 pos] 49)).alloc (.cells #[.slice none 0 0,.slice none 0 0,.slice none 0 0,.int .i32 0] 41)
  have hO:=(HBox.new (w.alloc (.cells #[.slice r1 n1 c1,.slice r2 n2 c2,.slice r3 n3 c3,.int .i32 E] 41)) [.int .i64 kd,.int .u32 (fr:Int),.int .u32 (tt:Int),.string nm,vP,.slice r4 n4 c4,.int .i32 en,.int .i64 pos] 49).alloc (.cells #[.slice none 0 0,.slice none 0 0,.slice none 0 0,.int .i32 0] 41)
  have hZ:=HBox.new ((w.alloc (.cells #[.slice r1 n1 c1,.slice r2 n2 c2,.slice r3 n3 c3,.int .i32 E] 41)).alloc (.cells #[.int .i64 kd,.int .u32 (fr:Int),.int .u32 (tt:Int),.string nm,vP,.slice r4 n4 c4,.int .i32 en,.int .i64 pos] 49)) [.slice none 0 0,.slice none 0 0,.slice none 0 0,.int .i32 0] 41
  rw [show (w.alloc (.cells #[.slice r1 n1 c1,.slice r2 n2 c2,.slice r3 n3 c3,.int .i32 E] 41)).heap.size=w.heap.size+1 by simp] at hO
  rw [show ((w.alloc (.cells #[.slice r1 n1 c1,.slice r2 n2 c2,.slice r3 n3 c3,.int .i32 E] 41)).alloc (.cells #[.int .i64 kd,.int .u32 (fr:Int),.int .u32 (tt:Int),.string nm,vP,.slice r4 n4 c4,.int .i32 en,.int .i64 pos] 49)).heap.size=w.heap.size+1+1 by simp] at hZ
  change HBox (((w.alloc (.cells #[.slice r1 n1 c1,.slice r2 n2 c2,.slice r3 n3 c3,.int .i32 E] 41)).alloc (.cells #[.int .i64 kd,.int .u32 (fr:Int),.int .u32 (tt:Int),.string nm,vP,.slice r4 n4 c4,.int .i32 en,.int .i64 pos] 49)).alloc (.cells #[.slice none 0 0,.slice none 0 0,.slice none 0 0,.int .i32 0] 41)) _ _ _ at hG hO hZ
  go_enter Tryz.func35,Tryz.ntmps35
  go_upto_region 1 with fail
  generalize ((w.alloc (.cells #[.slice r1 n1 c1,.slice r2 n2 c2,.slice r3 n3 c3,.int .i32 E] 41)).alloc (.cells #[.int .i64 kd,.int .u32 (fr:Int),.int .u32 (tt:Int),.string nm,vP,.slice r4 n4 c4,.int .i32 en,.int .i64 pos] 49)).alloc (.cells #[.slice none 0 0,.slice none 0 0,.slice none 0 0,.int .i32 0] 41)=W1 at *
  obtain ⟨G,hGG⟩:∃ G,w.heap.size=G:=⟨_,rfl⟩
  rw [hGG] at hG hO hZ ⊢
  have HGG:=Lib.hid hGG
  have HB0:=Lib.hid hB0
  have HG1:=Lib.hid hG
  have HO1:=Lib.hid hO
  have HZ1:=Lib.hid hZ
  have HF:=Lib.hid hF
  have HM:=Lib.hid hM
  have g0:=hG.cell (j:=0) rfl
  have g1:=hG.cell (j:=1) rfl
  have g2:=hG.cell (j:=2) rfl
  have g3:=hG.cell (j:=3) rfl
  have o0:=hO.cell (j:=0) rfl
  have o1:=hO.cell (j:=1) rfl
  have o2:=hO.cell (j:=2) rfl
  have o3:=hO.cell (j:=3) rfl
  have o4:=hO.cell (j:=4) rfl
  have o5:=hO.cell (j:=5) rfl
  have o6:=hO.cell (j:=6) rfl
  have o7:=hO.cell (j:=7) rfl
  clear hG hO hZ hB0 hGG hF hM
  go_wp2_with (go_at_call 59;refine (KC.out _ HB0.out).mono ?_;rintro e w5 ⟨hr,h5⟩;obtain ⟨x5,z5,rfl,hx,⟨rx,nx,cx,rfl⟩⟩:=UniR.two hr;have HX5:=Lib.hid hx;have HB5:=Lib.hid (HB0.out.trans (h5.mono HB0.out.size));have HG5:=Lib.hid (HG1.out.stay h5);have HZ5:=Lib.hid (HZ1.out.stay h5);have p0:=HG5.out.cell (j:=0) rfl;have q0:=HZ5.out.cell (j:=0) rfl;have s0:=HG5.out.frozen 0;have t0:=HZ5.out.frozen 0;have p1:=HG5.out.cell (j:=1) rfl;have q1:=HZ5.out.cell (j:=1) rfl;have s1:=HG5.out.frozen 1;have t1:=HZ5.out.frozen 1;have p2:=HG5.out.cell (j:=2) rfl;have q2:=HZ5.out.cell (j:=2) rfl;have s2:=HG5.out.frozen 2;have t2:=HZ5.out.frozen 2;have p3:=HG5.out.cell (j:=3) rfl;have q3:=HZ5.out.cell (j:=3) rfl;have s3:=HG5.out.frozen 3;have t3:=HZ5.out.frozen 3;have hs1:=HG5.out.size;have hs2:=HZ5.out.size;clear h5 hr hx)
  have hfin:=unit_fin HG5.out HZ5.out HF.out HB5.out (Nat.le_of_eq HGG.out) (by have:=HGG.out;omega) (by omega) HX5.out ⟨_,_,_,rfl⟩
  have HFIN:=Lib.hid hfin
  clear hfin
  generalize ((((w5.setCell ⟨G,1,none⟩ (.slice rx nx cx)).setCell ⟨G+1+1,0,none⟩ (.slice r1 n1 c1)).setCell ⟨G+1+1,1,none⟩ (.slice rx nx cx)).setCell ⟨G+1+1,2,none⟩ (.slice r3 n3 c3)).setCell ⟨G+1+1,3,none⟩ (.int .i32 E)=W9 at *
  have hb9:=HFIN.out.1
  have e0:=hb9.cell (j:=0) rfl
  have e1:=hb9.cell (j:=1) rfl
  have e2:=hb9.cell (j:=2) rfl
  have e3:=hb9.cell (j:=3) rfl
  clear hb9
  refine bodyPost_ret (v:=.tuple #[.agg #[(.slice r1 n1 c1),(.slice rx nx cx),.slice r3 n3 c3,.int .i32 E],.int .i64 z5]) (by simp [results,Tryz.results35,go_sem,e0,e1,e2,e3]) rfl ?_
  obtain ⟨_,q2,q3⟩:=HFIN.out
  refine ⟨?_,q2⟩
  rw [HD.out]
  cases r with
  | error c=>exact ⟨_,_,_,_,_,_,_,_,_,_,by rw [show z5=c from q3]⟩
  | ok c=>exact ⟨_,_,_,by rw [show z5=0 from q3.1];rfl,⟨(HF.out.stay q2).c,q3.2.2,(HF.out.stay q2).s⟩,hK1⟩
 ·have hd:doneF f o = .ok ⟨f.C,f.U,o.starts,o.en⟩:=by unfold doneF;rw [if_neg (by omega),if_neg (by omega),if_pos (by omega)]
  have HD:=Lib.hid hd
  clear hd ho hk
  generalize doneF f o=RR at *
  obtain ⟨FC,FU,FS,E⟩:=f
  obtain ⟨kd,fr,tt,nm,ps,ss,en,_,_,_,_,_,_,_⟩:=o
  simp only at *
  unfold frV ropV
  have k0:((kd:Int) == 0)=false:=by rw [h0];rfl
  have k1:((kd:Int) == 1)=false:=by rw [h0];rfl
  have k2:((kd:Int) == 2)=false:=by rw [h0];rfl
  have k3:((kd:Int) == 3)=false:=by rw [h0];rfl
  have k4:((kd:Int) == 4)=false:=by rw [h0];rfl
  have k5:((kd:Int) == 5)=false:=by rw [h0];rfl
  have k6:((kd:Int) == 6)=false:=by rw [h0];rfl
  have k7:((kd:Int) == 7)=true:=by rw [h0];rfl
  clear h0
  have hB0:=(((Below.refl w.heap.size w).alloc (Nat.le_refl _) (.cells #[.slice r1 n1 c1,.slice r2 n2 c2,.slice r3 n3 c3,.int .i32 E] 41)).alloc (by simp) (.cells #[.int .i64 kd,.int .u32 (fr:Int),.int .u32 (tt:Int),.string nm,vP,.slice r4 n4 c4,.int .i32 en,.int .i64 pos] 49)).alloc (by simp;omega) (.cells #[.slice none 0 0,.slice none 0 0,.slice none 0 0,.int .i32 0] 41)
  have hG:=((HBox.new w [.slice r1 n1 c1,.slice r2 n2 c2,.slice r3 n3 c3,.int .i32 E] 41).alloc (.cells #[.int .i64 kd,.int .u32 (fr:Int),.int .u32 (tt:Int),.string nm,vP,.slice r4 n4 c4,.int .i32 en,.int .i64 pos] 49)).alloc (.cells #[.slice none 0 0,.slice none 0 0,.slice none 0 0,.int .i32 0] 41)
  have hO:=(HBox.new (w.alloc (.cells #[.slice r1 n1 c1,.slice r2 n2 c2,.slice r3 n3 c3,.int .i32 E] 41)) [.int .i64 kd,.int .u32 (fr:Int),.int .u32 (tt:Int),.string nm,vP,.slice r4 n4 c4,.int .i32 en,.int .i64 pos] 49).alloc (.cells #[.slice none 0 0,.slice none 0 0,.slice none 0 0,.int .i32 0] 41)
  have hZ:=HBox.new ((w.alloc (.cells #[.slice r1 n1 c1,.slice r2 n2 c2,.slice r3 n3 c3,.int .i32 E] 41)).alloc (.cells #[.int .i64 kd,.int .u32 (fr:Int),.int .u32 (tt:Int),.string nm,vP,.slice r4 n4 c4,.int .i32 en,.int .i64 pos] 49)) [.slice none 0 0,.slice none 0 0,.slice none 0 0,.int .i32 0] 41
  rw [show (w.alloc (.cells #[.slice r1 n1 c1,.slice r2 n2 c2,.slice r3 n3 c3,.int .i32 E] 41)).heap.size=w.heap.size+1 by simp] at hO
  rw [show ((w.alloc (.cells #[.slice r1 n1 c1,.slice r2 n2 c2,.slice r3 n3 c3,.int .i32 E] 41)).alloc (.cells #[.int .i64 kd,.int .u32 (fr:Int),.int .u32 (tt:Int),.string nm,vP,.slice r4 n4 c4,.int .i32 en,.int .i64 pos] 49)).heap.size=w.heap.size+1+1 by simp] at hZ
  change HBox (((w.alloc (.cells #[.slice r1 n1 c1,.slice r2 n2 c2,.slice r3 n3 c3,.int .i32 E] 41)).alloc (.cells #[.int .i64 kd,.int .u32 (fr:Int),.int .u32 (tt:Int),.string nm,vP,.slice r4 n4 c4,.int .i32 en,.int .i64 pos] 49)).alloc (.cells #[.slice none 0 0,.slice none 0 0,.slice none 0 0,.int .i32 0] 41)) _ _ _ at hG hO hZ
  go_enter Tryz.func35,Tryz.ntmps35
  go_upto_region 1 with fail
  generalize ((w.alloc (.cells #[.slice r1 n1 c1,.slice r2 n2 c2,.slice r3 n3 c3,.int .i32 E] 41)).alloc (.cells #[.int .i64 kd,.int .u32 (fr:Int),.int .u32 (tt:Int),.string nm,vP,.slice r4 n4 c4,.int .i32 en,.int .i64 pos] 49)).alloc (.cells #[.slice none 0 0,.slice none 0 0,.slice none 0 0,.int .i32 0] 41)=W1 at *
  obtain ⟨G,hGG⟩:∃ G,w.heap.size=G:=⟨_,rfl⟩
  rw [hGG] at hG hO hZ ⊢
  have HGG:=Lib.hid hGG
  have HB0:=Lib.hid hB0
  have HG1:=Lib.hid hG
  have HO1:=Lib.hid hO
  have HZ1:=Lib.hid hZ
  have HF:=Lib.hid hF
  have HM:=Lib.hid hM
  have g0:=hG.cell (j:=0) rfl
  have g1:=hG.cell (j:=1) rfl
  have g2:=hG.cell (j:=2) rfl
  have g3:=hG.cell (j:=3) rfl
  have o0:=hO.cell (j:=0) rfl
  have o1:=hO.cell (j:=1) rfl
  have o2:=hO.cell (j:=2) rfl
  have o3:=hO.cell (j:=3) rfl
  have o4:=hO.cell (j:=4) rfl
  have o5:=hO.cell (j:=5) rfl
  have o6:=hO.cell (j:=6) rfl
  have o7:=hO.cell (j:=7) rfl
  clear hG hO hZ hB0 hGG hF hM
  have f2:=HG1.out.frozen 2
  have f3:=HG1.out.frozen 3
  have t0:=HZ1.out.frozen 0
  have t1:=HZ1.out.frozen 1
  have t2:=HZ1.out.frozen 2
  have t3:=HZ1.out.frozen 3
  have z0:=HZ1.out.cell (j:=0) rfl
  have z1:=HZ1.out.cell (j:=1) rfl
  have z2:=HZ1.out.cell (j:=2) rfl
  have z3:=HZ1.out.cell (j:=3) rfl
  have hs1:=HG1.out.size
  have hs2:=HZ1.out.size
  go_wp2_with fail
  have z0:=HZ1.out.grown ((grownBy_set W1 ⟨G,2,none⟩ (.slice r4 n4 c4)).trans (grownBy_set _ ⟨G,3,none⟩ (.int .i32 en))) (fun e=>by have:=Option.some.inj (show some (G+1+1)=some G from e);omega)
  have z4:=z0.set4g (.slice r1 n1 c1) (.slice r2 n2 c2) (.slice r4 n4 c4) (.int .i32 en)
  have hb9:=(((((HB0.out.setCell (p:=⟨G,2,none⟩) (by have:=HGG.out;show w.heap.size≤G;omega) (.slice r4 n4 c4)).setCell (p:=⟨G,3,none⟩) (by have:=HGG.out;show w.heap.size≤G;omega) (.int .i32 en)).setCell (p:=⟨G+1+1,0,none⟩) (by have:=HGG.out;show w.heap.size≤G+1+1;omega) (.slice r1 n1 c1)).setCell (p:=⟨G+1+1,1,none⟩) (by have:=HGG.out;show w.heap.size≤G+1+1;omega) (.slice r2 n2 c2)).setCell (p:=⟨G+1+1,2,none⟩) (by have:=HGG.out;show w.heap.size≤G+1+1;omega) (.slice r4 n4 c4)).setCell (p:=⟨G+1+1,3,none⟩) (by have:=HGG.out;show w.heap.size≤G+1+1;omega) (.int .i32 en)
  generalize (((((W1.setCell ⟨G,2,none⟩ (.slice r4 n4 c4)).setCell ⟨G,3,none⟩ (.int .i32 en)).setCell ⟨G+1+1,0,none⟩ (.slice r1 n1 c1)).setCell ⟨G+1+1,1,none⟩ (.slice r2 n2 c2)).setCell ⟨G+1+1,2,none⟩ (.slice r4 n4 c4)).setCell ⟨G+1+1,3,none⟩ (.int .i32 en)=W9 at *
  have e0:=z4.cell (j:=0) rfl
  have e1:=z4.cell (j:=1) rfl
  have e2:=z4.cell (j:=2) rfl
  have e3:=z4.cell (j:=3) rfl
  clear z4 z0
  refine bodyPost_ret (v:=.tuple #[.agg #[.slice r1 n1 c1,.slice r2 n2 c2,.slice r4 n4 c4,.int .i32 en],.int .i64 0]) (by simp [results,Tryz.results35,go_sem,e0,e1,e2,e3]) rfl ?_
  refine ⟨?_,hb9⟩
  rw [HD.out]
  exact ⟨_,_,_,rfl,⟨(HF.out.stay hb9).c,(HF.out.stay hb9).u,HM.out.starts.stay hb9⟩,hK2⟩
 ·have hd:doneF f o = .error 9:=by unfold doneF;rw [if_neg (by omega),if_neg (by omega),if_neg (by omega)]
  have HD:=Lib.hid hd
  clear hd ho hk
  generalize doneF f o=RR at *
  obtain ⟨FC,FU,FS,E⟩:=f
  obtain ⟨kd,fr,tt,nm,ps,ss,en,_,_,_,_,_,_,_⟩:=o
  simp only at *
  unfold frV ropV
  have k0:((kd:Int) == 0)=false:=by rw [beq_eq_false_iff_ne];omega
  have k1:((kd:Int) == 1)=false:=by rw [beq_eq_false_iff_ne];omega
  have k2:((kd:Int) == 2)=false:=by rw [beq_eq_false_iff_ne];omega
  have k3:((kd:Int) == 3)=false:=by rw [beq_eq_false_iff_ne];omega
  have k4:((kd:Int) == 4)=false:=by rw [beq_eq_false_iff_ne];omega
  have k5:((kd:Int) == 5)=false:=by rw [beq_eq_false_iff_ne];omega
  have k6:((kd:Int) == 6)=false:=by rw [beq_eq_false_iff_ne];omega
  have k7:((kd:Int) == 7)=false:=by rw [beq_eq_false_iff_ne];omega
  clear h0
  have hB0:=(((Below.refl w.heap.size w).alloc (Nat.le_refl _) (.cells #[.slice r1 n1 c1,.slice r2 n2 c2,.slice r3 n3 c3,.int .i32 E] 41)).alloc (by simp) (.cells #[.int .i64 kd,.int .u32 (fr:Int),.int .u32 (tt:Int),.string nm,vP,.slice r4 n4 c4,.int .i32 en,.int .i64 pos] 49)).alloc (by simp;omega) (.cells #[.slice none 0 0,.slice none 0 0,.slice none 0 0,.int .i32 0] 41)
  have hG:=((HBox.new w [.slice r1 n1 c1,.slice r2 n2 c2,.slice r3 n3 c3,.int .i32 E] 41).alloc (.cells #[.int .i64 kd,.int .u32 (fr:Int),.int .u32 (tt:Int),.string nm,vP,.slice r4 n4 c4,.int .i32 en,.int .i64 pos] 49)).alloc (.cells #[.slice none 0 0,.slice none 0 0,.slice none 0 0,.int .i32 0] 41)
  have hO:=(HBox.new (w.alloc (.cells #[.slice r1 n1 c1,.slice r2 n2 c2,.slice r3 n3 c3,.int .i32 E] 41)) [.int .i64 kd,.int .u32 (fr:Int),.int .u32 (tt:Int),.string nm,vP,.slice r4 n4 c4,.int .i32 en,.int .i64 pos] 49).alloc (.cells #[.slice none 0 0,.slice none 0 0,.slice none 0 0,.int .i32 0] 41)
  have hZ:=HBox.new ((w.alloc (.cells #[.slice r1 n1 c1,.slice r2 n2 c2,.slice r3 n3 c3,.int .i32 E] 41)).alloc (.cells #[.int .i64 kd,.int .u32 (fr:Int),.int .u32 (tt:Int),.string nm,vP,.slice r4 n4 c4,.int .i32 en,.int .i64 pos] 49)) [.slice none 0 0,.slice none 0 0,.slice none 0 0,.int .i32 0] 41
  rw [show (w.alloc (.cells #[.slice r1 n1 c1,.slice r2 n2 c2,.slice r3 n3 c3,.int .i32 E] 41)).heap.size=w.heap.size+1 by simp] at hO
  rw [show ((w.alloc (.cells #[.slice r1 n1 c1,.slice r2 n2 c2,.slice r3 n3 c3,.int .i32 E] 41)).alloc (.cells #[.int .i64 kd,.int .u32 (fr:Int),.int .u32 (tt:Int),.string nm,vP,.slice r4 n4 c4,.int .i32 en,.int .i64 pos] 49)).heap.size=w.heap.size+1+1 by simp] at hZ
  change HBox (((w.alloc (.cells #[.slice r1 n1 c1,.slice r2 n2 c2,.slice r3 n3 c3,.int .i32 E] 41)).alloc (.cells #[.int .i64 kd,.int .u32 (fr:Int),.int .u32 (tt:Int),.string nm,vP,.slice r4 n4 c4,.int .i32 en,.int .i64 pos] 49)).alloc (.cells #[.slice none 0 0,.slice none 0 0,.slice none 0 0,.int .i32 0] 41)) _ _ _ at hG hO hZ
  go_enter Tryz.func35,Tryz.ntmps35
  go_upto_region 1 with fail
  generalize ((w.alloc (.cells #[.slice r1 n1 c1,.slice r2 n2 c2,.slice r3 n3 c3,.int .i32 E] 41)).alloc (.cells #[.int .i64 kd,.int .u32 (fr:Int),.int .u32 (tt:Int),.string nm,vP,.slice r4 n4 c4,.int .i32 en,.int .i64 pos] 49)).alloc (.cells #[.slice none 0 0,.slice none 0 0,.slice none 0 0,.int .i32 0] 41)=W1 at *
  obtain ⟨G,hGG⟩:∃ G,w.heap.size=G:=⟨_,rfl⟩
  rw [hGG] at hG hO hZ ⊢
  have HGG:=Lib.hid hGG
  have HB0:=Lib.hid hB0
  have HG1:=Lib.hid hG
  have HO1:=Lib.hid hO
  have HZ1:=Lib.hid hZ
  have HF:=Lib.hid hF
  have HM:=Lib.hid hM
  have g0:=hG.cell (j:=0) rfl
  have g1:=hG.cell (j:=1) rfl
  have g2:=hG.cell (j:=2) rfl
  have g3:=hG.cell (j:=3) rfl
  have o0:=hO.cell (j:=0) rfl
  have o1:=hO.cell (j:=1) rfl
  have o2:=hO.cell (j:=2) rfl
  have o3:=hO.cell (j:=3) rfl
  have o4:=hO.cell (j:=4) rfl
  have o5:=hO.cell (j:=5) rfl
  have o6:=hO.cell (j:=6) rfl
  have o7:=hO.cell (j:=7) rfl
  clear hG hO hZ hB0 hGG hF hM
  have t0:=HZ1.out.frozen 0
  have t1:=HZ1.out.frozen 1
  have t2:=HZ1.out.frozen 2
  have t3:=HZ1.out.frozen 3
  have z0:=HZ1.out.cell (j:=0) rfl
  have z1:=HZ1.out.cell (j:=1) rfl
  have z2:=HZ1.out.cell (j:=2) rfl
  have z3:=HZ1.out.cell (j:=3) rfl
  have hs2:=HZ1.out.size
  go_wp2_with fail
  have z4:=HZ1.out.set4g (.slice r1 n1 c1) (.slice r2 n2 c2) (.slice r3 n3 c3) (.int .i32 E)
  have hb9:=(((HB0.out.setCell (p:=⟨G+1+1,0,none⟩) (by have:=HGG.out;show w.heap.size≤G+1+1;omega) (.slice r1 n1 c1)).setCell (p:=⟨G+1+1,1,none⟩) (by have:=HGG.out;show w.heap.size≤G+1+1;omega) (.slice r2 n2 c2)).setCell (p:=⟨G+1+1,2,none⟩) (by have:=HGG.out;show w.heap.size≤G+1+1;omega) (.slice r3 n3 c3)).setCell (p:=⟨G+1+1,3,none⟩) (by have:=HGG.out;show w.heap.size≤G+1+1;omega) (.int .i32 E)
  generalize (((W1.setCell ⟨G+1+1,0,none⟩ (.slice r1 n1 c1)).setCell ⟨G+1+1,1,none⟩ (.slice r2 n2 c2)).setCell ⟨G+1+1,2,none⟩ (.slice r3 n3 c3)).setCell ⟨G+1+1,3,none⟩ (.int .i32 E)=W9 at *
  have e0:=z4.cell (j:=0) rfl
  have e1:=z4.cell (j:=1) rfl
  have e2:=z4.cell (j:=2) rfl
  have e3:=z4.cell (j:=3) rfl
  clear z4 z0
  refine bodyPost_ret (v:=.tuple #[.agg #[.slice r1 n1 c1,.slice r2 n2 c2,.slice r3 n3 c3,.int .i32 E],.int .i64 9]) (by simp [results,Tryz.results35,go_sem,e0,e1,e2,e3]) rfl ?_
  refine ⟨?_,hb9⟩
  rw [HD.out]
  exact ⟨_,_,_,_,_,_,_,_,_,_,rfl⟩
theorem doneF_in {f g:Fr} {o:Rop} (hk:chkF f=0) (h:doneF f o = .ok g) (hs:o.starts.length≤100):FrIn g:=by
 have ho:=FrOk.of hk
 have oS:f.S.length≤100 ∧ ∀ x ∈ f.S, -2147483648≤x∧x≤2147483647:=⟨by have:=ho.lenS;omega,fun x hx=>by have:=ho.days x (List.mem_append.2 (.inl hx));omega⟩
 have oE : -2147483648≤f.E∧f.E≤2147483647:=by have:=ho.days f.E (by simp);omega
 have oU:f.U.length≤100 ∧ ∀ x ∈ f.U,x<65536:=⟨by have:=ho.lenU;omega,fun x hx=>by have:=ho.units x hx;omega⟩
 have oC:=ho.lenA
 unfold doneF at h
 split at h
 ·split at h
  ·cases h
  ·rename_i c hc
   cases h
   have:=accF_len hc
   exact ⟨by show c.length≤300;omega,oU,oS,oE⟩
 ·split at h
  ·split at h
   ·cases h
   ·rename_i u hu
    cases h
    refine ⟨by show f.C.length≤300;omega,?_,oS,oE⟩
    unfold unitF at hu
    split at hu
    ·cases hu
    ·rename_i hr
     split at hu
     ·cases hu
     ·split at hu
      ·cases hu
      ·split at hu
       ·cases hu
       ·split at hu
        ·cases hu
        ·cases hu
         refine ⟨?_,fun x hx=>?_⟩
         ·show (withU (outU f.U o.frm) o.to).length≤100
          have:=withU_len (outU f.U o.frm) o.to
          have:=outU_len f.U o.frm
          have:=ho.lenU
          omega
         ·rcases withU_mem.1 hx with rfl | hx
          ·omega
          ·exact oU.2 x (outU_mem.1 hx).1
  ·split at h
   ·cases h
    exact ⟨by show f.C.length≤300;omega,oU,⟨hs,o.hs⟩,o.he⟩
   ·cases h
theorem out_s (s:Spn) (g:Fr) (vC vU vS:Value) (w:World) (hF:FrM g vC vU vS w) (hk:chkF g=0) :
 Calls Tryz.prog 36 #[spnV s,frV vC vU vS g.E] w fun e w'=>e = .returned (.bool (s.out g))∧Below w.heap.size w w':=by
 have ho:=FrOk.of hk
 have hrise:RiseD g.S:=(List.pairwise_append.1 ho.riseD).1
 have hlt:∀ x ∈ g.S,x<g.E:=fun x hx=>(List.pairwise_append.1 ho.riseD).2.2 x hx g.E (by simp)
 have KP:=Lib.hid (fun (d:Int) (W:World) (h:Below w.heap.size w W)=>period_c vS g.S g.E d W (hF.s.stay h) hrise ho.lenS.2 hlt)
 have hout:s.out g=(s.some && (!(decide (0≤perI g.S g.E s.first)) || !(decide (0≤perI g.S g.E s.last)))):=by
  unfold Spn.out
  have e:∀ x:Int,decide (x<0) = !(decide (0≤x)):=fun x=>by rw [Bool.eq_iff_iff];simp
  rw [e,e]
 rw [hout]
 obtain ⟨fi,la,so,_,_⟩:=s
 obtain ⟨C,U,S,E⟩:=g
 simp only at *
 obtain ⟨b1,hb1⟩:∃ b,decide (0≤perI S E fi)=b:=⟨_,rfl⟩
 obtain ⟨b2,hb2⟩:∃ b,decide (0≤perI S E la)=b:=⟨_,rfl⟩
 have K1:=Lib.hid (fun (W:World) (h:Below w.heap.size w W)=>KP.out fi W h)
 have K2:=Lib.hid (fun (W:World) (h:Below w.heap.size w W)=>KP.out la W h)
 rw [hb1] at K1 ⊢
 rw [hb2] at K2 ⊢
 generalize max (perI S E fi) 0=m1 at *
 generalize max (perI S E la) 0=m2 at *
 clear KP hb1 hb2 hout hlt hrise ho hk hF
 unfold spnV frV
 simp only
 have hB0:=((Below.refl w.heap.size w).alloc (Nat.le_refl _) (.cells #[.int .i32 fi,.int .i32 la,.bool so] 44)).alloc (by simp) (.cells #[vC,vU,vS,.int .i32 E] 41)
 have hG:=(HBox.new w [.int .i32 fi,.int .i32 la,.bool so] 44).alloc (.cells #[vC,vU,vS,.int .i32 E] 41)
 have hO:=HBox.new (w.alloc (.cells #[.int .i32 fi,.int .i32 la,.bool so] 44)) [vC,vU,vS,.int .i32 E] 41
 rw [show (w.alloc (.cells #[.int .i32 fi,.int .i32 la,.bool so] 44)).heap.size=w.heap.size+1 by simp] at hO
 change HBox ((w.alloc (.cells #[.int .i32 fi,.int .i32 la,.bool so] 44)).alloc (.cells #[vC,vU,vS,.int .i32 E] 41)) _ _ _ at hG hO
 go_enter Tryz.func36,Tryz.ntmps36
 go_upto_region 1 with fail
 generalize (w.alloc (.cells #[.int .i32 fi,.int .i32 la,.bool so] 44)).alloc (.cells #[vC,vU,vS,.int .i32 E] 41)=W1 at *
 obtain ⟨G,hGG⟩:∃ G,w.heap.size=G:=⟨_,rfl⟩
 rw [hGG] at hG hO ⊢
 have HB0:=Lib.hid hB0
 have HG1:=Lib.hid hG
 have HO1:=Lib.hid hO
 have g0:=hG.cell (j:=0) rfl
 have g1:=hG.cell (j:=1) rfl
 have g2:=hG.cell (j:=2) rfl
 have o2:=hO.cell (j:=2) rfl
 have o3:=hO.cell (j:=3) rfl
 have HGG:=Lib.hid hGG
 clear hG hO hB0 hGG
 cases so with
 | false =>
  go_wp2_with fail
  go_ret
  exact ⟨by simp,HB0.out⟩
 | true =>
  go_wp2_with (first
   | (have hN:=HB2;clear hN;go_at_call 60;refine (K2.out _ HB2.out).mono ?_;rintro e w3 ⟨rfl,h3⟩;have HB3:=Lib.hid (HB2.out.trans (h3.mono HB2.out.size));clear h3)
   | (go_at_call 60;refine (K1.out _ HB0.out).mono ?_;rintro e w2 ⟨rfl,h2⟩;have HB2:=Lib.hid (HB0.out.trans (h2.mono HB0.out.size));have HG2:=Lib.hid (HG1.out.stay h2);have HO2:=Lib.hid (HO1.out.stay h2);have g1:=HG2.out.cell (j:=1) rfl;have o2:=HO2.out.cell (j:=2) rfl;have o3:=HO2.out.cell (j:=3) rfl;clear h2))
  all_goals
   go_ret
   exact ⟨by simp_all,HB3.out⟩
theorem FrM.setF {g:Fr} {vC vU vS:Value} {W w0:World} (h:FrM g vC vU vS W) {X:Nat} {a b c:Value} {e:Int} {T:TypeId} (hB:HBox W X [a,b,c,.int .i32 e] T) (ha:IsS a) (hb:IsS b) (hc:IsS c) (hS:Recs dcl 1 w0 vS g.S) (h0:Below w0.heap.size w0 W) (hX:w0.heap.size≤X) (j:Nat) (u:Value):FrM g vC vU vS (W.setCell ⟨X,j,none⟩ u) :=
 ⟨h.c.setF hB ha hb hc cc_num j u,h.u.setF hB ha hb hc uc_num j u,hS.stay (h0.setCell (p:=⟨X,j,none⟩) hX u)⟩
theorem nextF_eq (f:Fr) (s:Spn) (o:Rop):nextF f s o=(match doneF f o with | .error e=>.error e | .ok g=>if chkF g=0 then (if s.out g=true then .error 13 else .ok g) else .error (chkF g)):=by
 unfold nextF lookF
 cases doneF f o with
 | error e=>rfl
 | ok g =>
  simp only
  by_cases h1:chkF g=0
  ·by_cases h2:s.out g=true
   ·simp [h1,h2]
   ·simp [h1,h2]
  ·simp [h1]
def DoneX (K:Value→List Int→Prop) (w':World) (vC vU vS:Value) (E z:Int):Except Int Fr→Prop
 | .error c=>z=c
 | .ok g=>z=0∧E=g.E∧FrM g vC vU vS w'∧K vS g.S
theorem DoneR.two {K:Value→List Int→Prop} {w':World} {e:Ending} {r:Except Int Fr} (h:DoneR K w' e r):∃ a1 b1 d1 a2 b2 d2 a3 b3 d3 x3 z,e = .returned (.tuple #[.agg #[.slice a1 b1 d1,.slice a2 b2 d2,.slice a3 b3 d3,.int .i32 x3],.int .i64 z])∧DoneX K w' (.slice a1 b1 d1) (.slice a2 b2 d2) (.slice a3 b3 d3) x3 z r:=by
 cases r with
 | error c=>obtain ⟨a1,b1,d1,a2,b2,d2,a3,b3,d3,x3,rfl⟩:=h;exact ⟨_,_,_,_,_,_,_,_,_,_,_,rfl,rfl⟩
 | ok g =>
  obtain ⟨vC,vU,vS,rfl,hF,hK⟩:=h
  obtain ⟨a1,b1,d1,rfl⟩:=IsS.of hF.c
  obtain ⟨a2,b2,d2,rfl⟩:=IsS.of hF.u
  obtain ⟨a3,b3,d3,rfl⟩:=IsS.of hF.s
  exact ⟨_,_,_,_,_,_,_,_,_,_,_,rfl,rfl,rfl,hF,hK⟩
theorem DoneX.stay {K:Value→List Int→Prop} {w w':World} {vC vU vS:Value} {E z:Int} {r:Except Int Fr} (h:DoneX K w vC vU vS E z r) (hb:Below w.heap.size w w'):DoneX K w' vC vU vS E z r:=by
 cases r with
 | error c=>exact h
 | ok g=>exact ⟨h.1,h.2.1,h.2.2.1.stay hb,h.2.2.2⟩
theorem next_c (f:Fr) (vC vU vS:Value) (s:Spn) (o:Rop) (vP vO:Value) (pos:Int) (w:World) (hI:InI w) (hF:FrM f vC vU vS w) (hk:chkF f=0) (hM:RopM w o vP vO) (hl:o.starts.length≤100) (K:Value→List Int→Prop) (hK1:K vS f.S) (hK2:K vO o.starts) :
 Calls Tryz.prog 16 #[frV vC vU vS f.E,spnV s,ropV o vP vO pos] w fun e w'=>FrR K w' e (nextF f s o)∧Below w.heap.size w w':=by
 obtain ⟨r1,n1,c1,rfl⟩:=IsS.of hF.c
 obtain ⟨r2,n2,c2,rfl⟩:=IsS.of hF.u
 obtain ⟨r3,n3,c3,rfl⟩:=IsS.of hF.s
 obtain ⟨r4,n4,c4,rfl⟩:=IsS.of hM.starts
 have KD:=Lib.hid (fun (W:World) (h:Below w.heap.size w W)=>done_c f _ _ _ o vP _ pos W (hF.stay h) hk (hM.stay h) (fun v l=>K v l∧Recs dcl 1 w v l) ⟨hK1,hF.s⟩ ⟨hK2,hM.starts⟩)
 have KI:=Lib.hid (fun (g:Fr) (hg:doneF f o = .ok g)=>doneF_in hk hg hl)
 have KE:=Lib.hid (fun (e:Int) (he:doneF f o = .error e)=>doneF_err he)
 have KF:=Lib.hid (fun (g:Fr) (vC vU vS:Value) (W:World) (h:Below w.heap.size w W) (hF:FrM g vC vU vS W) (hi:FrIn g)=>fcheck_b vC vU vS g W (hI.stay h) hF hi)
 have KO:=Lib.hid (fun (g:Fr) (vC vU vS:Value) (W:World) (hF:FrM g vC vU vS W) (hk:chkF g=0)=>out_s s g vC vU vS W hF hk)
 have hnx:=nextF_eq f s o
 obtain ⟨OUT,hOUT⟩:∃ OUT:Fr→Bool,s.out=OUT:=⟨_,rfl⟩
 rw [hOUT] at hnx KO
 clear hOUT
 generalize nextF f s o=RR at *
 generalize doneF f o=DD at *
 have HNX:=Lib.hid hnx
 clear hnx hI hF hk hM hl hK1 hK2
 unfold frV ropV at KD
 unfold frV spnV at KO
 unfold frV at KF
 unfold frV spnV ropV
 obtain ⟨FC,FU,FS,E⟩:=f
 obtain ⟨kd,fr,tt,nm,ps,ss,en,_,_,_,_,_,_,_⟩:=o
 obtain ⟨fi,la,so,_,_⟩:=s
 simp only at *
 have hB0:=((((Below.refl w.heap.size w).alloc (Nat.le_refl _) (.cells #[.slice r1 n1 c1,.slice r2 n2 c2,.slice r3 n3 c3,.int .i32 E] 41)).alloc (by simp) (.cells #[.int .i32 fi,.int .i32 la,.bool so] 44)).alloc (by simp;omega) (.cells #[.int .i64 kd,.int .u32 (fr:Int),.int .u32 (tt:Int),.string nm,vP,.slice r4 n4 c4,.int .i32 en,.int .i64 pos] 49)).alloc (by simp;omega) (.cells #[.slice none 0 0,.slice none 0 0,.slice none 0 0,.int .i32 0] 41)
 have hG:=(((HBox.new w [.slice r1 n1 c1,.slice r2 n2 c2,.slice r3 n3 c3,.int .i32 E] 41).alloc (.cells #[.int .i32 fi,.int .i32 la,.bool so] 44)).alloc (.cells #[.int .i64 kd,.int .u32 (fr:Int),.int .u32 (tt:Int),.string nm,vP,.slice r4 n4 c4,.int .i32 en,.int .i64 pos] 49)).alloc (.cells #[.slice none 0 0,.slice none 0 0,.slice none 0 0,.int .i32 0] 41)
 have hS:=((HBox.new (w.alloc (.cells #[.slice r1 n1 c1,.slice r2 n2 c2,.slice r3 n3 c3,.int .i32 E] 41)) [.int .i32 fi,.int .i32 la,.bool so] 44).alloc (.cells #[.int .i64 kd,.int .u32 (fr:Int),.int .u32 (tt:Int),.string nm,vP,.slice r4 n4 c4,.int .i32 en,.int .i64 pos] 49)).alloc (.cells #[.slice none 0 0,.slice none 0 0,.slice none 0 0,.int .i32 0] 41)
 have hO:=(HBox.new ((w.alloc (.cells #[.slice r1 n1 c1,.slice r2 n2 c2,.slice r3 n3 c3,.int .i32 E] 41)).alloc (.cells #[.int .i32 fi,.int .i32 la,.bool so] 44)) [.int .i64 kd,.int .u32 (fr:Int),.int .u32 (tt:Int),.string nm,vP,.slice r4 n4 c4,.int .i32 en,.int .i64 pos] 49).alloc (.cells #[.slice none 0 0,.slice none 0 0,.slice none 0 0,.int .i32 0] 41)
 have hZ:=HBox.new (((w.alloc (.cells #[.slice r1 n1 c1,.slice r2 n2 c2,.slice r3 n3 c3,.int .i32 E] 41)).alloc (.cells #[.int .i32 fi,.int .i32 la,.bool so] 44)).alloc (.cells #[.int .i64 kd,.int .u32 (fr:Int),.int .u32 (tt:Int),.string nm,vP,.slice r4 n4 c4,.int .i32 en,.int .i64 pos] 49)) [.slice none 0 0,.slice none 0 0,.slice none 0 0,.int .i32 0] 41
 rw [show (w.alloc (.cells #[.slice r1 n1 c1,.slice r2 n2 c2,.slice r3 n3 c3,.int .i32 E] 41)).heap.size=w.heap.size+1 by simp] at hS
 rw [show ((w.alloc (.cells #[.slice r1 n1 c1,.slice r2 n2 c2,.slice r3 n3 c3,.int .i32 E] 41)).alloc (.cells #[.int .i32 fi,.int .i32 la,.bool so] 44)).heap.size=w.heap.size+1+1 by simp] at hO
 rw [show (((w.alloc (.cells #[.slice r1 n1 c1,.slice r2 n2 c2,.slice r3 n3 c3,.int .i32 E] 41)).alloc (.cells #[.int .i32 fi,.int .i32 la,.bool so] 44)).alloc (.cells #[.int .i64 kd,.int .u32 (fr:Int),.int .u32 (tt:Int),.string nm,vP,.slice r4 n4 c4,.int .i32 en,.int .i64 pos] 49)).heap.size=w.heap.size+1+1+1 by simp] at hZ
 change HBox ((((w.alloc (.cells #[.slice r1 n1 c1,.slice r2 n2 c2,.slice r3 n3 c3,.int .i32 E] 41)).alloc (.cells #[.int .i32 fi,.int .i32 la,.bool so] 44)).alloc (.cells #[.int .i64 kd,.int .u32 (fr:Int),.int .u32 (tt:Int),.string nm,vP,.slice r4 n4 c4,.int .i32 en,.int .i64 pos] 49)).alloc (.cells #[.slice none 0 0,.slice none 0 0,.slice none 0 0,.int .i32 0] 41)) _ _ _ at hG hS hO hZ
 go_enter Tryz.func16,Tryz.ntmps16
 go_upto_region 1 with fail
 generalize ((((w.alloc (.cells #[.slice r1 n1 c1,.slice r2 n2 c2,.slice r3 n3 c3,.int .i32 E] 41)).alloc (.cells #[.int .i32 fi,.int .i32 la,.bool so] 44)).alloc (.cells #[.int .i64 kd,.int .u32 (fr:Int),.int .u32 (tt:Int),.string nm,vP,.slice r4 n4 c4,.int .i32 en,.int .i64 pos] 49)).alloc (.cells #[.slice none 0 0,.slice none 0 0,.slice none 0 0,.int .i32 0] 41))=W1 at *
 obtain ⟨G,hGG⟩:∃ G,w.heap.size=G:=⟨_,rfl⟩
 rw [hGG] at hG hS hO hZ ⊢
 have HGG:=Lib.hid hGG
 have HB0:=Lib.hid hB0
 have HG1:=Lib.hid hG
 have HS1:=Lib.hid hS
 have HZ1:=Lib.hid hZ
 have g0:=hG.cell (j:=0) rfl
 have g1:=hG.cell (j:=1) rfl
 have g2:=hG.cell (j:=2) rfl
 have g3:=hG.cell (j:=3) rfl
 have o0:=hO.cell (j:=0) rfl
 have o1:=hO.cell (j:=1) rfl
 have o2:=hO.cell (j:=2) rfl
 have o3:=hO.cell (j:=3) rfl
 have o4:=hO.cell (j:=4) rfl
 have o5:=hO.cell (j:=5) rfl
 have o6:=hO.cell (j:=6) rfl
 have o7:=hO.cell (j:=7) rfl
 clear hG hO hZ hS hB0 hGG
 go_upto_region 2 with (go_at_call 35;refine (KD.out _ HB0.out).mono ?_;rintro e w5 ⟨hr,h5⟩;obtain ⟨a1,b1,d1,a2,b2,d2,a3,b3,d3,x3,z,rfl,hx⟩:=hr.two;have HX5:=Lib.hid hx;have HB5:=Lib.hid (HB0.out.trans (h5.mono HB0.out.size));have HS5:=Lib.hid (HS1.out.stay h5);have HZ5:=Lib.hid (HZ1.out.stay h5);clear h5 hr hx)
 have hQ:=HBox.new w5 [.slice a1 b1 d1,.slice a2 b2 d2,.slice a3 b3 d3,.int .i32 x3] 41
 change HBox (w5.alloc (.cells #[.slice a1 b1 d1,.slice a2 b2 d2,.slice a3 b3 d3,.int .i32 x3] 41)) _ _ _ at hQ
 have HX6:=Lib.hid (DoneX.stay HX5.out ((Below.refl _ _).alloc (Nat.le_refl _) (.cells #[.slice a1 b1 d1,.slice a2 b2 d2,.slice a3 b3 d3,.int .i32 x3] 41)))
 have HB6:=Lib.hid (HB5.out.alloc HB5.out.size (.cells #[.slice a1 b1 d1,.slice a2 b2 d2,.slice a3 b3 d3,.int .i32 x3] 41))
 have HS6:=Lib.hid (HS5.out.alloc (.cells #[.slice a1 b1 d1,.slice a2 b2 d2,.slice a3 b3 d3,.int .i32 x3] 41))
 have HZ6:=Lib.hid (HZ5.out.alloc (.cells #[.slice a1 b1 d1,.slice a2 b2 d2,.slice a3 b3 d3,.int .i32 x3] 41))
 have hGQ:G+1+1+1<w5.heap.size:=HZ5.out.size
 generalize w5.alloc (.cells #[.slice a1 b1 d1,.slice a2 b2 d2,.slice a3 b3 d3,.int .i32 x3] 41)=W6 at *
 generalize w5.heap.size=Q at *
 clear g0 g1 g2 g3 o0 o1 o2 o3 o4 o5 o6 o7
 have HQ6:=Lib.hid hQ
 have q0:=hQ.cell (j:=0) rfl
 have q1:=hQ.cell (j:=1) rfl
 have q2:=hQ.cell (j:=2) rfl
 have q3:=hQ.cell (j:=3) rfl
 clear hQ
 cases DD with
 | error c =>
  obtain rfl:z=c:=HX6.out
  have hz:=KE.out z rfl
  have t1:((z:Int) == 0)=false:=by rw [beq_eq_false_iff_ne];exact hz
  have t2:((z:Int) != 0)=true:=by rw [bne_iff_ne];exact hz
  have z0:=HZ6.out.cell (j:=0) rfl
  have zf0:=HZ6.out.frozen 0
  have z1:=HZ6.out.cell (j:=1) rfl
  have zf1:=HZ6.out.frozen 1
  have z2:=HZ6.out.cell (j:=2) rfl
  have zf2:=HZ6.out.frozen 2
  have z3:=HZ6.out.cell (j:=3) rfl
  have zf3:=HZ6.out.frozen 3
  have zs:=HZ6.out.size
  go_wp2_with fail
  have z9:=HZ6.out.set4g (.slice none 0 0) (.slice none 0 0) (.slice none 0 0) (.int .i32 0)
  have hb9:=(((HB6.out.setCell (p:=⟨G+1+1+1,0,none⟩) (by have:=HGG.out;show w.heap.size≤G+1+1+1;omega) (.slice none 0 0)).setCell (p:=⟨G+1+1+1,1,none⟩) (by have:=HGG.out;show w.heap.size≤G+1+1+1;omega) (.slice none 0 0)).setCell (p:=⟨G+1+1+1,2,none⟩) (by have:=HGG.out;show w.heap.size≤G+1+1+1;omega) (.slice none 0 0)).setCell (p:=⟨G+1+1+1,3,none⟩) (by have:=HGG.out;show w.heap.size≤G+1+1+1;omega) (.int .i32 0)
  generalize ((((W6.setCell ⟨G+1+1+1,0,none⟩ (.slice none 0 0)).setCell ⟨G+1+1+1,1,none⟩ (.slice none 0 0)).setCell ⟨G+1+1+1,2,none⟩ (.slice none 0 0)).setCell ⟨G+1+1+1,3,none⟩ (.int .i32 0))=W9 at *
  have e0:=z9.cell (j:=0) rfl
  have e1:=z9.cell (j:=1) rfl
  have e2:=z9.cell (j:=2) rfl
  have e3:=z9.cell (j:=3) rfl
  clear z9
  refine bodyPost_ret (v:=.tuple #[.agg #[.slice none 0 0,.slice none 0 0,.slice none 0 0,.int .i32 0],.int .i64 z]) (by simp [results,Tryz.results16,go_sem,e0,e1,e2,e3]) rfl ?_
  exact ⟨by rw [HNX.out];rfl,hb9⟩
 | ok g =>
  obtain ⟨hz,hE,hF,hK,hS⟩:=HX6.out
  have hin:=KI.out g rfl
  subst hz
  subst hE
  have KFc:=Lib.hid (KF.out g _ _ _ W6 HB6.out hF hin)
  have HF6:=Lib.hid hF
  have HKK:Hid (K (.slice a3 b3 d3) g.S):=hK
  have HSS:Hid (Recs dcl 1 w (.slice a3 b3 d3) g.S):=hS
  clear hF hin hK hS
  have ARM:=True
  clear ARM
  by_cases h0:chkF g=0
  case neg =>
   have HNE:Hid (RR = .error (chkF g)):=Lib.hid (by rw [HNX.out];exact if_neg h0)
   generalize chkF g=zc at *
   have t1:((zc:Int) == 0)=false:=by rw [beq_eq_false_iff_ne];exact h0
   have t2:((zc:Int) != 0)=true:=by rw [bne_iff_ne];exact h0
   clear h0
   go_wp2_with (go_at_call 19;refine KFc.out.mono ?_;rintro e w7 ⟨rfl,h7⟩;have HB7:=Lib.hid (HB6.out.trans (h7.mono HB6.out.size));have HS7:=Lib.hid (HS6.out.stay h7);have HZ7:=Lib.hid (HZ6.out.stay h7);have HQ7:=Lib.hid (HQ6.out.stay h7);have HF7:=Lib.hid (HF6.out.stay h7);have z0:=HZ7.out.cell (j:=0) rfl;have zf0:=HZ7.out.frozen 0;have z1:=HZ7.out.cell (j:=1) rfl;have zf1:=HZ7.out.frozen 1;have z2:=HZ7.out.cell (j:=2) rfl;have zf2:=HZ7.out.frozen 2;have z3:=HZ7.out.cell (j:=3) rfl;have zf3:=HZ7.out.frozen 3;have zs:=HZ7.out.size;have q0:=HQ7.out.cell (j:=0) rfl;have qf0:=HQ7.out.frozen 0;have q1:=HQ7.out.cell (j:=1) rfl;have qf1:=HQ7.out.frozen 1;have q2:=HQ7.out.cell (j:=2) rfl;have qf2:=HQ7.out.frozen 2;have q3:=HQ7.out.cell (j:=3) rfl;have qf3:=HQ7.out.frozen 3;have qs:=HQ7.out.size;have s0:=HS7.out.cell (j:=0) rfl;have s1:=HS7.out.cell (j:=1) rfl;have s2:=HS7.out.cell (j:=2) rfl;clear h7)
   have z9:=HZ7.out.set4g (.slice none 0 0) (.slice none 0 0) (.slice none 0 0) (.int .i32 0)
   have hb9:=(((HB7.out.setCell (p:=⟨G+1+1+1,0,none⟩) (by have:=HGG.out;show w.heap.size≤G+1+1+1;omega) (.slice none 0 0)).setCell (p:=⟨G+1+1+1,1,none⟩) (by have:=HGG.out;show w.heap.size≤G+1+1+1;omega) (.slice none 0 0)).setCell (p:=⟨G+1+1+1,2,none⟩) (by have:=HGG.out;show w.heap.size≤G+1+1+1;omega) (.slice none 0 0)).setCell (p:=⟨G+1+1+1,3,none⟩) (by have:=HGG.out;show w.heap.size≤G+1+1+1;omega) (.int .i32 0)
   generalize ((((w7.setCell ⟨G+1+1+1,0,none⟩ (.slice none 0 0)).setCell ⟨G+1+1+1,1,none⟩ (.slice none 0 0)).setCell ⟨G+1+1+1,2,none⟩ (.slice none 0 0)).setCell ⟨G+1+1+1,3,none⟩ (.int .i32 0))=W9 at *
   have e0:=z9.cell (j:=0) rfl
   have e1:=z9.cell (j:=1) rfl
   have e2:=z9.cell (j:=2) rfl
   have e3:=z9.cell (j:=3) rfl
   clear z9
   refine bodyPost_ret (v:=.tuple #[.agg #[.slice none 0 0,.slice none 0 0,.slice none 0 0,.int .i32 0],.int .i64 zc]) (by simp [results,Tryz.results16,go_sem,e0,e1,e2,e3]) rfl ?_
   exact ⟨by rw [HNE.out];rfl,hb9⟩
  case pos =>
   have KOc:=Lib.hid (fun (W:World) (h:Below W6.heap.size W6 W)=>KO.out g _ _ _ W (HF6.out.stay h) h0)
   rw [h0] at KFc
   cases ho:OUT g with
   | true =>
    have HNE:Hid (RR = .error 13):=Lib.hid (by rw [HNX.out];simp only [h0,ho,if_true])
    rw [ho] at KOc
    clear h0 ho
    go_wp2_with (first
     | (go_at_call 36;refine (KOc.out _ HW7.out).mono ?_;rintro e w8 ⟨rfl,h8⟩;have HB8:=Lib.hid (HB7.out.trans (h8.mono HB7.out.size));have HZ8:=Lib.hid (HZ7.out.stay h8);have HQ8:=Lib.hid (HQ7.out.stay h8);have HF8:=Lib.hid (HF7.out.stay h8);have z0:=HZ8.out.cell (j:=0) rfl;have zf0:=HZ8.out.frozen 0;have z1:=HZ8.out.cell (j:=1) rfl;have zf1:=HZ8.out.frozen 1;have z2:=HZ8.out.cell (j:=2) rfl;have zf2:=HZ8.out.frozen 2;have z3:=HZ8.out.cell (j:=3) rfl;have zf3:=HZ8.out.frozen 3;have zs:=HZ8.out.size;have q0:=HQ8.out.cell (j:=0) rfl;have qf0:=HQ8.out.frozen 0;have q1:=HQ8.out.cell (j:=1) rfl;have qf1:=HQ8.out.frozen 1;have q2:=HQ8.out.cell (j:=2) rfl;have qf2:=HQ8.out.frozen 2;have q3:=HQ8.out.cell (j:=3) rfl;have qf3:=HQ8.out.frozen 3;have qs:=HQ8.out.size;clear h8)
     | (go_at_call 19;refine KFc.out.mono ?_;rintro e w7 ⟨rfl,h7⟩;have HW7:=Lib.hid h7;have HB7:=Lib.hid (HB6.out.trans (h7.mono HB6.out.size));have HS7:=Lib.hid (HS6.out.stay h7);have HZ7:=Lib.hid (HZ6.out.stay h7);have HQ7:=Lib.hid (HQ6.out.stay h7);have HF7:=Lib.hid (HF6.out.stay h7);have z0:=HZ7.out.cell (j:=0) rfl;have zf0:=HZ7.out.frozen 0;have z1:=HZ7.out.cell (j:=1) rfl;have zf1:=HZ7.out.frozen 1;have z2:=HZ7.out.cell (j:=2) rfl;have zf2:=HZ7.out.frozen 2;have z3:=HZ7.out.cell (j:=3) rfl;have zf3:=HZ7.out.frozen 3;have zs:=HZ7.out.size;have q0:=HQ7.out.cell (j:=0) rfl;have qf0:=HQ7.out.frozen 0;have q1:=HQ7.out.cell (j:=1) rfl;have qf1:=HQ7.out.frozen 1;have q2:=HQ7.out.cell (j:=2) rfl;have qf2:=HQ7.out.frozen 2;have q3:=HQ7.out.cell (j:=3) rfl;have qf3:=HQ7.out.frozen 3;have qs:=HQ7.out.size;have s0:=HS7.out.cell (j:=0) rfl;have s1:=HS7.out.cell (j:=1) rfl;have s2:=HS7.out.cell (j:=2) rfl;clear h7))
    have z9:=HZ8.out.set4g (.slice none 0 0) (.slice none 0 0) (.slice none 0 0) (.int .i32 0)
    have hb9:=(((HB8.out.setCell (p:=⟨G+1+1+1,0,none⟩) (by have:=HGG.out;show w.heap.size≤G+1+1+1;omega) (.slice none 0 0)).setCell (p:=⟨G+1+1+1,1,none⟩) (by have:=HGG.out;show w.heap.size≤G+1+1+1;omega) (.slice none 0 0)).setCell (p:=⟨G+1+1+1,2,none⟩) (by have:=HGG.out;show w.heap.size≤G+1+1+1;omega) (.slice none 0 0)).setCell (p:=⟨G+1+1+1,3,none⟩) (by have:=HGG.out;show w.heap.size≤G+1+1+1;omega) (.int .i32 0)
    generalize ((((w8.setCell ⟨G+1+1+1,0,none⟩ (.slice none 0 0)).setCell ⟨G+1+1+1,1,none⟩ (.slice none 0 0)).setCell ⟨G+1+1+1,2,none⟩ (.slice none 0 0)).setCell ⟨G+1+1+1,3,none⟩ (.int .i32 0))=W9 at *
    have e0:=z9.cell (j:=0) rfl
    have e1:=z9.cell (j:=1) rfl
    have e2:=z9.cell (j:=2) rfl
    have e3:=z9.cell (j:=3) rfl
    clear z9
    refine bodyPost_ret (v:=.tuple #[.agg #[.slice none 0 0,.slice none 0 0,.slice none 0 0,.int .i32 0],.int .i64 13]) (by simp [results,Tryz.results16,go_sem,e0,e1,e2,e3]) rfl ?_
    exact ⟨by rw [HNE.out];rfl,hb9⟩
   | false =>
    have HNE:Hid (RR = .ok g):=Lib.hid (by rw [HNX.out];simp only [h0,ho,if_true,Bool.false_eq_true,if_false])
    rw [ho] at KOc
    clear h0 ho
    have hZ0:IsS (.slice none 0 0):=nilS
    go_wp2_with (first
     | (go_at_call 36;refine (KOc.out _ HW7.out).mono ?_;rintro e w8 ⟨rfl,h8⟩;have HB8:=Lib.hid (HB7.out.trans (h8.mono HB7.out.size));have HZ8:=Lib.hid (HZ7.out.stay h8);have HQ8:=Lib.hid (HQ7.out.stay h8);have HF8:=Lib.hid (HF7.out.stay h8);have z0:=HZ8.out.cell (j:=0) rfl;have zf0:=HZ8.out.frozen 0;have z1:=HZ8.out.cell (j:=1) rfl;have zf1:=HZ8.out.frozen 1;have z2:=HZ8.out.cell (j:=2) rfl;have zf2:=HZ8.out.frozen 2;have z3:=HZ8.out.cell (j:=3) rfl;have zf3:=HZ8.out.frozen 3;have zs:=HZ8.out.size;have q0:=HQ8.out.cell (j:=0) rfl;have qf0:=HQ8.out.frozen 0;have q1:=HQ8.out.cell (j:=1) rfl;have qf1:=HQ8.out.frozen 1;have q2:=HQ8.out.cell (j:=2) rfl;have qf2:=HQ8.out.frozen 2;have q3:=HQ8.out.cell (j:=3) rfl;have qf3:=HQ8.out.frozen 3;have qs:=HQ8.out.size;clear h8)
     | (go_at_call 19;refine KFc.out.mono ?_;rintro e w7 ⟨rfl,h7⟩;have HW7:=Lib.hid h7;have HB7:=Lib.hid (HB6.out.trans (h7.mono HB6.out.size));have HS7:=Lib.hid (HS6.out.stay h7);have HZ7:=Lib.hid (HZ6.out.stay h7);have HQ7:=Lib.hid (HQ6.out.stay h7);have HF7:=Lib.hid (HF6.out.stay h7);have z0:=HZ7.out.cell (j:=0) rfl;have zf0:=HZ7.out.frozen 0;have z1:=HZ7.out.cell (j:=1) rfl;have zf1:=HZ7.out.frozen 1;have z2:=HZ7.out.cell (j:=2) rfl;have zf2:=HZ7.out.frozen 2;have z3:=HZ7.out.cell (j:=3) rfl;have zf3:=HZ7.out.frozen 3;have zs:=HZ7.out.size;have q0:=HQ7.out.cell (j:=0) rfl;have qf0:=HQ7.out.frozen 0;have q1:=HQ7.out.cell (j:=1) rfl;have qf1:=HQ7.out.frozen 1;have q2:=HQ7.out.cell (j:=2) rfl;have qf2:=HQ7.out.frozen 2;have q3:=HQ7.out.cell (j:=3) rfl;have qf3:=HQ7.out.frozen 3;have qs:=HQ7.out.size;have s0:=HS7.out.cell (j:=0) rfl;have s1:=HS7.out.cell (j:=1) rfl;have s2:=HS7.out.cell (j:=2) rfl;clear h7))
    have z9:=HZ8.out.set4g (.slice a1 b1 d1) (.slice a2 b2 d2) (.slice a3 b3 d3) (.int .i32 g.E)
    have hb9:=(((HB8.out.setCell (p:=⟨G+1+1+1,0,none⟩) (by have:=HGG.out;show w.heap.size≤G+1+1+1;omega) (.slice a1 b1 d1)).setCell (p:=⟨G+1+1+1,1,none⟩) (by have:=HGG.out;show w.heap.size≤G+1+1+1;omega) (.slice a2 b2 d2)).setCell (p:=⟨G+1+1+1,2,none⟩) (by have:=HGG.out;show w.heap.size≤G+1+1+1;omega) (.slice a3 b3 d3)).setCell (p:=⟨G+1+1+1,3,none⟩) (by have:=HGG.out;show w.heap.size≤G+1+1+1;omega) (.int .i32 g.E)
    have z1':=HZ8.out.set 0 (.slice a1 b1 d1)
    change HBox _ _ [.slice a1 b1 d1,.slice none 0 0,.slice none 0 0,.int .i32 0] _ at z1'
    have z2':=z1'.set 1 (.slice a2 b2 d2)
    change HBox _ _ [.slice a1 b1 d1,.slice a2 b2 d2,.slice none 0 0,.int .i32 0] _ at z2'
    have z3':=z2'.set 2 (.slice a3 b3 d3)
    change HBox _ _ [.slice a1 b1 d1,.slice a2 b2 d2,.slice a3 b3 d3,.int .i32 0] _ at z3'
    have i1:IsS (.slice a1 b1 d1):=⟨_,_,_,rfl⟩
    have i2:IsS (.slice a2 b2 d2):=⟨_,_,_,rfl⟩
    have i3:IsS (.slice a3 b3 d3):=⟨_,_,_,rfl⟩
    have hlt:w.heap.size≤G+1+1+1:=by have:=HGG.out;omega
    have b1':=HB8.out.setCell (p:=⟨G+1+1+1,0,none⟩) hlt (.slice a1 b1 d1)
    have b2':=b1'.setCell (p:=⟨G+1+1+1,1,none⟩) hlt (.slice a2 b2 d2)
    have b3':=b2'.setCell (p:=⟨G+1+1+1,2,none⟩) hlt (.slice a3 b3 d3)
    have f9:=(((HF8.out.setF HZ8.out nilS nilS nilS HSS.out HB8.out hlt 0 (.slice a1 b1 d1)).setF z1' i1 nilS nilS HSS.out b1' hlt 1 (.slice a2 b2 d2)).setF z2' i1 i2 nilS HSS.out b2' hlt 2 (.slice a3 b3 d3)).setF z3' i1 i2 i3 HSS.out b3' hlt 3 (.int .i32 g.E)
    clear z1' z2' z3' b1' b2' b3'
    generalize ((((w8.setCell ⟨G+1+1+1,0,none⟩ (.slice a1 b1 d1)).setCell ⟨G+1+1+1,1,none⟩ (.slice a2 b2 d2)).setCell ⟨G+1+1+1,2,none⟩ (.slice a3 b3 d3)).setCell ⟨G+1+1+1,3,none⟩ (.int .i32 g.E))=W9 at *
    have e0:=z9.cell (j:=0) rfl
    have e1:=z9.cell (j:=1) rfl
    have e2:=z9.cell (j:=2) rfl
    have e3:=z9.cell (j:=3) rfl
    clear z9
    refine bodyPost_ret (v:=.tuple #[.agg #[.slice a1 b1 d1,.slice a2 b2 d2,.slice a3 b3 d3,.int .i32 g.E],.int .i64 0]) (by simp [results,Tryz.results16,go_sem,e0,e1,e2,e3]) rfl ?_
    exact ⟨by rw [HNE.out];exact ⟨_,_,_,rfl,f9,HKK.out⟩,hb9⟩
structure Rm where
 o:Rop
 vP:Value
 vS:Value
 pos:Int
def rmc (p:Rm):List Value:=ropC p.o p.vP p.vS p.pos
def RRow (w:World) (v:Value) (ps:List Rm):Prop:=Recs rmc 8 w v ps ∧ ∀ p ∈ ps,RopM w p.o p.vP p.vS
theorem RRow.stay {w w':World} {v:Value} {ps:List Rm} (h:RRow w v ps) (hb:Below w.heap.size w w'):RRow w' v ps:=⟨h.1.stay hb,fun p hp=>(h.2 p hp).stay hb⟩
theorem FrR.errX {K:Value→List Int→Prop} {w':World} {e:Ending} {c:Int} (h:FrR K w' e (.error c)):e = .returned (.tuple #[.agg #[.slice none 0 0,.slice none 0 0,.slice none 0 0,.int .i32 0],.int .i64 c]):=h
theorem FrR.okX {K:Value→List Int→Prop} {w':World} {e:Ending} {g:Fr} (h:FrR K w' e (.ok g)):∃ a1 b1 k1 a2 b2 k2 a3 b3 k3,e = .returned (.tuple #[.agg #[.slice a1 b1 k1,.slice a2 b2 k2,.slice a3 b3 k3,.int .i32 g.E],.int .i64 0])∧FrM g (.slice a1 b1 k1) (.slice a2 b2 k2) (.slice a3 b3 k3) w'∧K (.slice a3 b3 k3) g.S:=by
 obtain ⟨vC,vU,vS,rfl,hF,hK⟩:=h
 obtain ⟨a1,b1,k1,rfl⟩:=IsS.of hF.c
 obtain ⟨a2,b2,k2,rfl⟩:=IsS.of hF.u
 obtain ⟨a3,b3,k3,rfl⟩:=IsS.of hF.s
 exact ⟨_,_,_,_,_,_,_,_,_,rfl,hF,hK⟩
theorem frame_set {w W:World} {X:Nat} {a b c:Value} {e:Int} {T:TypeId} {g:Fr} {vC vU vS:Value} (hB:HBox W X [a,b,c,.int .i32 e] T) (ha:IsS a) (hb:IsS b) (hc:IsS c) (hF:FrM g vC vU vS W) (hS:Recs dcl 1 w vS g.S) (h0:Below w.heap.size w W) (hX:w.heap.size≤X) :
 HBox ((((W.setCell ⟨X,0,none⟩ vC).setCell ⟨X,1,none⟩ vU).setCell ⟨X,2,none⟩ vS).setCell ⟨X,3,none⟩ (.int .i32 g.E)) X [vC,vU,vS,.int .i32 g.E] T∧Below w.heap.size w ((((W.setCell ⟨X,0,none⟩ vC).setCell ⟨X,1,none⟩ vU).setCell ⟨X,2,none⟩ vS).setCell ⟨X,3,none⟩ (.int .i32 g.E))∧FrM g vC vU vS ((((W.setCell ⟨X,0,none⟩ vC).setCell ⟨X,1,none⟩ vU).setCell ⟨X,2,none⟩ vS).setCell ⟨X,3,none⟩ (.int .i32 g.E)):=by
 have z1:=hB.set 0 vC
 change HBox _ X [vC,b,c,.int .i32 e] _ at z1
 have z2:=z1.set 1 vU
 change HBox _ X [vC,vU,c,.int .i32 e] _ at z2
 have z3:=z2.set 2 vS
 change HBox _ X [vC,vU,vS,.int .i32 e] _ at z3
 have z4:=z3.set 3 (.int .i32 g.E)
 change HBox _ X [vC,vU,vS,.int .i32 g.E] _ at z4
 have i1:=IsS.of hF.c
 have i2:=IsS.of hF.u
 have i3:=IsS.of hF.s
 have b1:=h0.setCell (p:=⟨X,0,none⟩) hX vC
 have b2:=b1.setCell (p:=⟨X,1,none⟩) hX vU
 have b3:=b2.setCell (p:=⟨X,2,none⟩) hX vS
 exact ⟨z4,b3.setCell (p:=⟨X,3,none⟩) hX (.int .i32 g.E),(((hF.setF hB ha hb hc hS h0 hX 0 vC).setF z1 i1 hb hc hS b1 hX 1 vU).setF z2 i1 i2 hc hS b2 hX 2 vS).setF z3 i1 i2 i3 hS b3 hX 3 (.int .i32 g.E)⟩

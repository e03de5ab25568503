/- Accounts and charts in plain words: find, ways, what may be, what the law's charts are made of. -/
import Derived.WalkKit
import Derived.Test.YtjgmbjfijpmhdaaGreatDoorChecked
import Derived.Test.YtjgmbjfijpmhdaaGreatDoorZBa
import Derived.Lib.Hide
import Derived.BigQuiet
import Derived.LoopTactic
import Derived.Outline
import Derived.Test.YtjgmbjfijpmhdaaGreatDoorZThree
import Derived.Deep.QuietTactic
import Derived.Laws.StructEq
import Derived.Deep.LoopGhost
import Derived.OwnWalk
import Derived.Test.YtjgmbjfijpmhdaaGreatDoorZKall
import Derived.Laws.OwnMore
set_option maxRecDepth 100000
set_option maxHeartbeats 2000000
namespace Go.Proofs.YtjgmbjfijpmhdaaGreatDoor
open Go.RowKit
set_option linter.unusedVariables false
set_option linter.unusedSimpArgs false
structure Ac where
 code:Nat
 name:ByteArray
 kind:Nat
 par:Nat
 hc:code<4294967296
 hk:kind<256
 hp:par<4294967296
 hn:name.size≤9223372036854775807
theorem Ac.eq_of {x y:Ac} (h1:x.code=y.code) (h2:x.name=y.name) (h3:x.kind=y.kind) (h4:x.par=y.par):x=y:=by
 obtain ⟨a,e,p,q,_,_,_,_⟩:=x
 obtain ⟨a',e',p',q',_,_,_,_⟩:=y
 simp only at h1 h2 h3 h4
 subst h1 h2 h3 h4
 rfl
instance:Inhabited Ac:=⟨⟨0,⟨#[]⟩,0,0,by omega,by omega,by omega,by decide⟩⟩
def cc (x:Ac):List Value:=[.int .u32 (x.code:Int),.string x.name,.int .u8 (x.kind:Int),.int .u32 (x.par:Int)]
def cv (x:Ac):Value:=.agg #[.int .u32 (x.code:Int),.string x.name,.int .u8 (x.kind:Int),.int .u32 (x.par:Int)]
theorem cc_len (x:Ac):(cc x).length=4:=rfl
theorem cc_one (x:Ac):∀ v ∈ cc x,v.oneCell'=true:=fun v hv=>by simp [cc] at hv;rcases hv with rfl | rfl | rfl | rfl <;> rfl
def sameA (x y:Ac):Bool:=x.code == y.code && (x.name.toList == y.name.toList && (x.kind == y.kind && x.par == y.par))
theorem toList_inj {a b:ByteArray} (h:a.toList=b.toList):a=b:=by
 rw [ByteArray.toList_eq,ByteArray.toList_eq] at h
 obtain ⟨⟨x⟩⟩:=a
 obtain ⟨⟨y⟩⟩:=b
 simp only at h
 subst h
 rfl
theorem sameA_iff {x y:Ac}:sameA x y=true ↔ x=y:=by
 unfold sameA
 simp only [Bool.and_eq_true,beq_iff_eq]
 exact ⟨fun ⟨h1,h2,h3,h4⟩=>Ac.eq_of h1 (toList_inj h2) h3 h4,fun h=>by subst h;simp⟩
instance:DecidableEq Ac:=fun x y=>if h:sameA x y=true then .isTrue (sameA_iff.1 h) else .isFalse fun e=>h (sameA_iff.2 e)
def getA (c:List Ac) (n:Nat):Option Ac:=c.find? (fun a=>a.code == n)
def belowA (c:List Ac) (n:Nat):Nat:=c.countP (fun a=>decide (a.code<n))
def RiseA (c:List Ac):Prop:=c.Pairwise (fun a b=>a.code<b.code)
def wayF:Nat→List Ac→Nat→List Nat
 | 0,_,_=>[]
 | k+1,c,n=>match getA c n with
  | none=>[]
  | some a=>n :: wayF k c a.par
def kidsA (c:List Ac) (n:Nat):List Nat:=(c.filter (fun a=>a.par == n)).map Ac.code
def signB (b:UInt8):Bool:=(decide (97≤b.toNat) && decide (b.toNat≤122)) || (decide (65≤b.toNat) && decide (b.toNat≤90)) || (decide (48≤b.toNat) && decide (b.toNat≤57)) || b.toNat == 32 || b.toNat == 46
def nameB (l:List UInt8):Bool:=decide (0<l.length) && decide (l.length<31) && l.all signB && !(l.headD 0 == 32) && !(l.getLastD 0 == 32)
def one1 (h:Nat) (a:Ac):Int:=if a.code=0∨999999<a.code then 5 else if a.code≤h then 6 else if nameB a.name.toList=false then 10 else if 5≤a.kind then 9 else 0
def chk1:Nat→List Ac→Int
 | _,[]=>0
 | h,a :: r=>if one1 h a≠0 then one1 h a else chk1 a.code r
def one2 (c:List Ac) (a:Ac):Int:=if a.par=0 then 0 else match getA c a.par with
 | none=>8
 | some p=>if p.kind≠a.kind then 9 else if 12<(wayF 13 c a.code).length then 11 else 0
def chk2 (c:List Ac):List Ac→Int
 | []=>0
 | a :: r=>if one2 c a≠0 then one2 c a else chk2 c r
def chkA (c:List Ac):Int:=if 200<c.length then 2 else if chk1 0 c≠0 then chk1 0 c else chk2 c c
theorem one1_zero {h:Nat} {a:Ac}:one1 h a=0 ↔ (0<a.code∧a.code≤999999)∧h<a.code∧nameB a.name.toList=true∧a.kind<5:=by
 unfold one1
 split
 ·constructor
  ·intro h;omega
  ·rintro ⟨h1,_⟩;omega
 ·split
  ·constructor
   ·intro h;omega
   ·rintro ⟨_,h1,_⟩;omega
  ·split
   ·rename_i h3
    constructor
    ·intro h;omega
    ·rintro ⟨_,_,h1,_⟩;rw [h3] at h1;cases h1
   ·rename_i h1 h2 h3
    split
    ·constructor
     ·intro h;omega
     ·rintro ⟨_,_,_,h4⟩;omega
    ·simp only [Bool.not_eq_false] at h3
     constructor
     ·intro _;exact ⟨by omega,by omega,h3,by omega⟩
     ·intro _;rfl
theorem chk1_rise:∀ {h:Nat} {c:List Ac},chk1 h c=0→RiseA c ∧ ∀ a ∈ c,h<a.code∧one1 0 a=0
 | h,[],_=>⟨List.Pairwise.nil,fun a ha=>by cases ha⟩
 | h,a :: r,e=>by
  unfold chk1 at e
  split at e
  ·contradiction
  ·rename_i h1
   simp only [ne_eq,Decidable.not_not] at h1
   obtain ⟨h2,h3⟩:=chk1_rise e
   have h1':=one1_zero.1 h1
   refine ⟨List.Pairwise.cons (fun b hb=>(h3 b hb).1) h2,fun b hb=>?_⟩
   rcases List.mem_cons.1 hb with rfl | hb
   ·exact ⟨h1'.2.1,one1_zero.2 ⟨h1'.1,h1'.1.1,h1'.2.2⟩⟩
   ·exact ⟨Nat.lt_trans h1'.2.1 (h3 b hb).1,(h3 b hb).2⟩
theorem getA_some {c:List Ac} {n:Nat} {a:Ac} (h:getA c n=some a):a ∈ c∧a.code=n:=by
 unfold getA at h
 exact ⟨List.mem_of_find?_eq_some h,by simpa using List.find?_some h⟩
theorem getA_none {c:List Ac} {n:Nat}:getA c n=none ↔ ∀ a ∈ c,a.code≠n:=by
 unfold getA
 rw [List.find?_eq_none]
 simp
theorem RiseA.inj {c:List Ac} (h:RiseA c) {a b:Ac} (ha:a ∈ c) (hb:b ∈ c) (e:a.code=b.code):a=b:=by
 induction c with
 | nil=>cases ha
 | cons x r ih =>
  obtain ⟨h1,h2⟩:=List.pairwise_cons.1 h
  rcases List.mem_cons.1 ha with rfl | ha' <;> rcases List.mem_cons.1 hb with rfl | hb'
  ·rfl
  ·have:=h1 b hb';omega
  ·have:=h1 a ha';omega
  ·exact ih h2 ha' hb'
theorem getA_mem {c:List Ac} (h:RiseA c) {a:Ac} (ha:a ∈ c):getA c a.code=some a:=by
 cases e:getA c a.code with
 | none=>exact absurd rfl (getA_none.1 e a ha)
 | some b=>obtain ⟨h1,h2⟩:=getA_some e;rw [h.inj h1 ha h2]
theorem wayF_len (k:Nat) (c:List Ac) (n:Nat):(wayF k c n).length≤k:=by
 induction k generalizing n with
 | zero=>simp [wayF]
 | succ k ih =>
  unfold wayF
  split
  ·simp
  ·rename_i a _
   simp only [List.length_cons]
   have:=ih a.par
   omega
theorem wayF_some {c:List Ac} {n:Nat} {a:Ac} (e:getA c n=some a) (k:Nat):wayF (k+1) c n=n :: wayF k c a.par:=by
 simp only [wayF,e]
theorem wayF_none {c:List Ac} {n:Nat} (e:getA c n=none) (k:Nat):wayF k c n=[]:=by
 cases k with
 | zero=>rfl
 | succ k=>simp only [wayF,e]
theorem wayF_zero {c:List Ac} (h:∀ a ∈ c,0<a.code) (k:Nat):wayF k c 0=[]:=by
 exact wayF_none (getA_none.2 fun a ha=>by have:=h a ha;omega) k
theorem belowA_lt {c:List Ac} (h:RiseA c):∀ (i:Nat) (a:Ac),c[i]?=some a → ∀ n,(i<belowA c n ↔ a.code<n):=by
 induction c with
 | nil=>intro i a e;simp at e
 | cons x r ih =>
  obtain ⟨h1,h2⟩:=List.pairwise_cons.1 h
  intro i a e n
  unfold belowA
  rw [List.countP_cons]
  have hz:¬ x.code<n→r.countP (fun a=>decide (a.code<n))=0:=fun hx=>by
   rw [List.countP_eq_zero]
   intro b hb
   have:=h1 b hb
   simp;omega
  cases i with
  | zero =>
   simp only [List.getElem?_cons_zero,Option.some.injEq] at e
   subst e
   by_cases hx:x.code<n
   ·simp [hx]
   ·simp [hx,hz hx]
  | succ i =>
   simp only [List.getElem?_cons_succ] at e
   have ih':=ih h2 i a e n
   unfold belowA at ih'
   have ha:x.code<a.code:=h1 a (List.mem_of_getElem? e)
   by_cases hx:x.code<n
   ·simp [hx];exact ih'
   ·simp [hx,hz hx];omega
theorem belowA_le (c:List Ac) (n:Nat):belowA c n≤c.length:=List.countP_le_length
structure Qt where
 code:Nat
 kind:Nat
 par:Nat
 name:Nat
 h1:code<256
 h2:kind<256
 h3:par<256
 h4:name<256
instance:Inhabited Qt:=⟨⟨0,0,0,0,by omega,by omega,by omega,by omega⟩⟩
def qc (x:Qt):List Value:=[.int .u8 (x.code:Int),.int .u8 (x.kind:Int),.int .u8 (x.par:Int),.int .u8 (x.name:Int)]
theorem qc_len (x:Qt):(qc x).length=4:=rfl
def nm5:Nat→ByteArray
 | 0=>⟨#[67,97,115,104]⟩
 | 1=>⟨#[97]⟩
 | 2=>⟨#[66,97,110,107,32,49]⟩
 | 3=>⟨#[76,111,115,115,46,120]⟩
 | _=>⟨#[49,50,51,52,53,54,55,56,57,48,49,50,51,52,53,54,55,56,57,48,49,50,51,52,53,54,55,56,57,48]⟩
theorem nm5_size:∀ n,(nm5 n).size≤9223372036854775807
 | 0=>by decide
 | 1=>by decide
 | 2=>by decide
 | 3=>by decide
 | n+4=>by show (nm5 4).size≤_;decide
theorem nm5_ok:∀ n,nameB (nm5 n).toList=true
 | 0=>by rw [ByteArray.toList_eq];decide +kernel
 | 1=>by rw [ByteArray.toList_eq];decide +kernel
 | 2=>by rw [ByteArray.toList_eq];decide +kernel
 | 3=>by rw [ByteArray.toList_eq];decide +kernel
 | n+4=>by show nameB (nm5 4).toList=true;rw [ByteArray.toList_eq];decide +kernel
def bareA (n:Nat) (x:Qt):Ac:=⟨(n+1+x.code % 4) % 4294967296,nm5 (x.name % 5),x.kind % 5,0,Nat.mod_lt _ (by omega),by omega,by omega,nm5_size _⟩
def Ac.inA (a p:Ac):Ac:=⟨a.code,a.name,p.kind,p.code,a.hc,p.hk,p.hc,a.hn⟩
def newA (c:List Ac) (n:Nat) (x:Qt):Ac :=
 if 0<c.length∧0<x.par % 3 then
  match c[x.par % c.length]? with
  | none=>bareA n x
  | some p=>if (wayF 13 c p.code).length<11 then (bareA n x).inA p else bareA n x
 else bareA n x
def stI (l:List Qt):Nat→List Ac × Nat
 | 0=>([],0)
 | i+1=>match l[i]? with
  | none=>stI l i
  | some x=>((stI l i).1 ++ [newA (stI l i).1 (stI l i).2 x],(stI l i).2+1+x.code % 4)
def mkC (l:List Qt):List Ac:=(stI l (min 40 l.length)).1
structure Made (c:List Ac) (n:Nat):Prop where
 rise:RiseA c
 pos:∀ a ∈ c,0<a.code∧a.code≤n
 name:∀ a ∈ c,nameB a.name.toList=true
 kind:∀ a ∈ c,a.kind<5
 up:∀ a ∈ c,a.par=0 ∨ ∃ p ∈ c,p.code=a.par∧p.kind=a.kind∧p.code<a.code
 deep:∀ a ∈ c,(wayF 13 c a.code).length≤11
theorem wayF_mono (k:Nat) (c:List Ac) (n:Nat):(wayF k c n).length≤(wayF (k+1) c n).length:=by
 induction k generalizing n with
 | zero=>simp [wayF]
 | succ k ih =>
  cases e:getA c n with
  | none=>rw [wayF_none e,wayF_none e];exact Nat.le_refl _
  | some a=>rw [wayF_some e,wayF_some e];simp only [List.length_cons];have:=ih a.par;omega
theorem getA_app {c:List Ac} {a:Ac} {n:Nat} (h:∃ b ∈ c,b.code=n):getA (c ++ [a]) n=getA c n:=by
 unfold getA
 rw [List.find?_append]
 obtain ⟨b,hb,e⟩:=h
 have:(c.find? (fun a=>a.code == n)).isSome:=by rw [List.find?_isSome];exact ⟨b,hb,by simp [e]⟩
 obtain ⟨x,hx⟩:=Option.isSome_iff_exists.1 this
 rw [hx];rfl
theorem wayF_app {c:List Ac} {a:Ac} (hp:∀ b ∈ c,0<b.code) (ha:0<a.code) (hu:∀ b ∈ c,b.par=0 ∨ ∃ p ∈ c,p.code=b.par):∀ (k n:Nat),(n=0 ∨ ∃ b ∈ c,b.code=n)→wayF k (c ++ [a]) n=wayF k c n
 | 0,n,_=>rfl
 | k+1,n,h=>by
  rcases h with rfl | h
  ·rw [wayF_zero hp,wayF_zero]
   intro b hb
   rcases List.mem_append.1 hb with h | h
   ·exact hp b h
   ·simp at h;subst h;exact ha
  ·have e1:=getA_app (a:=a) h
   cases e:getA c n with
   | none=>rw [wayF_none e,wayF_none (by rw [e1,e])]
   | some b =>
    rw [wayF_some e,wayF_some (by rw [e1,e])]
    rw [wayF_app hp ha hu k b.par (hu b (getA_some e).1)]
theorem Made.nil:Made [] 0:=⟨List.Pairwise.nil,by simp,by simp,by simp,by simp,by simp⟩
theorem Made.up' {c:List Ac} {n:Nat} (h:Made c n):∀ b ∈ c,b.par=0 ∨ ∃ p ∈ c,p.code=b.par:=fun b hb=>(h.up b hb).imp id fun ⟨p,h1,h2,_⟩=>⟨p,h1,h2⟩
theorem Made.more {c:List Ac} {n m:Nat} (h:Made c n) {a:Ac} (hn:n<a.code) (hm:a.code≤m) (h1:nameB a.name.toList=true) (h2:a.kind<5)
 (h3:a.par=0 ∨ ∃ p ∈ c,p.code=a.par∧p.kind=a.kind∧(wayF 13 c p.code).length<11):Made (c ++ [a]) m:=by
 have hp:∀ b ∈ c,0<b.code:=fun b hb=>(h.pos b hb).1
 have ha:0<a.code:=by omega
 have hw:=wayF_app hp ha h.up'
 refine ⟨?_,?_,?_,?_,?_,?_⟩
 ·refine List.pairwise_append.2 ⟨h.rise,List.pairwise_singleton _ _,fun x hx y hy=>?_⟩
  simp at hy;subst hy
  have:=(h.pos x hx).2;omega
 ·intro b hb
  rcases List.mem_append.1 hb with hb | hb
  ·have:=h.pos b hb;omega
  ·simp at hb;subst hb;omega
 ·intro b hb
  rcases List.mem_append.1 hb with hb | hb
  ·exact h.name b hb
  ·simp at hb;subst hb;exact h1
 ·intro b hb
  rcases List.mem_append.1 hb with hb | hb
  ·exact h.kind b hb
  ·simp at hb;subst hb;exact h2
 ·intro b hb
  rcases List.mem_append.1 hb with hb | hb
  ·rcases h.up b hb with e | ⟨p,hp,e1,e2,e3⟩
   ·exact .inl e
   ·exact .inr ⟨p,List.mem_append_left _ hp,e1,e2,e3⟩
  ·simp at hb;subst hb
   rcases h3 with e | ⟨p,hp,e1,e2,e3⟩
   ·exact .inl e
   ·exact .inr ⟨p,List.mem_append_left _ hp,e1,e2,by have:=(h.pos p hp).2;omega⟩
 ·intro b hb
  rcases List.mem_append.1 hb with hb | hb
  ·rw [hw 13 b.code (.inr ⟨b,hb,rfl⟩)];exact h.deep b hb
  ·simp at hb;subst hb
   have hg:getA (c ++ [b]) b.code=some b:=by
    unfold getA
    rw [List.find?_append]
    have:c.find? (fun a=>a.code == b.code)=none:=getA_none.2 fun x hx e=>by have:=(h.pos x hx).2;omega
    rw [this];simp
   rw [wayF_some hg,List.length_cons]
   rcases h3 with e | ⟨p,hpc,e1,e2,e3⟩
   ·rw [e,hw 12 0 (.inl rfl),wayF_zero hp];simp
   ·rw [← e1,hw 12 p.code (.inr ⟨p,hpc,rfl⟩)]
    have:(wayF 12 c p.code).length≤(wayF 13 c p.code).length:=wayF_mono 12 c p.code
    omega
theorem stI_made (l:List Qt):∀ i,i≤40→Made (stI l i).1 (stI l i).2∧(stI l i).2≤4 * i∧(stI l i).1.length≤i
 | 0,_=>⟨Made.nil,by simp [stI],by simp [stI]⟩
 | i+1,hi=>by
  obtain ⟨h1,h2,h3⟩:=stI_made l i (by omega)
  unfold stI
  split
  ·exact ⟨h1,by omega,by omega⟩
  ·rename_i x hx
   have hx4:x.code % 4<4:=Nat.mod_lt _ (by omega)
   have hcode:(bareA (stI l i).2 x).code=(stI l i).2+1+x.code % 4:=by unfold bareA;simp only;omega
   have hbare:Made ((stI l i).1 ++ [bareA (stI l i).2 x]) ((stI l i).2+1+x.code % 4):=h1.more (by omega) (by omega) (nm5_ok _) (Nat.mod_lt _ (by omega)) (.inl rfl)
   refine ⟨?_,by simp only;omega,by simp only [List.length_append,List.length_cons,List.length_nil];omega⟩
   unfold newA
   split
   ·split
    ·exact hbare
    ·rename_i p hp
     split
     ·rename_i hd
      have hpm:p ∈ (stI l i).1:=List.mem_of_getElem? hp
      exact h1.more (by show _<(bareA (stI l i).2 x).code;omega) (by show (bareA (stI l i).2 x).code≤_;omega) (nm5_ok _) (h1.kind p hpm) (.inr ⟨p,hpm,rfl,rfl,hd⟩)
     ·exact hbare
   ·exact hbare
theorem mkC_made (l:List Qt):Made (mkC l) 160∧(mkC l).length≤40:=by
 obtain ⟨h1,h2,h3⟩:=stI_made l (min 40 l.length) (by omega)
 refine ⟨?_,by unfold mkC;omega⟩
 exact ⟨h1.rise,fun a ha=>by have:=h1.pos a ha;omega,h1.name,h1.kind,h1.up,h1.deep⟩
theorem chk1_zero:∀ {h:Nat} {c:List Ac},RiseA c→(∀ a ∈ c,h<a.code∧one1 0 a=0)→chk1 h c=0
 | _,[],_,_=>rfl
 | h,a :: r,hr,ha=>by
  obtain ⟨h1,h2⟩:=List.pairwise_cons.1 hr
  obtain ⟨g1,g2⟩:=ha a (List.mem_cons_self ..)
  have g3:=one1_zero.1 g2
  have e:one1 h a=0:=one1_zero.2 ⟨g3.1,g1,g3.2.2⟩
  unfold chk1
  rw [e]
  simp only [ne_eq,not_true_eq_false,if_false]
  exact chk1_zero h2 fun b hb=>⟨h1 b hb,(ha b (List.mem_cons_of_mem _ hb)).2⟩
theorem chk2_zero {c:List Ac}:∀ {r:List Ac},(∀ a ∈ r,one2 c a=0)→chk2 c r=0
 | [],_=>rfl
 | a :: r,h=>by
  unfold chk2
  rw [h a (List.mem_cons_self ..)]
  simp only [ne_eq,not_true_eq_false,if_false]
  exact chk2_zero fun b hb=>h b (List.mem_cons_of_mem _ hb)
theorem Made.chk {c:List Ac} {n:Nat} (h:Made c n) (hn:n≤999999) (hl:c.length≤200):chkA c=0:=by
 have e1:chk1 0 c=0:=chk1_zero h.rise fun a ha=>⟨(h.pos a ha).1,one1_zero.2 ⟨⟨(h.pos a ha).1,by have:=(h.pos a ha).2;omega⟩,(h.pos a ha).1,h.name a ha,h.kind a ha⟩⟩
 have e2:chk2 c c=0:=chk2_zero fun a ha=>by
  unfold one2
  split
  ·rfl
  ·rename_i h0
   rcases h.up a ha with e | ⟨p,hp,e1,e2,e3⟩
   ·contradiction
   ·rw [← e1,getA_mem h.rise hp]
    simp only
    rw [if_neg (by omega),if_neg (by have:=h.deep a ha;omega)]
 unfold chkA
 rw [if_neg (by omega),e1,e2];simp
def outA (c:List Ac) (n:Nat):List Ac:=c.filter (fun a=>!(a.code == n))
def withA (c:List Ac) (a:Ac):List Ac:=c.filter (fun b=>decide (b.code<a.code)) ++ a :: c.filter (fun b=>decide (a.code<b.code))
def Ac.to (a:Ac) (t:Nat) (h:t<4294967296):Ac:=⟨a.code,a.name,a.kind,t,a.hc,a.hk,h,a.hn⟩
def moveA (c:List Ac) (f t:Nat) (h:t<4294967296):List Ac:=c.map (fun a=>if a.par=f then a.to t h else a)
theorem RiseA.filter {c:List Ac} (h:RiseA c) (p:Ac→Bool):RiseA (c.filter p):=List.Pairwise.filter p h
theorem outA_rise {c:List Ac} (h:RiseA c) (n:Nat):RiseA (outA c n):=h.filter _
theorem below_parts {c:List Ac} (h:RiseA c) (n:Nat):c.take (belowA c n)=c.filter (fun a=>decide (a.code<n))∧c.drop (belowA c n)=c.filter (fun a=>decide (n≤a.code)):=by
 induction c with
 | nil=>exact ⟨rfl,rfl⟩
 | cons x r ih =>
  obtain ⟨h1,h2⟩:=List.pairwise_cons.1 h
  obtain ⟨i1,i2⟩:=ih h2
  unfold belowA at i1 i2 ⊢
  by_cases hx:x.code<n
  ·rw [List.countP_cons_of_pos (by simpa using hx),List.take_succ_cons,List.drop_succ_cons,i1,i2]
   rw [List.filter_cons_of_pos (by simpa using hx),List.filter_cons_of_neg (by simp;omega)]
   exact ⟨rfl,rfl⟩
  ·have hz:r.countP (fun a=>decide (a.code<n))=0:=by
    rw [List.countP_eq_zero];intro b hb;have:=h1 b hb;simp;omega
   have hf:r.filter (fun a=>decide (a.code<n))=[]:=by
    rw [List.filter_eq_nil_iff];intro b hb;have:=h1 b hb;simp;omega
   have hg:r.filter (fun a=>decide (n≤a.code))=r:=by
    rw [List.filter_eq_self];intro b hb;have:=h1 b hb;simp;omega
   rw [List.countP_cons_of_neg (by simpa using hx),hz]
   rw [List.filter_cons_of_neg (by simpa using hx),List.filter_cons_of_pos (by simp;omega),hf,hg]
   exact ⟨rfl,rfl⟩
theorem out_parts {c:List Ac} (h:RiseA c) {n:Nat} {a:Ac} (ha:getA c n=some a):c[belowA c n]?=some a∧outA c n=c.take (belowA c n) ++ c.drop (belowA c n+1):=by
 obtain ⟨hm,hn⟩:=getA_some ha
 have hd:=(below_parts h n)
 have e:c.filter (fun x=>decide (n≤x.code))=a :: c.filter (fun x=>decide (n<x.code)):=by
  clear hd ha
  induction c with
  | nil=>cases hm
  | cons x r ih =>
   obtain ⟨h1,h2⟩:=List.pairwise_cons.1 h
   rcases List.mem_cons.1 hm with rfl | hm'
   ·rw [List.filter_cons_of_pos (by simp;omega),List.filter_cons_of_neg (by simp;omega)]
    congr 1
    apply List.filter_congr
    intro b hb
    have:=h1 b hb
    simp;omega
   ·have:=h1 a hm'
    rw [List.filter_cons_of_neg (by simp;omega),List.filter_cons_of_neg (by simp;omega)]
    exact ih h2 hm'
 have e1:c.drop (belowA c n)=a :: c.filter (fun x=>decide (n<x.code)):=hd.2.trans e
 refine ⟨?_,?_⟩
 ·have:(c.drop (belowA c n))[0]?=some a:=by rw [e1];rfl
  rw [List.getElem?_drop] at this
  simpa using this
 ·have e2:c.drop (belowA c n+1)=c.filter (fun x=>decide (n<x.code)):=by
   rw [← List.drop_drop,e1];rfl
  rw [e2,hd.1]
  unfold outA
  have hs:=List.filter_append_perm (fun x:Ac=>decide (x.code<n)) (outA c n)
  clear hs e e1 e2 hd ha
  induction c with
  | nil=>cases hm
  | cons x r ih =>
   obtain ⟨h1,h2⟩:=List.pairwise_cons.1 h
   rcases List.mem_cons.1 hm with rfl | hm'
   ·have hf:r.filter (fun x=>decide (x.code<n))=[]:=by
     rw [List.filter_eq_nil_iff];intro b hb;have:=h1 b hb;simp;omega
    rw [List.filter_cons_of_neg (by simp;omega),List.filter_cons_of_neg (by simp;omega),List.filter_cons_of_neg (by simp;omega),hf,List.nil_append]
    apply List.filter_congr
    intro b hb
    have:=h1 b hb
    have e1:(b.code == n)=false:=by simp;omega
    have e2:decide (n<b.code)=true:=by simp;omega
    rw [e1,e2];rfl
   ·have:=h1 a hm'
    rw [List.filter_cons_of_pos (by simp;omega),List.filter_cons_of_pos (by simp;omega),List.filter_cons_of_neg (by simp;omega),ih h2 hm']
    rfl
theorem out_none {c:List Ac} {n:Nat} (ha:getA c n=none):outA c n=c:=by
 unfold outA
 rw [List.filter_eq_self]
 intro b hb
 have:=getA_none.1 ha b hb
 simpa using this
theorem with_parts {c:List Ac} (h:RiseA c) (a:Ac):withA c a=(outA c a.code).take (belowA (outA c a.code) a.code) ++ ([a] ++ (outA c a.code).drop (belowA (outA c a.code) a.code)):=by
 obtain ⟨h1,h2⟩:=below_parts (outA_rise h a.code) a.code
 rw [h1,h2]
 unfold withA outA
 rw [List.filter_filter,List.filter_filter]
 congr 1
 ·apply List.filter_congr
  intro b _
  by_cases hb:b.code<a.code
  ·have:(b.code == a.code)=false:=by simp;omega
   simp [hb,this]
  ·simp [hb]
 ·show _=a :: _
  congr 1
  apply List.filter_congr
  intro b _
  by_cases hb:a.code<b.code
  ·have e1:(b.code == a.code)=false:=by simp;omega
   have e2:decide (a.code≤b.code)=true:=by simp;omega
   simp [hb,e1,e2]
  ·by_cases he:a.code=b.code
   ·have e1:(b.code == a.code)=true:=by simp [he]
    simp [he]
   ·have e2:decide (a.code≤b.code)=false:=by simp;omega
    simp [hb,e2]
theorem move_rise {c:List Ac} (h:RiseA c) (f t:Nat) (ht:t<4294967296):RiseA (moveA c f t ht):=by
 unfold RiseA moveA
 rw [List.pairwise_map]
 refine h.imp fun {a b} hab=>?_
 have e:∀ x:Ac,(if x.par=f then x.to t ht else x).code=x.code:=fun x=>by split <;> rfl
 rw [e,e];exact hab
theorem isnan32 (x:Int) (w:World):Calls Tryz.prog 218 #[.int .u32 x] w fun e w'=>e = .returned (.bool false)∧w'=w:=by
 go_enter Tryz.func218,Tryz.ntmps218
 go_wp2
 go_ret
 exact ⟨by simp,rfl⟩
def cmpN (m n:Nat):Int:=if m<n then -1 else if n<m then 1 else 0
theorem cmp32 (m n:Nat) (w:World):Calls Tryz.prog 181 #[.int .u32 (m:Int),.int .u32 (n:Int)] w fun e w'=>e = .returned (.int .i64 (cmpN m n))∧w'=w:=by
 have K:=Lib.hid (fun x=>isnan32 x w)
 unfold cmpN
 by_cases h1:m<n
 ·have e1:(m:Int)<(n:Int):=by omega
  rw [if_pos h1]
  go_enter Tryz.func181,Tryz.ntmps181
  go_wp2_with (go_at_call 218;refine (K.out _).mono ?_;rintro e w1 ⟨rfl,rfl⟩)
  go_ret
  exact ⟨rfl,rfl⟩
 ·have e1:¬ (m:Int)<(n:Int):=by omega
  rw [if_neg h1]
  by_cases h2:n<m
  ·have e2:(n:Int)<(m:Int):=by omega
   rw [if_pos h2]
   go_enter Tryz.func181,Tryz.ntmps181
   go_wp2_with (go_at_call 218;refine (K.out _).mono ?_;rintro e w1 ⟨rfl,rfl⟩)
   go_ret
   exact ⟨rfl,rfl⟩
  ·have e2:¬ (n:Int)<(m:Int):=by omega
   rw [if_neg h2]
   go_enter Tryz.func181,Tryz.ntmps181
   go_wp2_with (go_at_call 218;refine (K.out _).mono ?_;rintro e w1 ⟨rfl,rfl⟩)
   go_ret
   exact ⟨rfl,rfl⟩
theorem findc (x:Ac) (n:Nat) (w:World):Calls Tryz.prog 180 #[cv x,.int .u32 (n:Int)] w fun e w'=>e = .returned (.int .i64 (cmpN x.code n))∧Below w.heap.size w w':=by
 have K:=Lib.hid (fun w=>cmp32 x.code n w)
 have HB:=Lib.hid ((Below.refl w.heap.size w).alloc (Nat.le_refl _) (.cells #[.int .u32 (x.code:Int),.string x.name,.int .u8 (x.kind:Int),.int .u32 (x.par:Int)] 82))
 unfold cv
 generalize cmpN x.code n=r at *
 go_enter Tryz.func180,Tryz.ntmps180
 go_wp2_with (go_at_call 181;refine (K.out _).mono ?_;rintro e w1 ⟨rfl,rfl⟩)
 go_ret
 exact ⟨rfl,HB.out⟩
theorem code_c (n:Nat) (w:World):Calls Tryz.prog 90 #[.int .u32 (n:Int)] w fun e w'=>e = .returned (.bool (decide (0<n) && decide (n≤999999)))∧w'=w:=by
 by_cases h1:0<n
 ·by_cases h2:n≤999999
  ·rw [decide_eq_true h1,decide_eq_true h2]
   have e1:(1:Int)≤(n:Int):=by omega
   have e2:(n:Int)≤999999:=by omega
   go_enter Tryz.func90,Tryz.ntmps90
   go_wp2
   go_ret
   exact ⟨by simp,rfl⟩
  ·rw [decide_eq_true h1,decide_eq_false h2]
   have e1:(1:Int)≤(n:Int):=by omega
   have e2:¬ (n:Int)≤999999:=by omega
   go_enter Tryz.func90,Tryz.ntmps90
   go_wp2
   go_ret
   exact ⟨by simp,rfl⟩
 ·rw [decide_eq_false h1]
  have e1:¬ (1:Int)≤(n:Int):=by omega
  go_enter Tryz.func90,Tryz.ntmps90
  go_wp2
  go_ret
  exact ⟨by simp,rfl⟩
theorem getA_below {c:List Ac} (h:RiseA c) (n:Nat) {a:Ac} (ha:c[belowA c n]?=some a):(getA c n).isSome=decide (a.code=n):=by
 by_cases hn:a.code=n
 ·rw [decide_eq_true hn]
  rw [← hn,getA_mem h (List.mem_of_getElem? ha)];rfl
 ·rw [decide_eq_false hn]
  cases e:getA c n with
  | none=>rfl
  | some b =>
   have h1:=(out_parts h e).1
   rw [ha] at h1
   cases h1
   exact absurd (getA_some e).2 hn
theorem getA_end {c:List Ac} (h:RiseA c) (n:Nat) (ha:c.length≤belowA c n):(getA c n).isSome=false:=by
 cases e:getA c n with
 | none=>rfl
 | some b =>
  have h1:=(out_parts h e).1
  have:=(List.getElem?_eq_some_iff.1 h1).1
  omega
theorem Recs.cells4 {c:List Ac} {w:World} {g off i:Nat} {x:Ac} (h:∀ j u,(cc x)[j]?=some u→w.cell? ⟨g,off+i * 4+j,none⟩=some u) :
 w.cell? ⟨g,off+i * 4,none⟩=some (.int .u32 (x.code:Int))∧w.cell? ⟨g,off+i * 4+1,none⟩=some (.string x.name)∧w.cell? ⟨g,off+i * 4+2,none⟩=some (.int .u8 (x.kind:Int))∧w.cell? ⟨g,off+i * 4+3,none⟩=some (.int .u32 (x.par:Int)) :=
 ⟨h 0 _ rfl,h 1 _ rfl,h 2 _ rfl,h 3 _ rfl⟩
theorem bsearch_c (v:Value) (c:List Ac) (n:Nat) (w:World) (hR:Recs cc 4 w v c) (hr:RiseA c) (hl:c.length≤1000) :
 Calls Tryz.prog 179 #[v,.int .u32 (n:Int),.func (.func 180) #[] #[]] w fun e w' =>
  e = .returned (.tuple #[.int .i64 (belowA c n:Nat),.bool (getA c n).isSome])∧Below w.heap.size w w':=by
 obtain ⟨r,cap,rfl,hm⟩:=hR.form
 have HR:=Lib.hid hR
 obtain ⟨B,hB⟩:∃ B,belowA c n=B:=⟨_,rfl⟩
 obtain ⟨T,hT⟩:∃ T,(getA c n).isSome=T:=⟨_,rfl⟩
 obtain ⟨L,hL⟩:∃ L,c.length=L:=⟨_,rfl⟩
 have HB:Hid (∀ (i:Nat) (a:Ac),c[i]?=some a→(i<B ↔ a.code<n)):=Lib.hid (fun i a ha=>hB ▸ belowA_lt hr i a ha n)
 have HT:Hid (∀ a,c[B]?=some a→T=decide (a.code=n)):=Lib.hid (fun a ha=>hT ▸ getA_below hr n (hB.symm ▸ ha))
 have HE:Hid (L≤B→T=false):=Lib.hid (fun h=>hT ▸ getA_end hr n (by omega))
 have hBL:B≤L:=hB ▸ hL ▸ belowA_le c n
 have HL:=Lib.hid hL
 rw [hB,hT]
 rw [hL] at HR ⊢
 rw [hL] at hl
 clear hR hm hB hT hL hr
 go_enter Tryz.func179,Tryz.ntmps179
 go_wp2
 go_loopw [9,10] (fun i j wr=>∃ lo hi:Nat,i = .int .i64 lo∧j = .int .i64 hi∧lo≤B∧B≤hi∧hi≤L∧Below w.heap.size w wr) (fun i j _=>(RowKit.intOf j-RowKit.intOf i).toNat)
 case atStart=>exact ⟨0,L,rfl,rfl,Nat.zero_le _,hBL,Nat.le_refl _,Below.refl _ _⟩
 case round =>
  obtain ⟨lo,hi,rfl,rfl,h1,h2,h3,hb⟩:=hrel
  rename World=>wr
  by_cases hlt:lo<hi
  ·have hmid:(lo+hi) / 2<L:=by omega
   obtain ⟨a,ha⟩:∃ a,c[(lo+hi) / 2]?=some a:=⟨c[(lo+hi) / 2]'(by have:=HL.out;omega),List.getElem?_eq_getElem (by have:=HL.out;omega)⟩
   have hiff:=HB.out _ _ ha
   obtain ⟨g,off,rfl,hg,hc⟩:=(HR.out.stay hb).at ha
   obtain ⟨c0,c1,c2,c3⟩:=Recs.cells4 (c:=c) hc
   clear hc ha
   have K:=findc a n wr
   unfold cv at K
   by_cases hlow:a.code<n
   ·have e:cmpN a.code n = -1:=by unfold cmpN;rw [if_pos hlow]
    rw [e] at K
    clear e
    have hlB:=hiff.2 hlow
    have HK:=Lib.hid K
    have hbs:=hb.size
    have HW:=Lib.hid hb
    clear K hiff hlow hb
    go_wp2_with (go_at_call 180;refine HK.out.mono ?_;rintro e w1 ⟨rfl,hb1⟩;have HW1:=Lib.hid (HW.out.trans (hb1.mono hbs));clear hb1)
    go_roundw
    case rel=>exact ⟨(lo+hi) / 2+1,hi,by go_num,rfl,by omega,h2,h3,HW1.out⟩
    case measure=>simp [RowKit.intOf];omega
   ·have e:0≤cmpN a.code n:=by unfold cmpN;rw [if_neg hlow];split <;> omega
    have hlB:¬ (lo+hi) / 2<B:=fun h=>hlow (hiff.1 h)
    generalize cmpN a.code n=z at K e
    have HK:=Lib.hid K
    have hbs:=hb.size
    have HW:=Lib.hid hb
    clear K hiff hlow hb
    go_wp2_with (go_at_call 180;refine HK.out.mono ?_;rintro e w1 ⟨rfl,hb1⟩;have HW1:=Lib.hid (HW.out.trans (hb1.mono hbs));clear hb1)
    go_roundw
    case rel=>exact ⟨lo,(lo+hi) / 2,rfl,by go_num,h1,by omega,by omega,HW1.out⟩
    case measure=>simp [RowKit.intOf];omega
  ·obtain rfl:hi=lo:=by omega
   obtain rfl:B=hi:=by omega
   by_cases hn:B<L
   ·obtain ⟨a,ha⟩:∃ a,c[B]?=some a:=⟨c[B]'(by have:=HL.out;omega),List.getElem?_eq_getElem (by have:=HL.out;omega)⟩
    have ht:=HT.out _ ha
    obtain ⟨g,off,rfl,hg,hc⟩:=(HR.out.stay hb).at ha
    obtain ⟨c0,c1,c2,c3⟩:=Recs.cells4 (c:=c) hc
    clear hc ha
    have K:=findc a n wr
    unfold cv at K
    have e:T=(cmpN a.code n == 0):=by
     rw [ht];unfold cmpN
     by_cases x1:a.code<n
     ·rw [if_pos x1,decide_eq_false (by omega)];rfl
     ·by_cases x2:n<a.code
      ·rw [if_neg x1,if_pos x2,decide_eq_false (by omega)];rfl
      ·rw [if_neg x1,if_neg x2,decide_eq_true (by omega)];rfl
    generalize cmpN a.code n=z at K e
    have HEQ:=Lib.hid e
    have HK:=Lib.hid K
    have hbs:=hb.size
    have HW:=Lib.hid hb
    clear K hb e ht
    have hd:decide ((B:Int)<(L:Int))=true:=decide_eq_true (by omega)
    go_wp2_with (go_at_call 180;refine HK.out.mono ?_;rintro e w1 ⟨rfl,hb1⟩;have HW1:=Lib.hid (HW.out.trans (hb1.mono hbs));clear hb1)
    go_ret2
    exact ⟨by simp [HEQ.out],HW1.out⟩
   ·obtain rfl:=HE.out (by omega)
    have hd:decide ((B:Int)<(L:Int))=false:=decide_eq_false (by omega)
    go_wp2
    go_ret2
    exact ⟨rfl,hb⟩
theorem find_c (v:Value) (c:List Ac) (n:Nat) (w:World) (hR:Recs cc 4 w v c) (hr:RiseA c) (hl:c.length≤1000) :
 Calls Tryz.prog 126 #[v,.int .u32 (n:Int)] w fun e w'=>e = .returned (.tuple #[.int .i64 (belowA c n:Nat),.bool (getA c n).isSome])∧Below w.heap.size w w':=by
 have K:=Lib.hid (bsearch_c v c n w hR hr hl)
 clear hR hr hl
 generalize belowA c n=B at *
 generalize (getA c n).isSome=T at *
 go_enter Tryz.func126,Tryz.ntmps126
 go_wp2_with (go_at_call 179;refine K.out.mono ?_;rintro e w1 ⟨rfl,hb1⟩;have HB1:=Lib.hid hb1;clear hb1)
 go_ret2
 exact ⟨rfl,HB1.out⟩
theorem box4 {w w1:World} {c0 c1 c2 c3:Value} {T:TypeId} (hb:Below (w.alloc (.cells #[c0,c1,c2,c3] T)).heap.size (w.alloc (.cells #[c0,c1,c2,c3] T)) w1) :
 (w1.cell? ⟨w.heap.size,0,none⟩=some c0∧w1.cell? ⟨w.heap.size,1,none⟩=some c1∧w1.cell? ⟨w.heap.size,2,none⟩=some c2∧w1.cell? ⟨w.heap.size,3,none⟩=some c3) ∧
 (w1.frozen? ⟨w.heap.size,0,none⟩=false∧w1.frozen? ⟨w.heap.size,1,none⟩=false∧w1.frozen? ⟨w.heap.size,2,none⟩=false∧w1.frozen? ⟨w.heap.size,3,none⟩=false):=by
 have hs:w.heap.size<(w.alloc (.cells #[c0,c1,c2,c3] T)).heap.size:=by simp
 refine ⟨⟨?_,?_,?_,?_⟩,?_,?_,?_,?_⟩
 ·rw [hb.cell (p:=⟨w.heap.size,0,none⟩) hs];exact box_cell w _ T 0 _ rfl
 ·rw [hb.cell (p:=⟨w.heap.size,1,none⟩) hs];exact box_cell w _ T 1 _ rfl
 ·rw [hb.cell (p:=⟨w.heap.size,2,none⟩) hs];exact box_cell w _ T 2 _ rfl
 ·rw [hb.cell (p:=⟨w.heap.size,3,none⟩) hs];exact box_cell w _ T 3 _ rfl
 ·rw [hb.frozen (p:=⟨w.heap.size,0,none⟩) hs];exact World.frozen?_alloc_new _ _ _ _
 ·rw [hb.frozen (p:=⟨w.heap.size,1,none⟩) hs];exact World.frozen?_alloc_new _ _ _ _
 ·rw [hb.frozen (p:=⟨w.heap.size,2,none⟩) hs];exact World.frozen?_alloc_new _ _ _ _
 ·rw [hb.frozen (p:=⟨w.heap.size,3,none⟩) hs];exact World.frozen?_alloc_new _ _ _ _
theorem below_out {w w1:World} {o:Obj} (hb:Below (w.alloc o).heap.size (w.alloc o) w1):Below w.heap.size w w1 :=
 ((Below.refl w.heap.size w).alloc (Nat.le_refl _) o).trans (hb.mono (by simp))
def gv:Option Ac→Value
 | none=>.agg #[.int .u32 0,.string ⟨#[]⟩,.int .u8 0,.int .u32 0]
 | some a=>cv a
theorem get_none (v:Value) (c:List Ac) (n:Nat) (w:World) (hR:Recs cc 4 w v c) (hr:RiseA c) (hl:c.length≤1000) (h:getA c n=none) :
 Calls Tryz.prog 85 #[v,.int .u32 (n:Int)] w fun e w'=>e = .returned (.tuple #[.agg #[.int .u32 0,.string ⟨#[]⟩,.int .u8 0,.int .u32 0],.bool false])∧Below w.heap.size w w':=by
 have hB:=(Below.refl w.heap.size w).alloc (Nat.le_refl _) (.cells #[.int .u32 0,.string ⟨#[]⟩,.int .u8 0,.int .u32 0] 82)
 have K:=find_c v c n _ (hR.stay hB) hr hl
 have e1:(getA c n).isSome=false:=by rw [h];rfl
 rw [e1] at K
 generalize belowA c n=B at K
 have HK:=Lib.hid K
 have HB:=Lib.hid hB
 clear K e1 h hR hr hl hB
 go_enter Tryz.func85,Tryz.ntmps85
 go_wp2_with (go_at_call 126;refine HK.out.mono ?_;rintro e w1 ⟨rfl,hb1⟩;obtain ⟨⟨p0,p1,p2,p3⟩,f0,f1,f2,f3⟩:=box4 hb1;have HB1:=Lib.hid (below_out hb1);clear hb1)
 exact bodyPost_ret (v:=.tuple #[.agg #[.int .u32 0,.string ⟨#[]⟩,.int .u8 0,.int .u32 0],.bool false]) (by simp [results,Tryz.results85,go_sem,p0,p1,p2,p3]) rfl ⟨rfl,(((HB1.out.setCell (Nat.le_refl _) _).setCell (Nat.le_refl _) _).setCell (Nat.le_refl _) _).setCell (Nat.le_refl _) _⟩
theorem get_some (v:Value) (c:List Ac) (n:Nat) (a:Ac) (w:World) (hR:Recs cc 4 w v c) (hr:RiseA c) (hl:c.length≤1000) (h:getA c n=some a) :
 Calls Tryz.prog 85 #[v,.int .u32 (n:Int)] w fun e w'=>e = .returned (.tuple #[cv a,.bool true])∧Below w.heap.size w w':=by
 have hB:=(Below.refl w.heap.size w).alloc (Nat.le_refl _) (.cells #[.int .u32 0,.string ⟨#[]⟩,.int .u8 0,.int .u32 0] 82)
 have hR1:=hR.stay hB
 have K:=find_c v c n _ hR1 hr hl
 have e1:(getA c n).isSome=true:=by rw [h];rfl
 have ha:=(out_parts hr h).1
 have hlt:=(List.getElem?_eq_some_iff.1 ha).1
 rw [e1] at K
 generalize belowA c n=B at K ha hlt
 obtain ⟨r,cap,rfl,_⟩:=hR.form
 obtain ⟨g,off,rfl,hg,hc⟩:=hR1.at ha
 obtain ⟨c0,c1,c2,c3⟩:=Recs.cells4 (c:=c) hc
 have HK:=Lib.hid K
 have HB:=Lib.hid hB
 clear K e1 h hR hR1 hr hB hc ha
 unfold cv
 go_enter Tryz.func85,Tryz.ntmps85
 go_wp2_with (go_at_call 126;refine HK.out.mono ?_;rintro e w1 ⟨rfl,hb1⟩;have d0:=(hb1.cell (p:=⟨g,off+B * 4,none⟩) hg).trans c0;have d1:=(hb1.cell (p:=⟨g,off+B * 4+1,none⟩) hg).trans c1;have d2:=(hb1.cell (p:=⟨g,off+B * 4+2,none⟩) hg).trans c2;have d3:=(hb1.cell (p:=⟨g,off+B * 4+3,none⟩) hg).trans c3;obtain ⟨⟨p0,p1,p2,p3⟩,f0,f1,f2,f3⟩:=box4 hb1;have HB1:=Lib.hid (below_out hb1);clear hb1)
 exact bodyPost_ret (v:=.tuple #[.agg #[.int .u32 (a.code:Int),.string a.name,.int .u8 (a.kind:Int),.int .u32 (a.par:Int)],.bool true]) (by simp [results,Tryz.results85,go_sem,p0,p1,p2,p3]) rfl ⟨rfl,(((HB1.out.setCell (Nat.le_refl _) _).setCell (Nat.le_refl _) _).setCell (Nat.le_refl _) _).setCell (Nat.le_refl _) _⟩
theorem getA_at:∀ {c:List Ac} {n k:Nat} {a:Ac},(∀ j b,j<k→c[j]?=some b→b.code≠n)→c[k]?=some a→a.code=n→getA c n=some a
 | [],n,k,a,_,ha,_=>by simp at ha
 | x :: r,n,0,a,_,ha,hn=>by
  simp only [List.getElem?_cons_zero,Option.some.injEq] at ha
  subst ha
  unfold getA
  rw [List.find?_cons_of_pos (by simpa using hn)]
 | x :: r,n,k+1,a,h,ha,hn=>by
  have hx:x.code≠n:=h 0 x (by omega) rfl
  have:=getA_at (c:=r) (k:=k) (fun j b hj hb=>h (j+1) b (by omega) (by simpa using hb)) (by simpa using ha) hn
  unfold getA at this ⊢
  rw [List.find?_cons_of_neg (by simpa using hx)]
  exact this
theorem getA_out {c:List Ac} {n:Nat} (h:∀ j b,j<c.length→c[j]?=some b→b.code≠n):getA c n=none :=
 getA_none.2 fun a ha=>by
  obtain ⟨i,hi,e⟩:=List.getElem_of_mem ha
  exact h i a hi (by rw [List.getElem?_eq_getElem hi,e])
theorem getl_c (v:Value) (c:List Ac) (n:Nat) (w:World) (hR:Recs cc 4 w v c) :
 Calls Tryz.prog 68 #[v,.int .u32 (n:Int)] w fun e w'=>e = .returned (.tuple #[gv (getA c n),.bool (getA c n).isSome])∧Below w.heap.size w w':=by
 have hB:=(Below.refl w.heap.size w).alloc (Nat.le_refl _) (.cells #[.int .u32 0,.string ⟨#[]⟩,.int .u8 0,.int .u32 0] 82)
 obtain ⟨r,cap,rfl,hm⟩:=hR.form
 have HR:=Lib.hid (hR.stay hB)
 obtain ⟨L,hL⟩:∃ L,c.length=L:=⟨_,rfl⟩
 obtain ⟨G,hG⟩:∃ G,getA c n=G:=⟨_,rfl⟩
 have HL:=Lib.hid hL
 have HG:=Lib.hid hG
 rw [hG]
 rw [hL] at HR hm ⊢
 clear hR hB hL hG
 go_enter Tryz.func68,Tryz.ntmps68
 go_wp2
 generalize hW:w.alloc (.cells #[.int .u32 0,.string ⟨#[]⟩,.int .u8 0,.int .u32 0] 82)=W at *
 have HW:=Lib.hid hW
 clear hW
 go_loopw [10] (fun i wr=>∃ k:Nat,k≤L∧i = .int .i64 k∧Below W.heap.size W wr∧Hid (∀ j b,j<k→c[j]?=some b→b.code≠n)) (fun i _=>L-(RowKit.intOf i).toNat)
 case atStart=>exact ⟨0,Nat.zero_le _,rfl,Below.refl _ _,Lib.hid (fun j b hj=>by omega)⟩
 case round =>
  obtain ⟨k,hk,rfl,hb,HN⟩:=hrel
  rename World=>wr
  have hb':=hb
  rw [← HW.out] at hb'
  obtain ⟨⟨p0,p1,p2,p3⟩,f0,f1,f2,f3⟩:=box4 hb'
  have HB1:=Lib.hid (below_out hb')
  have hsz:w.heap.size<wr.heap.size:=by have:=hb'.size;simp at this;omega
  clear hb'
  by_cases hlt:k<L
  ·obtain ⟨a,ha⟩:∃ a,c[k]?=some a:=⟨c[k]'(by have:=HL.out;omega),List.getElem?_eq_getElem (by have:=HL.out;omega)⟩
   obtain ⟨g,off,rfl,hg,hc⟩:=(HR.out.stay hb).at ha
   obtain ⟨c0,c1,c2,c3⟩:=Recs.cells4 (c:=c) hc
   have HB3:=Lib.hid (hb.alloc hb.size (.cells #[.int .u32 (a.code:Int),.string a.name,.int .u8 (a.kind:Int),.int .u32 (a.par:Int)] 82))
   have HA:=Lib.hid ha
   clear hc ha hb
   by_cases hn:a.code=n
   ·have hd:((a.code:Int) == (n:Int))=true:=by simp [hn]
    have e:G=some a:=by rw [← HG.out];exact getA_at HN.out HA.out hn
    subst e
    clear hn
    go_wp2
    exact bodyPost_ret (v:=.tuple #[.agg #[.int .u32 (a.code:Int),.string a.name,.int .u8 (a.kind:Int),.int .u32 (a.par:Int)],.bool true]) (by simp [results,Tryz.results68,go_sem,p0,p1,p2,p3,hsz]) rfl ⟨rfl,((((HB1.out.setCell (Nat.le_refl _) _).setCell (Nat.le_refl _) _).setCell (Nat.le_refl _) _).setCell (Nat.le_refl _) _).alloc (by simp;omega) _⟩
   ·have hd:((a.code:Int) == (n:Int))=false:=by simp;omega
    go_wp2
    go_roundw
    case rel =>
     refine ⟨k+1,by omega,by go_num,HB3.out,Lib.hid (fun j b hj hb=>?_)⟩
     by_cases e:j=k
     ·subst e;rw [HA.out] at hb;cases hb;exact hn
     ·exact HN.out j b (by omega) hb
    case measure=>simp [RowKit.intOf];omega
  ·obtain rfl:k=L:=by omega
   have e:G=none:=by rw [← HG.out];exact getA_out fun j b hj=>HN.out j b (by have:=HL.out;omega)
   subst e
   go_wp2
   exact bodyPost_ret (v:=.tuple #[.agg #[.int .u32 0,.string ⟨#[]⟩,.int .u8 0,.int .u32 0],.bool false]) (by simp [results,Tryz.results68,go_sem,p0,p1,p2,p3]) rfl ⟨rfl,(((HB1.out.setCell (Nat.le_refl _) _).setCell (Nat.le_refl _) _).setCell (Nat.le_refl _) _).setCell (Nat.le_refl _) _⟩
def nc (n:Nat):List Value:=[.int .u32 (n:Int)]
theorem nc_len (n:Nat):(nc n).length=1:=rfl
theorem nc_one (n:Nat):∀ v ∈ nc n,v.oneCell'=true:=fun v hv=>by simp [nc] at hv;subst hv;rfl
theorem cells_new2 (w:World) (o:Obj) (cs:List Value) (T:TypeId):∀ j u,cs[j]?=some u→((w.alloc o).alloc (.cells cs.toArray T)).cell? ((⟨w.heap.size+1,0,none⟩:Addr).add j)=some u:=fun j u hu=>by
 have:=cells_new (w.alloc o) cs T j u hu
 simpa using this
theorem box_under (w:World) (cs:Array Value) (T:TypeId) (o:Obj) (j:Nat) (v:Value) (hv:cs[j]?=some v):((w.alloc (.cells cs T)).alloc o).cell? ⟨w.heap.size,j,none⟩=some v:=by
 rw [World.cell?_alloc_lt _ _ _ (by simp)]
 exact box_cell w cs T j v hv
theorem info32n:(Tryz.prog.info? 46).map (fun i=>(i.zero,i.size,i.bytes))=some (some (.int .u32 0),1,4):=by kernel_rfl
theorem way_step {k m:Nat} {c:List Ac} {a:Ac} {ks all:List Nat} (h:ks ++ wayF (k+1) c m=all) (e:getA c m=some a):(ks ++ [m]) ++ wayF k c a.par=all:=by
 rw [wayF_some e] at h
 rw [← h];simp
theorem way_c (v:Value) (c:List Ac) (n:Nat) (w:World) (hR:Recs cc 4 w v c) (hr:RiseA c) (hl:c.length≤1000) (hp:∀ a ∈ c,0<a.code) :
 Calls Tryz.prog 104 #[v,.int .u32 (n:Int)] w fun e w'=>∃ v',e = .returned v'∧Recs nc 1 w' v' (wayF 13 c n)∧Below w.heap.size w w':=by
 obtain ⟨i0,hi,hz0,hz1,hz2⟩:=info_parts info32n
 have HR:=Lib.hid hR
 have HC:=Lib.hid (And.intro hr (And.intro hl hp))
 obtain ⟨W13,hW13⟩:∃ l,wayF 13 c n=l:=⟨_,rfl⟩
 have HW:=Lib.hid hW13
 rw [hW13]
 have hlen13:Hid (W13.length≤13):=Lib.hid (hW13 ▸ wayF_len 13 c n)
 clear hR hr hl hp hW13
 go_enter Tryz.func104,Tryz.ntmps104
 go_wp2
 go_loopg [5,1] 13 (fun gk s5 s1 wr=>∃ (k m:Nat) (r:Option Addr) (cap:Nat) (ks:List Nat),s5 = .slice r k cap∧s1 = .int .u32 (m:Int)∧k≤13∧13-k≤gk∧wr.ownsRow w.heap.size 46 1 (.slice r k cap) k (ks.flatMap nc)∧Hid (ks.length=k∧ks ++ wayF (13-k) c m=W13)∧Below w.heap.size w wr)
 case atStart=>exact ⟨0,n,none,0,[],rfl,rfl,by omega,by omega,World.ownsRow_nil _ _ _ _,Lib.hid ⟨rfl,HW.out⟩,Below.refl _ _⟩
 case round =>
  obtain ⟨k,m,r,cap,ks,rfl,rfl,hk,hgk,hown,HK,hb⟩:=hrel
  by_cases hlt:k≤12
  ·have hbs:=hb.size
   cases hg:getA c m with
   | none =>
    have HQ:=Lib.hid (get_none v c m wr (HR.out.stay hb) HC.out.1 HC.out.2.1 hg)
    have HE:Hid (ks=W13):=Lib.hid (by have:=HK.out.2;rwa [wayF_none hg,List.append_nil] at this)
    have HB:=Lib.hid hb
    have HO:=Lib.hid hown
    clear hg hb hown
    go_wp2_with (go_at_call 85;refine HQ.out.mono ?_;rintro e w1 ⟨rfl,hb1⟩;have HO1:=Lib.hid (owns_stay HO.out hb1);have HB1:=Lib.hid (HB.out.trans (hb1.mono hbs));have hs1:=hb1.size;clear hb1)
    go_ret
    refine ⟨_,rfl,?_,HB1.out.alloc (by omega) _⟩
    rw [← HE.out]
    exact recs_of_owns nc_len (HO1.out.alloc _) HK.out.1.symm (by omega)
   | some a =>
    have HQ:=Lib.hid (get_some v c m a wr (HR.out.stay hb) HC.out.1 HC.out.2.1 hg)
    have HS:Hid ((ks ++ [m]) ++ wayF (12-k) c a.par=W13):=Lib.hid (way_step (by have:=HK.out.2;rwa [show 13-k=12-k+1 by omega] at this) hg)
    have HZ:Hid (a.par=0→ks ++ [m]=W13):=Lib.hid (fun h0=>by have:=HS.out;rwa [h0,wayF_zero HC.out.2.2,List.append_nil] at this)
    have HB:=Lib.hid hb
    have HO:=Lib.hid hown
    have HOL:=Lib.hid hown.lt
    clear hg hb hown
    unfold cv at HQ
    by_cases h0:a.par=0
    ·have hd:((a.par:Int) == 0)=true:=by simp [h0]
     have HZ1:=Lib.hid (HZ.out h0)
     clear h0
     go_wp2_with (first
      | (go_at_call 85;refine HQ.out.mono ?_;rintro e w1 ⟨rfl,hb1⟩;have HO1:=Lib.hid (owns_stay HO.out hb1);have HB1:=Lib.hid (HB.out.trans (hb1.mono hbs));have hs1:=hb1.size;clear hb1)
      | (at_builtin;refine wpList_append_own _ rfl (.tmp 19) (.tmp 21) 156 rfl w.heap.size 46 i0 (.int .u32 0) 1 4 Tryz.underlying156 hi hz0 hz1 hz2 rfl (by decide) _ k _ rfl ((HO1.out.alloc _).alloc _) ⟨w1.heap.size+1,0,none⟩ 1 1 (nc m) rfl rfl (cells_new2 _ _ (nc m) _) (nc_one m) (by unfold maxLen;omega) (by omega) (by simp;omega) ?_;intro v2 w3 hown3 hgrow3 _;have q3:=hgrow3.cell (box_under w1 _ _ _ 3 _ rfl) (fun e=>by have:=(HOL.out w1.heap.size e.symm).2;omega);have HB3:=Lib.hid (((HB1.out.alloc (by omega) _).alloc (by simp;omega) _).grown hgrow3 (by simp;omega) (fun j hj=>(HOL.out j hj).1));have HO3:=Lib.hid hown3;obtain ⟨r2,cap2,rfl⟩:=owns_form hown3;clear hgrow3 hown3))
     go_ret
     refine ⟨_,rfl,?_,HB3.out⟩
     rw [← HZ1.out]
     exact recs_of_owns nc_len (by rw [flat_snoc];exact HO3.out) (by simp;exact HK.out.1.symm) (by omega)
    ·have hd:((a.par:Int) == 0)=false:=by simp;omega
     clear h0 HZ
     go_wp2_with (first
      | (go_at_call 85;refine HQ.out.mono ?_;rintro e w1 ⟨rfl,hb1⟩;have HO1:=Lib.hid (owns_stay HO.out hb1);have HB1:=Lib.hid (HB.out.trans (hb1.mono hbs));have hs1:=hb1.size;clear hb1)
      | (at_builtin;refine wpList_append_own _ rfl (.tmp 19) (.tmp 21) 156 rfl w.heap.size 46 i0 (.int .u32 0) 1 4 Tryz.underlying156 hi hz0 hz1 hz2 rfl (by decide) _ k _ rfl ((HO1.out.alloc _).alloc _) ⟨w1.heap.size+1,0,none⟩ 1 1 (nc m) rfl rfl (cells_new2 _ _ (nc m) _) (nc_one m) (by unfold maxLen;omega) (by omega) (by simp;omega) ?_;intro v2 w3 hown3 hgrow3 _;have q3:=hgrow3.cell (box_under w1 _ _ _ 3 _ rfl) (fun e=>by have:=(HOL.out w1.heap.size e.symm).2;omega);have HB3:=Lib.hid (((HB1.out.alloc (by omega) _).alloc (by simp;omega) _).grown hgrow3 (by simp;omega) (fun j hj=>(HOL.out j hj).1));have HO3:=Lib.hid hown3;obtain ⟨r2,cap2,rfl⟩:=owns_form hown3;clear hgrow3 hown3))
     go_roundg (12-k)
     case measure=>omega
     case rel =>
      refine ⟨k+1,a.par,r2,cap2,ks ++ [m],rfl,rfl,by omega,by omega,by rw [flat_snoc];exact HO3.out,Lib.hid ⟨by simp;exact HK.out.1,?_⟩,HB3.out⟩
      rw [show 13-(k+1)=12-k by omega];exact HS.out
  ·obtain rfl:k=13:=by omega
   have HE:Hid (ks=W13):=Lib.hid (by have:=HK.out.2;simpa [wayF] using this)
   have HB:=Lib.hid hb
   have HO:=Lib.hid hown
   clear hb hown
   go_wp2
   go_ret
   refine ⟨_,rfl,?_,HB.out⟩
   rw [← HE.out]
   exact recs_of_owns nc_len HO.out HK.out.1.symm (by omega)
theorem recs_lit {α:Type} {enc:α→List Value} {k:Nat} (hk:∀ x,(enc x).length=k) (xs:List α) (cs:Array Value) (T:TypeId) (n:Nat) (hn:n=xs.length) (hm:n≤1000) (hc:cs.toList=xs.flatMap enc) (w:World):Recs enc k (w.alloc (.cells cs T)) (.slice (some ⟨w.heap.size,0,none⟩) n n) xs:=by
 have hs:cs.size=n * k:=by rw [← Array.length_toList,hc,flat_len hk,hn]
 have h:=World.ownsRow_lit (base:=w.heap.size) (e:=T) (size:=k) w cs n (Nat.le_refl _) (by unfold maxLen;omega) hs
 rw [hc] at h
 exact recs_of_owns hk h hn hm

/- Entities in plain words: rising numbers, with one more, without one, what may be; what law 7 makes. -/
import Derived.WalkKit
import Derived.Test.YtjgmbjfijpmhdaaGreatDoorZBa
import Derived.Test.YtjgmbjfijpmhdaaGreatDoorChecked
import Derived.Lib.Hide
import Derived.Outline
import Derived.Deep.QuietTactic
import Derived.BigQuiet
import Derived.LoopTactic
import Derived.Laws.OwnMore
import Derived.Maps.AppendAt
import Derived.Lib.SliceRun
import Derived.OwnWalk
import Derived.Laws.CopyOwn
import Derived.StillTailTactics
import Derived.Lib.Overlaps
import Derived.Lib.AppendZerosOnto
import Derived.Laws.Append
import Derived.Test.YtjgmbjfijpmhdaaGreatDoorZCall
set_option maxRecDepth 100000
set_option maxHeartbeats 4000000
namespace Go.Proofs.YtjgmbjfijpmhdaaGreatDoor
open Go.RowKit
set_option linter.unusedVariables false
set_option linter.unusedSimpArgs false
def uc (n:Nat):List Value:=[.int .u16 (n:Int)]
theorem uc_len (n:Nat):(uc n).length=1:=rfl
theorem uc_one (n:Nat):∀ v ∈ uc n,v.oneCell'=true:=fun v hv=>by simp [uc] at hv;subst hv;rfl
def RiseU (l:List Nat):Prop:=l.Pairwise (fun a b=>a<b)
def outU (l:List Nat) (n:Nat):List Nat:=l.filter (fun a=>!(a == n))
def withU (l:List Nat) (n:Nat):List Nat:=l.filter (fun a=>decide (a<n)) ++ n :: l.filter (fun a=>decide (n<a))
def chkU1:Nat→List Nat→Int
 | _,[]=>0
 | h,a :: r=>if a=0∨999<a then 5 else if a≤h then 6 else chkU1 a r
def chkU (l:List Nat):Int:=if 40<l.length then 2 else chkU1 0 l
theorem rise_ext {l m:List Nat} (hl:RiseU l) (hm:RiseU m) (h:∀ x,x ∈ l ↔ x ∈ m):l=m:=by
 induction l generalizing m with
 | nil=>cases m with
  | nil=>rfl
  | cons a r=>have:=(h a).2 (List.mem_cons_self ..);cases this
 | cons a r ih =>
  cases m with
  | nil=>have:=(h a).1 (List.mem_cons_self ..);cases this
  | cons b s =>
   obtain ⟨h1,h2⟩:=List.pairwise_cons.1 hl
   obtain ⟨h3,h4⟩:=List.pairwise_cons.1 hm
   have e:a=b:=by
    rcases List.mem_cons.1 ((h a).1 (List.mem_cons_self ..)) with e | e
    ·exact e
    ·rcases List.mem_cons.1 ((h b).2 (List.mem_cons_self ..)) with e' | e'
     ·exact e'.symm
     ·have g1:=h3 a e;have g2:=h1 b e';omega
   subst e
   congr 1
   refine ih h2 h4 fun x=>⟨fun hx=>?_,fun hx=>?_⟩
   ·rcases List.mem_cons.1 ((h x).1 (List.mem_cons_of_mem _ hx)) with e | e
    ·have:=h1 x hx;omega
    ·exact e
   ·rcases List.mem_cons.1 ((h x).2 (List.mem_cons_of_mem _ hx)) with e | e
    ·have:=h3 x hx;omega
    ·exact e
theorem withU_mem {l:List Nat} {n x:Nat}:x ∈ withU l n ↔ x=n∨x ∈ l:=by
 unfold withU
 simp only [List.mem_append,List.mem_cons,List.mem_filter,decide_eq_true_eq]
 constructor
 ·rintro (⟨h,_⟩ | rfl | ⟨h,_⟩)
  ·exact .inr h
  ·exact .inl rfl
  ·exact .inr h
 ·rintro (rfl | h)
  ·exact .inr (.inl rfl)
  ·rcases Nat.lt_trichotomy x n with g | g | g
   ·exact .inl ⟨h,g⟩
   ·exact .inr (.inl g)
   ·exact .inr (.inr ⟨h,g⟩)
theorem withU_rise {l:List Nat} (h:RiseU l) (n:Nat):RiseU (withU l n):=by
 unfold withU RiseU
 refine List.pairwise_append.2 ⟨h.filter _,List.pairwise_cons.2 ⟨fun b hb=>?_,h.filter _⟩,fun a ha b hb=>?_⟩
 ·simp only [List.mem_filter,decide_eq_true_eq] at hb;exact hb.2
 ·simp only [List.mem_filter,decide_eq_true_eq] at ha
  rcases List.mem_cons.1 hb with rfl | hb
  ·exact ha.2
  ·simp only [List.mem_filter,decide_eq_true_eq] at hb;omega
theorem withU_len (l:List Nat) (n:Nat):(withU l n).length≤l.length+1:=by
 unfold withU
 rw [List.length_append,List.length_cons]
 have e:∀ m:List Nat,(m.filter (fun a=>decide (a<n))).length+(m.filter (fun a=>decide (n<a))).length≤m.length:=by
  intro m
  induction m with
  | nil=>simp
  | cons a r ih =>
   by_cases g:a<n
   ·rw [List.filter_cons_of_pos (by simpa using g),List.filter_cons_of_neg (by simp;omega)];simp only [List.length_cons];omega
   ·by_cases g2:n<a
    ·rw [List.filter_cons_of_neg (by simpa using g),List.filter_cons_of_pos (by simpa using g2)];simp only [List.length_cons];omega
    ·rw [List.filter_cons_of_neg (by simpa using g),List.filter_cons_of_neg (by simpa using g2)];simp only [List.length_cons];omega
 have:=e l
 omega
theorem outU_mem {l:List Nat} {n x:Nat}:x ∈ outU l n ↔ x ∈ l∧x≠n:=by
 unfold outU
 simp [List.mem_filter]
theorem outU_rise {l:List Nat} (h:RiseU l) (n:Nat):RiseU (outU l n):=h.filter _
theorem outU_len (l:List Nat) (n:Nat):(outU l n).length≤l.length:=List.length_filter_le _ _
theorem outU_same {l:List Nat} {n:Nat} (h:n ∉ l):outU l n=l:=by
 unfold outU
 rw [List.filter_eq_self]
 intro a ha
 have:a≠n:=fun e=>h (e ▸ ha)
 simpa using this
theorem chkU1_ok:∀ {l:List Nat} {h:Nat},RiseU l→(∀ x ∈ l,h<x∧x≤999)→chkU1 h l=0
 | [],_,_,_=>rfl
 | a :: r,h,hr,ha=>by
  obtain ⟨h1,h2⟩:=List.pairwise_cons.1 hr
  have h3:=ha a (List.mem_cons_self ..)
  unfold chkU1
  rw [if_neg (by omega),if_neg (by omega)]
  exact chkU1_ok h2 fun x hx=>⟨h1 x hx,(ha x (List.mem_cons_of_mem _ hx)).2⟩
theorem chkU_ok {l:List Nat} (h:RiseU l) (h1:∀ x ∈ l,1≤x∧x≤999) (hl:l.length≤40):chkU l=0:=by
 unfold chkU
 rw [if_neg (by omega)]
 exact chkU1_ok h fun x hx=>⟨(h1 x hx).1,(h1 x hx).2⟩
theorem chkU_big {l:List Nat} (h:40<l.length):chkU l=2:=by unfold chkU;rw [if_pos h]
theorem rise_few:∀ {l:List Nat} {a b:Nat},RiseU l→(∀ x ∈ l,a<x∧x≤b)→a≤b→l.length≤b-a
 | [],_,_,_,_,_=>by simp
 | x :: r,a,b,h,h2,h3=>by
  obtain ⟨g1,g2⟩:=List.pairwise_cons.1 h
  have g3:=h2 x (List.mem_cons_self ..)
  have:=rise_few g2 (a:=x) (b:=b) (fun y hy=>⟨g1 y hy,(h2 y (List.mem_cons_of_mem _ hy)).2⟩) g3.2
  rw [List.length_cons]
  omega
def addU (o:List Nat) (x:Nat):List Nat:=if 1+x % 9 ∈ o then o else o ++ [1+x % 9]
def stU (l:List Nat) (i:Nat):List Nat:=(l.take i).foldl addU []
theorem stU_step {l:List Nat} {i x:Nat} (h:l[i]?=some x):stU l (i+1)=addU (stU l i) x:=by
 obtain ⟨hk,e⟩:=List.getElem?_eq_some_iff.1 h
 unfold stU
 rw [List.take_succ_eq_append_getElem hk,List.foldl_append,e];rfl
theorem addU_mem {o:List Nat} {x m:Nat}:m ∈ addU o x ↔ m ∈ o∨m=1+x % 9:=by
 unfold addU
 split
 ·rename_i h
  exact ⟨.inl,fun g=>g.elim id (fun e=>e ▸ h)⟩
 ·simp
theorem addU_nodup {o:List Nat} {x:Nat} (h:o.Nodup):(addU o x).Nodup:=by
 unfold addU
 split
 ·exact h
 ·rename_i g
  refine List.nodup_append.2 ⟨h,by simp,fun a ha b hb=>?_⟩
  simp at hb
  subst hb
  exact fun e=>g (e ▸ ha)
theorem foldU_mem:∀ (l o:List Nat) (m:Nat),m ∈ l.foldl addU o ↔ m ∈ o ∨ ∃ x ∈ l,m=1+x % 9
 | [],o,m=>by simp
 | x :: r,o,m=>by
  rw [List.foldl_cons,foldU_mem r,addU_mem]
  constructor
  ·rintro ((h | h) | ⟨y,h1,h2⟩)
   ·exact .inl h
   ·exact .inr ⟨x,List.mem_cons_self ..,h⟩
   ·exact .inr ⟨y,List.mem_cons_of_mem _ h1,h2⟩
  ·rintro (h | ⟨y,h1,h2⟩)
   ·exact .inl (.inl h)
   ·rcases List.mem_cons.1 h1 with rfl | h1
    ·exact .inl (.inr h2)
    ·exact .inr ⟨y,h1,h2⟩
theorem foldU_nodup:∀ (l o:List Nat),o.Nodup→(l.foldl addU o).Nodup
 | [],_,h=>h
 | x :: r,o,h=>by rw [List.foldl_cons];exact foldU_nodup r _ (addU_nodup h)
theorem nodup_few:∀ (b:Nat) (l:List Nat),l.Nodup→(∀ x ∈ l,1≤x∧x≤b)→l.length≤b
 | 0,l,_,h=>by
  cases l with
  | nil=>simp
  | cons a r=>have:=h a (List.mem_cons_self ..);omega
 | b+1,l,hn,h=>by
  by_cases hb:b+1 ∈ l
  ·have h1:=nodup_few b (l.erase (b+1)) (hn.erase _) fun x hx=>by
    have hx':=(hn.mem_erase_iff).1 hx
    have:=h x hx'.2
    omega
   rw [List.length_erase_of_mem hb] at h1
   omega
  ·have:=nodup_few b l hn fun x hx=>by
    have:=h x hx
    have hne:x≠b+1:=fun e=>hb (e ▸ hx)
    omega
   omega
theorem stU_mem {l:List Nat} {i m:Nat}:m ∈ stU l i ↔ ∃ x ∈ l.take i,m=1+x % 9:=by unfold stU;rw [foldU_mem];simp
theorem stU_nodup (l:List Nat) (i:Nat):(stU l i).Nodup:=foldU_nodup _ _ List.nodup_nil
theorem stU_few (l:List Nat) (i:Nat):(stU l i).length≤9:=nodup_few 9 _ (stU_nodup l i) fun x hx=>by
 obtain ⟨y,_,rfl⟩:=stU_mem.1 hx
 have:y % 9<9:=Nat.mod_lt _ (by omega)
 omega
def mkU (l:List Nat):List Nat:=(List.range 10).filter (fun k=>decide (k ∈ stU l l.length))
theorem mkU_rise (l:List Nat):RiseU (mkU l):=(List.pairwise_lt_range (n:=10)).filter _
theorem mkU_mem {l:List Nat} {m:Nat}:m ∈ mkU l ↔ m ∈ stU l l.length:=by
 unfold mkU
 simp only [List.mem_filter,List.mem_range,decide_eq_true_eq]
 constructor
 ·exact fun h=>h.2
 ·intro h
  refine ⟨?_,h⟩
  obtain ⟨y,_,rfl⟩:=stU_mem.1 h
  have:y % 9<9:=Nat.mod_lt _ (by omega)
  omega
theorem mkU_small {l:List Nat} {m:Nat} (h:m ∈ mkU l):1≤m∧m≤9:=by
 obtain ⟨y,_,rfl⟩:=stU_mem.1 (mkU_mem.1 h)
 have:y % 9<9:=Nat.mod_lt _ (by omega)
 omega
theorem mkU_len (l:List Nat):(mkU l).length≤9:=rise_few (mkU_rise l) (a:=0) (b:=9) (fun x hx=>by have:=mkU_small hx;omega) (by omega)
theorem sorted_rise {l:List Nat} (h:l.Pairwise (fun a b=>a≤b)) (hn:l.Nodup):RiseU l:=by
 induction l with
 | nil=>exact List.Pairwise.nil
 | cons a r ih =>
  obtain ⟨h1,h2⟩:=List.pairwise_cons.1 h
  obtain ⟨h3,h4⟩:=List.nodup_cons.1 hn
  refine List.Pairwise.cons (fun b hb=>?_) (ih h2 h4)
  have:=h1 b hb
  have hne:a≠b:=fun e=>h3 (e ▸ hb)
  omega
theorem sort_mk {l ys:List Nat} (hp:ys.Perm (stU l l.length)) (hs:ys.Pairwise (fun a b=>a≤b)):ys=mkU l :=
 rise_ext (sorted_rise hs (hp.nodup_iff.2 (stU_nodup _ _))) (mkU_rise l) fun x=>by rw [mkU_mem];exact hp.mem_iff
theorem sort_with {l ys:List Nat} {n:Nat} (hl:RiseU l) (hp:ys.Perm (outU l n ++ [n])) (hs:ys.Pairwise (fun a b=>a≤b)):ys=withU l n:=by
 have hnd:(outU l n ++ [n]).Nodup:=by
  refine List.nodup_append.2 ⟨(outU_rise hl n).imp (fun h=>by omega),by simp,fun a ha b hb=>?_⟩
  simp at hb
  subst hb
  exact (outU_mem.1 ha).2
 refine rise_ext (sorted_rise hs (hp.nodup_iff.2 hnd)) (withU_rise hl n) fun x=>?_
 rw [hp.mem_iff,withU_mem,List.mem_append,outU_mem]
 simp only [List.mem_singleton]
 constructor
 ·rintro (⟨h,_⟩ | h)
  ·exact .inr h
  ·exact .inl h
 ·rintro (h | h)
  ·exact .inr h
  ·by_cases e:x=n
   ·exact .inr e
   ·exact .inl ⟨h,e⟩
theorem outU_step {u:List Nat} {k n x:Nat} (h:u[k]?=some x):outU (u.take (k+1)) n=if x=n then outU (u.take k) n else outU (u.take k) n ++ [x]:=by
 obtain ⟨hk,e⟩:=List.getElem?_eq_some_iff.1 h
 unfold outU
 rw [List.take_succ_eq_append_getElem hk,List.filter_append,e]
 by_cases hp:x=n
 ·rw [if_pos hp,List.filter_cons_of_neg (by simpa using hp)];simp
 ·rw [if_neg hp,List.filter_cons_of_pos (by simpa using hp)];simp
theorem index_u (v:Value) (ks:List Nat) (x:Nat) (w:World) (hR:Recs uc 1 w v ks) :
 Calls Tryz.prog 82 #[v,.int .u16 (x:Int)] w fun e w'=>(∃ i:Int,e = .returned (.int .i64 i)∧(0≤i ↔ x ∈ ks))∧w'=w:=by
 obtain ⟨r,cap,rfl,hm⟩:=hR.form
 have HR:=Lib.hid hR
 obtain ⟨L,hL⟩:∃ L,ks.length=L:=⟨_,rfl⟩
 have HL:=Lib.hid hL
 rw [hL] at HR hm ⊢
 clear hR hL
 go_enter Tryz.func82,Tryz.ntmps82
 go_wp2
 go_loop [8] (fun i=>∃ k:Nat,k≤L∧i = .int .i64 k∧Hid (∀ j,j<k→ks[j]?≠some x)) (fun i=>L-(RowKit.intOf i).toNat)
 case atStart=>exact ⟨0,Nat.zero_le _,rfl,Lib.hid (fun j hj=>by omega)⟩
 case round =>
  obtain ⟨k,hk,rfl,HN⟩:=hrel
  by_cases hlt:k<L
  ·obtain ⟨y,hy⟩:∃ y,ks[k]?=some y:=⟨ks[k]'(by have:=HL.out;omega),List.getElem?_eq_getElem (by have:=HL.out;omega)⟩
   obtain ⟨g,off,rfl,hg,hc⟩:=HR.out.at hy
   have c0:=hc 0 _ rfl
   simp only [Nat.mul_one,Nat.add_zero] at c0
   have HY:=Lib.hid hy
   clear hy hc
   by_cases hxy:x=y
   ·subst hxy
    have hd:((x:Int) == (x:Int))=true:=by simp
    go_wp2
    go_ret
    exact ⟨⟨k,rfl,⟨fun _=>List.mem_of_getElem? HY.out,fun _=>by omega⟩⟩,rfl⟩
   ·have hd:((x:Int) == (y:Int))=false:=by simp;omega
    go_wp2
    go_round
    case rel =>
     refine ⟨k+1,by omega,by go_num,Lib.hid (fun j hj e=>?_)⟩
     by_cases h:j=k
     ·subst h;rw [HY.out] at e;exact hxy (Option.some.inj e).symm
     ·exact HN.out j (by omega) e
    case measure=>simp [RowKit.intOf];omega
  ·obtain rfl:k=L:=by omega
   go_wp2
   go_ret
   refine ⟨⟨-1,rfl,?_⟩,rfl⟩
   have:¬ x ∈ ks:=fun hm=>by
    obtain ⟨j,hj,e⟩:=List.getElem_of_mem hm
    exact HN.out j (by have:=HL.out;omega) (by rw [List.getElem?_eq_getElem hj,e])
   exact ⟨fun h=>by omega,fun h=>absurd h this⟩
theorem contains_u (v:Value) (ks:List Nat) (x:Nat) (w:World) (hR:Recs uc 1 w v ks) :
 Calls Tryz.prog 52 #[v,.int .u16 (x:Int)] w fun e w'=>e = .returned (.bool (decide (x ∈ ks)))∧w'=w:=by
 have K:Hid (Calls Tryz.prog 82 #[v,.int .u16 (x:Int)] w fun e w'=>(∃ i:Int,e = .returned (.int .i64 i)∧decide (0≤i)=decide (x ∈ ks))∧w'=w) :=
  Lib.hid ((index_u v ks x _ hR).mono fun _ _ ⟨⟨i,h1,h2⟩,h3⟩=>⟨⟨i,h1,decide_eq_decide.2 h2⟩,h3⟩)
 clear hR
 generalize decide (x ∈ ks)=r at *
 go_enter Tryz.func52,Tryz.ntmps52
 go_wp2_with (go_at_call 82;refine K.out.mono ?_;rintro e w1 ⟨⟨i,rfl,hi⟩,rfl⟩;have HI:=Lib.hid hi;clear hi)
 go_ret
 exact ⟨by have:=HI.out;simp_all,rfl⟩
theorem info16:(Tryz.prog.info? 77).map (fun i=>(i.zero,i.size,i.bytes))=some (some (.int .u16 0),1,2):=by kernel_rfl
def Srt (l:List Nat):Prop:=l.Pairwise (fun a b=>a≤b)
structure Car (xs A:List Nat) (x:Nat) (B C:List Nat):Prop where
 srt:Srt (A ++ B)
 above:∀ b ∈ B,x≤b
 perm:(A ++ x :: (B ++ C)).Perm xs
theorem Car.start {xs D:List Nat} {x:Nat} {C:List Nat} (h:Srt D) (hp:(D ++ x :: C).Perm xs):Car xs D x [] C:=⟨by simpa using h,by simp,by simpa using hp⟩
theorem Car.step {xs A:List Nat} {b x:Nat} {B C:List Nat} (h:Car xs (A ++ [b]) x B C) (hx:x<b):Car xs A x (b :: B) C:=by
 refine ⟨by simpa using h.srt,fun c hc=>?_,?_⟩
 ·rcases List.mem_cons.1 hc with rfl | hc
  ·omega
  ·exact h.above c hc
 ·refine List.Perm.trans ?_ h.perm
  have e:A ++ [b] ++ x :: (B ++ C)=A ++ b :: x :: (B ++ C):=by simp
  rw [e]
  exact List.Perm.append_left A (List.Perm.swap b x _)
theorem Car.done {xs A:List Nat} {x:Nat} {B C:List Nat} (h:Car xs A x B C) (hx:∀ b,A.getLast?=some b→b≤x):Srt (A ++ x :: B)∧((A ++ x :: B) ++ C).Perm xs:=by
 refine ⟨?_,by simpa using h.perm⟩
 obtain ⟨h1,h2,h3⟩:=List.pairwise_append.1 h.srt
 refine List.pairwise_append.2 ⟨h1,List.pairwise_cons.2 ⟨h.above,h2⟩,fun a ha b hb=>?_⟩
 rcases List.mem_cons.1 hb with rfl | hb
 ·obtain ⟨A',c,rfl⟩:∃ A' c,A=A' ++ [c]:=⟨A.dropLast,A.getLast (by intro e;rw [e] at ha;cases ha),(List.dropLast_concat_getLast _).symm⟩
  have hc:=hx c (by simp)
  rcases List.mem_append.1 ha with ha | ha
  ·have:=(List.pairwise_append.1 h1).2.2 a ha c (by simp);omega
  ·simp at ha;omega
 ·exact h3 a ha b hb
theorem swap_set (A:List Nat) (b x:Nat) (R:List Nat):((A ++ [b] ++ x :: R).set (A.length+1) b).set A.length x=A ++ x :: b :: R:=by
 have e:A ++ [b] ++ x :: R=A ++ b :: x :: R:=by simp
 rw [e,List.set_append_right _ _ (by omega),show A.length+1-A.length=1 by omega,List.set_append_right _ _ (by omega),Nat.sub_self]
 rfl
theorem at_left (A:List Nat) (b x:Nat) (R:List Nat):(A ++ [b] ++ x :: R)[A.length]?=some b∧(A ++ [b] ++ x :: R)[A.length+1]?=some x:=by
 have e:A ++ [b] ++ x :: R=A ++ b :: x :: R:=by simp
 rw [e]
 constructor
 ·rw [List.getElem?_append_right (by omega),Nat.sub_self];rfl
 ·rw [List.getElem?_append_right (by omega),show A.length+1-A.length=1 by omega];rfl
theorem snoc_of {A:List Nat} (h:0<A.length):∃ A' b,A=A' ++ [b]:=⟨A.dropLast,A.getLast (by intro e;rw [e] at h;cases h),(List.dropLast_concat_getLast _).symm⟩
theorem isnan16 (x:Int) (w:World):Calls Tryz.prog 178 #[.int .u16 x] w fun e w'=>e = .returned (.bool false)∧w'=w:=by
 go_enter Tryz.func178,Tryz.ntmps178
 go_wp2
 go_ret
 exact ⟨by simp,rfl⟩
theorem less16 (m n:Nat) (w:World):Calls Tryz.prog 121 #[.int .u16 (m:Int),.int .u16 (n:Int)] w fun e w'=>e = .returned (.bool (decide (m<n)))∧w'=w:=by
 have K:=Lib.hid (fun x=>isnan16 x w)
 go_enter Tryz.func121,Tryz.ntmps121
 go_wp2_with (go_at_call 178;refine (K.out _).mono ?_;rintro e w1 ⟨rfl,rfl⟩)
 go_ret
 exact ⟨by simp,rfl⟩
theorem row_at {w:World} {base g n cap:Nat} {e:TypeId} {l:List Nat} (h:w.ownsRow base e 1 (.slice (some ⟨g,0,none⟩) n cap) n (l.flatMap uc)) {k x:Nat} (hx:l[k]?=some x):w.cell? ⟨g,k,none⟩=some (.int .u16 (x:Int)):=by
 have h1:=h.1
 rw [flat_len uc_len] at h1
 have hk:=(List.getElem?_eq_some_iff.1 hx).1
 rw [h.cellAt k (by omega)]
 simpa using flat_get (enc:=uc) (k:=1) uc_len (j:=0) hx rfl
theorem row_set {w:World} {base g n cap:Nat} {e:TypeId} {l:List Nat} (h:w.ownsRow base e 1 (.slice (some ⟨g,0,none⟩) n cap) n (l.flatMap uc)) (k y:Nat):(w.setCell ⟨g,k,none⟩ (.int .u16 (y:Int))).ownsRow base e 1 (.slice (some ⟨g,0,none⟩) n cap) n ((l.set k y).flatMap uc):=by
 have h2:=(h.stored k (.int .u16 (y:Int))).1
 have e:∀ (l:List Nat) (k:Nat),(l.flatMap uc).set k (.int .u16 (y:Int))=(l.set k y).flatMap uc:=by
  intro l
  induction l with
  | nil=>intro k;rfl
  | cons a r ih =>
   intro k
   cases k with
   | zero=>rfl
   | succ k=>rw [List.flatMap_cons,List.set_cons_succ,List.flatMap_cons];show _ :: _=_ :: _;rw [← ih];rfl
 rwa [e] at h2
theorem row_setg (w:World) (g k:Nat) (u:Value):w.grownBy (w.setCell ⟨g,k,none⟩ u) (some g) :=
 ⟨rfl,rfl,rfl,by simp,fun j _ hj=>Below.heap_setCell w ⟨g,k,none⟩ u j (fun e=>hj (by simp [e]))⟩
theorem ins16 (xs:List Nat) (g n cap base:Nat) (w:World) (ho:w.ownsRow base 77 1 (.slice (some ⟨g,0,none⟩) n cap) n (xs.flatMap uc)) (hn:xs.length=n) (h1:1≤n) (h12:n≤12) :
 Calls Tryz.prog 115 #[.slice (some ⟨g,0,none⟩) n cap,.int .i64 0,.int .i64 (n:Int)] w fun e w'=>e = .returned (.tuple #[]) ∧ ∃ ys,ys.Perm xs∧Srt ys∧w'.ownsRow base 77 1 (.slice (some ⟨g,0,none⟩) n cap) n (ys.flatMap uc)∧w.grownBy w' (some g):=by
 obtain ⟨x0,C0,rfl⟩:∃ x0 C0,xs=x0 :: C0:=by cases xs with
  | nil=>simp at hn;omega
  | cons a r=>exact ⟨a,r,rfl⟩
 obtain ⟨xs,hxs⟩:∃ l,x0 :: C0=l:=⟨_,rfl⟩
 have HX:=Lib.hid hxs
 have HO:=Lib.hid (hxs ▸ ho)
 have HN:=Lib.hid (hxs ▸ hn)
 have HL:=Lib.hid (fun m n w=>less16 m n w)
 rw [hxs]
 clear ho hn hxs
 go_enter Tryz.func115,Tryz.ntmps115
 go_wp2
 go_loopw [6] (fun i wr=>∃ (k:Nat) (D C:List Nat),i = .int .i64 k∧1≤k∧k≤n∧Hid (wr.ownsRow base 77 1 (.slice (some ⟨g,0,none⟩) n cap) n ((D ++ C).flatMap uc))∧Hid (w.grownBy wr (some g))∧Hid (D.length=k∧Srt D∧(D ++ C).Perm xs)) (fun i _=>n-(RowKit.intOf i).toNat)
 case atStart =>
  refine ⟨1,[x0],C0,rfl,Nat.le_refl _,h1,?_,Lib.hid (World.grownBy.refl _ _),Lib.hid ⟨rfl,by simp [Srt],?_⟩⟩
  ·have:=HO.out;rw [← HX.out] at this;exact Lib.hid this
  ·rw [← HX.out];exact List.Perm.refl _
 case round =>
  obtain ⟨k,D,C,rfl,hk1,hkn,HOr,HGr,HC⟩:=hrel
  rename World=>wr
  by_cases hlt:k<n
  ·obtain ⟨x,C',rfl⟩:∃ x C',C=x :: C':=by
    have h3:=HC.out.2.2.length_eq
    rw [HN.out,List.length_append,HC.out.1] at h3
    cases C with
    | nil=>simp at h3;omega
    | cons a r=>exact ⟨a,r,rfl⟩
   go_wp2
   go_loopw [7] (fun j wx=>∃ (p:Nat) (A B:List Nat),j = .int .i64 p∧p≤k∧Hid (wx.ownsRow base 77 1 (.slice (some ⟨g,0,none⟩) n cap) n ((A ++ x :: (B ++ C')).flatMap uc))∧Hid (w.grownBy wx (some g))∧Hid (A.length=p∧A.length+B.length=k∧Car xs A x B C')) (fun j _=>(RowKit.intOf j).toNat)
   case atStart=>exact ⟨k,D,[],rfl,Nat.le_refl _,by simpa using HOr,HGr,Lib.hid ⟨HC.out.1,by simp [HC.out.1],Car.start HC.out.2.1 HC.out.2.2⟩⟩
   case round =>
    obtain ⟨p,A,B,rfl,hpk,HOx,HGx,HA⟩:=hrel
    rename World=>wx
    have HOd:=Lib.hid (fun q=>show (wx.drewN q).ownsRow base 77 1 (.slice (some ⟨g,0,none⟩) n cap) n ((A ++ x :: (B ++ C')).flatMap uc) from HOx.out)
    have HGd:=Lib.hid (fun q=>show w.grownBy (wx.drewN q) (some g) from ⟨HGx.out.os,HGx.out.tape,HGx.out.output,HGx.out.size,HGx.out.block⟩)
    by_cases hp:p=0
    ·subst hp
     go_wp2_with fail
     go_quiet (fail)
     go_wp2
     go_roundw
     case rel =>
      obtain ⟨hA0,hAB,hcar⟩:=HA.out
      obtain rfl:=List.eq_nil_of_length_eq_zero hA0
      obtain ⟨q1,q2⟩:=hcar.done (fun b hb=>by simp at hb)
      exact ⟨k+1,x :: B,C',by go_num,by omega,by omega,Lib.hid (by simpa using HOd.out nq),Lib.hid (HGd.out nq),Lib.hid ⟨by simp at hAB;simp;omega,by simpa using q1,by simpa using q2⟩⟩
     case measure=>simp [RowKit.intOf];omega
    ·obtain ⟨q,hqp⟩:∃ q,q+1=p:=⟨p-1,by omega⟩
     obtain ⟨A',b,rfl⟩:=snoc_of (A:=A) (by have:=HA.out.1;omega)
     have hq:A'.length=q:=by have:=HA.out.1;simp at this;omega
     have hat:=at_left A' b x (B ++ C')
     rw [hq,hqp] at hat
     have c0:=row_at HOx.out hat.1
     have c1:=row_at HOx.out hat.2
     clear hat
     have f0:=HOx.out.frozenAt q
     have f1:=HOx.out.frozenAt p
     have e1:(p:Int)-1=(q:Int):=by omega
     have x0:(0:Int)<(p:Int):=by omega
     have n0:0<p:=by omega
     have x1:(p:Int)<(n:Int):=by omega
     have x2:(0:Int)≤(p:Int):=by omega
     have y0:(0:Int)≤(q:Int):=by omega
     have y1:(q:Int)<(n:Int):=by omega
     by_cases hx:x<b
     ·have hd:decide (x<b)=true:=decide_eq_true hx
      have HS:=Lib.hid (And.intro hq (And.intro hx hqp))
      clear hq hx hqp hp
      go_wp2_with fail
      go_quiet (first | (go_at_call 121;refine Calls.quiet_of_same (HL.out _ _ _)))
      go_wp2
      have HOe:=Lib.hid (HOd.out nq)
      have HGe:=Lib.hid (HGd.out nq)
      have c0:(wx.drewN nq).cell? ⟨g,q,none⟩=some (.int .u16 (b:Int)):=c0
      have c1:(wx.drewN nq).cell? ⟨g,p,none⟩=some (.int .u16 (x:Int)):=c1
      have f0:(wx.drewN nq).frozen? ⟨g,q,none⟩=false:=f0
      have f1:(wx.drewN nq).frozen? ⟨g,p,none⟩=false:=f1
      generalize wx.drewN nq=wy at *
      go_region
      all_goals
       go_wp2
       go_roundw
       case rel =>
        obtain ⟨hA0,hAB,hcar⟩:=HA.out
        obtain ⟨hq,hx,hqp⟩:=HS.out
        have r2:=row_set (row_set HOe.out p b) q x
        have es:=swap_set A' b x (B ++ C')
        rw [hq,hqp] at es
        rw [es] at r2
        have g2:=(HGe.out.trans (row_setg wy g p (.int .u16 (b:Int)))).trans (row_setg (wy.setCell ⟨g,p,none⟩ (.int .u16 (b:Int))) g q (.int .u16 (x:Int)))
        exact ⟨q,A',b :: B,rfl,by omega,Lib.hid r2.drew,Lib.hid ⟨g2.os,g2.tape,g2.output,g2.size,g2.block⟩,Lib.hid ⟨hq,by simp at hAB ⊢;omega,hcar.step hx⟩⟩
       case measure=>simp [RowKit.intOf];omega
     ·have hd:decide (x<b)=false:=decide_eq_false hx
      have HS:=Lib.hid (And.intro hq (And.intro hx hqp))
      clear hq hx hqp hp
      go_wp2_with fail
      go_quiet (first | (go_at_call 121;refine Calls.quiet_of_same (HL.out _ _ _)))
      go_wp2
      go_roundw
      case rel =>
       obtain ⟨hA0,hAB,hcar⟩:=HA.out
       obtain ⟨q1,q2⟩:=hcar.done (fun c hc=>by simp at hc;have:=HS.out.2.1;omega)
       exact ⟨k+1,A' ++ [b] ++ x :: B,C',by go_num,by omega,by omega,Lib.hid (by simpa using HOd.out nq),Lib.hid (HGd.out nq),Lib.hid ⟨by simp at hAB;simp;omega,q1,q2⟩⟩
      case measure=>simp [RowKit.intOf];omega
  ·obtain rfl:k=n:=by omega
   go_wp2
   go_end0
   refine ⟨rfl,D,?_,HC.out.2.1,?_,HGr.out⟩
   all_goals
    have h3:=HC.out.2.2
    have h4:=h3.length_eq
    rw [List.length_append,HC.out.1,HN.out] at h4
    obtain rfl:=List.eq_nil_of_length_eq_zero (show C.length=0 by omega)
   ·simpa using h3
   ·simpa using HOr.out
def belowU (l:List Nat) (n:Nat):Nat:=l.countP (fun a=>decide (a<n))
theorem belowU_le (l:List Nat) (n:Nat):belowU l n≤l.length:=List.countP_le_length
theorem belowU_lt {l:List Nat} (h:RiseU l):∀ (i a:Nat),l[i]?=some a → ∀ n,(i<belowU l n ↔ a<n):=by
 induction l with
 | nil=>intro i a e;simp at e
 | cons x r ih =>
  obtain ⟨h1,h2⟩:=List.pairwise_cons.1 h
  intro i a e n
  unfold belowU
  rw [List.countP_cons]
  have hz:¬ x<n→r.countP (fun a=>decide (a<n))=0:=fun hx=>by
   rw [List.countP_eq_zero]
   intro b hb
   have:=h1 b hb
   simp;omega
  cases i with
  | zero =>
   simp only [List.getElem?_cons_zero,Option.some.injEq] at e
   subst e
   by_cases hx:x<n
   ·simp [hx]
   ·simp [hx,hz hx]
  | succ i =>
   simp only [List.getElem?_cons_succ] at e
   have ih':=ih h2 i a e n
   unfold belowU at ih'
   have ha:x<a:=h1 a (List.mem_of_getElem? e)
   by_cases hx:x<n
   ·simp [hx];exact ih'
   ·simp [hx,hz hx];omega
theorem belowU_at {l:List Nat} (h:RiseU l) (n:Nat) {a:Nat} (ha:l[belowU l n]?=some a):decide (n ∈ l)=decide (a=n):=by
 by_cases hn:a=n
 ·rw [decide_eq_true hn,decide_eq_true (hn ▸ List.mem_of_getElem? ha)]
 ·rw [decide_eq_false hn]
  refine decide_eq_false fun hm=>?_
  obtain ⟨i,hi,e⟩:=List.getElem_of_mem hm
  have hx:l[i]?=some n:=by rw [List.getElem?_eq_getElem hi,e]
  have h1:¬ i<belowU l n:=fun hc=>by have:=(belowU_lt h i n hx n).1 hc;omega
  have h2:¬ a<n:=fun hc=>by have:=(belowU_lt h _ a ha n).2 hc;omega
  have h3:i<belowU l (n+1):=(belowU_lt h i n hx (n+1)).2 (by omega)
  obtain ⟨hb,eb⟩:=List.getElem?_eq_some_iff.1 ha
  rcases Nat.lt_trichotomy i (belowU l n) with hc | hc | hc
  ·omega
  ·subst hc;rw [hx] at ha;cases ha;exact hn rfl
  ·have:=(List.pairwise_iff_getElem.1 h) (belowU l n) i hb hi hc
   omega
theorem belowU_end {l:List Nat} (h:RiseU l) (n:Nat) (hb:l.length≤belowU l n):decide (n ∈ l)=false:=by
 refine decide_eq_false fun hm=>?_
 obtain ⟨i,hi,e⟩:=List.getElem_of_mem hm
 have:=(belowU_lt h i n (by rw [List.getElem?_eq_getElem hi,e]) n).1 (by omega)
 omega
theorem below_parts16 {l:List Nat} (h:RiseU l) (n:Nat):l.take (belowU l n)=l.filter (fun a=>decide (a<n))∧l.drop (belowU l n)=l.filter (fun a=>decide (n≤a)):=by
 induction l with
 | nil=>exact ⟨rfl,rfl⟩
 | cons x r ih =>
  obtain ⟨h1,h2⟩:=List.pairwise_cons.1 h
  obtain ⟨i1,i2⟩:=ih h2
  unfold belowU at i1 i2 ⊢
  by_cases hx:x<n
  ·have e:(x :: r).countP (fun a=>decide (a<n))=r.countP (fun a=>decide (a<n))+1:=by rw [List.countP_cons];simp [hx]
   rw [e,List.take_succ_cons,List.drop_succ_cons,i1,i2,List.filter_cons,List.filter_cons]
   have:¬ n≤x:=by omega
   simp [hx,this]
  ·have e:(x :: r).countP (fun a=>decide (a<n))=0:=by
    rw [List.countP_eq_zero]
    intro b hb
    rcases List.mem_cons.1 hb with rfl | hb
    ·simp;omega
    ·have:=h1 b hb;simp;omega
   rw [e,List.take_zero,List.drop_zero]
   constructor
   ·symm
    rw [List.filter_eq_nil_iff]
    intro b hb
    rcases List.mem_cons.1 hb with rfl | hb
    ·simp;omega
    ·have:=h1 b hb;simp;omega
   ·symm
    rw [List.filter_eq_self]
    intro b hb
    rcases List.mem_cons.1 hb with rfl | hb
    ·simp;omega
    ·have:=h1 b hb;simp;omega
theorem isnan16s (x:Int) (w:World):Calls Tryz.prog 183 #[.int .u16 x] w fun e w'=>e = .returned (.bool false)∧w'=w:=by
 go_enter Tryz.func183,Tryz.ntmps183
 go_wp2
 go_ret
 exact ⟨by simp,rfl⟩
theorem bsearch_u (v:Value) (c:List Nat) (n:Nat) (w:World) (hR:Recs uc 1 w v c) (hr:RiseU c) (hl:c.length≤1000) :
 Calls Tryz.prog 131 #[v,.int .u16 (n:Int)] w fun e w' =>
  e = .returned (.tuple #[.int .i64 (belowU c n:Nat),.bool (decide (n ∈ c))])∧Below w.heap.size w w':=by
 obtain ⟨r,cap,rfl,hm⟩:=hR.form
 have HR:=Lib.hid hR
 obtain ⟨B,hB⟩:∃ B,belowU c n=B:=⟨_,rfl⟩
 obtain ⟨T,hT⟩:∃ T,decide (n ∈ c)=T:=⟨_,rfl⟩
 obtain ⟨L,hL⟩:∃ L,c.length=L:=⟨_,rfl⟩
 have HB:Hid (∀ (i a:Nat),c[i]?=some a→(i<B ↔ a<n)):=Lib.hid (fun i a ha=>hB ▸ belowU_lt hr i a ha n)
 have HT:Hid (∀ a,c[B]?=some a→T=decide (a=n)):=Lib.hid (fun a ha=>hT ▸ belowU_at hr n (hB.symm ▸ ha))
 have HE:Hid (L≤B→T=false):=Lib.hid (fun h=>hT ▸ belowU_end hr n (by omega))
 have hBL:B≤L:=hB ▸ hL ▸ belowU_le c n
 have HL:=Lib.hid hL
 have KL:=Lib.hid (fun m n w=>less16 m n w)
 have KN:=Lib.hid (fun x w=>isnan16s x w)
 rw [hB,hT]
 rw [hL] at HR ⊢
 rw [hL] at hl
 clear hR hm hB hT hL hr
 go_enter Tryz.func131,Tryz.ntmps131
 go_wp2
 go_loopw [7,8] (fun i j wr=>∃ lo hi:Nat,i = .int .i64 lo∧j = .int .i64 hi∧lo≤B∧B≤hi∧hi≤L∧Below w.heap.size w wr) (fun i j _=>(RowKit.intOf j-RowKit.intOf i).toNat)
 case atStart=>exact ⟨0,L,rfl,rfl,Nat.zero_le _,hBL,Nat.le_refl _,Below.refl _ _⟩
 case round =>
  obtain ⟨lo,hi,rfl,rfl,h1,h2,h3,hb⟩:=hrel
  rename World=>wr
  by_cases hlt:lo<hi
  ·have hmid:(lo+hi) / 2<L:=by omega
   obtain ⟨a,ha⟩:∃ a,c[(lo+hi) / 2]?=some a:=⟨c[(lo+hi) / 2]'(by have:=HL.out;omega),List.getElem?_eq_getElem (by have:=HL.out;omega)⟩
   have hiff:=HB.out _ _ ha
   obtain ⟨g,off,rfl,hg,hc⟩:=(HR.out.stay hb).at ha
   have c0:=hc 0 _ rfl
   simp only [Nat.mul_one,Nat.add_zero] at c0
   clear hc ha
   by_cases hlow:a<n
   ·have e:decide (a<n)=true:=decide_eq_true hlow
    have hlB:=hiff.2 hlow
    have K1:=KL.out a n wr
    rw [e] at K1
    have HK:=Lib.hid K1
    clear K1
    have HW:=Lib.hid hb
    clear hiff hlow hb e
    go_wp2_with (go_at_call 121;refine HK.out.mono ?_;rintro e w1 ⟨rfl,rfl⟩)
    go_roundw
    case rel=>exact ⟨(lo+hi) / 2+1,hi,by go_num,rfl,by omega,h2,h3,HW.out⟩
    case measure=>simp [RowKit.intOf];omega
   ·have e:decide (a<n)=false:=decide_eq_false hlow
    have hlB:¬ (lo+hi) / 2<B:=fun h=>hlow (hiff.1 h)
    have K1:=KL.out a n wr
    rw [e] at K1
    have HK:=Lib.hid K1
    clear K1
    have HW:=Lib.hid hb
    clear hiff hlow hb e
    go_wp2_with (go_at_call 121;refine HK.out.mono ?_;rintro e w1 ⟨rfl,rfl⟩)
    go_roundw
    case rel=>exact ⟨lo,(lo+hi) / 2,rfl,by go_num,h1,by omega,by omega,HW.out⟩
    case measure=>simp [RowKit.intOf];omega
  ·obtain rfl:hi=lo:=by omega
   obtain rfl:B=hi:=by omega
   by_cases hn:B<L
   ·obtain ⟨a,ha⟩:∃ a,c[B]?=some a:=⟨c[B]'(by have:=HL.out;omega),List.getElem?_eq_getElem (by have:=HL.out;omega)⟩
    have ht:=HT.out _ ha
    obtain ⟨g,off,rfl,hg,hc⟩:=(HR.out.stay hb).at ha
    have c0:=hc 0 _ rfl
    simp only [Nat.mul_one,Nat.add_zero] at c0
    clear hc ha
    have HW:=Lib.hid hb
    clear hb
    have hd:decide ((B:Int)<(L:Int))=true:=decide_eq_true (by omega)
    by_cases han:a=n
    ·have hab:((a:Int) == (n:Int))=true:=by simp [han]
     rw [decide_eq_true han] at ht
     subst ht
     clear han
     go_wp2_with (go_at_call 183;refine (KN.out _ _).mono ?_;rintro e w1 ⟨rfl,rfl⟩)
     go_ret2
     exact ⟨by simp,HW.out⟩
    ·have hab:((a:Int) == (n:Int))=false:=by simp;omega
     rw [decide_eq_false han] at ht
     subst ht
     clear han
     go_wp2_with (go_at_call 183;refine (KN.out _ _).mono ?_;rintro e w1 ⟨rfl,rfl⟩)
     go_ret2
     exact ⟨by simp,HW.out⟩
   ·obtain rfl:=HE.out (by omega)
    have hd:decide ((B:Int)<(L:Int))=false:=decide_eq_false (by omega)
    go_wp2
    go_ret2
    exact ⟨rfl,hb⟩
theorem parts_with {l:List Nat} (h:RiseU l) (n:Nat):(outU l n).take (belowU (outU l n) n) ++ n :: (outU l n).drop (belowU (outU l n) n)=withU l n:=by
 obtain ⟨h1,h2⟩:=below_parts16 (outU_rise h n) n
 rw [h1,h2]
 unfold withU outU
 rw [List.filter_filter,List.filter_filter]
 congr 1
 ·refine List.filter_congr fun a _=>?_
  by_cases g:a<n
  ·have:a≠n:=by omega
   simp [g,this]
  ·simp [g]
 ·congr 1
  refine List.filter_congr fun a _=>?_
  by_cases g:n<a
  ·have h3:a≠n:=by omega
   have h4:n≤a:=by omega
   simp [g,h3,h4]
  ·by_cases h3:a=n
   ·simp [h3]
   ·have h4:¬ n≤a:=by omega
    simp [g,h4]
def fstU:List Nat→Nat→Nat→Int
 | [],_,_=>-1
 | a :: r,n,k=>if a=n then (k:Int) else fstU r n (k+1)
theorem fstU_drop {u:List Nat} {n k x:Nat} (h:u[k]?=some x):fstU (u.drop k) n k=if x=n then (k:Int) else fstU (u.drop (k+1)) n (k+1):=by
 obtain ⟨hk,e⟩:=List.getElem?_eq_some_iff.1 h
 rw [List.drop_eq_getElem_cons hk,e];rfl
theorem fstU_spec (n:Nat):∀ (u:List Nat) (k:Nat),(fstU u n k = -1∧n ∉ u) ∨ ∃ i,i<u.length∧fstU u n k=((k+i:Nat):Int)∧u[i]?=some n∧n ∉ u.take i
 | [],k=>.inl ⟨rfl,by simp⟩
 | a :: r,k=>by
  by_cases h:a=n
  ·exact .inr ⟨0,by simp,by simp [fstU,h],by simp [h],by simp⟩
  ·rcases fstU_spec n r (k+1) with ⟨h1,h2⟩ | ⟨i,h1,h2,h3,h4⟩
   ·refine .inl ⟨by rw [fstU,if_neg h];exact h1,?_⟩
    intro hm
    rcases List.mem_cons.1 hm with e | e
    ·exact h e.symm
    ·exact h2 e
   ·refine .inr ⟨i+1,by rw [List.length_cons];omega,by rw [fstU,if_neg h,h2];congr 1;omega,by simpa using h3,?_⟩
    intro hm
    rw [List.take_succ_cons] at hm
    rcases List.mem_cons.1 hm with e | e
    ·exact h e.symm
    ·exact h4 e
theorem code_u (n:Nat) (w:World) (hn:n<65536):Calls Tryz.prog 69 #[.int .u16 (n:Int)] w fun e w'=>e = .returned (.bool (decide (1≤n∧n≤999)))∧Below w.heap.size w w':=by
 by_cases h1:1≤n
 ·have e1:(1:Int)≤(n:Int):=by omega
  by_cases h2:n≤999
  ·have e2:(n:Int)≤999:=by omega
   rw [decide_eq_true ⟨h1,h2⟩]
   go_enter Tryz.func69,Tryz.ntmps69
   go_wp2
   go_ret
   exact ⟨rfl,Below.refl _ _⟩
  ·have e2:¬ (n:Int)≤999:=by omega
   rw [decide_eq_false (fun h=>h2 h.2)]
   go_enter Tryz.func69,Tryz.ntmps69
   go_wp2
   go_ret
   exact ⟨rfl,Below.refl _ _⟩
 ·have e1:¬ (1:Int)≤(n:Int):=by omega
  rw [decide_eq_false (fun h=>h1 h.1)]
  go_enter Tryz.func69,Tryz.ntmps69
  go_wp2
  go_ret
  exact ⟨rfl,Below.refl _ _⟩
theorem has_u (v:Value) (u:List Nat) (n:Nat) (w:World) (hR:Recs uc 1 w v u):Calls Tryz.prog 91 #[v,.int .u16 (n:Int)] w fun e w'=>e = .returned (.bool (decide (n ∈ u)))∧Below w.heap.size w w':=by
 have K:=Lib.hid (contains_u v u n w hR)
 clear hR
 generalize decide (n ∈ u)=r at *
 go_enter Tryz.func91,Tryz.ntmps91
 go_wp2_with (go_at_call 52;refine K.out.mono ?_;rintro e w1 ⟨rfl,rfl⟩)
 go_ret
 exact ⟨rfl,Below.refl _ _⟩
theorem chkU1_drop {u:List Nat} {k x h:Nat} (hx:u[k]?=some x):chkU1 h (u.drop k)=if x=0∨999<x then 5 else if x≤h then 6 else chkU1 x (u.drop (k+1)):=by
 obtain ⟨hk,e⟩:=List.getElem?_eq_some_iff.1 hx
 rw [List.drop_eq_getElem_cons hk,e];rfl
theorem check_u (v:Value) (u:List Nat) (w:World) (hR:Recs uc 1 w v u) (hl:u.length≤1000) (hu:∀ x ∈ u,x<65536) :
 Calls Tryz.prog 40 #[v] w fun e w'=>e = .returned (.int .i64 (chkU u))∧Below w.heap.size w w':=by
 obtain ⟨r,cap,rfl,hm⟩:=hR.form
 have HR:=Lib.hid hR
 have HU:=Lib.hid hu
 obtain ⟨L,hL⟩:∃ L,u.length=L:=⟨_,rfl⟩
 have HL:=Lib.hid hL
 rw [hL] at HR hm hl ⊢
 by_cases hbig:40<L
 ·have e1:(40:Int)<(L:Int):=by omega
  rw [chkU_big (by omega)]
  clear hR hu hL
  go_enter Tryz.func40,Tryz.ntmps40
  go_wp2
  go_ret
  exact ⟨rfl,Below.refl _ _⟩
 ·have e1:¬ (40:Int)<(L:Int):=by omega
  have HC:Hid (chkU u=chkU1 0 (u.drop 0)):=Lib.hid (by unfold chkU;rw [if_neg (by omega)];rfl)
  have KC:=Lib.hid (fun n w h=>code_u n w h)
  obtain ⟨C,hC⟩:∃ C,chkU u=C:=⟨_,rfl⟩
  rw [hC] at HC ⊢
  clear hR hu hL hC
  go_enter Tryz.func40,Tryz.ntmps40
  go_wp2
  go_loopw [3,11] (fun a i wr=>∃ k h:Nat,k≤L∧h<65536∧i = .int .i64 k∧a = .int .u16 h∧Hid (C=chkU1 h (u.drop k))∧Hid (Below w.heap.size w wr)) (fun _ i _=>L-(RowKit.intOf i).toNat)
  case atStart=>exact ⟨0,0,Nat.zero_le _,by omega,rfl,rfl,HC,Lib.hid (Below.refl _ _)⟩
  case round =>
   obtain ⟨k,h,hk,hh,rfl,rfl,HCk,HB⟩:=hrel
   rename World=>wr
   by_cases hlt:k<L
   ·obtain ⟨x,hx⟩:∃ x,u[k]?=some x:=⟨u[k]'(by have:=HL.out;omega),List.getElem?_eq_getElem (by have:=HL.out;omega)⟩
    obtain ⟨g,off,rfl,hg,hc⟩:=(HR.out.stay HB.out).at hx
    have c0:=hc 0 _ rfl
    simp only [Nat.mul_one,Nat.add_zero] at c0
    have hx6:=HU.out x (List.mem_of_getElem? hx)
    have HS:Hid (C=if x=0∨999<x then 5 else if x≤h then 6 else chkU1 x (u.drop (k+1))):=Lib.hid (by rw [HCk.out,chkU1_drop hx])
    clear hc hx HCk
    have K1:=KC.out x wr hx6
    by_cases hr:x=0∨999<x
    ·have hd:decide (1≤x∧x≤999)=false:=decide_eq_false (by omega)
     rw [hd] at K1
     have HK:=Lib.hid K1
     have HE:C=5:=by rw [HS.out,if_pos hr]
     clear K1 hd hr HS
     go_wp2_with (go_at_call 69;refine HK.out.mono ?_;rintro e w1 ⟨rfl,hb1⟩;have HB1:=Lib.hid (HB.out.trans (hb1.mono HB.out.size));clear hb1)
     go_ret
     exact ⟨by rw [HE];rfl,HB1.out⟩
    ·have hd:decide (1≤x∧x≤999)=true:=decide_eq_true (by omega)
     rw [hd] at K1
     have HK:=Lib.hid K1
     by_cases ho:x≤h
     ·have e2:(x:Int)≤(h:Int):=by omega
      have HE:C=6:=by rw [HS.out,if_neg hr,if_pos ho]
      clear K1 hd hr HS ho
      go_wp2_with (go_at_call 69;refine HK.out.mono ?_;rintro e w1 ⟨rfl,hb1⟩;have HB1:=Lib.hid (HB.out.trans (hb1.mono HB.out.size));clear hb1)
      go_ret
      exact ⟨by rw [HE];rfl,HB1.out⟩
     ·have e2:¬ (x:Int)≤(h:Int):=by omega
      have HE:Hid (C=chkU1 x (u.drop (k+1))):=Lib.hid (by rw [HS.out,if_neg hr,if_neg ho])
      clear K1 hd hr HS ho
      go_wp2_with (go_at_call 69;refine HK.out.mono ?_;rintro e w1 ⟨rfl,hb1⟩;have HB1:=Lib.hid (HB.out.trans (hb1.mono HB.out.size));clear hb1)
      go_roundw
      case rel=>exact ⟨k+1,x,by omega,hx6,by go_num,rfl,HE,HB1⟩
      case measure=>simp [RowKit.intOf];omega
   ·obtain rfl:k=L:=by omega
    have HE:C=0:=by rw [HCk.out,List.drop_eq_nil_of_le (by have:=HL.out;omega)];rfl
    clear HCk
    go_wp2
    go_ret
    exact ⟨by rw [HE];rfl,HB.out⟩
theorem uzero16:∀ w,(zeroValue 77).run Tryz.prog w = .ok (.int .u16 0) w:=fun w=>by kernel_rfl
theorem without1 (x n B:Nat) (w:World) (hc:w.cell? ⟨B,0,none⟩=some (.int .u16 (n:Int))) :
 Calls Tryz.prog 130 #[.int .u16 (x:Int),.pointer (some ⟨B,0,none⟩)] w fun e w'=>e = .returned (.bool (decide (x=n)))∧w'=w:=by
 by_cases h:x=n
 ·have hd:((x:Int) == (n:Int))=true:=by simp [h]
  rw [decide_eq_true h]
  clear h
  go_enter Tryz.func130,Tryz.ntmps130
  go_wp2
  go_ret
  exact ⟨rfl,rfl⟩
 ·have hd:((x:Int) == (n:Int))=false:=by simp;omega
  rw [decide_eq_false h]
  clear h
  go_enter Tryz.func130,Tryz.ntmps130
  go_wp2
  go_ret
  exact ⟨rfl,rfl⟩
theorem indexfunc_u (v:Value) (u:List Nat) (n B:Nat) (w:World) (hR:Recs uc 1 w v u) (hc:w.cell? ⟨B,0,none⟩=some (.int .u16 (n:Int))) :
 Calls Tryz.prog 182 #[v,.func (.func 130) #[] #[.pointer (some ⟨B,0,none⟩)]] w fun e w'=>e = .returned (.int .i64 (fstU u n 0))∧w'=w:=by
 obtain ⟨r,cap,rfl,hm⟩:=hR.form
 have HR:=Lib.hid hR
 obtain ⟨L,hL⟩:∃ L,u.length=L:=⟨_,rfl⟩
 have HL:=Lib.hid hL
 rw [hL] at HR hm ⊢
 obtain ⟨F,hF⟩:∃ F,fstU u n 0=F:=⟨_,rfl⟩
 have HF:Hid (F=fstU (u.drop 0) n 0):=Lib.hid hF.symm
 have KC:=Lib.hid (fun x=>without1 x n B w hc)
 rw [hF]
 clear hR hL hF hc
 go_enter Tryz.func182,Tryz.ntmps182
 go_wp2
 go_loop [8] (fun i=>∃ k:Nat,k≤L∧i = .int .i64 k∧Hid (F=fstU (u.drop k) n k)) (fun i=>L-(RowKit.intOf i).toNat)
 case atStart=>exact ⟨0,Nat.zero_le _,rfl,HF⟩
 case round =>
  obtain ⟨k,hk,rfl,HK⟩:=hrel
  by_cases hlt:k<L
  ·obtain ⟨x,hx⟩:∃ x,u[k]?=some x:=⟨u[k]'(by have:=HL.out;omega),List.getElem?_eq_getElem (by have:=HL.out;omega)⟩
   obtain ⟨g,off,rfl,hg,hcx⟩:=HR.out.at hx
   have c0:=hcx 0 _ rfl
   simp only [Nat.mul_one,Nat.add_zero] at c0
   have HS:Hid (F=if x=n then (k:Int) else fstU (u.drop (k+1)) n (k+1)):=Lib.hid (by rw [HK.out,fstU_drop hx])
   clear hcx hx HK
   by_cases h:x=n
   ·have K1:=KC.out x
    rw [decide_eq_true h] at K1
    have K2:=Lib.hid K1
    have HE:F=(k:Int):=by rw [HS.out,if_pos h]
    clear K1 h HS
    go_wp2_with (go_at_call 130;refine K2.out.mono ?_;rintro e w1 ⟨rfl,rfl⟩)
    go_ret
    exact ⟨by first | rfl | (rw [HE];rfl),rfl⟩
   ·have K1:=KC.out x
    rw [decide_eq_false h] at K1
    have K2:=Lib.hid K1
    have HE:Hid (F=fstU (u.drop (k+1)) n (k+1)):=Lib.hid (by rw [HS.out,if_neg h])
    clear K1 h HS
    go_wp2_with (go_at_call 130;refine K2.out.mono ?_;rintro e w1 ⟨rfl,rfl⟩)
    go_round
    case rel=>exact ⟨k+1,by omega,by go_num,HE⟩
    case measure=>simp [RowKit.intOf];omega
  ·obtain rfl:k=L:=by omega
   have HE:F = -1:=by rw [HK.out,List.drop_eq_nil_of_le (by have:=HL.out;omega)];rfl
   clear HK
   go_wp2
   go_ret
   exact ⟨by first | rfl | (rw [HE];rfl),rfl⟩
theorem owns_cut {w:World} {base g n cap:Nat} {e:TypeId} {l:List Nat} (h:w.ownsRow base e 1 (.slice (some ⟨g,0,none⟩) n cap) n (l.flatMap uc)) (i:Nat) (hi:i≤n):w.ownsRow base e 1 (.slice (some ⟨g,0,none⟩) i cap) i ((l.take i).flatMap uc):=by
 have hl:=h.1
 have ht:∀ (l:List Nat) (i:Nat),(l.take i).flatMap uc=(l.flatMap uc).take i:=by
  intro l
  induction l with
  | nil=>intro i;simp
  | cons a r ih =>
   intro i
   cases i with
   | zero=>rfl
   | succ i=>rw [List.take_succ_cons,List.flatMap_cons,List.flatMap_cons,ih];rfl
 rw [ht]
 refine ⟨by rw [List.length_take];omega,?_⟩
 rcases h.2 with ⟨h',_⟩ | ⟨g',cap',cur,h',hb,hg,hnc,hcm,hcs,htake⟩
 ·cases h'
 ·cases h'
  refine .inr ⟨g,cap,cur,rfl,hb,hg,by omega,hcm,hcs,?_⟩
  rw [← htake,List.take_take]
  congr 1
  omega
theorem owns_past {base g n cap:Nat} {e:TypeId} {xs:List Value}:∀ (vs:List Value) (o:Nat) (w:World),w.ownsRow base e 1 (.slice (some ⟨g,0,none⟩) n cap) n xs→n≤o→(w.setCells g o vs).ownsRow base e 1 (.slice (some ⟨g,0,none⟩) n cap) n xs∧w.grownBy (w.setCells g o vs) (some g)
 | [],o,w,h,_=>⟨h,World.grownBy.refl _ _⟩
 | v :: r,o,w,h,ho=>by
  obtain ⟨h1,h2⟩:=h.stored o v
  rw [List.set_eq_of_length_le (by have:=h.1;omega)] at h1
  obtain ⟨h3,h4⟩:=owns_past r (o+1) _ h1 (by omega)
  exact ⟨h3,h2.trans h4⟩
structure Kept (u ys:List Nat) (n L i j:Nat):Prop where
 len:ys.length=L
 low:ys.take i=outU (u.take j) n
 high:ys.drop j=u.drop j
theorem Kept.get {u ys:List Nat} {n L i j:Nat} (h:Kept u ys n L i j):ys[j]?=u[j]?:=by
 have:=congrArg (fun l:List Nat=>l[0]?) h.high
 simpa using this
theorem Kept.skip {u ys:List Nat} {n L i j:Nat} (h:Kept u ys n L i j) (hx:u[j]?=some n):Kept u ys n L i (j+1):=by
 refine ⟨h.len,?_,?_⟩
 ·rw [h.low,outU_step hx,if_pos rfl]
 ·have:=congrArg (List.drop 1) h.high
  simpa [List.drop_drop] using this
theorem Kept.keep {u ys:List Nat} {n L i j x:Nat} (h:Kept u ys n L i j) (hx:u[j]?=some x) (hn:x≠n) (hij:i<j) (hj:j<L):Kept u (ys.set i x) n L (i+1) (j+1):=by
 refine ⟨by rw [List.length_set];exact h.len,?_,?_⟩
 ·rw [outU_step hx,if_neg hn,← h.low]
  have hi:i<(ys.set i x).length:=by rw [List.length_set,h.len];omega
  rw [List.take_succ_eq_append_getElem hi,List.getElem_set_self,List.take_set_of_le (Nat.le_refl _)]
 ·have:=congrArg (List.drop 1) h.high
  rw [List.drop_set_of_lt (by omega)]
  simpa [List.drop_drop] using this
theorem Kept.start {u:List Nat} {n i:Nat} (h:u[i]?=some n) (hn:n ∉ u.take i):Kept u u n u.length i (i+1):=by
 refine ⟨rfl,?_,rfl⟩
 rw [outU_step h,if_pos rfl,outU_same hn]
theorem deletefunc_u (v:Value) (u:List Nat) (L n B base:Nat) (w:World) (ho:w.ownsRow base 77 1 v L (u.flatMap uc)) (hL:u.length=L) (hl:L≤1000) (hc:w.cell? ⟨B,0,none⟩=some (.int .u16 (n:Int))) (hB:B<base) :
 Calls Tryz.prog 128 #[v,.func (.func 130) #[] #[.pointer (some ⟨B,0,none⟩)]] w fun e w' =>
  ∃ v',e = .returned v'∧w'.ownsRow base 77 1 v' (outU u n).length ((outU u n).flatMap uc)∧w.grownBy w' v.ownBlock:=by
 have hR:Recs uc 1 w v u:=recs_of_owns uc_len ho hL.symm hl
 have K:=Lib.hid (indexfunc_u v u n B w hR hc)
 rcases fstU_spec n u 0 with ⟨h1,h2⟩ | ⟨i,h1,h2,h3,h4⟩
 ·rw [h1] at K
  rw [outU_same h2,hL]
  have HO:=Lib.hid ho
  clear ho hR hc h1 h2 hL
  generalize u.flatMap uc=us at *
  go_enter Tryz.func128,Tryz.ntmps128
  go_wp2_with (go_at_call 182;refine K.out.mono ?_;rintro e w1 ⟨rfl,rfl⟩)
  go_ret
  exact ⟨_,rfl,HO.out,World.grownBy.refl _ _⟩
 ·rw [Nat.zero_add] at h2
  rw [h2] at K
  obtain ⟨g,cap,rfl⟩:∃ g cap,v = .slice (some ⟨g,0,none⟩) L cap:=by
   rcases ho.2 with ⟨_,h0⟩ | ⟨g,cap,cur,rfl,_⟩
   ·omega
   ·exact ⟨g,cap,rfl⟩
  have hcap:L≤cap:=by
   rcases ho.2 with ⟨h0,_⟩ | ⟨g',cap',cur,h0,_,_,h,_⟩
   ·cases h0
   ·cases h0;exact h
  have hcm:cap≤9223372036854775807:=by
   rcases ho.2 with ⟨h0,_⟩ | ⟨g',cap',cur,h0,_,_,_,h,_⟩
   ·cases h0
   ·cases h0;unfold maxLen at h;omega
  have hgb:=(ho.lt g rfl).1
  have hne:(some B:Option Nat)≠some g:=fun e=>by cases e;omega
  have HK0:=Kept.start h3 h4
  rw [hL] at HK0
  have HK:=Lib.hid HK0
  have HL:=Lib.hid hL
  have HO:=Lib.hid ho
  have hi1:i<L:=by omega
  have HCC:=Lib.hid (fun (x:Nat) (w':World) (h:w.grownBy w' (some g))=>without1 x n B w' (h.cell hc hne))
  have hz:=uzero16
  have hni:((i:Int) == -1)=false:=by simp
  clear hR h1 h2 h3 h4 hL HK0 ho hc hne
  go_enter Tryz.func128,Tryz.ntmps128
  go_wp2_with (go_at_call 182;refine K.out.mono ?_;rintro e w1 ⟨rfl,rfl⟩)
  go_loopw [5,6] (fun s5 s6 wr=>∃ (i j:Nat) (ys:List Nat),s5 = .int .i64 i∧s6 = .int .i64 j∧i<j∧j≤L∧Hid (wr.ownsRow base 77 1 (.slice (some ⟨g,0,none⟩) L cap) L (ys.flatMap uc))∧Hid (w1.grownBy wr (some g))∧Hid (Kept u ys n L i j)) (fun _ s6 _=>L-(RowKit.intOf s6).toNat)
  case atStart=>exact ⟨i,i+1,u,rfl,by go_num,by omega,by omega,HO,Lib.hid (World.grownBy.refl _ _),HK⟩
  case round =>
   obtain ⟨i,j,ys,rfl,rfl,hij,hjL,HOr,HGr,HKr⟩:=hrel
   rename World=>wr
   by_cases hlt:j<L
   ·obtain ⟨x,hx⟩:∃ x,u[j]?=some x:=⟨u[j]'(by have:=HL.out;omega),List.getElem?_eq_getElem (by have:=HL.out;omega)⟩
    have c0:=row_at HOr.out (HKr.out.get.trans hx)
    obtain ⟨y,hy⟩:∃ y,ys[i]?=some y:=⟨ys[i]'(by have:=HKr.out.len;omega),List.getElem?_eq_getElem (by have:=HKr.out.len;omega)⟩
    have c1:=row_at HOr.out hy
    have f1:=HOr.out.frozenAt i
    have K1:=HCC.out x wr HGr.out
    have HX:=Lib.hid hx
    clear hx hy
    by_cases h:x=n
    ·rw [decide_eq_true h] at K1
     have K2:=Lib.hid K1
     have HN:=Lib.hid h
     clear K1 h
     go_wp2_with (go_at_call 130;refine K2.out.mono ?_;rintro e w2 ⟨rfl,rfl⟩)
     go_roundw
     case rel=>exact ⟨i,j+1,ys,rfl,by go_num,by omega,by omega,HOr,HGr,Lib.hid (HKr.out.skip (HN.out ▸ HX.out))⟩
     case measure=>simp [RowKit.intOf];omega
    ·rw [decide_eq_false h] at K1
     have K2:=Lib.hid K1
     have HN:=Lib.hid h
     clear K1 h
     go_wp2_with (go_at_call 130;refine K2.out.mono ?_;rintro e w2 ⟨rfl,rfl⟩)
     go_roundw
     case rel=>exact ⟨i+1,j+1,ys.set i x,by go_num,by go_num,by omega,by omega,Lib.hid (row_set HOr.out i x),Lib.hid (HGr.out.trans (row_setg _ g i _)),Lib.hid (HKr.out.keep HX.out HN.out hij hlt)⟩
     case measure=>simp [RowKit.intOf];omega
   ·obtain rfl:j=L:=by omega
    have hcl:∀ ty,(Builtin.clear_ #[35] ty #[.slice (some ⟨g,i,none⟩) (j-i) (cap-i)]).run Tryz.prog wr = .ok (.tuple #[]) (wr.setCells g i (List.replicate (j-i) (.int .u16 0))):=fun ty =>
     Lib.run_clear_slice wr _ _ ty _ Tryz.underlying35 uzero16 rfl rfl g i _ _ (by omega) (fun t ht=>by
      obtain ⟨y,hy⟩:∃ y,ys[i+t]?=some y:=⟨ys[i+t]'(by have:=HKr.out.len;omega),List.getElem?_eq_getElem (by have:=HKr.out.len;omega)⟩
      rw [row_at HOr.out hy];rfl) (fun t _=>HOr.out.frozenAt _)
    have hci:¬ cap=i:=by omega
    have e1:(i:Int)≤(j:Int):=by omega
    obtain ⟨h5,h6⟩:=owns_past (List.replicate (j-i) (.int .u16 0)) i wr (owns_cut HOr.out i (by omega)) (Nat.le_refl _)
    have H5:Hid ((wr.setCells g i (List.replicate (j-i) (.int .u16 0))).ownsRow base 77 1 (.slice (some ⟨g,0,none⟩) i cap) (outU u n).length ((outU u n).flatMap uc)):=Lib.hid (by
     have h7:=HKr.out.low
     rw [show u.take j=u from List.take_of_length_le (by have:=HL.out;omega)] at h7
     rw [← h7,show (ys.take i).length=i by rw [List.length_take];have:=HKr.out.len;omega]
     exact h5)
    have H6:=Lib.hid (HGr.out.trans h6)
    clear h5 h6
    go_wp2
    go_ret
    exact ⟨_,rfl,H5.out,H6.out⟩
theorem owns_monoU {w:World} {base base':Nat} {e:TypeId} {v:Value} {n:Nat} {xs:List Value} (h:w.ownsRow base e 1 v n xs) (hb:base'≤base):w.ownsRow base' e 1 v n xs:=by
 refine ⟨h.1,?_⟩
 rcases h.2 with h0 | ⟨g,cap,cur,h1,h2,h3⟩
 ·exact .inl h0
 ·exact .inr ⟨g,cap,cur,h1,Nat.le_trans hb h2,h3⟩
theorem clone_ur (xs:List Nat) (v:Value) (w:World) (hR:Recs uc 1 w v xs) (hl:xs.length≤1000) :
 Calls Tryz.prog 129 #[v] w fun e w'=>∃ v',e = .returned v'∧w'.ownsRow w.heap.size 77 1 v' xs.length (xs.flatMap uc)∧Below w.heap.size w w':=by
 obtain ⟨i0,hi,hz0,hz1,hz2⟩:=info_parts info16
 have q22:∀ (w:World) (a:Option Addr) (n c n' c':Nat),(binOp .eql 35 (.slice a n c) (.slice none n' c')).run Tryz.prog w = .ok (.bool a.isNone) w:=fun w a n c n' c'=>Lib.run_eql_slice_nil w _ _ a n c n' c' Tryz.underlying35
 obtain ⟨r,cap,rfl,hm⟩:=hR.form
 have hlen:=flat_len uc_len xs
 have h1:=flat_one uc_one xs
 cases r with
 | none =>
  have hx:xs=[]:=by
   rcases hR with ⟨_,_,_,h⟩ | ⟨g,off,cap,h,_⟩
   ·exact h
   ·cases h
  subst hx
  clear hR hm hlen h1 hl
  go_enter Tryz.func129,Tryz.ntmps129
  go_wp2
  go_ret
  exact ⟨_,rfl,World.ownsRow_nil _ _ _ _,Below.refl _ _⟩
 | some ad =>
  have HC:=Lib.hid (show ∀ j u,(xs.flatMap uc)[j]?=some u→(w.alloc (.cells #[] 77)).cell? (ad.add j)=some u from fun j u hu=>by
   have hx:0<xs.length:=by have:=(List.getElem?_eq_some_iff.1 hu).1;omega
   obtain ⟨g,off,e,hg,_⟩:=hR.at (List.getElem?_eq_getElem hx)
   cases e
   have e:(⟨g,off,none⟩:Addr).add j=⟨g,off+j,none⟩:=by unfold Addr.add;split <;> simp_all
   rw [e,World.cell?_alloc_lt _ _ _ hg]
   exact recs_flat uc_len (by omega) hR j u hu)
  clear hR
  generalize xs.length=n at *
  generalize xs.flatMap uc=zs at *
  go_enter Tryz.func129,Tryz.ntmps129
  go_wp2_with (at_builtin;refine wpList_append_own _ rfl (.tmp 5) (.tmp 6) 35 rfl w.heap.size 77 i0 (.int .u16 0) 1 2 Tryz.underlying35 hi hz0 hz1 hz2 rfl (by decide) _ 0 [] rfl (World.ownsRow_made w #[] 0 (Nat.le_refl _) (by decide) (by simp)) ad n cap zs rfl hlen HC.out h1 (by unfold maxLen;omega) (by omega) (by simp) ?_;intro v3 w3 hown3 hgrow3 _)
  go_ret
  refine ⟨_,rfl,by simpa using hown3,((Below.refl _ _).alloc (Nat.le_refl _) _).grown hgrow3 (by simp) (fun k hk=>by have e:some w.heap.size=some k:=hk;injection e with e;omega)⟩
theorem without_u (v:Value) (u:List Nat) (n:Nat) (w:World) (hR:Recs uc 1 w v u) (hl:u.length≤1000) :
 Calls Tryz.prog 92 #[v,.int .u16 (n:Int)] w fun e w'=>∃ v',e = .returned v'∧w'.ownsRow w.heap.size 77 1 v' (outU u n).length ((outU u n).flatMap uc)∧Below w.heap.size w w':=by
 have hb:=(Below.refl w.heap.size w).alloc (Nat.le_refl _) (.cells #[.int .u16 (n:Int)] 77)
 have hcell:(w.alloc (.cells #[.int .u16 (n:Int)] 77)).cell? ⟨w.heap.size,0,none⟩=some (.int .u16 (n:Int)):=box_cell w _ _ 0 _ rfl
 have hsz:(w.alloc (.cells #[.int .u16 (n:Int)] 77)).heap.size=w.heap.size+1:=by simp
 have K1:=clone_ur u v _ (hR.stay hb) hl
 rw [hsz] at K1
 have HK1:=Lib.hid K1
 have HB:=Lib.hid hb
 have HK2:=Lib.hid (fun (v':Value) (w':World) (h:w'.ownsRow (w.heap.size+1) 77 1 v' u.length (u.flatMap uc)) (h':Below (w.heap.size+1) (w.alloc (.cells #[.int .u16 (n:Int)] 77)) w')=>deletefunc_u v' u u.length n w.heap.size (w.heap.size+1) w' h rfl hl ((h'.cell (p:=⟨w.heap.size,0,none⟩) (Nat.lt_succ_self _)).trans hcell) (Nat.lt_succ_self _))
 clear hR hl hb hcell hsz K1
 go_enter Tryz.func92,Tryz.ntmps92
 go_wp2_with (first
  | (go_at_call 128;refine (HK2.out _ _ HO1.out HB1.out).mono ?_;rintro e w2 ⟨v2,rfl,ho2,hg2⟩;have HO2:=Lib.hid ho2;have HG2:=Lib.hid hg2;clear ho2 hg2)
  | (go_at_call 129;refine HK1.out.mono ?_;rintro e w1 ⟨v1,rfl,ho1,hb1⟩;have HO1:=Lib.hid ho1;have HB1:=Lib.hid hb1;clear ho1 hb1))
 go_ret
 refine ⟨_,rfl,owns_monoU HO2.out (Nat.le_succ _),?_⟩
 exact (HB.out.trans (HB1.out.mono (Nat.le_succ _))).grown HG2.out (Nat.le_trans HB.out.size (Nat.le_trans (by simp) HB1.out.size)) (fun k hk=>Nat.le_trans (Nat.le_succ _) (HO1.out.lt k hk).1)
theorem run_copy_rows {P:Program} (w:World) (dT sT ty elem:TypeId) (k g o dLen dCap:Nat) (a:Addr) (sLen sCap:Nat) (cur:Array Value) (t:TypeId) (cs:List Value)
 (hu:P.underlying dT=some (.slice elem)) (hs:(P.info? elem).map (·.size)=some k)
 (hg:w.heap[g]?=some (.cells cur t (0,0))) (hn:cs.length=Nat.min sLen dLen * k)
 (hsrc:∀ j v,cs[j]?=some v→w.cell? (a.add j)=some v) (hfit:o+cs.length≤cur.size) (h1:∀ v ∈ cs,v.oneCell'=true) :
 (Builtin.copy_ #[dT,sT] ty #[.slice (some ⟨g,o,none⟩) dLen dCap,.slice (some a) sLen sCap]).run P w =
  .ok (goInt (Nat.min sLen dLen)) (w.setRow g (cur.toList.take o ++ cs ++ cur.toList.drop (o+cs.length)).toArray):=by
 have hl:=run_loadCells_list (P:=P) w a cs hsrc
 have hst:=run_storeCells_at P g o t cs 0 cur w hg (by simpa using hfit) h1
 cases hq:P.info? elem with
 | none=>simp [hq] at hs
 | some i =>
  have hi:i.size=k:=by simpa [hq] using hs
  simp [Builtin.copy_,run_underlying hu,Builtin.lenOf,Builtin.firstCells,sizeOf,typeInfo,hq,hi,← hn,hl,hst]
theorem run_copy_rows0 {P:Program} (w:World) (dT sT ty elem:TypeId) (k:Nat) (d a:Option Addr) (dLen dCap sLen sCap:Nat) (hu:P.underlying dT=some (.slice elem)) (hs:(P.info? elem).map (·.size)=some k) (hn:Nat.min sLen dLen=0) :
 (Builtin.copy_ #[dT,sT] ty #[.slice d dLen dCap,.slice a sLen sCap]).run P w = .ok (goInt 0) w:=by
 cases hq:P.info? elem with
 | none=>simp [hq] at hs
 | some i =>
  cases d <;> cases a <;> simp [Builtin.copy_,run_underlying hu,Builtin.lenOf,Builtin.firstCells,sizeOf,typeInfo,hq,hn,storeCells,loadCells,loadCellsFrom]
theorem wpList_copy_rows {P:Program} {w:World} {ops:Array Oper} {rest:List Oper} {o:Oper} {a:Act} {Q:Exit→Act→World→Prop} (hgd:o.guard=none) (d s:Operand) (dT sT:TypeId)
 (ho:o.op = .call { callee:=.builtin .copy,args:=#[d,s],argTypes:=#[dT,sT] }) (k:Nat) (elem:TypeId) (hu:P.underlying dT=some (.slice elem)) (hsz:(P.info? elem).map (·.size)=some k)
 (dp sp:Option Addr) (dLen dCap sLen sCap:Nat) (hd:a.eval d = .slice dp dLen dCap) (hs:a.eval s = .slice sp sLen sCap)
 (g off:Nat) (cur:List Value) (t:TypeId) (hg:w.heap[g]?=some (.cells cur.toArray t (0,0))) (cs:List Value) (m:Nat) (hm:m=Nat.min sLen dLen) (hn:cs.length=m * k)
 (hpos:0<m→dp=some ⟨g,off,none⟩ ∧ ∃ ad,sp=some ad ∧ ∀ j v,cs[j]?=some v→w.cell? (ad.add j)=some v)
 (hfit:off+cs.length≤cur.length) (h1:∀ v ∈ cs,v.oneCell'=true) (B:Nat) (w0:World) (hb:Below B w0 w) (hBg:B≤g)
 (h:∀ w',Hid (w'.heap[g]?=some (.cells (splice cur off cs).toArray t (0,0)))→Below B w0 w'→(∀ b,b≠g→w'.heap[b]?=w.heap[b]?)→wpList P ops Q rest (a.put o.dst (goInt m)) w') :
 wpList P ops Q (o :: rest) a w:=by
 refine wpList_plain hgd fun K hK=>?_
 by_cases h0:m=0
 ·subst h0
  obtain rfl:cs=[]:=List.eq_nil_of_length_eq_zero (by simpa using hn)
  have hrun:=run_copy_rows0 (P:=P) w dT sT o.type elem k dp sp dLen dCap sLen sCap hu hsz hm.symm
  unfold Oper.wp
  simp [execOp,ho,resolve,invoke,builtin,hd,hs,hrun,Result.andThen]
  exact hK _ _ (h w (show _=_ by simpa [splice] using hg) hb (fun _ _=>rfl))
 ·obtain ⟨rfl,ad,rfl,hsrc⟩:=hpos (by omega)
  have hrun:=run_copy_rows (P:=P) w dT sT o.type elem k g off dLen dCap ad sLen sCap cur.toArray t cs hu hsz hg (by rw [hn,hm]) hsrc (by simpa using hfit) h1
  rw [← hm] at hrun
  unfold Oper.wp
  simp [execOp,ho,resolve,invoke,builtin,hd,hs,hrun,Result.andThen]
  exact hK _ _ (h _ (show _=_ by simpa [splice] using setRow_heap w g _ _ t _ hg) (below_setRow hb hBg _) (fun b hb=>setRow_other w g b _ hb))
theorem flatU_take:∀ (l:List Nat) (i:Nat),(l.take i).flatMap uc=(l.flatMap uc).take i
 | [],i=>by simp
 | a :: r,0=>rfl
 | a :: r,i+1=>by rw [List.take_succ_cons,List.flatMap_cons,List.flatMap_cons,flatU_take r i];rfl
theorem flatU_drop:∀ (l:List Nat) (i:Nat),(l.drop i).flatMap uc=(l.flatMap uc).drop i
 | [],i=>by simp
 | a :: r,0=>rfl
 | a :: r,i+1=>by rw [List.drop_succ_cons,List.flatMap_cons,flatU_drop r i];rfl
theorem splice_takeU {L cs:List Value} {o:Nat} (h:o+cs.length≤L.length):(splice L o cs).take (o+cs.length)=L.take o ++ cs:=by
 unfold splice
 have h1:(L.take o).length=o:=by rw [List.length_take];omega
 rw [← List.append_assoc,List.take_append_of_le_length (by rw [List.length_append,h1];omega)]
 exact List.take_of_length_le (by rw [List.length_append,h1];omega)
theorem splice_new {R D:List Value} {a M:Nat} {v:Value} (ha:a<M) (hD:D.length=M-a) (hR:M+1≤R.length):(splice (splice R a [v]) (a+1) D).take (M+1)=R.take a ++ v :: D:=by
 have h1:=splice_takeU (L:=R) (cs:=[v]) (o:=a) (by simp;omega)
 have h2:=splice_takeU (L:=splice R a [v]) (cs:=D) (o:=a+1) (by rw [length_splice _ _ _ (by simp;omega)];omega)
 rw [hD,show a+1+(M-a)=M+1 by omega] at h2
 rw [h2,show (splice R a [v]).take (a+1)=_ from h1]
 simp
theorem splice_old {R D:List Value} {a M:Nat} {v:Value} (ha:a<M) (hD:D.length=M-a) (hR:M+1≤R.length):(splice (splice R (a+1) D) a [v]).take (M+1)=R.take a ++ v :: D:=by
 have h2:=splice_takeU (L:=R) (cs:=D) (o:=a+1) (by omega)
 rw [hD,show a+1+(M-a)=M+1 by omega] at h2
 have h3:((splice R (a+1) D).take (M+1)).drop (a+1)=D:=by
  rw [h2,List.drop_append_of_le_length (by rw [List.length_take];omega),List.drop_of_length_le (by rw [List.length_take];omega),List.nil_append]
 have h4:((splice R (a+1) D).take (M+1)).take a=R.take a:=by
  rw [h2,List.take_append_of_le_length (by rw [List.length_take];omega),List.take_take,show min a (a+1)=a by omega]
 rw [List.take_take,show min a (M+1)=a by omega] at h4
 generalize splice R (a+1) D=S at *
 have hS:(S.drop (a+1)).take (M-a)=D:=by
  rw [← h3,List.drop_take,show M+1-(a+1)=M-a by omega]
 have hl:(S.take a).length=a:=by rw [h4,List.length_take];omega
 unfold splice
 rw [List.take_append,hl,List.take_of_length_le (by rw [hl];omega),show M+1-a=(M-a)+1 by omega,h4]
 show R.take a ++ (v :: S.drop (a+1)).take (M-a+1)=_
 rw [List.take_succ_cons,hS]
theorem append_txU {P:Program} (w:World) (t tx ty e e':TypeId) (s x:Value) (ht:P.underlying t=some (.slice e)) (hk:P.underlying tx=some (.slice e')) :
 (Builtin.append_ #[t,tx] ty #[s,x]).run P w=(Builtin.append_ #[t,t] ty #[s,x]).run P w:=by
 cases s <;> simp [Builtin.append_,run_underlying ht,run_underlying hk]
theorem wpList_append_runU {P:Program} {w:World} {ops:Array Oper} {rest:List Oper} {o:Oper} {a:Act} {Q:Exit→Act→World→Prop} (hgd:o.guard=none) (s x:Operand) (t tx:TypeId)
 (ho:o.op = .call { callee:=.builtin .append,args:=#[s,x],argTypes:=#[t,tx] }) (vs vx v':Value) (w':World) (hs:a.eval s=vs) (hx:a.eval x=vx)
 (hrun:∀ ty,(Builtin.append_ #[t,tx] ty #[vs,vx]).run P w = .ok v' w') (h:wpList P ops Q rest (a.put o.dst v') w'):wpList P ops Q (o :: rest) a w:=by
 refine wpList_plain hgd fun K hK=>?_
 unfold Oper.wp
 simp [execOp,ho,resolve,invoke,builtin,hs,hx,hrun,Result.andThen]
 exact hK _ _ h
theorem u_append (v:Value) (xs:List Nat) (n V base:Nat) (w:World) (T:TypeId) (ho:w.ownsRow base 77 1 v xs.length (xs.flatMap uc)) (hV:w.heap[V]?=some (.cells #[.int .u16 (n:Int)] T (0,0))) (hl:xs.length≤1000) (hb:base≤w.heap.size) :
 ∃ v' w',(∀ ty,(Builtin.append_ #[35,23] ty #[v,.slice (some ⟨V,0,none⟩) 1 1]).run Tryz.prog w = .ok v' w')∧w'.ownsRow base 77 1 v' (xs.length+1) ((xs ++ [n]).flatMap uc)∧w.grownBy w' v.ownBlock:=by
 obtain ⟨i0,hi,hz0,hz1,hz2⟩:=info_parts info16
 have hu:=Tryz.underlying35
 have hk:=Tryz.underlying23
 obtain ⟨v',w',h1,h2,h3,_⟩:=run_append_own_at (P:=Tryz.prog) w base 35 0 77 i0 _ 1 2 hu hi hz0 hz1 hz2 rfl (by decide) v xs.length (xs.flatMap uc) ho ⟨V,0,none⟩ 1 1 [.int .u16 (n:Int)] rfl (fun j u hj=>by
  have e:(⟨V,0,none⟩:Addr).add j=⟨V,j,none⟩:=by unfold Addr.add;split <;> simp_all
  rw [e,cell_of_row w V j _ _ _ hV]
  simpa using hj) (fun u hu=>by simp at hu;subst hu;rfl) (by unfold maxLen;omega) (by omega) hb
 refine ⟨v',w',fun ty=>(append_txU w _ _ ty _ _ _ _ hu hk).trans (by exact h1),?_,h3⟩
 rw [List.flatMap_append]
 exact h2
theorem insert_end (v:Value) (o:List Nat) (M n V base:Nat) (w:World) (T:TypeId) (ho:w.ownsRow base 77 1 v M (o.flatMap uc)) (hM:o.length=M) (hl:M≤1000) (hV:w.heap[V]?=some (.cells #[.int .u16 (n:Int)] T (0,0))) (hb:base≤w.heap.size) :
 Calls Tryz.prog 132 #[v,.int .i64 (M:Int),.slice (some ⟨V,0,none⟩) 1 1] w fun e w' =>
  ∃ v',e = .returned v'∧w'.ownsRow base 77 1 v' (M+1) ((o ++ [n]).flatMap uc)∧w.grownBy w' v.ownBlock:=by
 obtain ⟨v',w',h1,h2,h3⟩:=u_append v o n V base w T (hM ▸ ho) hV (by omega) hb
 rw [hM] at h2
 obtain ⟨r,cap,rfl⟩:=owns_form ho
 have hu:Tryz.prog.underlying 35=some (.slice (Tryz.prog.elem 35)):=by kernel_rfl
 have hs:∀ w,(sizeOf (Tryz.prog.elem 35)).run Tryz.prog w = .ok 1 w:=fun w=>by kernel_rfl
 obtain ⟨X,hX⟩:∃ X,∀ w,(Instr.slice 35 (.slice r M cap) (some (.int .i64 (M:Int))) none none).run Tryz.prog w = .ok X w:=⟨_,fun w=>by
  rw [run_slice_l w 35 r M cap hu .i64 (M:Int) (by omega) (by omega),hs w,Result.andThen_ok]⟩
 have HR:=Lib.hid h1
 have H2:=Lib.hid h2
 have H3:=Lib.hid h3
 clear ho hM hV hb h1 h2 h3 hu hs
 generalize (o ++ [n]).flatMap uc=Z at *
 go_enter Tryz.func132,Tryz.ntmps132
 go_wp2_with (at_builtin;refine wpList_append_runU rfl _ _ _ _ rfl _ _ _ _ rfl rfl HR.out ?_)
 go_ret
 exact ⟨_,rfl,H2.out,H3.out⟩
theorem usize16:(Tryz.prog.info? 77).map (·.size)=some 1:=by kernel_rfl
theorem row_whole {w:World} {base g n cap:Nat} {e:TypeId} {l:List Nat} (h:w.ownsRow base e 1 (.slice (some ⟨g,0,none⟩) n cap) n (l.flatMap uc)) :
 ∃ cur:List Value,w.heap[g]?=some (.cells cur.toArray e (0,0))∧cur.length=cap∧cur.take n=l.flatMap uc∧base≤g∧n≤cap∧cap≤maxLen:=by
 rcases h.2 with ⟨h',_⟩ | ⟨g',cap',cur,h',hb,hg,hnc,hcm,hcs,htake⟩
 ·cases h'
 ·cases h'
  exact ⟨cur.toList,by simpa using hg,by simpa using hcs,by simpa using htake,hb,hnc,hcm⟩
theorem cells_at {w:World} {g:Nat} {cur:List Value} {T:TypeId} (h:w.heap[g]?=some (.cells cur.toArray T (0,0))) (o:Nat):∀ j v,(cur.drop o)[j]?=some v→w.cell? ((⟨g,o,none⟩:Addr).add j)=some v:=fun j v hj=>by
 have e:(⟨g,o,none⟩:Addr).add j=⟨g,o+j,none⟩:=by unfold Addr.add;split <;> simp_all
 rw [e,cell_of_row w g _ _ _ _ h]
 rw [List.getElem?_drop] at hj
 simpa using hj
theorem grown_of {w w':World} {g:Nat} (hb:Below 0 w w') (h:∀ b,b≠g→w'.heap[b]?=w.heap[b]?):w.grownBy w' (some g) :=
 ⟨hb.os,hb.tape,hb.output,hb.size,fun j _ hj=>h j (fun e=>hj (by rw [e]))⟩
theorem slice_low (G N cap p:Nat) (hp:p≤N) (hc:¬ cap=p):∀ w,(Instr.slice 35 (.slice (some ⟨G,0,none⟩) N cap) (some (.int .i64 (p:Int))) none none).run Tryz.prog w = .ok (.slice (some ⟨G,p,none⟩) (N-p) (cap-p)) w:=fun w=>by
 have hu:Tryz.prog.underlying 35=some (.slice (Tryz.prog.elem 35)):=by kernel_rfl
 have hs:∀ w,(sizeOf (Tryz.prog.elem 35)).run Tryz.prog w = .ok 1 w:=fun w=>by kernel_rfl
 rw [run_slice_l w 35 (some ⟨G,0,none⟩) N cap hu .i64 (p:Int) (by omega) (by omega),hs w]
 simp only [Result.andThen_ok,sliced,Int.toNat_natCast]
 rw [if_neg hc]
 simp [Addr.add];omega
theorem insert_room (G cap:Nat) (o:List Nat) (M a n V base:Nat) (w:World) (T:TypeId) (ho:w.ownsRow base 77 1 (.slice (some ⟨G,0,none⟩) M cap) M (o.flatMap uc)) (hM:o.length=M) (ha:a<M) (hroom:M<cap) (hl:M≤1000) (hV:w.heap[V]?=some (.cells #[.int .u16 (n:Int)] T (0,0))) (hVG:V≠G) :
 Calls Tryz.prog 132 #[.slice (some ⟨G,0,none⟩) M cap,.int .i64 (a:Int),.slice (some ⟨V,0,none⟩) 1 1] w fun e w' =>
  ∃ v',e = .returned v'∧w'.ownsRow base 77 1 v' (M+1) ((o.take a ++ n :: o.drop a).flatMap uc)∧w.grownBy w' (some G):=by
 obtain ⟨cur,hG,hcl,htk,hbG,_,hcm⟩:=row_whole ho
 have hXl:(o.flatMap uc).length=M:=by have:=ho.1;omega
 obtain ⟨D,hD⟩:∃ D,(o.flatMap uc).drop a=D:=⟨_,rfl⟩
 have hDl:D.length=M-a:=by rw [← hD,List.length_drop,hXl]
 have hD1:∀ v ∈ D,v.oneCell'=true:=fun v hv=>flat_one uc_one o v (by rw [← hD] at hv;exact List.mem_of_mem_drop hv)
 obtain ⟨p,hp⟩:∃ p,a+1=p:=⟨_,rfl⟩
 obtain ⟨N,hN⟩:∃ N,M+1=N:=⟨_,rfl⟩
 have hcD:∀ j v,D[j]?=some v→w.cell? ((⟨G,a,none⟩:Addr).add j)=some v:=fun j v hj=>cells_at hG a j v (by
  rw [← hD,← htk,List.drop_take] at hj
  rw [List.getElem?_take] at hj
  split at hj
  ·exact hj
  ·cases hj)
 have hfin:(splice (splice cur p D) a [.int .u16 (n:Int)]).take N=(o.take a ++ n :: o.drop a).flatMap uc:=by
  rw [← hp,← hN,splice_old ha hDl (by omega),List.flatMap_append,List.flatMap_cons,flatU_take,flatU_drop,hD,← htk,List.take_take,show min a M=a by omega]
  rfl
 have hln:((o.take a ++ n :: o.drop a).flatMap uc).length=N:=by rw [← hfin,List.length_take,length_splice _ _ _ (by rw [length_splice _ _ _ (by omega)];simp;omega),length_splice _ _ _ (by omega)];omega
 have hsV:w.shape? V=some (T,1):=by unfold World.shape?;rw [hV];rfl
 have hsG:w.shape? G=some (77,cap):=by unfold World.shape?;rw [hG];simp [hcl]
 have hfV:∀ j,w.frozen? ⟨V,j,none⟩=false:=fun j=>by unfold World.frozen?;rw [hV];simp
 have hz:∀ w,(Go.sizeOf 77).run Tryz.prog w = .ok 1 w:=fun w=>by kernel_rfl
 have hov:∀ lb cb,(callFunc 184 #[.slice (some ⟨V,0,none⟩) 1 1,.slice (some ⟨G,p,none⟩) lb cb]).run Tryz.prog w = .ok (.value (.bool false)) w:=fun lb cb=>by
  rw [run_callFunc_extern Tryz.func184 (by kernel_rfl) (by kernel_rfl) (by kernel_rfl) (e:=Extern.SlicesOverlaps.overlaps #[23,23] #[4]) (by kernel_rfl),
   Lib.run_overlaps_apart w 23 4 77 Tryz.underlying23 1 hz ⟨V,0,none⟩ ⟨G,p,none⟩ 1 1 lb cb hVG T 77 1 cap hsV hsG (by omega) (hfV 0) (hfV 1)]
  rfl
 have hVc:∀ (w':World),(∀ b,b≠G→w'.heap[b]?=w.heap[b]?) → ∀ j v,([.int .u16 (n:Int)]:List Value)[j]?=some v→w'.cell? ((⟨V,0,none⟩:Addr).add j)=some v:=fun w' h j v hj=>by
  have e:(⟨V,0,none⟩:Addr).add j=⟨V,j,none⟩:=by unfold Addr.add;split <;> simp_all
  rw [e,cell_of_row w' V _ _ _ _ ((h V hVG).trans hV)]
  simpa using hj
 have hDr:w.drew.heap=w.heap:=rfl
 have HG:Hid (w.drew.heap[G]?=some (.cells cur.toArray 77 (0,0))):=Lib.hid hG
 have HCD:Hid (∀ j v,D[j]?=some v→w.drew.cell? ((⟨G,a,none⟩:Addr).add j)=some v):=Lib.hid hcD
 have HVC:=Lib.hid hVc
 have HF:=Lib.hid (And.intro hfin hln)
 have HDL:=Lib.hid hDl
 have HD1:=Lib.hid hD1
 have HCL:=Lib.hid hcl
 have HB0:=Lib.hid ((Below.refl 0 w).drew)
 have e1:(a:Int)+1=(p:Int):=by omega
 have e2:(M:Int)+1=(N:Int):=by omega
 have e3:IntKind.i64.wrap ((a:Int)+1)=(p:Int):=by rw [IntKind.wrap_i64];omega
 have e4:IntKind.i64.wrap ((M:Int)+1)=(N:Int):=by rw [IntKind.wrap_i64];omega
 have e5:IntKind.i64.wrap (p:Int)=(p:Int):=by rw [IntKind.wrap_i64];omega
 have n1:¬ cap=p:=by omega
 have n2:¬ cap=a:=by omega
 have n3:¬ ((a:Int)=(M:Int)):=by omega
 have n4:p≤N:=by omega
 have n5:N≤cap:=by omega
 have n6:cap≤9223372036854775807:=by unfold maxLen at hcm;omega
 have n7:((a:Int) == (M:Int))=false:=by simp;omega
 have hS1:=slice_low G N cap p n4 n1
 have hS2:=slice_low G N cap a (by omega) n2
 have HP:=Lib.hid hp
 have HN:=Lib.hid hN
 clear ho hM hG hcl htk hXl hD hDl hD1 hcD hfin hln hsV hsG hfV hz hV hVc hDr hp hN
 generalize (o.take a ++ n :: o.drop a).flatMap uc=Z at *
 go_enter Tryz.func132,Tryz.ntmps132
 go_wp2_with (simp only [hov])
 go_still_tail 8,(by kernel_rfl)
 change wpList _ _ _ _ _ w.drew
 refine wpList_copy_rows rfl (.tmp 73) (.tmp 76) 35 35 rfl 1 77 Tryz.underlying35 usize16 (some ⟨G,p,none⟩) (some ⟨G,a,none⟩) (N-p) (cap-p) (N-a) (cap-a) rfl rfl G p cur 77 HG.out D (M-a) (by show M-a=min (N-a) (N-p);have:=HP.out;have:=HN.out;omega) (by rw [HDL.out];omega) (fun _=>⟨rfl,_,rfl,HCD.out⟩) (by rw [HDL.out,HCL.out];have:=HP.out;omega) HD1.out 0 w HB0.out (Nat.zero_le _) ?_
 intro w1 HG1 hB1 hO1
 have HB1:=Lib.hid hB1
 have HO1:Hid (∀ b,b≠G→w1.heap[b]?=w.heap[b]?):=Lib.hid hO1
 clear hB1 hO1
 go_wp2_with (refine wpList_copy_rows rfl (.tmp 80) (.tmp 81) 35 23 rfl 1 77 Tryz.underlying35 usize16 (some ⟨G,a,none⟩) (some ⟨V,0,none⟩) (N-a) (cap-a) 1 1 rfl rfl G a (splice cur p D) 77 HG1.out [.int .u16 (n:Int)] 1 (by show 1=min 1 (N-a);have:=HP.out;omega) rfl (fun _=>⟨rfl,_,rfl,HVC.out _ HO1.out⟩) (by rw [length_splice _ _ _ (by have:=HDL.out;have:=HCL.out;have:=HP.out;omega)];have:=HCL.out;simp;omega) (fun v hv=>by simp at hv;subst hv;rfl) 0 w HB1.out (Nat.zero_le _) ?_;intro w2 HG2 hB2 hO2;have HB2:=Lib.hid hB2;have HO2:=Lib.hid (fun b hb=>(hO2 b hb).trans (HO1.out b hb));clear hB2 hO2)
 go_ret
 refine ⟨_,rfl,⟨HF.out.2.trans (by omega),.inr ⟨G,cap,_,by rw [HN.out];rfl,hbG,HG2.out,by omega,hcm,?_,?_⟩⟩,grown_of HB2.out HO2.out⟩
 ·have h1:(splice cur p D).length=cap:=by rw [length_splice _ _ _ (by have:=HDL.out;have:=HCL.out;have:=HP.out;omega)];exact HCL.out
  have h2:(splice (splice cur p D) a [Value.int .u16 (n:Int)]).length=cap:=by rw [length_splice _ _ _ (by rw [h1];simp;omega)];exact h1
  simpa using h2
 ·rw [Nat.mul_one,HN.out]
  exact HF.out.1
theorem slice_high (G M cap a:Nat) (ha:a≤M) (hc:M≤cap) (h0:0<cap):∀ w,(Instr.slice 35 (.slice (some ⟨G,0,none⟩) M cap) none (some (.int .i64 (a:Int))) none).run Tryz.prog w = .ok (.slice (some ⟨G,0,none⟩) a cap) w:=fun w=>by
 have hu:Tryz.prog.underlying 35=some (.slice (Tryz.prog.elem 35)):=by kernel_rfl
 have hs:∀ w,(sizeOf (Tryz.prog.elem 35)).run Tryz.prog w = .ok 1 w:=fun w=>by kernel_rfl
 rw [run_slice_h w 35 (some ⟨G,0,none⟩) M cap hu .i64 (a:Int) (by omega) (by omega),hs w]
 simp only [Result.andThen_ok,sliced,Int.toNat_natCast]
 rw [if_neg (by omega)]
 simp [Addr.add]
theorem insert_grow (G cap:Nat) (o:List Nat) (M a n V base:Nat) (w:World) (T:TypeId) (ho:w.ownsRow base 77 1 (.slice (some ⟨G,0,none⟩) M cap) M (o.flatMap uc)) (hM:o.length=M) (ha:a<M) (hroom:cap<M+1) (hl:M≤1000) (hV:w.heap[V]?=some (.cells #[.int .u16 (n:Int)] T (0,0))) :
 Calls Tryz.prog 132 #[.slice (some ⟨G,0,none⟩) M cap,.int .i64 (a:Int),.slice (some ⟨V,0,none⟩) 1 1] w fun e w' =>
  ∃ v',e = .returned v'∧w'.ownsRow base 77 1 v' (M+1) ((o.take a ++ n :: o.drop a).flatMap uc)∧w.grownBy w' (some G):=by
 obtain ⟨i0,hi,hz0,hz1,hz2⟩:=info_parts info16
 obtain ⟨cur,hG,hcl,htk,hbG,hMc,hcm⟩:=row_whole ho
 have hXl:(o.flatMap uc).length=M:=by have:=ho.1;omega
 obtain ⟨D,hD⟩:∃ D,(o.flatMap uc).drop a=D:=⟨_,rfl⟩
 have hDl:D.length=M-a:=by rw [← hD,List.length_drop,hXl]
 have hD1:∀ v ∈ D,v.oneCell'=true:=fun v hv=>flat_one uc_one o v (by rw [← hD] at hv;exact List.mem_of_mem_drop hv)
 obtain ⟨p,hp⟩:∃ p,a+1=p:=⟨_,rfl⟩
 obtain ⟨N,hN⟩:∃ N,M+1=N:=⟨_,rfl⟩
 obtain ⟨K,hK⟩:∃ K,N-a=K:=⟨_,rfl⟩
 have hGs:G<w.heap.size:=(Array.getElem?_eq_some_iff.1 hG).1
 have hVs:V<w.heap.size:=(Array.getElem?_eq_some_iff.1 hV).1
 have hcD:∀ (w':World),w'.heap[G]?=w.heap[G]? → ∀ j v,D[j]?=some v→w'.cell? ((⟨G,a,none⟩:Addr).add j)=some v:=fun w' hw' j v hj=>cells_at (hw'.trans hG) a j v (by
  rw [← hD,← htk,List.drop_take] at hj
  rw [List.getElem?_take] at hj
  split at hj
  ·exact hj
  ·cases hj)
 have hVc:∀ (w':World),w'.heap[V]?=w.heap[V]? → ∀ j v,([.int .u16 (n:Int)]:List Value)[j]?=some v→w'.cell? ((⟨V,0,none⟩:Addr).add j)=some v:=fun w' h j v hj=>by
  have e:(⟨V,0,none⟩:Addr).add j=⟨V,j,none⟩:=by unfold Addr.add;split <;> simp_all
  rw [e,cell_of_row w' V _ _ _ _ (h.trans hV)]
  simpa using hj
 have hold:(Builtin.firstCells i0.size a (.slice (some ⟨G,0,none⟩) a cap)).run Tryz.prog w.drew = .ok ((o.flatMap uc).take a).toArray w.drew:=by
  rw [hz1]
  exact run_firstCells_some w.drew 1 a ⟨G,0,none⟩ a cap ((o.flatMap uc).take a) (by rw [List.length_take];omega) (fun j v hj=>cells_at (w:=w.drew) hG 0 j v (by
   rw [← htk,List.take_take] at hj
   rw [List.getElem?_take] at hj
   split at hj
   ·exact hj
   ·cases hj))
 have hap:∀ ty,(Builtin.append_ #[35,3] ty #[.slice (some ⟨G,0,none⟩) a cap,.int .i64 (K:Int)]).run Tryz.prog w = .ok (.slice (some ⟨w.heap.size,0,none⟩) N (grownCap w N cap 77)) (w.drew.alloc (.cells (((o.flatMap uc).take a).toArray ++ Builtin.zeroCells (Value.int .u16 0).cells K ++ Builtin.zeroCells (Value.int .u16 0).cells (grownCap w N cap 77-N)) 77)):=fun ty=>by
  have h:=Lib.run_append_grow_zeros w 35 3 ty 77 i0 (.int .u16 0) .i64 .i64 Tryz.underlying35 Tryz.underlying3 hi hz0 (some ⟨G,0,none⟩) a cap ((o.flatMap uc).take a) hold K (by omega) (by omega) (by omega) (by omega) (by rw [hz2];omega) (by rw [hz2,show a+K=N by omega];exact growslice_fits (by omega) (by omega))
  rw [show a+K=N by omega] at h
  exact h
 obtain ⟨C,hC⟩:∃ C,grownCap w N cap 77=C:=⟨_,rfl⟩
 have hCN:N≤C:=hC ▸ grownCap_ge w _ _ _
 have hCm:C≤maxLen:=hC ▸ grownCap_le_maxLen w N cap _ (by unfold maxLen;omega)
 rw [hC] at hap
 obtain ⟨R,hR,hRl,hRt⟩:∃ R:List Value,(((o.flatMap uc).take a).toArray ++ Builtin.zeroCells (Value.int .u16 0).cells K ++ Builtin.zeroCells (Value.int .u16 0).cells (C-N))=R.toArray∧R.length=C∧R.take a=(o.flatMap uc).take a:=by
  generalize o.flatMap uc=X at hXl
  refine ⟨_,(Array.toArray_toList).symm,?_,?_⟩
  ·simp [Builtin.zeroCells,Value.cells];omega
  ·rw [Array.toList_append,Array.toList_append,List.append_assoc,List.take_append_of_le_length (by rw [List.length_take];omega)]
   exact List.take_of_length_le (by rw [List.length_take];omega)
 rw [hR] at hap
 obtain ⟨H,hH⟩:∃ H,w.heap.size=H:=⟨_,rfl⟩
 obtain ⟨W1,hW1⟩:∃ W1,w.drew.alloc (.cells R.toArray 77)=W1:=⟨_,rfl⟩
 have hWH:W1.heap[H]?=some (.cells R.toArray 77 (0,0)):=by rw [← hW1,← hH];exact heap_alloc_new w.drew _
 have hWo:∀ b,b<H→W1.heap[b]?=w.heap[b]?:=fun b hb=>by rw [← hW1];exact heap_alloc_old w.drew _ (by rw [← hH] at hb;exact hb)
 have hWB:Below 0 w W1:=by rw [← hW1];exact ((Below.refl 0 w).drew).alloc (Nat.zero_le _) _
 rw [hW1,hH] at hap
 have hfin:(splice (splice R a [.int .u16 (n:Int)]) p D).take N=(o.take a ++ n :: o.drop a).flatMap uc:=by
  rw [← hp,← hN,splice_new ha hDl (by omega),List.flatMap_append,List.flatMap_cons,flatU_take,flatU_drop,hD,hRt]
  rfl
 have hln:((o.take a ++ n :: o.drop a).flatMap uc).length=N:=by rw [← hfin,List.length_take,length_splice _ _ _ (by rw [length_splice _ _ _ (by simp;omega)];omega),length_splice _ _ _ (by simp;omega)];omega
 have HAP:=Lib.hid hap
 have HWH:=Lib.hid hWH
 have HCD:=Lib.hid (fun (w':World) (h:∀ b,b≠H→w'.heap[b]?=W1.heap[b]?)=>hcD w' ((h G (by omega)).trans (hWo G (by omega))))
 have HVC:=Lib.hid (hVc W1 (hWo V (by omega)))
 have HF:=Lib.hid (And.intro hfin hln)
 have HDL:=Lib.hid hDl
 have HD1:=Lib.hid hD1
 have HRL:=Lib.hid hRl
 have HB0:=Lib.hid hWB
 have HWO:=Lib.hid hWo
 have HHS:=Lib.hid hH
 have e1:(a:Int)+1=(p:Int):=by omega
 have e2:(M:Int)+1=(N:Int):=by omega
 have e3:IntKind.i64.wrap ((a:Int)+1)=(p:Int):=by rw [IntKind.wrap_i64];omega
 have e4:IntKind.i64.wrap ((M:Int)+1)=(N:Int):=by rw [IntKind.wrap_i64];omega
 have e5:IntKind.i64.wrap (p:Int)=(p:Int):=by rw [IntKind.wrap_i64];omega
 have e6:(N:Int)-(a:Int)=(K:Int):=by omega
 have n1:¬ C=p:=by omega
 have n2:¬ C=a:=by omega
 have n3:¬ ((a:Int)=(M:Int)):=by omega
 have n4:p≤N:=by omega
 have n5:(cap:Int)<(N:Int):=by omega
 have n6:C≤9223372036854775807:=by unfold maxLen at hCm;omega
 have n7:((a:Int) == (M:Int))=false:=by simp;omega
 have n8:¬ cap=a:=by omega
 have n9:M≤cap:=hMc
 have hS0:=slice_high G M cap a (by omega) hMc (by omega)
 have hS1:=slice_low H N C p n4 n1
 have hS2:=slice_low H N C a (by omega) n2
 have hS3:=slice_low G M cap a (by omega) n8
 have HP:=Lib.hid hp
 have HN:=Lib.hid hN
 have HK:=Lib.hid hK
 have hbH:base≤H:=by omega
 clear ho hM hG hcl htk hXl hD hDl hD1 hcD hfin hln hV hVc hp hN hold hap hC hR hRl hRt hWH hWo hWB hW1 hK hi hz0 hz1 hz2 hH hGs hVs
 generalize (o.take a ++ n :: o.drop a).flatMap uc=Z at *
 go_enter Tryz.func132,Tryz.ntmps132
 go_wp2_with (first
  | (at_builtin;refine wpList_append_runU rfl _ _ _ _ rfl _ _ _ _ rfl rfl HAP.out ?_)
  | (refine wpList_copy_rows rfl (.tmp 43) (.tmp 44) 35 23 rfl 1 77 Tryz.underlying35 usize16 (some ⟨H,a,none⟩) (some ⟨V,0,none⟩) (N-a) (C-a) 1 1 rfl rfl H a R 77 HWH.out [.int .u16 (n:Int)] 1 (by show 1=min 1 (N-a);have:=HP.out;omega) rfl (fun _=>⟨rfl,_,rfl,HVC.out⟩) (by have:=HRL.out;simp;omega) (fun v hv=>by simp at hv;subst hv;rfl) 0 w HB0.out (Nat.zero_le _) ?_;intro w1 HG1 hB1 hO1;have HB1:=Lib.hid hB1;have HO1:=Lib.hid hO1;clear hB1 hO1))
 go_still_tail 8,(by kernel_rfl)
 change wpList _ _ _ _ _ w1.drew
 have HG1':Hid (w1.drew.heap[H]?=some (.cells (splice R a [.int .u16 (n:Int)]).toArray 77 (0,0))):=HG1
 have HB1':Hid (Below 0 w w1.drew):=Lib.hid HB1.out.drew
 have HO1':Hid (∀ b,b≠H→w1.drew.heap[b]?=W1.heap[b]?):=HO1
 refine wpList_copy_rows rfl (.tmp 50) (.tmp 53) 35 35 rfl 1 77 Tryz.underlying35 usize16 (some ⟨H,p,none⟩) (some ⟨G,a,none⟩) (N-p) (C-p) (M-a) (cap-a) rfl rfl H p (splice R a [.int .u16 (n:Int)]) 77 HG1'.out D (M-a) (by show M-a=min (M-a) (N-p);have:=HP.out;have:=HN.out;omega) (by rw [HDL.out];omega) (fun _=>⟨rfl,_,rfl,HCD.out _ HO1'.out⟩) (by rw [HDL.out,length_splice _ _ _ (by have:=HRL.out;simp;omega),HRL.out];have:=HP.out;omega) HD1.out 0 w HB1'.out (Nat.zero_le _) ?_
 intro w2 HG2 hB2 hO2
 have HB2:=Lib.hid hB2
 have HO2:Hid (∀ b,b≠H→w2.heap[b]?=W1.heap[b]?):=Lib.hid (fun b hb=>(hO2 b hb).trans (HO1'.out b hb))
 clear hB2 hO2
 go_wp2
 go_ret
 refine ⟨_,rfl,⟨HF.out.2.trans (by omega),.inr ⟨H,C,_,by rw [HN.out];rfl,hbH,HG2.out,by omega,hCm,?_,?_⟩⟩,HB2.out.os,HB2.out.tape,HB2.out.output,HB2.out.size,fun b hb _=>(HO2.out b (by have:=HHS.out;omega)).trans (HWO.out b (by have:=HHS.out;omega))⟩
 ·have h1:(splice R a [Value.int .u16 (n:Int)]).length=C:=by rw [length_splice _ _ _ (by have:=HRL.out;simp;omega)];exact HRL.out
  have h2:(splice (splice R a [Value.int .u16 (n:Int)]) p D).length=C:=by rw [length_splice _ _ _ (by rw [h1,HDL.out];have:=HP.out;omega)];exact h1
  simpa using h2
 ·rw [Nat.mul_one,HN.out]
  exact HF.out.1
theorem owns_stayU {w w':World} {base B:Nat} {e:TypeId} {v:Value} {n:Nat} {xs:List Value} (h:w.ownsRow base e 1 v n xs) (hb:Below B w w') (hB:w.heap.size≤B):w'.ownsRow base e 1 v n xs :=
 h.kept (row:=none) ⟨hb.os,hb.tape,hb.output,hb.size,fun j hj _=>hb.block j (Nat.lt_of_lt_of_le hj hB)⟩ (by cases hv:v.ownBlock <;> simp)
theorem insert_any (v:Value) (o:List Nat) (M a n V base:Nat) (w:World) (T:TypeId) (ho:w.ownsRow base 77 1 v M (o.flatMap uc)) (hM:o.length=M) (ha:a≤M) (hl:M≤1000) (hV:w.heap[V]?=some (.cells #[.int .u16 (n:Int)] T (0,0))) (hVG:v.ownBlock≠some V) (hb:base≤w.heap.size) :
 Calls Tryz.prog 132 #[v,.int .i64 (a:Int),.slice (some ⟨V,0,none⟩) 1 1] w fun e w' =>
  ∃ v',e = .returned v'∧w'.ownsRow base 77 1 v' (M+1) ((o.take a ++ n :: o.drop a).flatMap uc)∧w.grownBy w' v.ownBlock:=by
 by_cases h:a=M
 ·have e:o.take a ++ n :: o.drop a=o ++ [n]:=by rw [List.take_of_length_le (by omega),List.drop_eq_nil_of_le (by omega)]
  rw [e,h]
  exact insert_end v o M n V base w T ho hM hl hV hb
 ·obtain ⟨G,cap,rfl⟩:∃ G cap,v = .slice (some ⟨G,0,none⟩) M cap:=by
   rcases ho.2 with ⟨_,h0⟩ | ⟨g,cap,cur,rfl,_⟩
   ·omega
   ·exact ⟨g,cap,rfl⟩
  by_cases hc:M<cap
  ·exact insert_room G cap o M a n V base w T ho hM (by omega) hc hl hV (fun e=>hVG (by rw [e];rfl))
  ·exact insert_grow G cap o M a n V base w T ho hM (by omega) (by omega) hl hV
theorem with_o (v:Value) (u:List Nat) (n:Nat) (w:World) (hR:Recs uc 1 w v u) (hr:RiseU u) (hl:u.length≤900) :
 Calls Tryz.prog 93 #[v,.int .u16 (n:Int)] w fun e w'=>∃ v',e = .returned v'∧w'.ownsRow w.heap.size 77 1 v' (withU u n).length ((withU u n).flatMap uc)∧Below w.heap.size w w':=by
 have K1:=Lib.hid (without_u v u n w hR (by omega))
 have hlo:=Nat.le_trans (outU_len u n) hl
 have hro:=outU_rise hr n
 have hwp:=parts_with hr n
 have hwl:=withU_len u n
 generalize outU u n=o at *
 have hbo:=belowU_le o n
 have HK2:=Lib.hid (fun (v':Value) (w':World) (h:Recs uc 1 w' v' o)=>bsearch_u v' o n w' h hro (by omega))
 obtain ⟨M,hM⟩:∃ M,o.length=M:=⟨_,rfl⟩
 have HM:=Lib.hid hM
 rw [hM] at K1 hlo hbo
 generalize decide (n ∈ o)=T at *
 obtain ⟨a,ha⟩:∃ a,belowU o n=a:=⟨_,rfl⟩
 rw [ha] at hwp hbo HK2
 have HW:Hid (M+1=(withU u n).length∧(withU u n).length≤1000):=Lib.hid ⟨by rw [← hwp,List.length_append,List.length_cons,List.length_take,List.length_drop];omega,by omega⟩
 have HK3:=Lib.hid (fun (v':Value) (w':World) (h:w'.ownsRow w.heap.size 77 1 v' M (o.flatMap uc)) (hV:w.heap.size≤w'.heap.size) =>
  insert_any v' o M a n w'.heap.size w.heap.size (w'.alloc (.cells #[.int .u16 (n:Int)] 77)) 77 (h.alloc _) hM hbo (by omega) (heap_alloc_new w' _) (fun e=>by have:=(h.lt _ e).2;omega) (by simp;omega))
 rw [hwp] at HK3
 clear hR hr hl hro hwp hwl hM ha
 generalize (withU u n).flatMap uc=Z at *
 generalize withU u n=W at *
 go_enter Tryz.func93,Tryz.ntmps93
 go_wp2_with (first
  | (go_at_call 132;refine (HK3.out _ _ HO2.out HB2.out.size).mono ?_;rintro e w3 ⟨v3,rfl,ho3,hg3⟩;have HO3:=Lib.hid ho3;have HB3:=Lib.hid ((HB2.out.alloc HB2.out.size (.cells #[.int .u16 (n:Int)] 77)).grown hg3 (Nat.le_trans HB2.out.size (by simp)) (fun k hk=>(HO2.out.lt k hk).1));clear ho3 hg3)
  | (go_at_call 131;refine (HK2.out _ _ HR1.out).mono ?_;rintro e w2 ⟨rfl,hb2⟩;have HB2:=Lib.hid (HB1.out.trans (hb2.mono HB1.out.size));have HO2:=Lib.hid (owns_stayU HO1.out hb2 (Nat.le_refl _));clear hb2)
  | (go_at_call 92;refine K1.out.mono ?_;rintro e w1 ⟨v1,rfl,ho1,hb1⟩;have HB1:=Lib.hid hb1;have HR1:=Lib.hid (recs_of_owns uc_len ho1 HM.out.symm (by omega));have HO1:=Lib.hid ho1;clear ho1 hb1))
 go_ret
 exact ⟨_,rfl,HW.out.1 ▸ HO3.out,HB3.out⟩
theorem with_u (v:Value) (u:List Nat) (n:Nat) (w:World) (hR:Recs uc 1 w v u) (hr:RiseU u) (hl:u.length≤900) :
 Calls Tryz.prog 93 #[v,.int .u16 (n:Int)] w fun e w'=>∃ v',e = .returned v'∧Recs uc 1 w' v' (withU u n)∧Below w.heap.size w w' :=
 (with_o v u n w hR hr hl).mono fun e w' ⟨v',he,ho,hb⟩=>⟨v',he,recs_of_owns uc_len ho rfl (by have:=withU_len u n;omega),hb⟩
structure UnitC:Prop where
 code:∀ (n:Nat) (w:World),n<65536→Calls Tryz.prog 69 #[.int .u16 (n:Int)] w fun e w'=>e = .returned (.bool (decide (1≤n∧n≤999)))∧Below w.heap.size w w'
 has:∀ (v:Value) (u:List Nat) (n:Nat) (w:World),Recs uc 1 w v u→u.length≤100→n<65536→Calls Tryz.prog 91 #[v,.int .u16 (n:Int)] w fun e w'=>e = .returned (.bool (decide (n ∈ u)))∧Below w.heap.size w w'
 check:∀ (v:Value) (u:List Nat) (w:World),Recs uc 1 w v u→u.length≤100→(∀ x ∈ u,x<65536)→Calls Tryz.prog 40 #[v] w fun e w'=>e = .returned (.int .i64 (chkU u))∧Below w.heap.size w w'
 with':∀ (v:Value) (u:List Nat) (n:Nat) (w:World),Recs uc 1 w v u→RiseU u→u.length≤100→(∀ x ∈ u,x<65536)→n<65536→Calls Tryz.prog 93 #[v,.int .u16 (n:Int)] w fun e w'=>∃ v',e = .returned v'∧Recs uc 1 w' v' (withU u n)∧Below w.heap.size w w'
 without:∀ (v:Value) (u:List Nat) (n:Nat) (w:World),Recs uc 1 w v u→RiseU u→u.length≤100→(∀ x ∈ u,x<65536)→n<65536→Calls Tryz.prog 92 #[v,.int .u16 (n:Int)] w fun e w'=>∃ v',e = .returned v'∧Recs uc 1 w' v' (outU u n)∧Below w.heap.size w w'
theorem unitC:UnitC where
 code:=fun n w hn=>code_u n w hn
 has:=fun v u n w hR _ _=>has_u v u n w hR
 check:=fun v u w hR hl hu=>check_u v u w hR (by omega) hu
 with':=fun v u n w hR hr hl _ _=>with_u v u n w hR hr (by omega)
 without:=fun v u n w hR _ hl _ _=>(without_u v u n w hR (by omega)).mono fun e w' ⟨v',he,ho,hb⟩=>⟨v',he,recs_of_owns uc_len ho rfl (Nat.le_trans (outU_len u n) (by omega)),hb⟩

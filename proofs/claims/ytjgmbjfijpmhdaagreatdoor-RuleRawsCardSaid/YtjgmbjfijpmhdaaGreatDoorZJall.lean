/- Calendars in plain words: what law 8 makes, in which period a day is, what may be. -/
import Derived.WalkKit
import Derived.Test.YtjgmbjfijpmhdaaGreatDoorZBa
import Derived.Test.YtjgmbjfijpmhdaaGreatDoorChecked
import Derived.Lib.Hide
import Derived.BigQuiet
import Derived.LoopTactic
import Derived.Outline
import Derived.OwnWalk
import Derived.Maps.AppendAt
import Derived.Laws.OwnMore
import Derived.Deep.Heap
import Derived.Deep.DeepCutAuto
import Derived.Test.YtjgmbjfijpmhdaaGreatDoorZNall
import Derived.Lib.SliceRun
import Derived.Lib.Walk
import Derived.Deep.QuietTactic
import Derived.Lib.AppendZerosOnto
import Derived.Deep.Upon
import Derived.Test.YtjgmbjfijpmhdaaGreatDoorZKall
set_option maxRecDepth 100000
set_option maxHeartbeats 2000000
namespace Go.Proofs.YtjgmbjfijpmhdaaGreatDoor
open Go.RowKit
set_option linter.unusedVariables false
set_option linter.unusedSimpArgs false
def dcl (n:Int):List Value:=[.int .i32 n]
theorem dcl_len (n:Int):(dcl n).length=1:=rfl
theorem dcl_one (n:Int):∀ v ∈ dcl n,v.oneCell'=true:=fun v hv=>by simp [dcl] at hv;subst hv;rfl
def RiseD (l:List Int):Prop:=l.Pairwise (fun a b=>a<b)
def rowD:Int→List Nat→List Int
 | d,[]=>[d]
 | d,n :: r=>d :: rowD (d+(1+(n % 40:Nat))) r
def lastD:Int→List Nat→Int
 | d,[]=>d
 | d,n :: r=>lastD (d+(1+(n % 40:Nat))) r
theorem rowD_snoc:∀ (d:Int) (l:List Nat) (n:Nat),rowD d (l ++ [n])=rowD d l ++ [lastD d l+(1+(n % 40:Nat))]
 | d,[],n=>rfl
 | d,m :: r,n=>by rw [List.cons_append,rowD,rowD_snoc,rowD,lastD];rfl
theorem lastD_snoc:∀ (d:Int) (l:List Nat) (n:Nat),lastD d (l ++ [n])=lastD d l+(1+(n % 40:Nat))
 | d,[],n=>rfl
 | d,m :: r,n=>by rw [List.cons_append,lastD,lastD_snoc,lastD]
theorem rowD_len:∀ (d:Int) (l:List Nat),(rowD d l).length=l.length+1
 | d,[]=>rfl
 | d,n :: r=>by rw [rowD,List.length_cons,rowD_len,List.length_cons]
theorem lastD_le:∀ (d:Int) (l:List Nat),d≤lastD d l∧lastD d l≤d+40 * l.length
 | d,[]=>by simp [lastD]
 | d,n :: r=>by
  have:=lastD_le (d+(1+(n % 40:Nat))) r
  have h:n % 40<40:=Nat.mod_lt _ (by omega)
  rw [lastD,List.length_cons]
  omega
theorem rowD_mem:∀ (d:Int) (l:List Nat),∀ x ∈ rowD d l,d≤x∧x≤lastD d l
 | d,[],x,h=>by simp [rowD] at h;subst h;simp [lastD]
 | d,n :: r,x,h=>by
  rw [rowD] at h
  have h1:=lastD_le (d+(1+(n % 40:Nat))) r
  rw [lastD]
  rcases List.mem_cons.1 h with rfl | h
  ·omega
  ·have:=rowD_mem _ _ x h
   omega
theorem rowD_rise:∀ (d:Int) (l:List Nat),RiseD (rowD d l)
 | d,[]=>List.Pairwise.cons (fun b hb=>by cases hb) List.Pairwise.nil
 | d,n :: r=>by
  rw [rowD]
  refine List.Pairwise.cons (fun b hb=>?_) (rowD_rise _ r)
  have:=rowD_mem _ _ b hb
  omega
theorem rowD_head (d:Int) (l:List Nat):(rowD d l)[0]?=some d:=by cases l <;> rfl
def mkS (d:Int) (l:List Nat):List Int:=rowD d (l.take 12)
def mkE (d:Int) (l:List Nat):Int:=lastD d (l.take 12)+31
theorem mkS_len (d:Int) (l:List Nat):(mkS d l).length=min 12 l.length+1:=by unfold mkS;rw [rowD_len,List.length_take]
theorem mkS_rise (d:Int) (l:List Nat):RiseD (mkS d l):=rowD_rise _ _
theorem mkS_mem {d:Int} {l:List Nat} {x:Int} (h:x ∈ mkS d l):d≤x∧x<mkE d l∧x≤d+480:=by
 have h1:=rowD_mem _ _ x h
 have h2:=lastD_le d (l.take 12)
 have h3:(l.take 12).length≤12:=by rw [List.length_take];omega
 unfold mkE
 omega
theorem mkE_le (d:Int) (l:List Nat):d+31≤mkE d l∧mkE d l≤d+511:=by
 have h2:=lastD_le d (l.take 12)
 have h3:(l.take 12).length≤12:=by rw [List.length_take];omega
 unfold mkE
 omega
theorem mkS_head (d:Int) (l:List Nat):(mkS d l)[0]?=some d:=rowD_head _ _
def cntD (S:List Int) (d:Int):Nat:=(S.filter (fun s=>decide (s≤d))).length
def perI (S:List Int) (E d:Int):Int:=if d<E∧0<cntD S d then (cntD S d:Int)-1 else -1
theorem cnt_cons (a:Int) (r:List Int) (d:Int):cntD (a :: r) d=(if a≤d then 1 else 0)+cntD r d:=by
 unfold cntD
 by_cases h:a≤d
 ·rw [List.filter_cons_of_pos (by simpa using h),List.length_cons,if_pos h];omega
 ·rw [List.filter_cons_of_neg (by simpa using h),if_neg h];omega
theorem cnt_le (S:List Int) (d:Int):cntD S d≤S.length:=List.length_filter_le _ _
theorem cnt_zero {S:List Int} {d:Int} (h:∀ x ∈ S,d<x):cntD S d=0:=by
 unfold cntD
 rw [List.filter_eq_nil_iff.2 (by intro a ha;have:=h a ha;simp;omega)];rfl
theorem cnt_iff:∀ {S:List Int} {d:Int},RiseD S → ∀ {i:Nat} {s:Int},S[i]?=some s→(s≤d ↔ i<cntD S d)
 | [],d,_,i,s,h=>by simp at h
 | a :: r,d,hr,0,s,h=>by
  simp only [List.getElem?_cons_zero,Option.some.injEq] at h
  subst h
  rw [cnt_cons]
  by_cases h:a≤d
  ·rw [if_pos h];exact ⟨fun _=>by omega,fun _=>h⟩
  ·rw [if_neg h,cnt_zero fun x hx=>by have:=(List.pairwise_cons.1 hr).1 x hx;omega]
   exact ⟨fun g=>absurd g h,fun g=>by omega⟩
 | a :: r,d,hr,i+1,s,h=>by
  simp only [List.getElem?_cons_succ] at h
  obtain ⟨h1,h2⟩:=List.pairwise_cons.1 hr
  have ih:=cnt_iff (d:=d) h2 h
  have hlt:=h1 s (List.mem_of_getElem? h)
  rw [cnt_cons]
  by_cases g:a≤d
  ·rw [if_pos g,ih];omega
  ·rw [if_neg g,cnt_zero fun x hx=>by have:=h1 x hx;omega]
   exact ⟨fun e=>by omega,fun e=>by omega⟩
def chkD1:Option Int→List Int→Int
 | _,[]=>0
 | p,a :: r=>if a < -719162∨2932896<a then 13 else if (∃ b,p=some b∧a≤b) then 6 else chkD1 (some a) r
def chkD (S:List Int) (E:Int):Int:=if S.length<1∨60<S.length then 2 else chkD1 none (S ++ [E])
theorem chkD1_ok:∀ {l:List Int} {p:Option Int},RiseD l→(∀ x ∈ l, -719162≤x∧x≤2932896 ∧ ∀ b,p=some b→b<x)→chkD1 p l=0
 | [],_,_,_=>rfl
 | a :: r,p,hr,ha=>by
  obtain ⟨h1,h2⟩:=List.pairwise_cons.1 hr
  have h3:=ha a (List.mem_cons_self ..)
  unfold chkD1
  rw [if_neg (by omega),if_neg (by rintro ⟨b,e,h⟩;have:=h3.2.2 b e;omega)]
  refine chkD1_ok h2 fun x hx=>?_
  have:=ha x (List.mem_cons_of_mem _ hx)
  exact ⟨this.1,this.2.1,fun b e=>by cases e;exact h1 x hx⟩
theorem chkD_ok {S:List Int} {E:Int} (h0:1≤S.length) (h6:S.length≤60) (hr:RiseD S) (hE:∀ x ∈ S, -719162≤x∧x<E) (hE2:E≤2932896):chkD S E=0:=by
 unfold chkD
 rw [if_neg (by omega)]
 refine chkD1_ok (List.pairwise_append.2 ⟨hr,by simp,fun a ha b hb=>?_⟩) fun x hx=>?_
 ·simp at hb;subst hb;exact (hE a ha).2
 ·rcases List.mem_append.1 hx with h | h
  ·have:=hE x h;exact ⟨this.1,by omega,fun b e=>by cases e⟩
  ·simp at h
   subst h
   obtain ⟨y,hy⟩:∃ y,y ∈ S:=⟨S[0]'(by omega),List.getElem_mem _⟩
   have:=hE y hy
   exact ⟨by omega,by omega,fun b e=>by cases e⟩
theorem mk_ok (d:Int) (l:List Nat) (h : -719162≤d) (h2:d≤2900000):chkD (mkS d l) (mkE d l)=0:=by
 have h3:=mkE_le d l
 refine chkD_ok (by rw [mkS_len];omega) (by rw [mkS_len];omega) (mkS_rise d l) (fun x hx=>?_) (by omega)
 have:=mkS_mem hx
 omega
def u8c (n:Nat):List Value:=[.int .u8 (n:Int)]
theorem u8c_len (n:Nat):(u8c n).length=1:=rfl
structure Box2 (w:World) (b:Nat) (c0 c1:Value):Prop where
 a0:w.cell? ⟨b,0,none⟩=some c0
 a1:w.cell? ⟨b,1,none⟩=some c1
 f0:w.frozen? ⟨b,0,none⟩=false
 f1:w.frozen? ⟨b,1,none⟩=false
 size:b<w.heap.size
theorem Box2.stay {w w':World} {b:Nat} {c0 c1:Value} (h:Box2 w b c0 c1) (hb:Below w.heap.size w w'):Box2 w' b c0 c1 :=
 ⟨(hb.cell (p:=⟨b,0,none⟩) h.size).trans h.a0,(hb.cell (p:=⟨b,1,none⟩) h.size).trans h.a1,(hb.frozen (p:=⟨b,0,none⟩) h.size).trans h.f0,(hb.frozen (p:=⟨b,1,none⟩) h.size).trans h.f1,Nat.lt_of_lt_of_le h.size hb.size⟩
theorem Box2.new (w:World) (c0 c1:Value) (T:TypeId):Box2 (w.alloc (.cells #[c0,c1] T)) w.heap.size c0 c1:=by
 refine ⟨box_cell w _ T 0 _ rfl,box_cell w _ T 1 _ rfl,?_,?_,?_⟩ <;> simp
theorem Box2.alloc {w:World} {b:Nat} {c0 c1:Value} (h:Box2 w b c0 c1) (o:Obj):Box2 (w.alloc o) b c0 c1:=h.stay ((Below.refl _ _).alloc (Nat.le_refl _) o)
theorem Box2.set0 {w:World} {b:Nat} {c0 c1:Value} (h:Box2 w b c0 c1) (u:Value):Box2 (w.setCell ⟨b,0,none⟩ u) b u c1:=by
 obtain ⟨h0,h1,f0,f1,h4⟩:=h
 exact ⟨by go_simp,by go_simp,by go_simp,by go_simp,by go_simp⟩
theorem Box2.set1 {w:World} {b:Nat} {c0 c1:Value} (h:Box2 w b c0 c1) (u:Value):Box2 (w.setCell ⟨b,1,none⟩ u) b c0 u:=by
 obtain ⟨h0,h1,f0,f1,h4⟩:=h
 exact ⟨by go_simp,by go_simp,by go_simp,by go_simp,by go_simp⟩
theorem Box2.grown {w w':World} {b:Nat} {c0 c1:Value} {row:Option Nat} (h:Box2 w b c0 c1) (hg:w.grownBy w' row) (hne:some b≠row):Box2 w' b c0 c1:=by
 have hb:=hg.block b h.size hne
 exact ⟨(World.cell?_of_block (a:=⟨b,0,none⟩) hb).trans h.a0,(World.cell?_of_block (a:=⟨b,1,none⟩) hb).trans h.a1,(World.frozen?_of_block (a:=⟨b,0,none⟩) hb).trans h.f0,(World.frozen?_of_block (a:=⟨b,1,none⟩) hb).trans h.f1,Nat.lt_of_lt_of_le h.size hg.size⟩
theorem Box2.other {w:World} {b:Nat} {c0 c1:Value} (h:Box2 w b c0 c1) (a:Addr) (hne:b≠a.block) (u:Value):Box2 (w.setCell a u) b c0 c1 :=
 h.grown (row:=some a.block) ⟨rfl,rfl,rfl,by simp,fun k _ hk=>Below.heap_setCell w a u k (fun e=>hk (by rw [e]))⟩ (fun e=>hne (Option.some.inj e))
theorem owns_set_far {w:World} {base:Nat} {e:TypeId} {size:Nat} {v:Value} {n:Nat} {xs:List Value} (h:w.ownsRow base e size v n xs) (a:Addr) (u:Value) (hne:v.ownBlock≠some a.block):(w.setCell a u).ownsRow base e size v n xs :=
 h.kept (row:=some a.block) ⟨rfl,rfl,rfl,by simp,fun k _ hk=>Below.heap_setCell w a u k (fun e=>hk (by rw [e]))⟩ (.inr hne)
theorem infoD:(Tryz.prog.info? 37).map (fun i=>(i.zero,i.size,i.bytes))=some (some (.int .i32 0),1,4):=by kernel_rfl
theorem makeC_c (v:Value) (l:List Nat) (d:Int) (hd : -32768≤d∧d≤32767) (w:World) (hR:Recs u8c 1 w v l) :
 Calls Tryz.prog 31 #[.int .i16 d,v] w fun e w'=>∃ v',e = .returned (.agg #[v',.int .i32 (mkE d l)])∧w'.ownsRow w.heap.size 37 1 v' (mkS d l).length ((mkS d l).flatMap dcl)∧Below w.heap.size w w':=by
 obtain ⟨i0,hi,hz0,hz1,hz2⟩:=info_parts infoD
 obtain ⟨r0,cap0,rfl,hm⟩:=hR.form
 have HR:=Lib.hid hR
 obtain ⟨L,hL⟩:∃ L,l.length=L:=⟨_,rfl⟩
 have HL:=Lib.hid hL
 rw [hL] at HR hm ⊢
 clear hR hL
 have w1:IntKind.i32.wrap d=d:=by rw [IntKind.wrap_i32];omega
 go_enter Tryz.func31,Tryz.ntmps31
 go_upto_region 3 with fail
 have hsA:(w.alloc (.cells #[.slice none 0 0,.int .i32 0] 39)).heap.size=w.heap.size+1:=by simp
 have hsB:((w.alloc (.cells #[.slice none 0 0,.int .i32 0] 39)).alloc (.cells #[.int .i32 d] 37)).heap.size=w.heap.size+1+1:=by simp
 have b1:=((Box2.new w (.slice none 0 0) (.int .i32 0) 39).alloc (.cells #[.int .i32 d] 37)).alloc (.cells #[.slice (some ⟨w.heap.size+1,0,none⟩) 1 1,.int .i32 0] 39)
 have b2:=Box2.new ((w.alloc (.cells #[.slice none 0 0,.int .i32 0] 39)).alloc (.cells #[.int .i32 d] 37)) (.slice (some ⟨w.heap.size+1,0,none⟩) 1 1) (.int .i32 0) 39
 have b3:=(World.ownsRow_lit (base:=w.heap.size) (e:=37) (size:=1) (w.alloc (.cells #[.slice none 0 0,.int .i32 0] 39)) #[.int .i32 d] 1 (by simp) (by unfold maxLen;omega) rfl).alloc (.cells #[.slice (some ⟨w.heap.size+1,0,none⟩) 1 1,.int .i32 0] 39)
 have b4:Below w.heap.size w (((w.alloc (.cells #[.slice none 0 0,.int .i32 0] 39)).alloc (.cells #[.int .i32 d] 37)).alloc (.cells #[.slice (some ⟨w.heap.size+1,0,none⟩) 1 1,.int .i32 0] 39)):=(((Below.refl _ _).alloc (Nat.le_refl _) _).alloc (by simp) _).alloc (by simp;omega) _
 rw [hsB] at b2
 rw [hsA] at b3
 have hb1:w.heap.size+1≠w.heap.size:=by omega
 have hb2:w.heap.size+1≠w.heap.size+1+1:=by omega
 have hb3:w.heap.size≤w.heap.size+1+1:=by omega
 have hb4:w.heap.size+1+1≠w.heap.size:=by omega
 generalize hX:w.heap.size+1+1=X at b2 b3 b4 hb1 hb2 hb3 hb4 ⊢
 generalize hY:w.heap.size+1=Y at b1 b2 b3 b4 hb1 hb2 hb3 hb4 ⊢
 generalize ((w.alloc (.cells #[.slice none 0 0,.int .i32 0] 39)).alloc (.cells #[.int .i32 d] 37)).alloc (.cells #[.slice (some ⟨Y,0,none⟩) 1 1,.int .i32 0] 39)=W at b1 b2 b3 b4 ⊢
 have HB1:=Lib.hid b1
 have HB2:=Lib.hid b2
 have HB3:=Lib.hid b3
 have HB4:=Lib.hid b4
 have HXR:=Lib.hid (And.intro hb1 (And.intro hb2 (And.intro hb3 hb4)))
 clear b1 b2 b3 b4 hb1 hb2 hb3 hb4 hsA hsB hX hY
 go_wp2_with fail
 go_loopw [5,16] (fun s5 i wr=>∃ (k m:Nat) (r:Option Addr) (cap:Nat) (E:Int) (S:List Int),s5 = .int .i32 E∧i = .int .i64 k∧k≤L∧k≤12∧m≤13∧Hid (m=k+1)∧(-32768≤E∧E≤32767+40 * k)∧Hid (wr.ownsRow w.heap.size 37 1 (.slice r m cap) m (S.flatMap dcl))∧Hid ((Value.slice r m cap).ownBlock≠some X)∧Hid ((Value.slice r m cap).ownBlock≠some w.heap.size)∧Hid (Box2 wr X (.slice r m cap) (.int .i32 0))∧Hid (Box2 wr w.heap.size (.slice none 0 0) (.int .i32 0))∧Hid (E=lastD d (l.take k)∧S=rowD d (l.take k))∧Hid (Below w.heap.size w wr)) (fun _ i _=>L-(RowKit.intOf i).toNat)
 case atStart=>exact ⟨0,1,some ⟨Y,0,none⟩,1,d,[d],rfl,rfl,Nat.zero_le _,Nat.zero_le _,by omega,Lib.hid rfl,by omega,Lib.hid (show W.ownsRow _ _ _ _ _ _ from HB3.out),Lib.hid (fun e=>HXR.out.2.1 (Option.some.inj e)),Lib.hid (fun e=>HXR.out.1 (Option.some.inj e)),HB2,HB1,Lib.hid ⟨rfl,rfl⟩,HB4⟩
 case round =>
  clear HB1 HB2 HB3 HB4
  obtain ⟨k,m,r,cap,E,S,rfl,rfl,hk,hk12,hm13,Hm,hE,HO,HN1,HN2,HX1,HR1,HC,HB⟩:=hrel
  rename World=>wr
  have hbs:=HB.out.size
  obtain ⟨x0,x1,y0,y1,hXs⟩:=HX1.out
  obtain ⟨z0,z1,zf0,zf1,zs⟩:=HR1.out
  have hn1:=HXR.out.2.2.2
  have hn2:=hn1.symm
  by_cases hlt:k<L
  ·obtain ⟨x,hx⟩:∃ x,l[k]?=some x:=⟨l[k]'(by have:=HL.out;omega),List.getElem?_eq_getElem (by have:=HL.out;omega)⟩
   obtain ⟨g,off,rfl,hg,hc⟩:=(HR.out.stay HB.out).at hx
   have c0:=hc 0 _ rfl
   simp only [Nat.mul_one,Nat.add_zero] at c0
   by_cases h12:k=12
   ·have HE:Hid (E=lastD d (l.take 12)∧S=mkS d l∧S.length=m):=Lib.hid ⟨by rw [HC.out.1,h12],by rw [HC.out.2,h12];rfl,by rw [HC.out.2,rowD_len,List.length_take,HL.out];have:=Hm.out;omega⟩
    have d1:((k:Int) == 12)=true:=by simp;omega
    have d2:(k == 12)=true:=by simp;omega
    obtain ⟨F,hF⟩:∃ F,E+31=F:=⟨_,rfl⟩
    have e3:IntKind.i32.wrap F=F:=by rw [IntKind.wrap_i32];omega
    have HF:=Lib.hid hF
    clear hx hc h12
    go_wp2_with fail
    have hBf:=((HR1.out.other ⟨X,1,none⟩ hn2 (.int .i32 F)).set0 (.slice r m cap)).set1 (.int .i32 F)
    have hof:=owns_set_far (owns_set_far (owns_set_far HO.out ⟨X,1,none⟩ (.int .i32 F) HN1.out) ⟨w.heap.size,0,none⟩ (.slice r m cap) HN2.out) ⟨w.heap.size,1,none⟩ (.int .i32 F) HN2.out
    have hbf:=((HB.out.setCell (p:=⟨X,1,none⟩) HXR.out.2.2.1 (.int .i32 F)).setCell (p:=⟨w.heap.size,0,none⟩) (Nat.le_refl _) (.slice r m cap)).setCell (p:=⟨w.heap.size,1,none⟩) (Nat.le_refl _) (.int .i32 F)
    generalize ((wr.setCell ⟨X,1,none⟩ (.int .i32 F)).setCell ⟨w.heap.size,0,none⟩ (.slice r m cap)).setCell ⟨w.heap.size,1,none⟩ (.int .i32 F)=wf at *
    obtain ⟨q0,q1,_,_,_⟩:=hBf
    refine bodyPost_ret (v:=.agg #[.slice r m cap,.int .i32 F]) (by simp [results,Tryz.results31,go_sem,q0,q1]) rfl ?_
    obtain ⟨h1,h2,h3⟩:=HE.out
    refine ⟨.slice r m cap,by unfold mkE;rw [← h1,HF.out],?_,hbf⟩
    rw [← h2,h3]
    exact hof
   ·obtain ⟨y,hy⟩:∃ y,x % 40=y:=⟨_,rfl⟩
    have hy40:y<40:=by rw [← hy];exact Nat.mod_lt _ (by omega)
    obtain ⟨F,hF⟩:∃ F,E+(1+(y:Int))=F:=⟨_,rfl⟩
    have d1:((k:Int) == 12)=false:=by simp;omega
    have d2:(k == 12)=false:=by simp;omega
    have e1:(x:Int).tmod 40=(y:Int):=by rw [Int.tmod_eq_emod_of_nonneg (by omega)];omega
    have e2:(x:Int) % 40=(y:Int):=by omega
    have e3:IntKind.i32.wrap F=F:=by rw [IntKind.wrap_i32];omega
    have e4:IntKind.i32.wrap (y:Int)=(y:Int):=by rw [IntKind.wrap_i32];omega
    have e5:IntKind.i32.wrap (1+(y:Int))=1+(y:Int):=by rw [IntKind.wrap_i32];omega
    have HF:=Lib.hid (And.intro hx (And.intro hy hF))
    have hk11:k+1≤12:=by omega
    clear hx hc h12 hy
    have HOL:=Lib.hid HO.out.lt
    go_wp2_with (at_builtin;refine wpList_append_own_at _ rfl (.tmp 30) (.tmp 32) 36 rfl w.heap.size 37 i0 (.int .i32 0) 1 4 Tryz.underlying36 hi hz0 hz1 hz2 rfl (by decide) _ m _ rfl (HO.out.alloc _) ⟨_,0,none⟩ 1 1 (dcl F) rfl rfl (cells_new _ (dcl F) _) (dcl_one F) (by unfold maxLen;omega) (by omega) (by simp;omega) ?_;intro v2 w3 hown3 hgrow3 _ hat3;have HB3:=Lib.hid ((HB.out.alloc hbs _).grown hgrow3 (by simp;omega) (fun j hj=>(HOL.out j hj).1));have HO3:=Lib.hid hown3;have HX3:=Lib.hid ((HX1.out.alloc _).grown hgrow3 (fun e=>HN1.out e.symm));have HR3:=Lib.hid ((HR1.out.alloc _).grown hgrow3 (fun e=>HN2.out e.symm));obtain ⟨r2,cap2,rfl⟩:=owns_form hown3;obtain ⟨p0,p1,p2,p3,p4⟩:=HX3.out;have HAT:=Lib.hid hat3;clear hgrow3 hown3 hat3)
    go_roundw
    case rel =>
     have hl:=(List.getElem?_eq_some_iff.1 HF.out.1).1
     have hx4:=HXR.out.2.2.1
     have hX8:X<wr.heap.size:=hXs
     have hz8:w.heap.size<wr.heap.size:=zs
     have hsz:(wr.alloc (.cells #[.int .i32 F] 37)).heap.size=wr.heap.size+1:=by simp
     have ne1:(Value.slice r2 (m+1) cap2).ownBlock≠some X:=fun e=>by
      rcases HAT.out with h | h
      ·exact HN1.out (h.symm.trans e)
      ·rw [h] at e;have:=Option.some.inj e;omega
     have ne2:(Value.slice r2 (m+1) cap2).ownBlock≠some w.heap.size:=fun e=>by
      rcases HAT.out with h | h
      ·exact HN2.out (h.symm.trans e)
      ·rw [h] at e;have:=Option.some.inj e;omega
     have et:=List.take_succ_eq_append_getElem hl
     have ex:l[k]=x:=by have:=HF.out.1;rw [List.getElem?_eq_getElem hl] at this;exact Option.some.inj this
     refine ⟨k+1,m+1,r2,cap2,F,S ++ [F],rfl,by go_num,by omega,by omega,by have:=Hm.out;omega,Lib.hid (by rw [Hm.out]),by have:=HF.out.2.2;omega,Lib.hid (owns_set_far (by rw [flat_snoc];exact HO3.out) _ _ ne1),Lib.hid ne1,Lib.hid ne2,Lib.hid (HX3.out.set0 _),Lib.hid (HR3.out.other ⟨X,0,none⟩ hn2 _),Lib.hid ⟨?_,?_⟩,Lib.hid (HB3.out.setCell hx4 _)⟩
     ·rw [et,ex,lastD_snoc,← HC.out.1,HF.out.2.1,HF.out.2.2]
     ·rw [et,ex,rowD_snoc,← HC.out.1,← HC.out.2,HF.out.2.1,HF.out.2.2]
    case measure=>simp [RowKit.intOf];omega
  ·obtain rfl:k=L:=by omega
   have HE:Hid (E=lastD d (l.take 12)∧S=mkS d l∧S.length=m):=Lib.hid ⟨by rw [HC.out.1,List.take_of_length_le (by rw [HL.out];exact Nat.le_refl _),List.take_of_length_le (by rw [HL.out];exact hk12)],by rw [HC.out.2,mkS,List.take_of_length_le (by rw [HL.out];exact Nat.le_refl _),List.take_of_length_le (by rw [HL.out];exact hk12)],by rw [HC.out.2,rowD_len,List.length_take,HL.out];have:=Hm.out;omega⟩
   obtain ⟨F,hF⟩:∃ F,E+31=F:=⟨_,rfl⟩
   have e3:IntKind.i32.wrap F=F:=by rw [IntKind.wrap_i32];omega
   have HF:=Lib.hid hF
   go_wp2_with fail
   have hBf:=((HR1.out.other ⟨X,1,none⟩ hn2 (.int .i32 F)).set0 (.slice r m cap)).set1 (.int .i32 F)
   have hof:=owns_set_far (owns_set_far (owns_set_far HO.out ⟨X,1,none⟩ (.int .i32 F) HN1.out) ⟨w.heap.size,0,none⟩ (.slice r m cap) HN2.out) ⟨w.heap.size,1,none⟩ (.int .i32 F) HN2.out
   have hbf:=((HB.out.setCell (p:=⟨X,1,none⟩) HXR.out.2.2.1 (.int .i32 F)).setCell (p:=⟨w.heap.size,0,none⟩) (Nat.le_refl _) (.slice r m cap)).setCell (p:=⟨w.heap.size,1,none⟩) (Nat.le_refl _) (.int .i32 F)
   generalize ((wr.setCell ⟨X,1,none⟩ (.int .i32 F)).setCell ⟨w.heap.size,0,none⟩ (.slice r m cap)).setCell ⟨w.heap.size,1,none⟩ (.int .i32 F)=wf at *
   obtain ⟨q0,q1,_,_,_⟩:=hBf
   refine bodyPost_ret (v:=.agg #[.slice r m cap,.int .i32 F]) (by simp [results,Tryz.results31,go_sem,q0,q1]) rfl ?_
   obtain ⟨h1,h2,h3⟩:=HE.out
   refine ⟨.slice r m cap,by unfold mkE;rw [← h1,HF.out],?_,hbf⟩
   rw [← h2,h3]
   exact hof
def I32 (n:Int):Prop:=-2147483648≤n∧n≤2147483647
structure CalC (I:World→Prop):Prop where
 check:∀ (v:Value) (S:List Int) (E:Int) (w:World),I w→Recs dcl 1 w v S→S.length≤100→(∀ x ∈ S,I32 x)→I32 E→Calls Tryz.prog 41 #[.agg #[v,.int .i32 E]] w fun e w'=>e = .returned (.int .i64 (chkD S E))∧Below w.heap.size w w'
 len:∀ (v:Value) (S:List Int) (E:Int) (w:World),Recs dcl 1 w v S→S.length≤100→Calls Tryz.prog 70 #[.agg #[v,.int .i32 E]] w fun e w'=>e = .returned (.int .i64 (S.length:Nat))∧Below w.heap.size w w'
 period:∀ (v:Value) (S:List Int) (E d:Int) (w:World),I w→Recs dcl 1 w v S→RiseD S→1≤S.length→S.length≤60→(∀ x ∈ S,I32 x∧x<E)→I32 E→I32 d→Calls Tryz.prog 60 #[.agg #[v,.int .i32 E],.int .i32 d] w fun e w'=>e = .returned (.tuple #[.int .i64 (max (perI S E d) 0),.bool (decide (0≤perI S E d))])∧Below w.heap.size w w'
 same:∀ (v v':Value) (S S':List Int) (E E':Int) (w:World),Recs dcl 1 w v S→Recs dcl 1 w v' S'→S.length≤100→S'.length≤100→Calls Tryz.prog 25 #[.agg #[v,.int .i32 E],.agg #[v',.int .i32 E']] w fun e w'=>e = .returned (.bool (decide (S=S'∧E=E')))∧Below w.heap.size w w'
theorem mkS_range {d:Int} {l:List Nat} (h : -32768≤d∧d≤32767):∀ x ∈ mkS d l,I32 x∧x<mkE d l:=fun x hx=>by
 have h1:=mkS_mem hx
 unfold I32
 omega
theorem mkE_range {d:Int} {l:List Nat} (h : -32768≤d∧d≤32767):I32 (mkE d l):=by
 have h1:=mkE_le d l
 unfold I32
 omega
theorem mkS_lens (d:Int) (l:List Nat):1≤(mkS d l).length∧(mkS d l).length≤13:=by rw [mkS_len];omega
theorem CalC.made {I:World→Prop} (K:CalC I) {d0:Int} {l:List Nat} (hd : -32768≤d0∧d0≤32767) (v:Value) (d:Int) (w:World) (hI:I w) (hR:Recs dcl 1 w v (mkS d0 l)) (h:I32 d) :
 Calls Tryz.prog 60 #[.agg #[v,.int .i32 (mkE d0 l)],.int .i32 d] w fun e w'=>e = .returned (.tuple #[.int .i64 (max (perI (mkS d0 l) (mkE d0 l) d) 0),.bool (decide (0≤perI (mkS d0 l) (mkE d0 l) d))])∧Below w.heap.size w w' :=
 K.period v _ _ d w hI hR (mkS_rise _ _) (mkS_lens _ _).1 (by have:=(mkS_lens d0 l).2;omega) (mkS_range hd) (mkE_range hd) h
theorem lperiod_c (v:Value) (S:List Int) (E d:Int) (w:World) (hR:Recs dcl 1 w v S) (hr:RiseD S) (hE:∀ x ∈ S,x<E) (hl:S.length≤100) :
 Calls Tryz.prog 42 #[.agg #[v,.int .i32 E],.int .i32 d] w fun e w'=>e = .returned (.int .i64 (perI S E d))∧Below w.heap.size w w':=by
 obtain ⟨r,cap,rfl,_⟩:=hR.form
 obtain ⟨L,hL⟩:∃ L,S.length=L:=⟨_,rfl⟩
 obtain ⟨c,hc⟩:∃ c,cntD S d=c:=⟨_,rfl⟩
 obtain ⟨p,hp⟩:∃ p,perI S E d=p:=⟨_,rfl⟩
 have HL:=Lib.hid hL
 have hcl:c≤L:=by rw [← hc,← hL];exact cnt_le S d
 have HP:Hid (p=if d<E∧0<c then (c:Int)-1 else -1):=Lib.hid (by rw [← hp,← hc];rfl)
 have HC:Hid (∀ i s,S[i]?=some s→(s≤d ↔ i<c)):=Lib.hid (fun i s h=>by rw [← hc];exact cnt_iff hr h)
 have HE:=Lib.hid hE
 rw [hL] at hR
 have hbx:=Box2.new w (.slice r L cap) (.int .i32 E) 39
 have HB:=Lib.hid ((Below.refl w.heap.size w).alloc (Nat.le_refl _) (.cells #[.slice r L cap,.int .i32 E] 39))
 have HR:=Lib.hid (show Recs dcl 1 (w.alloc (.cells #[.slice r L cap,.int .i32 E] 39)) (.slice r L cap) S from hR.stay HB.out)
 rw [hL] at hl ⊢
 rw [hp]
 clear hR hL hc hp hr hE
 go_enter Tryz.func42,Tryz.ntmps42
 go_upto_region 1 with fail
 generalize w.alloc (.cells #[.slice r L cap,.int .i32 E] 39)=W at *
 obtain ⟨p0,p1,_,_,_⟩:=hbx
 go_wp2_with fail
 go_loop [10] (fun i=>∃ k:Nat,i = .int .i64 k∧k≤L∧Hid (0<c∧d<E→k<c)) (fun i=>L-(RowKit.intOf i).toNat)
 case atStart=>exact ⟨0,rfl,Nat.zero_le _,Lib.hid (fun h=>h.1)⟩
 case round =>
  obtain ⟨k,rfl,hk,HK⟩:=hrel
  by_cases hlt:k<L
  ·obtain ⟨x,hx⟩:∃ x,S[k]?=some x:=⟨S[k]'(by have:=HL.out;omega),List.getElem?_eq_getElem (by have:=HL.out;omega)⟩
   obtain ⟨g,off,rfl,hg,hc⟩:=HR.out.at hx
   have c0:=hc 0 _ rfl
   simp only [Nat.mul_one,Nat.add_zero] at c0
   have hxi:=HC.out _ _ hx
   have hxE:=HE.out x (List.mem_of_getElem? hx)
   have HX:=Lib.hid hxi
   have NEXT:Hid (∀ h:¬ x≤d ∨ ¬ d<E∨k+1<c,0<c∧d<E→k+1<c):=Lib.hid (fun h h2=>by
    have:=HK.out h2
    rcases h with h | h | h
    ·exact absurd (hxi.2 this) h
    ·exact absurd h2.2 h
    ·exact h)
   by_cases hxd:x≤d
   ·have hkc:=hxi.1 hxd
    by_cases hk1:k+1<L
    ·have i1:(k:Int)+1<(L:Int):=by omega
     obtain ⟨y,hy⟩:∃ y,S[k+1]?=some y:=⟨S[k+1]'(by have:=HL.out;omega),List.getElem?_eq_getElem (by have:=HL.out;omega)⟩
     obtain ⟨g',off',er,_,hc'⟩:=HR.out.at hy
     cases er
     have c1:=hc' 0 _ rfl
     simp only [Nat.mul_one,Nat.add_zero] at c1
     have hyi:=HC.out _ _ hy
     have hyE:=HE.out y (List.mem_of_getElem? hy)
     by_cases hyd:d<y
     ·have hpe:p=(k:Int):=by
       rw [HP.out,if_pos (by omega)];have:¬ (k+1<c):=fun h=>by have:=hyi.2 h;omega
       omega
      subst hpe
      clear hx hc hxi hyi hy hc' hxE hyE hkc
      go_wp2
      go_ret
      exact ⟨rfl,HB.out⟩
     ·have E1:=Lib.hid (NEXT.out (.inr (.inr (hyi.1 (by omega)))))
      clear hx hc hxi hyi hy hc' hxE hyE hkc NEXT
      go_wp2
      go_round
      case rel=>exact ⟨k+1,by go_num,by omega,E1⟩
      case measure=>simp [RowKit.intOf];omega
    ·have i1:¬ (k:Int)+1<(L:Int):=by omega
     by_cases hdE:d<E
     ·have hpe:p=(k:Int):=by rw [HP.out,if_pos (by omega)];omega
      subst hpe
      clear hx hc hxi hxE hkc
      go_wp2
      go_ret
      exact ⟨rfl,HB.out⟩
     ·have E1:=Lib.hid (NEXT.out (.inr (.inl hdE)))
      clear hx hc hxi hxE hkc NEXT
      go_wp2
      go_round
      case rel=>exact ⟨k+1,by go_num,by omega,E1⟩
      case measure=>simp [RowKit.intOf];omega
   ·have E1:=Lib.hid (NEXT.out (.inl hxd))
    clear hc hxi hxE NEXT
    by_cases hk1:k+1<L
    ·have i1:(k:Int)+1<(L:Int):=by omega
     obtain ⟨y,hy⟩:∃ y,S[k+1]?=some y:=⟨S[k+1]'(by have:=HL.out;omega),List.getElem?_eq_getElem (by have:=HL.out;omega)⟩
     obtain ⟨g',off',er,_,hc'⟩:=HR.out.at hy
     cases er
     have c1:=hc' 0 _ rfl
     simp only [Nat.mul_one,Nat.add_zero] at c1
     clear hx hy hc'
     go_wp2
     go_round
     case rel=>exact ⟨k+1,by go_num,by omega,E1⟩
     case measure=>simp [RowKit.intOf];omega
    ·have i1:¬ (k:Int)+1<(L:Int):=by omega
     clear hx
     go_wp2
     go_round
     case rel=>exact ⟨k+1,by go_num,by omega,E1⟩
     case measure=>simp [RowKit.intOf];omega
  ·obtain rfl:k=L:=by omega
   have hpe:p = -1:=by rw [HP.out,if_neg];intro h;have:=HK.out ⟨h.2,h.1⟩;omega
   subst hpe
   go_wp2
   go_ret
   exact ⟨rfl,HB.out⟩
def belowD (l:List Int) (n:Int):Nat:=l.countP (fun a=>decide (a<n))
theorem belowD_le (l:List Int) (n:Int):belowD l n≤l.length:=List.countP_le_length
theorem belowD_lt {l:List Int} (h:RiseD l):∀ (i:Nat) (a:Int),l[i]?=some a → ∀ n,(i<belowD l n ↔ a<n):=by
 induction l with
 | nil=>intro i a e;simp at e
 | cons x r ih =>
  obtain ⟨h1,h2⟩:=List.pairwise_cons.1 h
  intro i a e n
  unfold belowD
  rw [List.countP_cons]
  have hz:¬ x<n→r.countP (fun a=>decide (a<n))=0:=fun hx=>by
   rw [List.countP_eq_zero]
   intro b hb
   have:=h1 b hb
   simp;omega
  cases i with
  | zero =>
   simp only [List.getElem?_cons_zero,Option.some.injEq] at e
   subst e
   by_cases hx:x<n
   ·simp [hx]
   ·simp [hx,hz hx]
  | succ i =>
   simp only [List.getElem?_cons_succ] at e
   have ih':=ih h2 i a e n
   unfold belowD at ih'
   have ha:x<a:=h1 a (List.mem_of_getElem? e)
   by_cases hx:x<n
   ·simp [hx];exact ih'
   ·simp [hx,hz hx];omega
theorem belowD_at {l:List Int} (h:RiseD l) (n:Int) {a:Int} (ha:l[belowD l n]?=some a):decide (n ∈ l)=decide (a=n):=by
 by_cases hn:a=n
 ·rw [decide_eq_true hn,decide_eq_true (hn ▸ List.mem_of_getElem? ha)]
 ·rw [decide_eq_false hn]
  refine decide_eq_false fun hm=>?_
  obtain ⟨i,hi,e⟩:=List.getElem_of_mem hm
  have hx:l[i]?=some n:=by rw [List.getElem?_eq_getElem hi,e]
  have h1:¬ i<belowD l n:=fun hc=>by have:=(belowD_lt h i n hx n).1 hc;omega
  have h2:¬ a<n:=fun hc=>by have:=(belowD_lt h _ a ha n).2 hc;omega
  have h3:i<belowD l (n+1):=(belowD_lt h i n hx (n+1)).2 (by omega)
  obtain ⟨hb,eb⟩:=List.getElem?_eq_some_iff.1 ha
  rcases Nat.lt_trichotomy i (belowD l n) with hc | hc | hc
  ·omega
  ·subst hc;rw [hx] at ha;cases ha;exact hn rfl
  ·have:=(List.pairwise_iff_getElem.1 h) (belowD l n) i hb hi hc
   omega
theorem belowD_end {l:List Int} (h:RiseD l) (n:Int) (hb:l.length≤belowD l n):decide (n ∈ l)=false:=by
 refine decide_eq_false fun hm=>?_
 obtain ⟨i,hi,e⟩:=List.getElem_of_mem hm
 have:=(belowD_lt h i n (by rw [List.getElem?_eq_getElem hi,e]) n).1 (by omega)
 omega
theorem cnt_below:∀ {S:List Int} (d:Int),RiseD S→cntD S d=belowD S d+(if d ∈ S then 1 else 0)
 | [],d,_=>rfl
 | a :: r,d,h=>by
  obtain ⟨h1,h2⟩:=List.pairwise_cons.1 h
  have ih:=cnt_below d h2
  have hz:¬ a<d→belowD r d=0:=fun hx=>by
   unfold belowD
   rw [List.countP_eq_zero]
   intro b hb
   have:=h1 b hb
   simp;omega
  have e:belowD (a :: r) d=(if a<d then 1 else 0)+belowD r d:=by
   unfold belowD
   rw [List.countP_cons]
   by_cases g:a<d
   ·simp [g];omega
   ·simp [g]
  rw [cnt_cons,e]
  rcases Int.lt_trichotomy a d with g | g | g
  ·have hm:(d ∈ a :: r) ↔ d ∈ r:=by simp;omega
   rw [if_pos (by omega),if_pos g,ih]
   by_cases hd:d ∈ r
   ·rw [if_pos hd,if_pos (hm.2 hd)];omega
   ·rw [if_neg hd,if_neg (fun h=>hd (hm.1 h))];omega
  ·subst g
   rw [if_pos (Int.le_refl _),if_neg (by omega),if_pos (List.mem_cons_self ..),hz (by omega),cnt_zero h1]
  ·have hm:¬ d ∈ a :: r:=fun h=>by
    rcases List.mem_cons.1 h with h | h
    ·omega
    ·have:=h1 d h;omega
   rw [if_neg (by omega),if_neg (by omega),if_neg hm,hz (by omega),cnt_zero fun x hx=>by have:=h1 x hx;omega]
theorem isnan_d (x:Int) (w:World):Calls Tryz.prog 186 #[.int .i32 x] w fun e w'=>e = .returned (.bool false)∧w'=w:=by
 go_enter Tryz.func186,Tryz.ntmps186
 go_wp2
 go_ret
 exact ⟨by simp,rfl⟩
theorem less_d (m n:Int) (w:World):Calls Tryz.prog 133 #[.int .i32 m,.int .i32 n] w fun e w'=>e = .returned (.bool (decide (m<n)))∧w'=w:=by
 have K:=Lib.hid (fun x=>isnan_d x w)
 go_enter Tryz.func133,Tryz.ntmps133
 go_wp2_with (go_at_call 186;refine (K.out _).mono ?_;rintro e w1 ⟨rfl,rfl⟩)
 go_ret
 exact ⟨by simp,rfl⟩
theorem isnan_ds (x:Int) (w:World):Calls Tryz.prog 134 #[.int .i32 x] w fun e w'=>e = .returned (.bool false)∧w'=w:=by
 go_enter Tryz.func134,Tryz.ntmps134
 go_wp2
 go_ret
 exact ⟨by simp,rfl⟩
theorem bsearch_d (v:Value) (c:List Int) (n:Int) (w:World) (hR:Recs dcl 1 w v c) (hr:RiseD c) (hl:c.length≤1000) :
 Calls Tryz.prog 94 #[v,.int .i32 n] w fun e w' =>
  e = .returned (.tuple #[.int .i64 (belowD c n:Nat),.bool (decide (n ∈ c))])∧Below w.heap.size w w':=by
 obtain ⟨r,cap,rfl,hm⟩:=hR.form
 have HR:=Lib.hid hR
 obtain ⟨B,hB⟩:∃ B,belowD c n=B:=⟨_,rfl⟩
 obtain ⟨T,hT⟩:∃ T,decide (n ∈ c)=T:=⟨_,rfl⟩
 obtain ⟨L,hL⟩:∃ L,c.length=L:=⟨_,rfl⟩
 have HB:Hid (∀ (i:Nat) (a:Int),c[i]?=some a→(i<B ↔ a<n)):=Lib.hid (fun i a ha=>hB ▸ belowD_lt hr i a ha n)
 have HT:Hid (∀ a,c[B]?=some a→T=decide (a=n)):=Lib.hid (fun a ha=>hT ▸ belowD_at hr n (hB.symm ▸ ha))
 have HE:Hid (L≤B→T=false):=Lib.hid (fun h=>hT ▸ belowD_end hr n (by omega))
 have hBL:B≤L:=hB ▸ hL ▸ belowD_le c n
 have HL:=Lib.hid hL
 have KL:=Lib.hid (fun m n w=>less_d m n w)
 have KN:=Lib.hid (fun x w=>isnan_ds x w)
 rw [hB,hT]
 rw [hL] at HR ⊢
 rw [hL] at hl
 clear hR hm hB hT hL hr
 go_enter Tryz.func94,Tryz.ntmps94
 go_wp2
 go_loopw [7,8] (fun i j wr=>∃ lo hi:Nat,i = .int .i64 lo∧j = .int .i64 hi∧lo≤B∧B≤hi∧hi≤L∧Below w.heap.size w wr) (fun i j _=>(RowKit.intOf j-RowKit.intOf i).toNat)
 case atStart=>exact ⟨0,L,rfl,rfl,Nat.zero_le _,hBL,Nat.le_refl _,Below.refl _ _⟩
 case round =>
  obtain ⟨lo,hi,rfl,rfl,h1,h2,h3,hb⟩:=hrel
  rename World=>wr
  by_cases hlt:lo<hi
  ·have hmid:(lo+hi) / 2<L:=by omega
   obtain ⟨a,ha⟩:∃ a,c[(lo+hi) / 2]?=some a:=⟨c[(lo+hi) / 2]'(by have:=HL.out;omega),List.getElem?_eq_getElem (by have:=HL.out;omega)⟩
   have hiff:=HB.out _ _ ha
   obtain ⟨g,off,rfl,hg,hc⟩:=(HR.out.stay hb).at ha
   have c0:=hc 0 _ rfl
   simp only [Nat.mul_one,Nat.add_zero] at c0
   clear hc ha
   by_cases hlow:a<n
   ·have e:decide (a<n)=true:=decide_eq_true hlow
    have hlB:=hiff.2 hlow
    have K1:=KL.out a n wr
    rw [e] at K1
    have HK:=Lib.hid K1
    clear K1
    have HW:=Lib.hid hb
    clear hiff hlow hb e
    go_wp2_with (go_at_call 133;refine HK.out.mono ?_;rintro e w1 ⟨rfl,rfl⟩)
    go_roundw
    case rel=>exact ⟨(lo+hi) / 2+1,hi,by go_num,rfl,by omega,h2,h3,HW.out⟩
    case measure=>simp [RowKit.intOf];omega
   ·have e:decide (a<n)=false:=decide_eq_false hlow
    have hlB:¬ (lo+hi) / 2<B:=fun h=>hlow (hiff.1 h)
    have K1:=KL.out a n wr
    rw [e] at K1
    have HK:=Lib.hid K1
    clear K1
    have HW:=Lib.hid hb
    clear hiff hlow hb e
    go_wp2_with (go_at_call 133;refine HK.out.mono ?_;rintro e w1 ⟨rfl,rfl⟩)
    go_roundw
    case rel=>exact ⟨lo,(lo+hi) / 2,rfl,by go_num,h1,by omega,by omega,HW.out⟩
    case measure=>simp [RowKit.intOf];omega
  ·obtain rfl:hi=lo:=by omega
   obtain rfl:B=hi:=by omega
   by_cases hn:B<L
   ·obtain ⟨a,ha⟩:∃ a,c[B]?=some a:=⟨c[B]'(by have:=HL.out;omega),List.getElem?_eq_getElem (by have:=HL.out;omega)⟩
    have ht:=HT.out _ ha
    obtain ⟨g,off,rfl,hg,hc⟩:=(HR.out.stay hb).at ha
    have c0:=hc 0 _ rfl
    simp only [Nat.mul_one,Nat.add_zero] at c0
    clear hc ha
    have HW:=Lib.hid hb
    clear hb
    have hd:decide ((B:Int)<(L:Int))=true:=decide_eq_true (by omega)
    by_cases han:a=n
    ·have hab:(a == n)=true:=by simp [han]
     rw [decide_eq_true han] at ht
     subst ht
     clear han
     go_wp2_with (go_at_call 134;refine (KN.out _ _).mono ?_;rintro e w1 ⟨rfl,rfl⟩)
     go_ret2
     exact ⟨by simp,HW.out⟩
    ·have hab:(a == n)=false:=by simp;omega
     rw [decide_eq_false han] at ht
     subst ht
     clear han
     go_wp2_with (go_at_call 134;refine (KN.out _ _).mono ?_;rintro e w1 ⟨rfl,rfl⟩)
     go_ret2
     exact ⟨by simp,HW.out⟩
   ·obtain rfl:=HE.out (by omega)
    have hd:decide ((B:Int)<(L:Int))=false:=decide_eq_false (by omega)
    go_wp2
    go_ret2
    exact ⟨rfl,hb⟩
theorem take_stepD {xs ys:List Int} {j:Nat} {x y:Int} (h:xs.take j=ys.take j) (hx:xs[j]?=some x) (hy:ys[j]?=some y) (e:x=y):xs.take (j+1)=ys.take (j+1):=by
 rw [List.take_add_one,List.take_add_one,h,hx,hy,e]
theorem equal_dlen (r1 r2:Option Addr) (n1 n2 c1 c2:Nat) (w:World) (h:n1≠n2) :
 Calls Tryz.prog 47 #[.slice r1 n1 c1,.slice r2 n2 c2] w fun e w'=>e = .returned (.bool false)∧Below w.heap.size w w':=by
 have h1:((n1:Int) != (n2:Int))=true:=by simp;omega
 go_enter Tryz.func47,Tryz.ntmps47
 go_wp2
 go_ret
 exact ⟨rfl,Below.refl _ _⟩
theorem equal_d (v1 v2:Value) (S S':List Int) (w:World) (h1:Recs dcl 1 w v1 S) (h2:Recs dcl 1 w v2 S') :
 Calls Tryz.prog 47 #[v1,v2] w fun e w'=>e = .returned (.bool (decide (S=S')))∧Below w.heap.size w w':=by
 obtain ⟨r1,cap1,rfl,hm⟩:=h1.form
 obtain ⟨r2,cap2,rfl,_⟩:=h2.form
 by_cases hne:S.length=S'.length
 ·obtain ⟨n,hn⟩:∃ n,S.length=n:=⟨_,rfl⟩
  have HN:=Lib.hid hn
  have HN':=Lib.hid (hne ▸ hn)
  rw [← hne,hn] at h2 ⊢
  rw [hn] at h1 hm
  have H1:=Lib.hid h1
  have H2:=Lib.hid h2
  obtain ⟨T,hT⟩:∃ T,decide (S=S')=T:=⟨_,rfl⟩
  have HT:=Lib.hid hT
  rw [hT]
  clear h1 h2 hn hne hT
  go_enter Tryz.func47,Tryz.ntmps47
  go_wp2
  go_loopw [13] (fun i wr=>∃ j:Nat,j≤n∧i = .int .i64 j∧Hid (S.take j=S'.take j)∧Below w.heap.size w wr) (fun i _=>n-(RowKit.intOf i).toNat)
  case atStart=>exact ⟨0,Nat.zero_le _,rfl,rfl,Below.refl _ _⟩
  case round =>
   obtain ⟨j,hj,rfl,hE,hB⟩:=hrel
   rename World=>wr
   by_cases hlt:j<n
   ·obtain ⟨x,hx⟩:∃ x,S[j]?=some x:=⟨S[j]'(by have:=HN.out;omega),List.getElem?_eq_getElem (by have:=HN.out;omega)⟩
    obtain ⟨y,hy⟩:∃ y,S'[j]?=some y:=⟨S'[j]'(by have:=HN'.out;omega),List.getElem?_eq_getElem (by have:=HN'.out;omega)⟩
    obtain ⟨g1,o1,rfl,_,c1⟩:=(H1.out.stay hB).at hx
    obtain ⟨g2,o2,rfl,_,c2⟩:=(H2.out.stay hB).at hy
    have a0:=c1 0 _ rfl
    have b0:=c2 0 _ rfl
    simp only [Nat.mul_one,Nat.add_zero] at a0 b0
    have HS:=Lib.hid (fun e=>take_stepD hE.out hx hy e)
    have HF:Hid (x≠y→T=false):=Lib.hid (fun e=>by
     rw [← HT.out]
     refine decide_eq_false fun h=>e ?_
     rw [h,hy] at hx
     exact (Option.some.inj hx).symm)
    clear hx hy c1 c2 hE
    by_cases hxy:x=y
    ·subst hxy
     have HS2:=Lib.hid (HS.out rfl)
     clear HS HF
     go_wp2
     go_region
     all_goals
      go_wp2
      go_roundw
      case rel=>exact ⟨j+1,by omega,by go_num,HS2,hB.drew⟩
      case measure=>simp [RowKit.intOf];omega
    ·have hxy':(x != y)=true:=by simpa using hxy
     obtain rfl:=HF.out hxy
     clear HS HF
     go_wp2
     go_region
     all_goals
      go_wp2
      go_ret
      exact ⟨rfl,hB.drew⟩
   ·obtain rfl:j=n:=by omega
    have e:T=true:=by
     rw [← HT.out]
     refine decide_eq_true ?_
     have:=hE.out
     rwa [List.take_of_length_le (by have:=HN.out;omega),List.take_of_length_le (by have:=HN'.out;omega)] at this
    subst e
    go_wp2
    go_ret
    exact ⟨rfl,hB⟩
 ·rw [decide_eq_false fun h=>hne (by rw [h])]
  exact equal_dlen _ _ _ _ _ _ _ hne
theorem same_c (v v':Value) (S S':List Int) (E E':Int) (w:World) (h1:Recs dcl 1 w v S) (h2:Recs dcl 1 w v' S') :
 Calls Tryz.prog 25 #[.agg #[v,.int .i32 E],.agg #[v',.int .i32 E']] w fun e w'=>e = .returned (.bool (decide (S=S'∧E=E')))∧Below w.heap.size w w':=by
 have hbx:=(Box2.new w v (.int .i32 E) 39).alloc (.cells #[v',.int .i32 E'] 39)
 have hby:=Box2.new (w.alloc (.cells #[v,.int .i32 E] 39)) v' (.int .i32 E') 39
 have hs:(w.alloc (.cells #[v,.int .i32 E] 39)).heap.size=w.heap.size+1:=by simp
 rw [hs] at hby
 have hb:Below w.heap.size w ((w.alloc (.cells #[v,.int .i32 E] 39)).alloc (.cells #[v',.int .i32 E'] 39)):=((Below.refl _ _).alloc (Nat.le_refl _) _).alloc (by simp) _
 have HBX:=Lib.hid hb
 have K1:=Lib.hid (equal_d v v' S S' _ (h1.stay hb) (h2.stay hb))
 have hT:decide (S=S'∧E=E')=(decide (S=S') && decide (E=E')):=by simp
 rw [hT]
 generalize decide (S=S')=T at *
 clear h1 h2 hb hs hT
 go_enter Tryz.func25,Tryz.ntmps25
 go_upto_region 1 with fail
 generalize (w.alloc (.cells #[v,.int .i32 E] 39)).alloc (.cells #[v',.int .i32 E'] 39)=W at *
 have HX:=Lib.hid hbx
 have HY:=Lib.hid hby
 obtain ⟨p0,p1,_,_,_⟩:=hbx
 obtain ⟨q0,q1,_,_,_⟩:=hby
 cases T with
 | true =>
  by_cases hE:E=E'
  ·subst hE
   go_wp2_with (go_at_call 47;refine K1.out.mono ?_;rintro e w1 ⟨rfl,h1⟩;obtain ⟨s0,s1,_,_,_⟩:=HX.out.stay h1;obtain ⟨t0,t1,_,_,_⟩:=HY.out.stay h1;have HB1:=Lib.hid (HBX.out.trans (h1.mono HBX.out.size));clear h1)
   go_ret
   exact ⟨by simp,HB1.out⟩
  ·have f1:(E == E')=false:=by simpa using hE
   have f2:decide (E=E')=false:=decide_eq_false hE
   go_wp2_with (go_at_call 47;refine K1.out.mono ?_;rintro e w1 ⟨rfl,h1⟩;obtain ⟨s0,s1,_,_,_⟩:=HX.out.stay h1;obtain ⟨t0,t1,_,_,_⟩:=HY.out.stay h1;have HB1:=Lib.hid (HBX.out.trans (h1.mono HBX.out.size));clear h1)
   go_ret
   exact ⟨by simp [f2],HB1.out⟩
 | false =>
  go_wp2_with (go_at_call 47;refine K1.out.mono ?_;rintro e w1 ⟨rfl,h1⟩;have HB1:=Lib.hid (HBX.out.trans (h1.mono HBX.out.size));clear h1)
  go_ret
  exact ⟨by simp,HB1.out⟩
theorem grow_d (n base:Nat) (w:World) (h0:0<n) (hn:n≤1000) (hb:base≤w.heap.size) :
 Calls Tryz.prog 102 #[.slice none 0 0,.int .i64 (n:Int)] w fun e w'=>∃ v',e = .returned v'∧w'.ownsRow base 37 1 v' 0 ([]:List Value)∧Below base w w':=by
 obtain ⟨i0,hi,hz0,hz1,hz2⟩:=info_parts infoD
 have hold:(Builtin.firstCells i0.size 0 (.slice none 0 0)).run Tryz.prog w.drew = .ok ([]:List Value).toArray w.drew:=run_firstCells_none ..
 have hrz:=fun ty=>Lib.run_append_grow_zeros (P:=Tryz.prog) w 36 3 ty 37 i0 _ .i64 .i64 Tryz.underlying36 Tryz.underlying3 hi hz0 none 0 0 [] hold n h0 (by omega) (by omega) (by omega) (by rw [hz2];omega)
  (by have h1:=growslice_fits (need:=0+n) (old:=0) (bytes:=i0.bytes) (by omega) (by rw [hz2];omega);exact h1)
 have hG0:grownCap w (0+n) 0 37≤maxLen:=grownCap_le_maxLen w _ _ _ (by unfold maxLen;omega)
 have hG1:0+n≤grownCap w (0+n) 0 37:=grownCap_ge w _ _ _
 obtain ⟨G,hG⟩:∃ G,G=grownCap w (0+n) 0 37:=⟨_,rfl⟩
 rw [← hG] at hrz hG0 hG1
 have hcs:(([]:List Value).toArray ++ Builtin.zeroCells (Value.int .i32 0).cells n ++ Builtin.zeroCells (Value.int .i32 0).cells (G-(0+n))).size=G * 1:=by
  simp [Builtin.zeroCells,Value.cells];omega
 obtain ⟨CS,hCS⟩:∃ CS,([]:List Value).toArray ++ Builtin.zeroCells (Value.int .i32 0).cells n ++ Builtin.zeroCells (Value.int .i32 0).cells (G-(0+n))=CS:=⟨_,rfl⟩
 rw [hCS] at hcs hrz
 have h1:¬ ((n:Int)<0):=by omega
 have h4:(n:Int) > 0:=by omega
 have hmx:G≤9223372036854775807:=by unfold maxLen at hG0;omega
 have HO:=Lib.hid (World.ownsRow_made (base:=base) (e:=37) w.drew CS G hb hG0 hcs)
 have HB:=Lib.hid ((Below.refl base w).drew.alloc hb (.cells CS 37))
 have HR:=Lib.hid hrz
 clear hold hrz hCS hcs hG hi hz0 hz1 hz2 hb
 go_enter Tryz.func102,Tryz.ntmps102
 go_wp2_with (at_builtin;refine Lib.wpList_append_run _ rfl _ _ _ _ rfl _ _ rfl rfl _ _ (HR.out _) ?_)
 all_goals
  go_ret
  exact ⟨_,rfl,HO.out,HB.out⟩
theorem append_days (v y:Value) (xs cs:List Int) (base:Nat) (w:World) (ho:w.ownsRow base 37 1 v xs.length (xs.flatMap dcl)) (hR:Recs dcl 1 w y cs) (hn:xs.length+cs.length≤1000) (hb:base≤w.heap.size) :
 ∃ v' w',(∀ ty,(Builtin.append_ #[36,36] ty #[v,y]).run Tryz.prog w = .ok v' w')∧w'.ownsRow base 37 1 v' (xs ++ cs).length ((xs ++ cs).flatMap dcl)∧Below base w w':=by
 obtain ⟨i0,hi,hz0,hz1,hz2⟩:=info_parts infoD
 have hu:=Tryz.underlying36
 by_cases h0:cs=[]
 ·subst h0
  obtain ⟨r,cap,rfl,_⟩:=hR.form
  obtain ⟨r1,cap1,rfl⟩:=owns_form ho
  have hc:xs.length≤cap1:=by
   rcases ho.2 with ⟨h0,h1⟩ | ⟨g,cp,cur,h0,_,_,h1,_⟩
   ·omega
   ·cases h0;exact h1
  have hs:Src Tryz.prog i0.size 36 (.slice r 0 cap) 0 [] w:=by
   refine ⟨.inl ⟨_,hu⟩,fun w'=>?_,?_,?_,by simp,by simp⟩
   ·simp [Builtin.lenOf]
   ·cases r <;> simp [Builtin.firstCells,loadCells,loadCellsFrom]
   ·cases r <;> simp [Builtin.firstCells,loadCells,loadCellsFrom]
  refine ⟨_,_,fun ty=>run_append_nothing w _ _ ty _ i0 hu hi r1 xs.length cap1 hc _ hs,?_,Below.refl _ _⟩
  simpa using ho
 ·have hpos:0<cs.length:=List.length_pos_iff.2 h0
  obtain ⟨r,cap,rfl,_⟩:=hR.form
  obtain ⟨g,off,rfl,_,_⟩:=hR.at (List.getElem?_eq_getElem hpos)
  have hcells:∀ j u,(cs.flatMap dcl)[j]?=some u→w.cell? ((⟨g,off,none⟩:Addr).add j)=some u:=fun j u hj=>by
   have e1:(⟨g,off,none⟩:Addr).add j=⟨g,off+j,none⟩:=by unfold Addr.add;split <;> simp_all
   rw [e1]
   exact recs_flat dcl_len (by omega) hR j u hj
  have hrun:∃ v' w',(∀ ty,(Builtin.append_ #[36,36] ty #[v,.slice (some ⟨g,off,none⟩) cs.length cap]).run Tryz.prog w = .ok v' w')∧w'.ownsRow base 37 1 v' (xs.length+cs.length) (xs.flatMap dcl ++ cs.flatMap dcl)∧w.grownBy w' v.ownBlock:=by
   obtain ⟨v',w',h1,h2,h3,_⟩:=run_append_own_at (P:=Tryz.prog) w base 36 0 37 i0 _ 1 4 hu hi hz0 hz1 hz2 rfl (by decide) v xs.length (xs.flatMap dcl) ho ⟨g,off,none⟩ cs.length cap (cs.flatMap dcl) (flat_len dcl_len cs) hcells (flat_one dcl_one cs) (by unfold maxLen;omega) (by omega) hb
   exact ⟨v',w',fun ty=>h1,h2,h3⟩
  obtain ⟨v',w',h1,h2,h3⟩:=hrun
  refine ⟨v',w',h1,?_,(Below.refl base w).grown h3 hb (fun j hj=>(ho.lt j hj).1)⟩
  rw [List.length_append,List.flatMap_append]
  exact h2
theorem concat_d (V:Nat) (v1 v2:Value) (S T:List Int) (w:World) (h1:Recs dcl 1 w v1 S) (h2:Recs dcl 1 w v2 T) (hl:S.length≤100) (hl2:T.length≤100) (hp:0<T.length)
 (c0:w.cell? ⟨V,0,none⟩=some v1) (c1:w.cell? ⟨V,1,none⟩=some v2) (hV:V<w.heap.size) :
 Calls Tryz.prog 71 #[.slice (some ⟨V,0,none⟩) 2 2] w fun e w'=>∃ v',e = .returned v'∧w'.ownsRow w.heap.size 37 1 v' (S ++ T).length ((S ++ T).flatMap dcl)∧Below w.heap.size w w':=by
 have H1:=Lib.hid h1
 have H2:=Lib.hid h2
 obtain ⟨r1,cap1,rfl,_⟩:=h1.form
 obtain ⟨r2,cap2,rfl,_⟩:=h2.form
 have KA:=Lib.hid (fun v y xs cs wr=>append_days v y xs cs w.heap.size wr)
 have HL:=Lib.hid (And.intro hl hl2)
 obtain ⟨n1,hn1⟩:∃ n,S.length=n:=⟨_,rfl⟩
 obtain ⟨n2,hn2⟩:∃ n,T.length=n:=⟨_,rfl⟩
 rw [hn1] at hl H1 c0
 rw [hn2] at hl2 hp H2 c1
 have KG:=Lib.hid (grow_d (n1+n2) w.heap.size w (by omega) (by omega) (Nat.le_refl _))
 clear h1 h2 hn1 hn2
 go_enter Tryz.func71,Tryz.ntmps71
 go_wp2
 go_loop [3,11] (fun s i=>∃ k z:Nat,s = .int .i64 z∧i = .int .i64 k∧((k=0∧z=0)∨(k=1∧z=n1)∨(k=2∧z=n1+n2))) (fun _ i=>2-(RowKit.intOf i).toNat)
 case atStart=>exact ⟨0,0,rfl,rfl,.inl ⟨rfl,rfl⟩⟩
 case round =>
  obtain ⟨k,z,rfl,rfl,h⟩:=hrel
  rcases h with ⟨rfl,rfl⟩ | ⟨rfl,rfl⟩ | ⟨rfl,rfl⟩
  ·go_wp2
   go_round
   case rel=>exact ⟨1,n1,by go_num,by go_num,.inr (.inl ⟨rfl,rfl⟩)⟩
   case measure=>simp [RowKit.intOf]
  ·go_wp2
   go_round
   case rel=>exact ⟨2,z+n2,by go_num,by go_num,.inr (.inr ⟨rfl,rfl⟩)⟩
   case measure=>simp [RowKit.intOf]
  ·go_wp2_with (go_at_call 102;refine KG.out.mono ?_;rintro e w1 ⟨v',rfl,ho,hb⟩;have HO1:=Lib.hid ho;have HB1:=Lib.hid hb;clear ho hb)
   go_loopw [6,27] (fun s i wr=>∃ (k:Nat) (X:List Int),i = .int .i64 k∧Hid (wr.ownsRow w.heap.size 37 1 s X.length (X.flatMap dcl))∧Hid (Below w.heap.size w wr)∧((k=0∧X=[])∨(k=1∧X=S)∨(k=2∧X=S ++ T))) (fun _ i _=>2-(RowKit.intOf i).toNat)
   case atStart=>exact ⟨0,[],rfl,HO1,HB1,.inl ⟨rfl,rfl⟩⟩
   case round =>
    clear HO1 HB1
    obtain ⟨k,X,rfl,HO,HB,h⟩:=hrel
    rename World=>wr
    have q0:=(HB.out.cell (p:=⟨V,0,none⟩) hV).trans c0
    have q1:=(HB.out.cell (p:=⟨V,1,none⟩) hV).trans c1
    rcases h with ⟨rfl,rfl⟩ | ⟨rfl,rfl⟩ | ⟨rfl,rfl⟩
    ·obtain ⟨v',w',hr,ho,hb⟩:=KA.out _ _ [] S wr HO.out (H1.out.stay HB.out) (by have:=HL.out;simp;omega) HB.out.size
     have HR:=Lib.hid hr
     have HO':=Lib.hid ho
     have HB':=Lib.hid (HB.out.trans hb)
     clear hr ho hb
     go_wp2_with (at_builtin;refine Lib.wpList_append_run _ rfl _ _ _ _ rfl _ _ rfl rfl _ _ (HR.out _) ?_)
     go_roundw
     case rel=>exact ⟨1,S,by go_num,HO',HB',.inr (.inl ⟨rfl,rfl⟩)⟩
     case measure=>simp [RowKit.intOf]
    ·obtain ⟨v',w',hr,ho,hb⟩:=KA.out _ _ X T wr HO.out (H2.out.stay HB.out) (by have:=HL.out;omega) HB.out.size
     have HR:=Lib.hid hr
     have HO':=Lib.hid ho
     have HB':=Lib.hid (HB.out.trans hb)
     clear hr ho hb
     go_wp2_with (at_builtin;refine Lib.wpList_append_run _ rfl _ _ _ _ rfl _ _ rfl rfl _ _ (HR.out _) ?_)
     go_roundw
     case rel=>exact ⟨2,X ++ T,by go_num,HO',HB',.inr (.inr ⟨rfl,rfl⟩)⟩
     case measure=>simp [RowKit.intOf]
    ·go_wp2
     go_ret
     exact ⟨_,rfl,HO.out,HB.out⟩
theorem concat_at (v:Value) (S:List Int) (E:Int) (w:World) (hR:Recs dcl 1 w v S) (hl:S.length≤100) :
 Calls Tryz.prog 71 #[.slice (some ⟨w.heap.size+1,0,none⟩) 2 2] ((w.alloc (.cells #[.int .i32 E] 37)).alloc (.cells #[v,.slice (some ⟨w.heap.size,0,none⟩) 1 1] 36)) fun e w' =>
  ∃ v',e = .returned v'∧Recs dcl 1 w' v' (S ++ [E])∧Below w.heap.size w w':=by
 have hb:Below w.heap.size w ((w.alloc (.cells #[.int .i32 E] 37)).alloc (.cells #[v,.slice (some ⟨w.heap.size,0,none⟩) 1 1] 36)):=((Below.refl _ _).alloc (Nat.le_refl _) _).alloc (by simp) _
 have hs:((w.alloc (.cells #[.int .i32 E] 37)).alloc (.cells #[v,.slice (some ⟨w.heap.size,0,none⟩) 1 1] 36)).heap.size=w.heap.size+2:=by simp
 have hE:Recs dcl 1 ((w.alloc (.cells #[.int .i32 E] 37)).alloc (.cells #[v,.slice (some ⟨w.heap.size,0,none⟩) 1 1] 36)) (.slice (some ⟨w.heap.size,0,none⟩) 1 1) [E] :=
  recs_of_owns dcl_len ((World.ownsRow_lit (base:=w.heap.size) (e:=37) (size:=1) w #[.int .i32 E] 1 (Nat.le_refl _) (by unfold maxLen;omega) rfl).alloc _) rfl (by omega)
 refine (concat_d (w.heap.size+1) v _ S [E] _ (hR.stay hb) hE hl (by simp) (by simp) ?_ ?_ (by rw [hs];omega)).mono ?_
 ·simp
 ·simp
 ·rintro e w' ⟨v',rfl,ho,h⟩
  refine ⟨v',rfl,recs_of_owns dcl_len ho rfl (by simp;omega),hb.trans (h.mono (by rw [hs];omega))⟩
theorem known_c (n:Int) (w:World) (hI:InI w) (hn:I32 n) :
 Calls Tryz.prog 72 #[.int .i32 n] w fun e w'=>e = .returned (.bool (decide (-719162≤n∧n≤2932896)))∧Below w.heap.size w w':=by
 by_cases h : -719162≤n∧n≤2932896
 ·obtain ⟨y,m,d,hR,rfl⟩:=num_some h.1 h.2
  have K:=Lib.hid (dayC.date_yes y m d w hI hR)
  rw [decide_eq_true h]
  have hy:(y != 0)=true:=by have:=hR.1;simp;omega
  clear h hR hI hn
  generalize numD y m d=N at *
  go_enter Tryz.func72,Tryz.ntmps72
  go_wp2_with (go_at_call 103;refine K.out.mono ?_;rintro e w1 ⟨rfl,h1⟩)
  go_ret
  exact ⟨rfl,h1⟩
 ·have K:=Lib.hid (dayC.date_no n w hI (i32_wf (by unfold I32 at hn;omega)) h)
  rw [decide_eq_false h]
  clear h hI hn
  go_enter Tryz.func72,Tryz.ntmps72
  go_wp2_with (go_at_call 103;refine K.out.mono ?_;rintro e w1 ⟨rfl,h1⟩)
  go_ret
  exact ⟨rfl,h1⟩
theorem len_c (r:Option Addr) (n cap:Nat) (E:Int) (w:World) :
 Calls Tryz.prog 70 #[.agg #[.slice r n cap,.int .i32 E]] w fun e w'=>e = .returned (.int .i64 (n:Nat))∧Below w.heap.size w w':=by
 have hbx:=Box2.new w (.slice r n cap) (.int .i32 E) 39
 have HB:=Lib.hid ((Below.refl w.heap.size w).alloc (Nat.le_refl _) (.cells #[.slice r n cap,.int .i32 E] 39))
 go_enter Tryz.func70,Tryz.ntmps70
 go_wp2_with fail
 go_ret
 exact ⟨rfl,HB.out⟩
def leadD (l:List Int):Nat→Option Int
 | 0=>none
 | k+1=>l[k]?
theorem chkD1_drop {l:List Int} {k:Nat} {x:Int} (hx:l[k]?=some x) :
 chkD1 (leadD l k) (l.drop k)=if x < -719162∨2932896<x then 13 else if (∃ b,leadD l k=some b∧x≤b) then 6 else chkD1 (leadD l (k+1)) (l.drop (k+1)):=by
 obtain ⟨hk,e⟩:=List.getElem?_eq_some_iff.1 hx
 have h1:l.drop k=x :: l.drop (k+1):=by rw [List.drop_eq_getElem_cons hk,e]
 have h2:leadD l (k+1)=some x:=hx
 rw [h1,h2];rfl
theorem chkD1_bad {l:List Int} {k:Nat} {x:Int} (hx:l[k]?=some x) (h:¬ (-719162≤x∧x≤2932896)):chkD1 (leadD l k) (l.drop k)=13:=by rw [chkD1_drop hx,if_pos (by omega)]
theorem chkD1_low {l:List Int} {k:Nat} {x y:Int} (hx:l[k+1]?=some x) (hy:l[k]?=some y) (h : -719162≤x∧x≤2932896) (hxy:x≤y):chkD1 (leadD l (k+1)) (l.drop (k+1))=6:=by
 rw [chkD1_drop hx,if_neg (by omega),if_pos ⟨y,hy,hxy⟩]
theorem chkD1_next {l:List Int} {k:Nat} {x y:Int} (hx:l[k+1]?=some x) (hy:l[k]?=some y) (h : -719162≤x∧x≤2932896) (hxy:y<x):chkD1 (leadD l (k+1)) (l.drop (k+1))=chkD1 (leadD l (k+1+1)) (l.drop (k+1+1)):=by
 rw [chkD1_drop hx,if_neg (by omega),if_neg]
 rintro ⟨b,e,hb⟩
 have e':l[k]?=some b:=e
 rw [hy] at e'
 cases e'
 omega
theorem chkD1_first {l:List Int} {x:Int} (hx:l[0]?=some x) (h : -719162≤x∧x≤2932896):chkD1 (leadD l 0) (l.drop 0)=chkD1 (leadD l (0+1)) (l.drop (0+1)):=by
 rw [chkD1_drop hx,if_neg (by omega),if_neg]
 rintro ⟨b,e,hb⟩
 cases e
theorem chkD_of {S:List Int} {E:Int} (h0:1≤S.length) (h6:S.length≤60):chkD S E=chkD1 (leadD (S ++ [E]) 0) ((S ++ [E]).drop 0):=by
 unfold chkD;rw [if_neg (by omega)];rfl
theorem chkD_out {S:List Int} {E:Int} (h:S.length<1∨60<S.length):chkD S E=2:=by unfold chkD;rw [if_pos h]
theorem check_c (v:Value) (S:List Int) (E:Int) (w:World) (hI:InI w) (hR:Recs dcl 1 w v S) (hl:S.length≤100) (hS:∀ x ∈ S,I32 x) (hE:I32 E) :
 Calls Tryz.prog 41 #[.agg #[v,.int .i32 E]] w fun e w'=>e = .returned (.int .i64 (chkD S E))∧Below w.heap.size w w':=by
 obtain ⟨r,cap,rfl,hm⟩:=hR.form
 obtain ⟨L,hL⟩:∃ L,S.length=L:=⟨_,rfl⟩
 have KL:=Lib.hid (fun w=>len_c r L cap E w)
 have hbx:=Box2.new w (.slice r L cap) (.int .i32 E) 39
 have HBX:=Lib.hid ((Below.refl w.heap.size w).alloc (Nat.le_refl _) (.cells #[.slice r L cap,.int .i32 E] 39))
 by_cases hin:1≤L∧L≤60
 ·have KC:=Lib.hid (fun (w':World) (h:Below w.heap.size w w')=>concat_at (.slice r S.length cap) S E w' (hR.stay h) hl)
  obtain ⟨A,hA⟩:∃ A,S ++ [E]=A:=⟨_,rfl⟩
  obtain ⟨C,hC⟩:∃ C,chkD S E=C:=⟨_,rfl⟩
  have HC:Hid (C=chkD1 (leadD A 0) (A.drop 0)):=Lib.hid (by rw [← hC,← hA,chkD_of (by omega) (by omega)])
  have HAl:Hid (A.length=L+1):=Lib.hid (by rw [← hA];simp;omega)
  have HA32:Hid (∀ x ∈ A,I32 x):=Lib.hid (fun x hx=>by
   rw [← hA] at hx
   rcases List.mem_append.1 hx with h | h
   ·exact hS x h
   ·simp at h;subst h;exact hE)
  have KN:=Lib.hid (fun (n:Int) (w':World) (h:Below w.heap.size w w') (hn:I32 n)=>known_c n w' (hI.stay h) hn)
  rw [hL,hA] at KC
  rw [hL,hC]
  have e1:¬ ((L:Int)<1):=by omega
  have e2:¬ ((60:Int)<(L:Int)):=by omega
  clear hR hm hS hE hL hA hC hI
  go_enter Tryz.func41,Tryz.ntmps41
  go_upto_region 1 with fail
  generalize w.alloc (.cells #[.slice r L cap,.int .i32 E] 39)=W at *
  have HW:=Lib.hid hbx
  obtain ⟨p0,p1,_,_,_⟩:=hbx
  go_wp2_with (first
   | (go_at_call 71;refine (KC.out w2 HB2.out).mono ?_;rintro e w3 ⟨v3,rfl,hA3,h3⟩;have HA3:=Lib.hid hA3;have HB3:=Lib.hid (HB2.out.trans (h3.mono HB2.out.size));obtain ⟨r3,cap3,rfl,hm3⟩:=hA3.form;clear hA3 h3)
   | (go_at_call 70;refine (KL.out w1).mono ?_;rintro e w2 ⟨rfl,h2⟩;obtain ⟨t0,t1,_,_,_⟩:=HW1.out.stay h2;have HB2:=Lib.hid (HB1.out.trans (h2.mono HB1.out.size));clear h2)
   | (go_at_call 70;refine (KL.out W).mono ?_;rintro e w1 ⟨rfl,h1⟩;have HW1:=Lib.hid (HW.out.stay h1);obtain ⟨s0,s1,_,_,_⟩:=HW1.out;have HB1:=Lib.hid (HBX.out.trans (h1.mono HBX.out.size));clear h1))
  rw [HAl.out] at hm3 ⊢
  go_loopw [23] (fun i wr=>∃ k:Nat,k≤L+1∧i = .int .i64 k∧Hid (C=chkD1 (leadD A k) (A.drop k))∧Hid (Below w.heap.size w wr)∧Hid (Recs dcl 1 wr (.slice r3 (L+1) cap3) A)) (fun i _=>L+1-(RowKit.intOf i).toNat)
  case atStart=>exact ⟨0,Nat.zero_le _,rfl,HC,HB3,Lib.hid (HAl.out ▸ HA3.out)⟩
  case round =>
   clear HA3 HB3 HC
   obtain ⟨k,hk,rfl,HC,HB,HR⟩:=hrel
   rename World=>wr
   by_cases hlt:k<L+1
   ·obtain ⟨x,hx⟩:∃ x,A[k]?=some x:=⟨A[k]'(by have:=HAl.out;omega),List.getElem?_eq_getElem (by have:=HAl.out;omega)⟩
    obtain ⟨g,off,rfl,hg,hc⟩:=HR.out.at hx
    have c0:=hc 0 _ rfl
    simp only [Nat.mul_one,Nat.add_zero] at c0
    have K1:=KN.out x wr HB.out (HA32.out x (List.mem_of_getElem? hx))
    by_cases hok : -719162≤x∧x≤2932896
    ·rw [decide_eq_true hok] at K1
     have HK:=Lib.hid K1
     clear K1
     cases k with
     | zero =>
      simp only [Nat.add_zero] at c0
      have HC1:Hid (C=chkD1 (leadD A (0+1)) (A.drop (0+1))):=Lib.hid (HC.out.trans (chkD1_first hx hok))
      clear hc hx hok HC
      go_wp2_with (go_at_call 72;refine HK.out.mono ?_;rintro e w5 ⟨rfl,h5⟩;have HB5:=Lib.hid (HB.out.trans (h5.mono HB.out.size));have HR5:=Lib.hid (HR.out.stay h5);clear h5)
      go_roundw
      case rel=>exact ⟨_,_,_,_,_,_,_,_,_,_,_,_,_,_,_,_,_,_,_,_,_,_,_,_,_,⟨1,by omega,by go_num,HC1,HB5,HR5⟩,rfl⟩
      case measure=>simp [RowKit.intOf]
     | succ j =>
      obtain ⟨y,hy⟩:∃ y,A[j]?=some y:=⟨A[j]'(by have:=HAl.out;omega),List.getElem?_eq_getElem (by have:=HAl.out;omega)⟩
      obtain ⟨g',off',er,_,hc'⟩:=HR.out.at hy
      cases er
      have b0:=hc' 0 _ rfl
      simp only [Nat.mul_one,Nat.add_zero] at b0
      by_cases hxy:x≤y
      ·have HC6:=HC.out.trans (chkD1_low hx hy hok hxy)
       subst HC6
       clear hc hc' hx hy hok HC
       go_wp2_with (go_at_call 72;refine HK.out.mono ?_;rintro e w5 ⟨rfl,h5⟩;have HB5:=Lib.hid (HB.out.trans (h5.mono HB.out.size));have b5:=(h5.cell (p:=⟨g,off+j,none⟩) hg).trans b0;clear h5)
       go_ret
       exact ⟨rfl,HB5.out⟩
      ·have HC1:=Lib.hid (HC.out.trans (chkD1_next hx hy hok (by omega)))
       clear hc hc' hx hy hok HC
       go_wp2_with (go_at_call 72;refine HK.out.mono ?_;rintro e w5 ⟨rfl,h5⟩;have HB5:=Lib.hid (HB.out.trans (h5.mono HB.out.size));have HR5:=Lib.hid (HR.out.stay h5);have b5:=(h5.cell (p:=⟨g,off+j,none⟩) hg).trans b0;clear h5)
       go_roundw
       case rel=>exact ⟨_,_,_,_,_,_,_,_,_,_,_,_,_,_,_,_,_,_,_,_,_,_,_,_,_,⟨j+1+1,by omega,by go_num,HC1,HB5,HR5⟩,rfl⟩
       case measure=>simp [RowKit.intOf];omega
    ·have HC13:=HC.out.trans (chkD1_bad hx hok)
     subst HC13
     rw [decide_eq_false hok] at K1
     have HK:=Lib.hid K1
     clear K1 hc hx hok HC
     go_wp2_with (go_at_call 72;refine HK.out.mono ?_;rintro e w5 ⟨rfl,h5⟩;have HB5:=Lib.hid (HB.out.trans (h5.mono HB.out.size));clear h5)
     go_ret
     exact ⟨rfl,HB5.out⟩
   ·obtain rfl:k=L+1:=by omega
    have HC0:C=0:=by rw [HC.out,List.drop_of_length_le (by have:=HAl.out;omega)];rfl
    subst HC0
    clear HC
    go_wp2
    go_ret
    exact ⟨rfl,HB.out⟩
 ·rw [chkD_out (by omega),hL]
  clear hR hm hS hE hI
  by_cases h1:L<1
  ·have e1:((L:Int)<1):=by omega
   go_enter Tryz.func41,Tryz.ntmps41
   go_upto_region 1 with fail
   generalize w.alloc (.cells #[.slice r L cap,.int .i32 E] 39)=W at *
   have HW:=Lib.hid hbx
   obtain ⟨p0,p1,_,_,_⟩:=hbx
   go_wp2_with (go_at_call 70;refine (KL.out W).mono ?_;rintro e w1 ⟨rfl,h1⟩;have HB1:=Lib.hid (HBX.out.trans (h1.mono HBX.out.size));clear h1)
   go_ret
   exact ⟨rfl,HB1.out⟩
  ·have e1:¬ ((L:Int)<1):=by omega
   have e2:((60:Int)<(L:Int)):=by omega
   go_enter Tryz.func41,Tryz.ntmps41
   go_upto_region 1 with fail
   generalize w.alloc (.cells #[.slice r L cap,.int .i32 E] 39)=W at *
   have HW:=Lib.hid hbx
   obtain ⟨p0,p1,_,_,_⟩:=hbx
   go_wp2_with (first
    | (go_at_call 70;refine (KL.out w1).mono ?_;rintro e w2 ⟨rfl,h2⟩;have HB2:=Lib.hid (HB1.out.trans (h2.mono HB1.out.size));clear h2)
    | (go_at_call 70;refine (KL.out W).mono ?_;rintro e w1 ⟨rfl,h1⟩;have HW1:=Lib.hid (HW.out.stay h1);obtain ⟨s0,s1,_,_,_⟩:=HW1.out;have HB1:=Lib.hid (HBX.out.trans (h1.mono HBX.out.size));clear h1))
   go_ret
   exact ⟨rfl,HB2.out⟩
theorem period_c (v:Value) (S:List Int) (E d:Int) (w:World) (hR:Recs dcl 1 w v S) (hr:RiseD S) (hl:S.length≤60) (hx:∀ x ∈ S,x<E) :
 Calls Tryz.prog 60 #[.agg #[v,.int .i32 E],.int .i32 d] w fun e w'=>e = .returned (.tuple #[.int .i64 (max (perI S E d) 0),.bool (decide (0≤perI S E d))])∧Below w.heap.size w w':=by
 obtain ⟨r,cap,rfl,hm⟩:=hR.form
 obtain ⟨L,hL⟩:∃ L,S.length=L:=⟨_,rfl⟩
 rw [hL] at hR hl ⊢
 have hbx:=Box2.new w (.slice r L cap) (.int .i32 E) 39
 have hb:=(Below.refl w.heap.size w).alloc (Nat.le_refl _) (.cells #[.slice r L cap,.int .i32 E] 39)
 have K1:=bsearch_d _ S d _ (hR.stay hb) hr (by omega)
 have HBX:=Lib.hid hb
 have hc:=cnt_below d hr
 have hp:perI S E d=if d<E∧0<cntD S d then (cntD S d:Int)-1 else -1:=rfl
 have hBl:belowD S d≤S.length:=belowD_le S d
 have hdx:=hx d
 clear hR hb hr hx
 rw [hL] at hBl
 clear hL hm
 by_cases hd:d ∈ S
 ·rw [decide_eq_true hd] at K1
  rw [if_pos hd] at hc
  have hdE:=hdx hd
  rw [if_pos ⟨hdE,by omega⟩] at hp
  generalize belowD S d=B at *
  generalize perI S E d=p at *
  have e1:max p 0=(B:Int):=by omega
  have e2:decide (0≤p)=true:=decide_eq_true (by omega)
  rw [e1,e2]
  have K1:=Lib.hid K1
  have f1:¬ ((B:Int)<0):=by omega
  have f2:¬ (E≤d):=by omega
  clear hd hdx hp hc e1 e2
  go_enter Tryz.func60,Tryz.ntmps60
  go_upto_region 1 with fail
  generalize w.alloc (.cells #[.slice r L cap,.int .i32 E] 39)=W at *
  have HW:=Lib.hid hbx
  obtain ⟨p0,p1,_,_,_⟩:=hbx
  go_wp2_with (go_at_call 94;refine K1.out.mono ?_;rintro e w1 ⟨rfl,h1⟩;have HW1:=Lib.hid (HW.out.stay h1);obtain ⟨s0,s1,_,_,_⟩:=HW1.out;have HB1:=Lib.hid (HBX.out.trans (h1.mono HBX.out.size));clear h1)
  go_ret2
  exact ⟨rfl,HB1.out⟩
 ·rw [decide_eq_false hd] at K1
  rw [if_neg hd] at hc
  generalize belowD S d=B at *
  generalize perI S E d=p at *
  by_cases hB:B=0
  ·subst hB
   rw [if_neg (by omega)] at hp
   have e1:max p 0=0:=by omega
   have e2:decide (0≤p)=false:=decide_eq_false (by omega)
   rw [e1,e2]
   have K1:=Lib.hid K1
   clear hd hdx hp hc e1 e2
   go_enter Tryz.func60,Tryz.ntmps60
   go_upto_region 1 with fail
   generalize w.alloc (.cells #[.slice r L cap,.int .i32 E] 39)=W at *
   have HW:=Lib.hid hbx
   obtain ⟨p0,p1,_,_,_⟩:=hbx
   go_wp2_with (go_at_call 94;refine K1.out.mono ?_;rintro e w1 ⟨rfl,h1⟩;have HW1:=Lib.hid (HW.out.stay h1);obtain ⟨s0,s1,_,_,_⟩:=HW1.out;have HB1:=Lib.hid (HBX.out.trans (h1.mono HBX.out.size));clear h1)
   go_ret2
   exact ⟨rfl,HB1.out⟩
  ·by_cases hdE:d<E
   ·rw [if_pos ⟨hdE,by omega⟩] at hp
    obtain ⟨b,rfl⟩:∃ b,B=b+1:=⟨B-1,by omega⟩
    have e1:max p 0=(b:Int):=by omega
    have e2:decide (0≤p)=true:=decide_eq_true (by omega)
    rw [e1,e2]
    have K1:=Lib.hid K1
    have f1:¬ ((b:Int)<0):=by omega
    have f2:¬ (E≤d):=by omega
    clear hd hdx hp hc e1 e2 hB
    go_enter Tryz.func60,Tryz.ntmps60
    go_upto_region 1 with fail
    generalize w.alloc (.cells #[.slice r L cap,.int .i32 E] 39)=W at *
    have HW:=Lib.hid hbx
    obtain ⟨p0,p1,_,_,_⟩:=hbx
    go_wp2_with (go_at_call 94;refine K1.out.mono ?_;rintro e w1 ⟨rfl,h1⟩;have HW1:=Lib.hid (HW.out.stay h1);obtain ⟨s0,s1,_,_,_⟩:=HW1.out;have HB1:=Lib.hid (HBX.out.trans (h1.mono HBX.out.size));clear h1)
    go_ret2
    exact ⟨rfl,HB1.out⟩
   ·rw [if_neg (by omega)] at hp
    obtain ⟨b,rfl⟩:∃ b,B=b+1:=⟨B-1,by omega⟩
    have e1:max p 0=0:=by omega
    have e2:decide (0≤p)=false:=decide_eq_false (by omega)
    rw [e1,e2]
    have K1:=Lib.hid K1
    have f1:¬ ((b:Int)<0):=by omega
    have f2:E≤d:=by omega
    clear hd hdx hp hc e1 e2 hB hdE
    go_enter Tryz.func60,Tryz.ntmps60
    go_upto_region 1 with fail
    generalize w.alloc (.cells #[.slice r L cap,.int .i32 E] 39)=W at *
    have HW:=Lib.hid hbx
    obtain ⟨p0,p1,_,_,_⟩:=hbx
    go_wp2_with (go_at_call 94;refine K1.out.mono ?_;rintro e w1 ⟨rfl,h1⟩;have HW1:=Lib.hid (HW.out.stay h1);obtain ⟨s0,s1,_,_,_⟩:=HW1.out;have HB1:=Lib.hid (HBX.out.trans (h1.mono HBX.out.size));clear h1)
    go_ret2
    exact ⟨rfl,HB1.out⟩
theorem calC:CalC InI where
 check v S E w hI hR hl hS hE:=check_c v S E w hI hR hl hS hE
 len v S E w hR hl:=by
  obtain ⟨r,cap,rfl,_⟩:=hR.form
  exact len_c r S.length cap E w
 period v S E d w hI hR hr h1 h6 hx hE hd:=period_c v S E d w hR hr h6 (fun x h=>(hx x h).2)
 same v v' S S' E E' w h1 h2 _ _:=same_c v v' S S' E E' w h1 h2

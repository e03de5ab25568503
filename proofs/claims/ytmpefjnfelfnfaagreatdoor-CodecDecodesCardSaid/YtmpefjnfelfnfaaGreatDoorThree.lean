/- A slice of numbers of 64 bits with a sign, in memory: what it holds, behind a call that makes memory, parts of it, what owns a row of them. -/
import Derived.Test.YtmpefjnfelfnfaaGreatDoorChecked
import Derived.Test.YtmpefjnfelfnfaaGreatDoorOne
import Derived.WalkKit
import Derived.Below
import Derived.OwnWalk
import Derived.Laws.AppendOwn
import Derived.Lib.SliceRun
import Derived.Lib.ItoaMem
import Derived.LoopTactic
import Derived.Maps.AppendAt
import Derived.RegionTactic
import Derived.Deep.RegionWith
import Derived.Deep.OwnRows
import Derived.Test.YtmpefjnfelfnfaaGreatDoorTwo
set_option maxHeartbeats 2000000
namespace Go.Proofs.YtmpefjnfelfnfaaGreatDoor
open Go.RowKit
set_option linter.unusedVariables false
set_option linter.unusedSimpArgs false
def Amts (w:World) (v:Value) (zs:List Int):Prop :=
 (∃ r cap,v = .slice r 0 cap∧zs=[]) ∨ ∃ b off cap,v = .slice (some ⟨b,off,none⟩) zs.length cap∧b<w.heap.size∧zs.length≤9223372036854775807∧zs.length≤cap ∧
  ∀ i,i<zs.length→w.cell? ⟨b,off+i,none⟩=some (.int .i64 (zs.getD i 0))∧(Lit.int .i64 (zs.getD i 0)).wf=true
theorem Amts.stay {w w':World} {v:Value} {zs:List Int} (h:Amts w v zs) (hb:Below w.heap.size w w'):Amts w' v zs:=by
 rcases h with h | ⟨b,off,cap,h1,h2,h3,h5,h4⟩
 ·exact .inl h
 ·exact .inr ⟨b,off,cap,h1,Nat.lt_of_lt_of_le h2 hb.size,h3,h5,fun i hi=>⟨by rw [hb.cell (p:=⟨b,off+i,none⟩) h2];exact (h4 i hi).1,(h4 i hi).2⟩⟩
def ints (zs:List Int):List Value:=zs.map (Value.int .i64)
theorem amts_owns {w:World} {base:Nat} {v:Value} {zs:List Int} (h:w.ownsRow base 2 1 v zs.length (ints zs)) (hl:zs.length≤9223372036854775807) (hw:∀ z ∈ zs,(Lit.int .i64 z).wf=true):Amts w v zs:=by
 rcases h.2 with ⟨rfl,h0⟩ | ⟨g,cap,cur,rfl,hb,hg,hcap,_⟩
 ·exact .inl ⟨none,0,rfl,List.length_eq_zero_iff.1 h0⟩
 ·refine .inr ⟨g,0,cap,rfl,(h.lt g rfl).2,hl,hcap,fun i hi=>⟨?_,?_⟩⟩
  ·have hu:(ints zs)[i]?=some (.int .i64 (zs.getD i 0)):=by
    unfold ints
    simp [List.getD,hi]
   have:=h.cells (g:=g) rfl i _ hu
   rwa [Lib.add_plain] at this
  ·refine hw _ ?_
   simp [List.getD,hi]
def Nums (k:IntKind) (w:World) (v:Value) (zs:List Int):Prop :=
 (∃ r cap,v = .slice r 0 cap∧zs=[]) ∨ ∃ b off cap,v = .slice (some ⟨b,off,none⟩) zs.length cap∧b<w.heap.size∧zs.length≤9223372036854775807∧zs.length≤cap ∧
  ∀ i,i<zs.length→w.cell? ⟨b,off+i,none⟩=some (.int k (zs.getD i 0))∧(Lit.int k (zs.getD i 0)).wf=true
theorem Nums.stay {k:IntKind} {w w':World} {v:Value} {zs:List Int} (h:Nums k w v zs) (hb:Below w.heap.size w w'):Nums k w' v zs:=by
 rcases h with h | ⟨b,off,cap,h1,h2,h3,h5,h4⟩
 ·exact .inl h
 ·exact .inr ⟨b,off,cap,h1,Nat.lt_of_lt_of_le h2 hb.size,h3,h5,fun i hi=>⟨by rw [hb.cell (p:=⟨b,off+i,none⟩) h2];exact (h4 i hi).1,(h4 i hi).2⟩⟩
theorem owns_stay {w w':World} {base:Nat} {e:TypeId} {size:Nat} {v:Value} {n:Nat} {xs:List Value} (h:w.ownsRow base e size v n xs) (hb:Below w.heap.size w w'):w'.ownsRow base e size v n xs:=by
 refine ⟨h.1,?_⟩
 rcases h.2 with hn | ⟨g,cap,cur,rfl,hg,hgg,rest⟩
 ·exact .inl hn
 ·refine .inr ⟨g,cap,cur,rfl,hg,?_,rest⟩
  rw [hb.block g (Array.getElem?_eq_some_iff.1 hgg).1]
  exact hgg
theorem Amts.form {w:World} {v:Value} {zs:List Int} (h:Amts w v zs):∃ r cap,v = .slice r zs.length cap∧zs.length≤9223372036854775807 ∧
 (0<zs.length → ∃ b off,r=some ⟨b,off,none⟩∧b<w.heap.size∧zs.length≤cap ∧ ∀ i,i<zs.length→w.cell? ⟨b,off+i,none⟩=some (.int .i64 (zs.getD i 0))∧(Lit.int .i64 (zs.getD i 0)).wf=true):=by
 rcases h with ⟨r,cap,rfl,rfl⟩ | ⟨b,off,cap,rfl,hb,hl,hc,hz⟩
 ·exact ⟨r,cap,rfl,by simp,fun h=>by simp at h⟩
 ·exact ⟨_,cap,rfl,hl,fun _=>⟨b,off,rfl,hb,hc,hz⟩⟩
theorem equal_len (r1 r2:Option Addr) (n1 n2 c1 c2:Nat) (w:World) (h:n1≠n2) :
 Calls Tryz.prog 194 #[.slice r1 n1 c1,.slice r2 n2 c2] w fun e w'=>e = .returned (.bool false)∧Below w.heap.size w w':=by
 have h1:((n1:Int) != (n2:Int))=true:=by simp;omega
 go_enter Tryz.func194,Tryz.ntmps194
 go_wp2
 go_ret
 exact ⟨rfl,Below.refl _ _⟩
theorem equal_zero (r1 r2:Option Addr) (c1 c2:Nat) (w:World) :
 Calls Tryz.prog 194 #[.slice r1 0 c1,.slice r2 0 c2] w fun e w'=>e = .returned (.bool true)∧Below w.heap.size w w':=by
 go_enter Tryz.func194,Tryz.ntmps194
 go_wp2
 go_loopw [13] (fun i wr=>i = .int .i64 0∧Below w.heap.size w wr) (fun i _=>0)
 case atStart=>exact ⟨rfl,Below.refl _ _⟩
 case round =>
  obtain ⟨rfl,hB⟩:=hrel
  go_wp2
  go_ret
  exact ⟨rfl,hB⟩
theorem take_eq_step {xs ys:List Int} {j:Nat} (h:xs.take j=ys.take j) (hx:j<xs.length) (hy:j<ys.length) (e:xs.getD j 0=ys.getD j 0):xs.take (j+1)=ys.take (j+1):=by
 rw [List.take_succ_eq_append_getElem hx,List.take_succ_eq_append_getElem hy,h]
 simp [List.getD,hx,hy] at e
 rw [e]
theorem equal_some (b1 o1 c1 b2 o2 c2:Nat) (xs ys:List Int) (w:World) (hl:xs.length=ys.length) (hm:xs.length≤9223372036854775807) (hb1:b1<w.heap.size) (hb2:b2<w.heap.size)
 (hx:∀ i,i<xs.length→w.cell? ⟨b1,o1+i,none⟩=some (.int .i64 (xs.getD i 0))) (hy:∀ i,i<ys.length→w.cell? ⟨b2,o2+i,none⟩=some (.int .i64 (ys.getD i 0))) :
 Calls Tryz.prog 194 #[.slice (some ⟨b1,o1,none⟩) xs.length c1,.slice (some ⟨b2,o2,none⟩) xs.length c2] w fun e w'=>e = .returned (.bool (decide (xs=ys)))∧Below w.heap.size w w':=by
 have Hx:=Lib.hid hx
 have Hy:=Lib.hid hy
 have Hl:=Lib.hid hl
 clear hx hy hl
 go_enter Tryz.func194,Tryz.ntmps194
 go_wp2
 go_loopw [13] (fun i wr=>∃ j:Nat,j≤xs.length∧i = .int .i64 j∧Hid (xs.take j=ys.take j)∧Below w.heap.size w wr) (fun i _=>xs.length-(RowKit.intOf i).toNat)
 case atStart=>exact ⟨0,Nat.zero_le _,rfl,rfl,Below.refl _ _⟩
 case round =>
  obtain ⟨j,hj,rfl,hE,hB⟩:=hrel
  rename World=>wr
  by_cases hlt:j<xs.length
  ·have h1:wr.cell? ⟨b1,o1+j,none⟩=some (.int .i64 (xs.getD j 0)):=by rw [hB.cell (p:=⟨b1,o1+j,none⟩) hb1];exact Hx.out j hlt
   have h2:wr.cell? ⟨b2,o2+j,none⟩=some (.int .i64 (ys.getD j 0)):=by rw [hB.cell (p:=⟨b2,o2+j,none⟩) hb2];exact Hy.out j (by have:=Hl.out;omega)
   have hst:=fun e=>take_eq_step hE.out hlt (by have:=Hl.out;omega) e
   have hno:xs.getD j 0≠ys.getD j 0→decide (xs=ys)=false:=fun h=>decide_eq_false (fun e=>h (by rw [e]))
   generalize xs.getD j 0=x at *
   generalize ys.getD j 0=y at *
   have Hst:=Lib.hid hst
   have Hno:=Lib.hid hno
   clear hst hno
   by_cases hxy:x=y
   ·subst hxy
    have Hs:=Lib.hid (Hst.out rfl)
    clear Hst
    go_wp2
    go_region
    all_goals
     go_wp2
     go_roundw
     case rel=>exact ⟨j+1,by omega,by go_num,Hs,hB.drew⟩
     case measure=>simp [RowKit.intOf];omega
   ·have hxy':(x != y)=true:=by simpa using hxy
    have hd:=Hno.out hxy
    go_wp2
    go_region
    all_goals
     go_wp2
     go_ret
     exact ⟨by rw [hd];rfl,hB.drew⟩
  ·obtain rfl:j=xs.length:=by omega
   have he:xs=ys:=by
    have:=hE.out
    rw [List.take_length,Hl.out,List.take_length] at this
    exact this
   have hd:decide (xs=ys)=true:=decide_eq_true he
   go_wp2
   go_ret
   exact ⟨by rw [hd];rfl,hB⟩
theorem equal_any (v1 v2:Value) (xs ys:List Int) (w:World) (h1:Amts w v1 xs) (h2:Amts w v2 ys) :
 Calls Tryz.prog 194 #[v1,v2] w fun e w'=>e = .returned (.bool (decide (xs=ys)))∧Below w.heap.size w w':=by
 obtain ⟨r1,c1,rfl,m1,f1⟩:=h1.form
 obtain ⟨r2,c2,rfl,m2,f2⟩:=h2.form
 by_cases hl:xs.length=ys.length
 ·by_cases h0:xs.length=0
  ·have e1:=List.length_eq_zero_iff.1 h0
   have e2:=List.length_eq_zero_iff.1 (hl ▸ h0:ys.length=0)
   subst e1 e2
   exact equal_zero r1 r2 c1 c2 w
  ·obtain ⟨b1,o1,rfl,hb1,_,hx⟩:=f1 (by omega)
   obtain ⟨b2,o2,rfl,hb2,_,hy⟩:=f2 (by omega)
   have:=equal_some b1 o1 c1 b2 o2 c2 xs ys w hl m1 hb1 hb2 (fun i hi=>(hx i hi).1) (fun i hi=>(hy i hi).1)
   rwa [← hl]
 ·have hd:decide (xs=ys)=false:=decide_eq_false (fun e=>hl (by rw [e]))
  rw [hd]
  exact equal_len r1 r2 _ _ c1 c2 w hl
def sumTo (f:Nat→Nat):Nat→Nat
 | 0=>0
 | j+1=>sumTo f j+f j
def bst (G:Nat→Int) (r:Nat→Nat):Nat→Int
 | 0=>-1
 | i+1=>if G i=0∧(bst G r i<0∨r (bst G r i).toNat<r i) then (i:Int) else bst G r i
theorem bst_range (G:Nat→Int) (r:Nat→Nat):∀ i, -1≤bst G r i∧bst G r i<i
 | 0=>by simp [bst]
 | i+1=>by
  have h:=bst_range G r i
  unfold bst
  split <;> omega
def give (n:Nat) (r:Nat→Nat):Nat→(Nat→Int)→(Nat→Int)→Option (Nat→Int)
 | 0,_,O=>some O
 | m+1,G,O=>if bst G r n<0 then none else give n r m (fun j=>if j=(bst G r n).toNat then 1 else G j) (fun j=>if j=(bst G r n).toNat then IntKind.u64.wrap (O j+1) else O j)
theorem sumTo_le {f g:Nat→Nat} (n:Nat) (h:∀ i,i<n→f i≤g i):sumTo f n≤sumTo g n:=by
 induction n with
 | zero=>exact Nat.le_refl _
 | succ n ih =>
  have:=ih (fun i hi=>h i (by omega))
  have:=h n (by omega)
  unfold sumTo;omega
theorem sumTo_mul (f:Nat→Nat) (c:Nat) (n:Nat):sumTo (fun i=>c * f i) n=c * sumTo f n:=by
 induction n with
 | zero=>rfl
 | succ n ih=>unfold sumTo;rw [ih,Nat.mul_add]
theorem sumTo_mono (f:Nat→Nat) {i j:Nat} (h:i≤j):sumTo f i≤sumTo f j:=by
 induction j with
 | zero =>
  have:i=0:=by omega
  subst this;exact Nat.le_refl _
 | succ j ih =>
  by_cases e:i=j+1
  ·subst e;exact Nat.le_refl _
  ·have:=ih (by omega)
   show sumTo f i≤sumTo f j+f j
   omega
theorem sumTo_bound (f:Nat→Nat) (c n:Nat) (h:∀ i,i<n→f i≤c):sumTo f n≤n * c:=by
 induction n with
 | zero=>simp [sumTo]
 | succ n ih =>
  have:=ih (fun i hi=>h i (by omega))
  have:=h n (by omega)
  unfold sumTo;rw [Nat.succ_mul];omega
theorem quos_le (S T n:Nat) (W:Nat→Nat) (hT:T=sumTo W n) (h0:0<T):sumTo (fun i=>S * W i / T) n≤S:=by
 have h1:T * sumTo (fun i=>S * W i / T) n≤T * S:=by
  rw [← sumTo_mul]
  have h2:sumTo (fun i=>T * (S * W i / T)) n≤sumTo (fun i=>S * W i) n:=sumTo_le n (fun i _=>Nat.mul_div_le _ _)
  rw [sumTo_mul W S,← hT,Nat.mul_comm S T] at h2
  exact h2
 exact Nat.le_of_mul_le_mul_left h1 h0
def wOf (zs:List Int) (i:Nat):Nat:=(zs.getD i 0).toNat
def allotL (neg:Bool) (n:Nat) (O:Nat→Int):List Int:=(List.range n).map fun i=>wrap64 (if neg then IntKind.u64.wrap (-(O i)) else O i)
structure Ws (w:World) (b off cap:Nat) (zs:List Int):Prop where
 blk:b<w.heap.size
 pos:0<zs.length
 few:zs.length≤8
 cap:zs.length≤cap
 cell:∀ i,i<zs.length→w.cell? ⟨b,off+i,none⟩=some (.int .i64 (wOf zs i:Nat))∧1≤wOf zs i∧wOf zs i≤1000000
theorem Ws.sum {w:World} {b off cap:Nat} {zs:List Int} (h:Ws w b off cap zs) (j:Nat) (hj:j≤zs.length):sumTo (wOf zs) j≤j * 1000000 :=
 sumTo_bound _ _ _ (fun i hi=>(h.cell i (by omega)).2.2)
theorem Ws.total {w:World} {b off cap:Nat} {zs:List Int} (h:Ws w b off cap zs):0<sumTo (wOf zs) zs.length∧sumTo (wOf zs) zs.length≤8000000:=by
 have h1:=h.sum zs.length (Nat.le_refl _)
 have h2:=h.few
 have h3:=(h.cell 0 h.pos).2.1
 have h4:sumTo (wOf zs) 1≤sumTo (wOf zs) zs.length:=sumTo_mono _ h.pos
 have h5:sumTo (wOf zs) 1=wOf zs 0:=by show 0+wOf zs 0=_;omega
 constructor <;> omega
def sharesL (S n:Nat) (W:Nat→Nat):Option (Nat→Int) :=
 give n (fun t=>S * W t % sumTo W n) (S-sumTo (fun t=>S * W t / sumTo W n) n) (fun _=>0) (fun t=>((S * W t / sumTo W n:Nat):Int))
theorem owns_lower {w:World} {base base':Nat} {e:TypeId} {size:Nat} {v:Value} {n:Nat} {xs:List Value} (h:w.ownsRow base e size v n xs) (hb:base'≤base):w.ownsRow base' e size v n xs:=by
 refine ⟨h.1,?_⟩
 rcases h.2 with hn | ⟨g,cap,cur,rfl,hg,rest⟩
 ·exact .inl hn
 ·exact .inr ⟨g,cap,cur,rfl,by omega,rest⟩
theorem infoU:(Tryz.prog.info? 86).map (fun i=>(i.zero,i.size,i.bytes))=some (some (.int .u64 0),1,8):=by kernel_rfl
theorem bst_free (G:Nat→Int) (r:Nat→Nat):∀ i,0≤bst G r i→G (bst G r i).toNat=0
 | 0=>by simp [bst]
 | i+1=>by
  have ih:=bst_free G r i
  unfold bst
  by_cases h:G i=0∧(bst G r i<0∨r (bst G r i).toNat<r i)
  ·rw [if_pos h];intro _;simpa using h.1
  ·rw [if_neg h];exact ih
theorem bst_none (G:Nat→Int) (r:Nat→Nat):∀ i,bst G r i<0 → ∀ t,t<i→G t≠0
 | 0=>by intro _ t ht;omega
 | i+1=>by
  have ih:=bst_none G r i
  unfold bst
  by_cases h:G i=0∧(bst G r i<0∨r (bst G r i).toNat<r i)
  ·rw [if_pos h];intro h';omega
  ·rw [if_neg h]
   intro h' t ht
   by_cases e:t=i
   ·subst e;intro hg;exact h ⟨hg,.inl h'⟩
   ·exact ih h' t (by omega)
theorem bst_max (G:Nat→Int) (r:Nat→Nat):∀ i t,t<i→G t=0→r t≤r (bst G r i).toNat
 | 0,t,h,_=>by omega
 | i+1,t,h,hg=>by
  have ih:=bst_max G r i t
  have hn:=bst_none G r i
  unfold bst
  by_cases c:G i=0∧(bst G r i<0∨r (bst G r i).toNat<r i)
  ·rw [if_pos c]
   by_cases e:t=i
   ·subst e;simp
   ·rcases c.2 with h1 | h1
    ·exact absurd hg (hn h1 t (by omega))
    ·have:=ih (by omega) hg
     simp;omega
  ·rw [if_neg c]
   by_cases e:t=i
   ·subst e
    have:¬ (bst G r t<0∨r (bst G r t).toNat<r t):=fun h2=>c ⟨hg,h2⟩
    omega
   ·exact ih (by omega) hg
theorem sumTo_congr {f g:Nat→Nat} (n:Nat) (h:∀ i,i<n→f i=g i):sumTo f n=sumTo g n :=
 Nat.le_antisymm (sumTo_le n fun i hi=>Nat.le_of_eq (h i hi)) (sumTo_le n fun i hi=>Nat.le_of_eq (h i hi).symm)
theorem sumTo_add (f g:Nat→Nat) (n:Nat):sumTo (fun i=>f i+g i) n=sumTo f n+sumTo g n:=by
 induction n with
 | zero=>rfl
 | succ n ih=>unfold sumTo;rw [ih];omega
theorem rests_sum (S T n:Nat) (W:Nat→Nat) (hT:T=sumTo W n) (h0:0<T):sumTo (fun i=>S * W i % T) n=T * (S-sumTo (fun i=>S * W i / T) n):=by
 have h1:sumTo (fun i=>T * (S * W i / T)+S * W i % T) n=sumTo (fun i=>S * W i) n:=sumTo_congr n fun i _=>Nat.div_add_mod _ _
 rw [sumTo_add,sumTo_mul,sumTo_mul W S,← hT] at h1
 rw [Nat.mul_sub,Nat.mul_comm T S]
 omega
def sharesV (a:Int) (zs:List Int):List Int :=
 match sharesL a.natAbs zs.length (wOf zs) with
 | none=>[]
 | some O=>allotL (decide (a<0)) zs.length O
def GoodW (zs:List Int):Prop:=∀ i,i<zs.length→1≤zs.getD i 0∧zs.getD i 0≤1000000
structure AllotC:Prop where
 good:∀ (v:Value) (zs:List Int) (a:Int) (w:World),Amts w v zs→(Lit.int .i64 a).wf=true→0<zs.length→zs.length≤8→GoodW zs →
  Calls Tryz.prog 193 #[.int .i64 a,v] w fun e w'=>∃ u,e = .returned (.tuple #[u,.int .i64 0])∧w'.ownsRow w.heap.size 2 1 u zs.length (ints (sharesV a zs))∧Below w.heap.size w w'
 size:∀ (v:Value) (zs:List Int) (a:Int) (w:World),Amts w v zs→(Lit.int .i64 a).wf=true → ¬ (0<zs.length∧zs.length≤8) →
  Calls Tryz.prog 193 #[.int .i64 a,v] w fun e w'=>∃ r c,e = .returned (.tuple #[.slice r 0 c,.int .i64 2])∧Below w.heap.size w w'
 range:∀ (v:Value) (zs:List Int) (a:Int) (w:World),Amts w v zs→(Lit.int .i64 a).wf=true→0<zs.length→zs.length≤8 → ¬ GoodW zs →
  Calls Tryz.prog 193 #[.int .i64 a,v] w fun e w'=>∃ r c,e = .returned (.tuple #[.slice r 0 c,.int .i64 5])∧Below w.heap.size w w'
theorem wrap64_wf (n:Int):(Lit.int .i64 (wrap64 n)).wf=true:=WalkArith.wf_i64 (by rw [w64w];omega)
theorem amts_three (w:World) (t:TypeId) (a b c:Int) (ha:(Lit.int .i64 a).wf=true) (hb:(Lit.int .i64 b).wf=true) (hc:(Lit.int .i64 c).wf=true) :
 Amts (w.alloc (.cells #[.int .i64 a,.int .i64 b,.int .i64 c] t)) (.slice (some ⟨w.heap.size,0,none⟩) 3 3) [a,b,c]:=by
 refine .inr ⟨w.heap.size,0,3,rfl,by simp,by simp,by simp,fun i hi=>?_⟩
 have hi':i<3:=by simpa using hi
 rcases (by omega:i=0∨i=1∨i=2) with rfl | rfl | rfl
 ·exact ⟨by simp,by simpa using ha⟩
 ·exact ⟨by simp,by simpa using hb⟩
 ·exact ⟨by simp,by simpa using hc⟩
theorem ten_shares:sharesV 10 [1,1,1]=[4,3,3]:=by kernel_rfl
theorem ones_good:GoodW [1,1,1]:=by
 intro i hi
 have hi':i<3:=by simpa using hi
 rcases (by omega:i=0∨i=1∨i=2) with rfl | rfl | rfl <;> simp
theorem awake3_any (C:AllotC) (w:World) (htab:Pow w) (hw:1<w.heap.size) :
 Calls Tryz.prog 190 #[] w fun e w'=>e = .returned (.bool true)∧Below w.heap.size w w':=by
 have K1:=Lib.hid (fun w0=>C.good _ [1,1,1] 10 _ (amts_three w0 2 1 1 1 (by decide) (by decide) (by decide)) (by decide) (by simp) (by simp) ones_good)
 have hts:=Lib.hid ten_shares
 go_enter Tryz.func190,Tryz.ntmps190
 go_wp2_with (first
  | (go_at_call 193;refine (K1.out _).mono ?_;rintro e w1 ⟨u,rfl,hown,hb1⟩;have A0:Amts w1 u [4,3,3]:=amts_owns (by rw [hts.out] at hown;exact hown) (by simp) (by decide);have hB1:Below w.heap.size w w1:=((Below.refl _ _).alloc (Nat.le_refl _) _).trans (hb1.mono (by simp)))
  | (go_at_call 194;refine (equal_any _ _ _ _ _ (A0.stay ((Below.refl _ _).alloc (Nat.le_refl _) _)) (amts_three w1 2 4 3 3 (by decide) (by decide) (by decide))).mono ?_;rintro e w2 ⟨rfl,hb2⟩;have hB2:Below w.heap.size w w2:=(hB1.alloc hB1.size _).trans (hb2.mono (by simp;exact Nat.le_trans hB1.size (Nat.le_succ _)));have t2:=htab.stay hw hB2;have s2:=Nat.lt_of_lt_of_le hw hB2.size)
  | (go_at_call 195;refine (awake2_any _ t2 s2).mono ?_;rintro e w3 ⟨rfl,hb3⟩))
 go_ret
 exact ⟨rfl,hB2.trans (hb3.mono hB2.size)⟩
end Go.Proofs.YtmpefjnfelfnfaaGreatDoor

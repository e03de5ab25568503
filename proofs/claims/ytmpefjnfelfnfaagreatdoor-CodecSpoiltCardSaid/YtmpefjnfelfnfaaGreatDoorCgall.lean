/- What a reader finds, in the developers' words (codec): where an error is nothing else matters. -/
import Derived.Test.YtmpefjnfelfnfaaGreatDoorCdall
import Derived.Test.YtmpefjnfelfnfaaGreatDoorBa
import Derived.Laws.OwnMore
import Derived.Test.YtmpefjnfelfnfaaGreatDoorCy
import Derived.Test.YtmpefjnfelfnfaaGreatDoorCfall
import Derived.Test.YtmpefjnfelfnfaaGreatDoorXall
import Derived.Deep.DeepCutAuto
import Derived.Laws.ShiftsVarLaws
import Derived.Lib.SlBytesRow
import Derived.Test.YtmpefjnfelfnfaaGreatDoorLawb
import Derived.Laws.MakeOwn
set_option maxRecDepth 100000
set_option maxHeartbeats 4000000
namespace Go.Proofs.YtmpefjnfelfnfaaGreatDoor
open Go.RowKit
set_option linter.unusedVariables false
set_option linter.unusedSimpArgs false
theorem rday_dev (r:Rd):(rday r).2.c=(rnum 4294967295 r).2.c∧((rnum 4294967295 r).2.c=0→(rday r).2.b=(rnum 4294967295 r).2.b∧(rday r).1=unsig (rnum 4294967295 r).1):=by
 have hu:∀ n:Nat,(unsig n < -2147483648∨2147483648≤unsig n) ↔ 4294967295<n:=fun n=>by unfold unsig;split <;> omega
 unfold rday rsig
 by_cases h1:r.c=0
 ·by_cases h2:(numP 0 0 r.b).1=0
  ·obtain ⟨n,hn⟩:∃ n,(numP 0 0 r.b).2.1=n:=⟨_,rfl⟩
   obtain ⟨t,ht⟩:∃ t,(numP 0 0 r.b).2.2=t:=⟨_,rfl⟩
   by_cases h3:4294967295<n
   ·have e1:rnum 4294967295 r=(0,⟨t,5⟩):=by unfold rnum;simp [h1,h2,hn,ht,h3]
    rw [e1]
    by_cases h4:18446744073709551615<n
    ·have e2:rnum 18446744073709551615 r=(0,⟨t,5⟩):=by unfold rnum;simp [h1,h2,hn,ht,h4]
     rw [e2]
     simp
    ·have e2:rnum 18446744073709551615 r=(n,⟨t,0⟩):=by unfold rnum;simp [h1,h2,hn,ht,h4]
     rw [e2]
     simp only
     rw [if_pos ⟨trivial,(hu n).2 h3⟩]
     simp
   ·have e1:rnum 4294967295 r=(n,⟨t,0⟩):=by unfold rnum;simp [h1,h2,hn,ht,h3]
    have e2:rnum 18446744073709551615 r=(n,⟨t,0⟩):=by
     have:¬ 18446744073709551615<n:=by omega
     unfold rnum;simp [h1,h2,hn,ht,this]
    rw [e1,e2]
    simp only
    rw [if_neg (fun h=>h3 ((hu n).1 h.2))]
    refine ⟨rfl,fun _=>⟨rfl,wrap_day ?_⟩⟩
    have h9:¬ (unsig n < -2147483648∨2147483648≤unsig n):=fun h=>h3 ((hu n).1 h)
    omega
  ·have e:∀ m,rnum m r=(0,⟨r.b,(numP 0 0 r.b).1⟩):=fun m=>by unfold rnum;simp [h1,h2]
   rw [e,e]
   simp [h2]
 ·rw [rnum_err h1,rnum_err h1]
  simp [h1]
theorem rep_step {α:Type} {enc:α→List Nat} {f:Rd→α × Rd} {ok:α→Prop} {least:Nat} (h:Cod enc f ok least) {k:Nat} {r:Rd} {ys:List α} {y:α} (hy:(rrep f k r).2.c=0→ys=(rrep f k r).1) (hz:(f (rrep f k r).2).2.c=0→y=(f (rrep f k r).2).1):(rrep f (k+1) r).2.c=0→ys ++ [y]=(rrep f (k+1) r).1:=by
 rw [rrep_last]
 intro h0
 simp only at h0 ⊢
 have h1:(rrep f k r).2.c=0:=by
  by_cases hc:(rrep f k r).2.c=0
  ·exact hc
  ·exact absurd h0 (h.stick _ hc)
 rw [hy h1,hz h0]
theorem rmany_dev (most least:Nat) (r:Rd):rmany most least r=if (rnum most r).2.c=0∧(rnum most r).2.b.length<(rnum most r).1 * least then (0,⟨(rnum most r).2.b,3⟩) else rnum most r:=by
 unfold rmany
 split
 ·rfl
 ·split
  ·rename_i h
   have:(rnum most r).1=0:=by
    unfold rnum at h ⊢
    split
    ·rfl
    ·split
     ·rfl
     ·split
      ·rfl
      ·rename_i h1 h2 h3
       rw [if_neg h1,if_neg h2,if_neg h3] at h
       simp at h
   rw [← this]
  ·rfl
theorem at_splitP {α:Type} {xs:List α} {k:Nat} {x:α} (h:xs[k]?=some x):∃ A B,xs=A ++ x :: B∧A.length=k:=by
 obtain ⟨hk,e⟩:=List.getElem?_eq_some_iff.1 h
 refine ⟨xs.take k,xs.drop (k+1),?_,by rw [List.length_take];omega⟩
 have:=(List.take_append_drop k xs).symm
 rwa [List.drop_eq_getElem_cons hk,e] at this
theorem set_behind {P T:List Value} {n j:Nat} {v:Value} (h:P.length=n):(P ++ T).set (n+j) v=P ++ T.set j v:=by
 rw [List.set_append_right _ _ (by omega),h,Nat.add_sub_cancel_left]
theorem set_behind0 {P T:List Value} {n:Nat} {v:Value} (h:P.length=n):(P ++ T).set n v=P ++ T.set 0 v:=by
 rw [List.set_append_right _ _ (by omega),h,Nat.sub_self]
theorem flat_put1 {α:Type} {enc:α→List Value} (hk:∀ x,(enc x).length=1) {xs:List α} {k:Nat} {x y:α} {a:Value} (h:xs[k]?=some x) (hy:enc y=[a]):(xs.flatMap enc).set (k * 1) a=(xs.set k y).flatMap enc:=by
 obtain ⟨A,B,rfl,hA⟩:=at_splitP h
 have hl:(A.flatMap enc).length=k * 1:=by rw [flat_len hk,hA]
 obtain ⟨x0,hx⟩:∃ x0,enc x=[x0]:=List.length_eq_one_iff.1 (hk x)
 rw [List.set_append_right _ _ (by omega),hA,Nat.sub_self,List.set_cons_zero]
 simp only [List.flatMap_append,List.flatMap_cons,hx,hy]
 rw [set_behind0 hl]
 rfl
theorem flat_put2 {α:Type} {enc:α→List Value} (hk:∀ x,(enc x).length=2) {xs:List α} {k:Nat} {x y:α} {a b:Value} (h:xs[k]?=some x) (hy:enc y=[a,b]):((xs.flatMap enc).set (k * 2) a).set (k * 2+1) b=(xs.set k y).flatMap enc:=by
 obtain ⟨A,B,rfl,hA⟩:=at_splitP h
 have hl:(A.flatMap enc).length=k * 2:=by rw [flat_len hk,hA]
 obtain ⟨x0,x1,hx⟩:∃ x0 x1,enc x=[x0,x1]:=by
  have:=hk x
  match enc x,this with
  | [p,q],_=>exact ⟨p,q,rfl⟩
 rw [List.set_append_right _ _ (by omega),hA,Nat.sub_self,List.set_cons_zero]
 simp only [List.flatMap_append,List.flatMap_cons,hx,hy]
 rw [set_behind0 hl,set_behind hl]
 rfl
theorem flat_put4 {α:Type} {enc:α→List Value} (hk:∀ x,(enc x).length=4) {xs:List α} {k:Nat} {x y:α} {a b c d:Value} (h:xs[k]?=some x) (hy:enc y=[a,b,c,d]):((((xs.flatMap enc).set (k * 4) a).set (k * 4+1) b).set (k * 4+2) c).set (k * 4+3) d=(xs.set k y).flatMap enc:=by
 obtain ⟨A,B,rfl,hA⟩:=at_splitP h
 have hl:(A.flatMap enc).length=k * 4:=by rw [flat_len hk,hA]
 obtain ⟨x0,x1,x2,x3,hx⟩:∃ x0 x1 x2 x3,enc x=[x0,x1,x2,x3]:=by
  have:=hk x
  match enc x,this with
  | [p,q,r,s],_=>exact ⟨p,q,r,s,rfl⟩
 rw [List.set_append_right _ _ (by omega),hA,Nat.sub_self,List.set_cons_zero]
 simp only [List.flatMap_append,List.flatMap_cons,hx,hy]
 rw [set_behind0 hl,set_behind hl,set_behind hl,set_behind hl]
 rfl
theorem own_put1 {α:Type} {enc:α→List Value} (hk:∀ x,(enc x).length=1) {w:World} {base g n cap:Nat} {e:TypeId} {xs:List α} {k:Nat} {x y:α} {a:Value} (ho:w.ownsRow base e 1 (.slice (some ⟨g,0,none⟩) n cap) n (xs.flatMap enc)) (h:xs[k]?=some x) (hy:enc y=[a]) :
 (w.setCell ⟨g,k * 1,none⟩ a).ownsRow base e 1 (.slice (some ⟨g,0,none⟩) n cap) n ((xs.set k y).flatMap enc)∧w.grownBy (w.setCell ⟨g,k * 1,none⟩ a) (some g):=by
 obtain ⟨o1,g1⟩:=ho.stored (k * 1) a
 rw [flat_put1 hk h hy] at o1
 exact ⟨o1,g1⟩
theorem own_put1n {α:Type} {enc:α→List Value} (hk:∀ x,(enc x).length=1) {w:World} {base g n cap:Nat} {e:TypeId} {xs:List α} {k:Nat} {x y:α} {a:Value} (ho:w.ownsRow base e 1 (.slice (some ⟨g,0,none⟩) n cap) n (xs.flatMap enc)) (h:xs[k]?=some x) (hy:enc y=[a]) :
 (w.setCell ⟨g,k,none⟩ a).ownsRow base e 1 (.slice (some ⟨g,0,none⟩) n cap) n ((xs.set k y).flatMap enc)∧w.grownBy (w.setCell ⟨g,k,none⟩ a) (some g):=by
 have h9:=own_put1 hk ho h hy
 rw [Nat.mul_one] at h9
 exact h9
theorem flat_get1 {α:Type} {enc:α→List Value} (hk:∀ x,(enc x).length=1) {xs:List α} {i:Nat} {x:α} {u:Value} (hx:xs[i]?=some x) (hu:(enc x)[0]?=some u):(xs.flatMap enc)[i]?=some u:=by
 have h:=flat_get hk hx hu
 rw [Nat.mul_one,Nat.add_zero] at h
 exact h
theorem grown_transP {w w' w'':World} {row:Option Nat} (h:w.grownBy w' row) (k:w'.grownBy w'' row):w.grownBy w'' row :=
 ⟨k.os.trans h.os,k.tape.trans h.tape,k.output.trans h.output,Nat.le_trans h.size k.size,fun i hi hr=>(k.block i (Nat.lt_of_lt_of_le hi h.size) hr).trans (h.block i hi hr)⟩
theorem own_put2 {α:Type} {enc:α→List Value} (hk:∀ x,(enc x).length=2) {w:World} {base g n cap:Nat} {e:TypeId} {xs:List α} {k:Nat} {x y:α} {a b:Value} (ho:w.ownsRow base e 2 (.slice (some ⟨g,0,none⟩) n cap) n (xs.flatMap enc)) (h:xs[k]?=some x) (hy:enc y=[a,b]) :
 ((w.setCell ⟨g,k * 2,none⟩ a).setCell ⟨g,k * 2+1,none⟩ b).ownsRow base e 2 (.slice (some ⟨g,0,none⟩) n cap) n ((xs.set k y).flatMap enc)∧w.grownBy ((w.setCell ⟨g,k * 2,none⟩ a).setCell ⟨g,k * 2+1,none⟩ b) (some g):=by
 obtain ⟨o1,g1⟩:=ho.stored (k * 2) a
 obtain ⟨o2,g2⟩:=o1.stored (k * 2+1) b
 rw [flat_put2 hk h hy] at o2
 exact ⟨o2,grown_transP g1 g2⟩
theorem own_put4 {α:Type} {enc:α→List Value} (hk:∀ x,(enc x).length=4) {w:World} {base g n cap:Nat} {e:TypeId} {xs:List α} {k:Nat} {x y:α} {a b c d:Value} (ho:w.ownsRow base e 4 (.slice (some ⟨g,0,none⟩) n cap) n (xs.flatMap enc)) (h:xs[k]?=some x) (hy:enc y=[a,b,c,d]) :
 ((((w.setCell ⟨g,k * 4,none⟩ a).setCell ⟨g,k * 4+1,none⟩ b).setCell ⟨g,k * 4+2,none⟩ c).setCell ⟨g,k * 4+3,none⟩ d).ownsRow base e 4 (.slice (some ⟨g,0,none⟩) n cap) n ((xs.set k y).flatMap enc)∧w.grownBy ((((w.setCell ⟨g,k * 4,none⟩ a).setCell ⟨g,k * 4+1,none⟩ b).setCell ⟨g,k * 4+2,none⟩ c).setCell ⟨g,k * 4+3,none⟩ d) (some g):=by
 obtain ⟨o1,g1⟩:=ho.stored (k * 4) a
 obtain ⟨o2,g2⟩:=o1.stored (k * 4+1) b
 obtain ⟨o3,g3⟩:=o2.stored (k * 4+2) c
 obtain ⟨o4,g4⟩:=o3.stored (k * 4+3) d
 rw [flat_put4 hk h hy] at o4
 exact ⟨o4,grown_transP (grown_transP (grown_transP g1 g2) g3) g4⟩
def RBd (w:World) (g:Nat) (vb:Value) (c:Int):Prop:=w.heap[g]?=some (.cells #[vb,.int .i64 c] 70 (0,0))
theorem RBd.size {w:World} {g:Nat} {vb:Value} {c:Int} (h:RBd w g vb c):g<w.heap.size:=(Array.getElem?_eq_some_iff.1 h).1
theorem RBd.cell0 {w:World} {g:Nat} {vb:Value} {c:Int} (h:RBd w g vb c):w.cell? ⟨g,0,none⟩=some vb:=by
 have h':w.heap[g]?=some (.cells #[vb,.int .i64 c] 70 (0,0)):=h
 simp [World.cell?,h']
theorem RBd.cell1 {w:World} {g:Nat} {vb:Value} {c:Int} (h:RBd w g vb c):w.cell? ⟨g,1,none⟩=some (.int .i64 c):=by
 have h':w.heap[g]?=some (.cells #[vb,.int .i64 c] 70 (0,0)):=h
 simp [World.cell?,h']
theorem RBd.frozen {w:World} {g:Nat} {vb:Value} {c:Int} (h:RBd w g vb c) (j:Nat):w.frozen? ⟨g,j,none⟩=false:=by
 have h':w.heap[g]?=some (.cells #[vb,.int .i64 c] 70 (0,0)):=h
 simp [World.frozen?,h']
theorem RBd.set0 {w:World} {g:Nat} {vb:Value} {c:Int} (h:RBd w g vb c) (v:Value):RBd (w.setCell ⟨g,0,none⟩ v) g v c:=by
 have h':w.heap[g]?=some (.cells #[vb,.int .i64 c] 70 (0,0)):=h
 unfold RBd
 simp only [World.setCell,Array.getElem?_modify,h',if_true]
 simp
theorem RBd.set1 {w:World} {g:Nat} {vb:Value} {c:Int} (h:RBd w g vb c) (d:Int):RBd (w.setCell ⟨g,1,none⟩ (.int .i64 d)) g vb d:=by
 have h':w.heap[g]?=some (.cells #[vb,.int .i64 c] 70 (0,0)):=h
 unfold RBd
 simp only [World.setCell,Array.getElem?_modify,h',if_true]
 simp
theorem byd_far {w:World} {g b off n cap:Nat} {l:List Nat} {vb:Value} {c:Int} (hR:Recs byc 1 w (.slice (some ⟨b,off,none⟩) n cap) l) (hl:0<l.length) (hB:RBd w g vb c) (hv:∃ r n cap,vb = .slice r n cap):b≠g:=by
 intro e
 subst e
 obtain ⟨x,hx⟩:∃ x,l[0]?=some x:=⟨l[0],List.getElem?_eq_getElem hl⟩
 obtain ⟨g',o',e,_,hc⟩:=hR.at hx
 cases e
 have h0:=hc 0 _ rfl
 obtain ⟨r,n',cap',rfl⟩:=hv
 have h':w.heap[b]?=some (.cells #[.slice r n' cap',.int .i64 c] 70 (0,0)):=hB
 simp only [Nat.zero_mul,Nat.add_zero] at h0
 unfold World.cell? at h0
 rw [h'] at h0
 rcases (by omega:off=0∨off=1∨2≤off) with rfl | rfl | ho
 ·simp at h0
 ·simp at h0
 ·simp [show ¬ off<2 by omega] at h0
theorem byd_set {w:World} {g j:Nat} {u v vb:Value} {l:List Nat} {c:Int} (hR:Recs byc 1 w v l) (hB:RBd w g vb c) (hv:∃ r n cap,vb = .slice r n cap):Recs byc 1 (w.setCell ⟨g,j,none⟩ u) v l:=by
 have hR0:=hR
 rcases hR with ⟨r,cap,e1,e2⟩ | ⟨b,off,cap,rfl,h1,h2,h3,h4⟩
 ·exact .inl ⟨r,cap,e1,e2⟩
 ·rcases Nat.eq_zero_or_pos l.length with h0 | h0
  ·rw [h0]
   exact .inl ⟨_,_,rfl,List.eq_nil_of_length_eq_zero h0⟩
  ·have hne:=byd_far hR0 h0 hB hv
   exact hR0.grown (set_grown w ⟨g,j,none⟩ u) hne
def RD (B:Nat) (w:World) (g:Nat) (r:Rd):Prop:=∃ (ad:Addr) (cap:Nat) (l:List Nat),(∀ c ∈ l,c<256)∧(∃ b off,ad=⟨b,off,none⟩∧b<B)∧(g<B∧B≤w.heap.size∧l.length≤cap)∧RBd w g (.slice (some ad) l.length cap) r.c∧Recs byc 1 w (.slice (some ad) l.length cap) l∧(r.c=0→l=r.b)
theorem RD.lt {B:Nat} {w:World} {g:Nat} {r:Rd} (h:RD B w g r):g<B∧B≤w.heap.size:=by
 obtain ⟨_,_,_,_,_,h,_⟩:=h
 exact ⟨h.1,h.2.1⟩
theorem recs_keep {B b off cap n:Nat} {w w':World} {l:List Nat} (h:Recs byc 1 w (.slice (some ⟨b,off,none⟩) n cap) l) (hb:b<B) (hB:B≤w.heap.size) (hw:Below B w w'):Recs byc 1 w' (.slice (some ⟨b,off,none⟩) n cap) l:=by
 rcases h with h | ⟨g,off',cap',h1,h2,h3,h4,h5⟩
 ·exact .inl h
 ·cases h1
  refine .inr ⟨b,off,cap,rfl,Nat.lt_of_lt_of_le hb (Nat.le_trans hB hw.size),h3,h4,fun i x hx j u hu=>?_⟩
  have e:=h5 i x hx j u hu
  unfold World.cell? at e ⊢
  rw [hw.block b hb]
  exact e
theorem RD.stay {B:Nat} {w w':World} {g:Nat} {r:Rd} (h:RD B w g r) (hb:Below B w w'):RD B w' g r:=by
 obtain ⟨ad,cap,l,h1,⟨b,off,rfl,h5⟩,⟨h6,h7,h8⟩,h2,h3,h4⟩:=h
 exact ⟨_,cap,l,h1,⟨b,off,rfl,h5⟩,⟨h6,Nat.le_trans h7 hb.size,h8⟩,(hb.block g h6).trans h2,recs_keep h3 h5 h7 hb,h4⟩
theorem RD.err {B:Nat} {w:World} {g:Nat} {r r':Rd} (h:RD B w g r) (hc:r.c=r'.c) (hb:r'.c=0→r.b=r'.b):RD B w g r':=by
 obtain ⟨ad,cap,l,h1,h5,h6,h2,h3,h4⟩:=h
 exact ⟨ad,cap,l,h1,h5,h6,hc ▸ h2,h3,fun e=>(h4 (hc.trans e)).trans (hb e)⟩
theorem if_addr (c:Prop) [Decidable c] (b off s:Nat):∃ off',(if c then some (⟨b,off,none⟩:Addr) else some ⟨b,off+s,none⟩)=some ⟨b,off',none⟩:=by
 split
 ·exact ⟨_,rfl⟩
 ·exact ⟨_,rfl⟩
def First (l:List Nat) (n s:Nat) (c:Int):Prop:=c=(numP 0 0 l).1∧(c=0→n=(numP 0 0 l).2.1∧s≤l.length∧(numP 0 0 l).2.2=l.drop s)
theorem first_c (vb:Value) (l:List Nat) (w:World) (hR:Recs byc 1 w vb l) (hb:∀ c ∈ l,c<256) :
 Calls Tryz.prog 128 #[vb] w fun e w'=>∃ (n s:Nat) (c:Int),e = .returned (.tuple #[.int .u64 (n:Int),.int .i64 (s:Int),.int .i64 c])∧First l n s c∧Below w.heap.size w w':=by
 obtain ⟨rr,cap,rfl,hml⟩:=hR.form
 obtain ⟨L,hL⟩:∃ L,l.length=L:=⟨_,rfl⟩
 have HL:=Lib.hid hL
 rw [hL] at hR hml
 have HR:=Lib.hid hR
 have HP:Hid (numP 0 0 l=numP 0 0 (l.drop 0)):=Lib.hid rfl
 have HBY:=Lib.hid hb
 rw [hL]
 clear hR hb hL
 go_enter Tryz.func128,Tryz.ntmps128
 go_wp2_with fail
 go_loop [2,9] (fun s2 i=>∃ (k a:Nat),s2 = .int .u64 (a:Int)∧i = .int .i64 (k:Int)∧k≤L∧k≤9∧a<128 ^ k∧Hid (numP 0 0 l=numP k a (l.drop k))) (fun _ i=>L-(intOf i).toNat)
 case atStart=>exact ⟨0,0,rfl,rfl,Nat.zero_le _,by omega,by simp,HP⟩
 case round =>
  clear HP
  obtain ⟨k,a,rfl,rfl,hk,hk9,ha,HP⟩:=hrel
  by_cases hlt:k<L
  ·obtain ⟨c,hc⟩:∃ c,l[k]?=some c:=⟨l[k]'(by have:=HL.out;omega),List.getElem?_eq_getElem (by have:=HL.out;omega)⟩
   have hc256:=HBY.out c (List.mem_of_getElem? hc)
   have hstep:=numP_step (n:=a) hc
   rw [← HP.out] at hstep
   obtain ⟨b,off,rfl,hb,hcx⟩:=HR.out.at hc
   have y0:=hcx 0 _ rfl
   simp only [Nat.mul_one,Nat.add_zero] at y0
   have HST:=Lib.hid hstep
   have HC:=Lib.hid hc
   obtain ⟨cI,hcI⟩:∃ i:Int,(c:Int)=i:=⟨_,rfl⟩
   obtain ⟨BD,hBD⟩:∃ b,decide ((0<k∧c=0)∨(k=9∧1<c))=b:=⟨_,rfl⟩
   have HBD:=Lib.hid hBD
   have HCI:=Lib.hid hcI
   rw [hcI] at y0
   clear hcx hstep hc hb hcI hBD
   go_upto_region 4 with fail
   obtain ⟨kI,hkI⟩:∃ i:Int,(k:Int)=i:=⟨_,rfl⟩
   have HKI:=Lib.hid hkI
   rw [hkI]
   clear hkI
   go_cut [27] (fun s27 wx=>s27 = .bool BD∧w=wx)
   case first =>
    rcases (by omega:k=0∨(0<k∧c=0)∨(0<k∧c≠0∧k=9∧1<c)∨(0<k∧c≠0∧k=9 ∧ ¬ 1<c)∨(0<k∧c≠0∧k≠9)) with h | ⟨h1,h2⟩ | ⟨h1,h2,h3,h4⟩ | ⟨h1,h2,h3,h4⟩ | ⟨h1,h2,h3⟩
    ·have t1:decide (0<kI)=false:=decide_eq_false (by have:=HKI.out;have:=HCI.out;omega)
     have t3:(kI == 9)=false:=by rw [beq_eq_false_iff_ne];have:=HKI.out;have:=HCI.out;omega
     have hb:BD=false:=by rw [← HBD.out];exact decide_eq_false (by have:=HKI.out;have:=HCI.out;omega)
     go_wp2_with fail
     go_meet
     exact ⟨hb ▸ rfl,rfl⟩
    ·have t1:decide (0<kI)=true:=decide_eq_true (by have:=HKI.out;have:=HCI.out;omega)
     have t2:(cI == 0)=true:=by rw [beq_iff_eq];have:=HKI.out;have:=HCI.out;omega
     have hb:BD=true:=by rw [← HBD.out];exact decide_eq_true (by have:=HKI.out;have:=HCI.out;omega)
     go_wp2_with fail
     go_meet
     exact ⟨hb ▸ rfl,rfl⟩
    ·have t1:decide (0<kI)=true:=decide_eq_true (by have:=HKI.out;have:=HCI.out;omega)
     have t2:(cI == 0)=false:=by rw [beq_eq_false_iff_ne];have:=HKI.out;have:=HCI.out;omega
     have t3:(kI == 9)=true:=by rw [beq_iff_eq];have:=HKI.out;have:=HCI.out;omega
     have t4:decide (1<cI)=true:=decide_eq_true (by have:=HKI.out;have:=HCI.out;omega)
     have hb:BD=true:=by rw [← HBD.out];exact decide_eq_true (by have:=HKI.out;have:=HCI.out;omega)
     go_wp2_with fail
     go_meet
     exact ⟨hb ▸ rfl,rfl⟩
    ·have t1:decide (0<kI)=true:=decide_eq_true (by have:=HKI.out;have:=HCI.out;omega)
     have t2:(cI == 0)=false:=by rw [beq_eq_false_iff_ne];have:=HKI.out;have:=HCI.out;omega
     have t3:(kI == 9)=true:=by rw [beq_iff_eq];have:=HKI.out;have:=HCI.out;omega
     have t4:decide (1<cI)=false:=decide_eq_false (by have:=HKI.out;have:=HCI.out;omega)
     have hb:BD=false:=by rw [← HBD.out];exact decide_eq_false (by have:=HKI.out;have:=HCI.out;omega)
     go_wp2_with fail
     go_meet
     exact ⟨hb ▸ rfl,rfl⟩
    ·have t1:decide (0<kI)=true:=decide_eq_true (by have:=HKI.out;have:=HCI.out;omega)
     have t2:(cI == 0)=false:=by rw [beq_eq_false_iff_ne];have:=HKI.out;have:=HCI.out;omega
     have t3:(kI == 9)=false:=by rw [beq_eq_false_iff_ne];have:=HKI.out;have:=HCI.out;omega
     have hb:BD=false:=by rw [← HBD.out];exact decide_eq_false (by have:=HKI.out;have:=HCI.out;omega)
     go_wp2_with fail
     go_meet
     exact ⟨hb ▸ rfl,rfl⟩
   case rest =>
    obtain ⟨rfl,rfl⟩:=hcut
    have hb:=HBD.out
    have HST2:=HST.out
    cases BD with
    | true =>
     have hp:(0<k∧c=0)∨(k=9∧1<c):=of_decide_eq_true hb
     rw [if_pos hp] at HST2
     go_wp2_with fail
     exact bodyPost_ret (v:=.tuple #[.int .u64 0,.int .i64 0,.int .i64 1]) (by simp [results,Tryz.results128,go_sem]) rfl ⟨0,0,1,rfl,⟨by rw [HST2],fun e=>absurd e (by decide)⟩,Below.refl _ _⟩
    | false =>
     have hp:¬ ((0<k∧c=0)∨(k=9∧1<c)):=of_decide_eq_false hb
     rw [if_neg hp] at HST2
     have hcI:=HCI.out
     have hkI:=HKI.out
     obtain ⟨x,hx⟩:∃ x,c % 128=x:=⟨_,rfl⟩
     obtain ⟨s,hs⟩:∃ s,7 * k=s:=⟨_,rfl⟩
     obtain ⟨y,hy⟩:∃ y,x * 2 ^ s=y:=⟨_,rfl⟩
     obtain ⟨z,hz⟩:∃ z,a+y=z:=⟨_,rfl⟩
     have hx128:x<128:=by omega
     have hs63:s≤63:=by omega
     have hz128:z<128 ^ (k+1):=by
      rw [← hz,← hy,← hs,← pow7,Nat.pow_succ,Nat.mul_comm (128 ^ k) 128]
      have:x * 128 ^ k≤127 * 128 ^ k:=Nat.mul_le_mul_right _ (by omega)
      omega
     have hz64:z<18446744073709551616:=by
      rcases (by omega:k=9∨k<9) with h | h
      ·have hx1:x≤1:=by omega
       have:x * 2 ^ s≤1 * 2 ^ s:=Nat.mul_le_mul_right _ hx1
       have e:s=63:=by omega
       subst e
       subst h
       rw [hy] at this
       have e9:(128:Nat) ^ 9=2 ^ 63:=by decide
       rw [e9] at ha
       omega
      ·have:(128:Nat) ^ (k+1)≤128 ^ 9:=Nat.pow_le_pow_right (by omega) (by omega)
       have e9:(128:Nat) ^ 9=9223372036854775808:=by decide
       omega
     rw [hx,pow7,hs,hy,hz] at HST2
     have t1:bits .andNot .u8 cI 128=(x:Int):=by rw [← hcI,andnot8 hc256,hx]
     have t2:IntKind.u8.wrap (x:Int)=(x:Int):=by rw [IntKind.wrap_u8];omega
     have t3:IntKind.u64.wrap (x:Int)=(x:Int):=by rw [IntKind.wrap_u64];omega
     have t4:(7:Int) * kI=(s:Int):=by omega
     have t5:IntKind.i64.wrap (s:Int)=(s:Int):=by rw [IntKind.wrap_i64];omega
     have t5':decide ((s:Int)<0)=false:=decide_eq_false (by omega)
     have t6:(x:Int) * 2 ^ min s 64=(y:Int):=by
      rw [Nat.min_eq_left (by omega),← hy]
      simp
     have t6':(x:Int) * 2 ^ min ((s:Int).toNat) 64=(y:Int):=by rw [Int.toNat_natCast];exact t6
     have t6x:(x:Int) * 2 ^ s=(y:Int):=by rw [← hy];simp
     have t7:IntKind.u64.wrap (y:Int)=(y:Int):=by rw [IntKind.wrap_u64];omega
     have hak:a<2 ^ s:=by rw [← hs,← pow7];exact ha
     have t8:bits .or .u64 (a:Int) (y:Int)=(z:Int):=by
      have h:=or_up s a x hak hs63 (by rw [hy,hz];exact hz64)
      rw [hy,hz] at h
      exact h
     have t9:IntKind.u64.wrap (z:Int)=(z:Int):=by rw [IntKind.wrap_u64];omega
     have HZ:=Lib.hid hz128
     have HZ6:=Lib.hid hz64
     have HX:=Lib.hid hp
     have HC2:=Lib.hid hc256
     clear hb hp hx hs hy hz hz128 hz64 hcI hkI hak
     by_cases hlt128:c<128
     ·have u1:decide (cI<128)=true:=decide_eq_true (by have:=HCI.out;omega)
      rw [if_pos hlt128] at HST2
      obtain ⟨q,hq⟩:∃ q,k+1=q:=⟨_,rfl⟩
      have u2:kI+1=(q:Int):=by have:=HKI.out;omega
      have u3:IntKind.i64.wrap (q:Int)=(q:Int):=by rw [IntKind.wrap_i64];omega
      have u4:q≤L:=by omega
      rw [hq] at HST2
      go_wp2_with fail
      exact bodyPost_ret (v:=.tuple #[.int .u64 (z:Int),.int .i64 (q:Int),.int .i64 0]) (by simp [results,Tryz.results128,go_sem]) rfl ⟨z,q,0,rfl,⟨by rw [HST2],fun _=>by rw [HST2];exact ⟨rfl,by have:=HL.out;omega,rfl⟩⟩,Below.refl _ _⟩
     ·have u1:decide (cI<128)=false:=decide_eq_false (by have:=HCI.out;omega)
      rw [if_neg hlt128] at HST2
      have hk9':k<9:=by have:=HX.out;omega
      obtain ⟨q,hq⟩:∃ q,k+1=q:=⟨_,rfl⟩
      have u2:kI+1=(q:Int):=by have:=HKI.out;omega
      have u2':(k:Int)+1=(q:Int):=by omega
      have u3:IntKind.i64.wrap (q:Int)=(q:Int):=by rw [IntKind.wrap_i64];omega
      have HQ:=Lib.hid hq
      clear hq
      go_wp2_with fail
      go_round
      case rel=>exact ⟨q,z,rfl,rfl,by have:=HQ.out;omega,by have:=HQ.out;omega,HQ.out ▸ HZ.out,Lib.hid (HQ.out ▸ HST2)⟩
      case measure =>
       have:=HQ.out
       show L-((q:Int)).toNat<L-((k:Int)).toNat
       omega
  ·obtain rfl:k=L:=by omega
   have t0:decide ((k:Int)<(k:Int))=false:=decide_eq_false (by omega)
   have e0:numP 0 0 l=(3,0,[]):=by rw [HP.out,List.drop_eq_nil_of_le (by have:=HL.out;omega)];rfl
   go_wp2_with fail
   exact bodyPost_ret (v:=.tuple #[.int .u64 0,.int .i64 0,.int .i64 3]) (by simp [results,Tryz.results128,go_sem]) rfl ⟨0,0,3,rfl,⟨by rw [e0],fun e=>absurd e (by decide)⟩,Below.refl _ _⟩
theorem grown_self (w:World) (row:Option Nat):w.grownBy w row:=⟨rfl,rfl,rfl,Nat.le_refl _,fun _ _ _=>rfl⟩
theorem grown_belowP {w w':World} (h:Below w.heap.size w w') (row:Option Nat):w.grownBy w' row:=⟨h.os,h.tape,h.output,h.size,fun k hk _=>h.block k hk⟩
theorem number_c {B:Nat} {w:World} {g:Nat} {r:Rd} (h:RD B w g r) (most:Nat) (hm:most<18446744073709551616) :
 Calls Tryz.prog 100 #[.pointer (some ⟨g,0,none⟩),.int .u64 (most:Int)] w fun e w'=>e = .returned (.int .u64 ((rnum most r).1:Int))∧RD B w' g (rnum most r).2∧w.grownBy w' (some g):=by
 obtain ⟨ad,cap,l,hb,⟨b,off,rfl,hbB⟩,⟨hgB,hBw,hcap⟩,hB,hR,hl⟩:=h
 have hml:l.length≤9223372036854775807:=hR.form.elim fun _ ⟨_,_,h⟩=>h
 obtain ⟨rb,c0⟩:=r
 simp only at hB hl
 have x1:=hB.cell1
 by_cases hc:c0=0
 ·subst hc
  obtain rfl:=hl rfl
  have HBY:=Lib.hid hb
  have K:=first_c _ l w hR hb
  obtain ⟨L,hL⟩:∃ L,l.length=L:=⟨_,rfl⟩
  have HL:=Lib.hid hL
  rw [hL] at K hB hR hml hcap
  have x0:=hB.cell0
  have KK:=Lib.hid K
  have HBK:=Lib.hid hB
  have HR:=Lib.hid hR
  obtain ⟨RR,hRR⟩:∃ R,rnum most ⟨l,0⟩=R:=⟨_,rfl⟩
  rw [hRR]
  have HRR:=Lib.hid hRR
  clear K hB hR hb hL hl hRR
  go_enter Tryz.func100,Tryz.ntmps100
  go_upto_region 4 with (go_at_call 128;refine KK.out.mono ?_;rintro e w2 ⟨n,s,c,rfl,hF,hW⟩;have HF:=Lib.hid hF;have HW:=Lib.hid hW;clear hF hW)
  have HB2:Hid (RBd w2 g (.slice (some ⟨b,off,none⟩) L cap) 0):=Lib.hid ((HW.out.block g HBK.out.size).trans HBK.out)
  have HR2:=Lib.hid (HR.out.stay HW.out)
  have HG2:=Lib.hid (grown_belowP HW.out (some g))
  clear x0 x1 KK HBK HR HW
  rename World=>w3
  have x0:=HB2.out.cell0
  have x1:=HB2.out.cell1
  have f0:=HB2.out.frozen 0
  have f1:=HB2.out.frozen 1
  have hsz:=HB2.out.size
  obtain ⟨hF1,hF2⟩:=HF.out
  clear HF
  by_cases hc:c=0
  ·subst hc
   obtain ⟨e1,e2,e3⟩:=hF2 rfl
   have hs0:s≤L:=by have:=HL.out;omega
   have hnp:numP 0 0 l=(0,n,l.drop s):=by rw [e1,← e3,hF1]
   have hr:=rnum_yes (most:=most) hnp
   rw [HRR.out] at hr
   clear e1 e2 e3 hF1 hF2
   by_cases hmz:most<n
   ·have v1:decide ((most:Int)<(n:Int))=true:=decide_eq_true (by omega)
    rw [if_pos hmz] at hr
    clear HRR hnp
    subst hr
    go_wp2_with fail
    go_ret
    exact ⟨rfl,⟨_,cap,l,HBY.out,⟨_,_,rfl,hbB⟩,⟨hgB,by have:=HG2.out.size;simpa using Nat.le_trans hBw this,by have:=HL.out;omega⟩,HL.out ▸ HB2.out.set1 5,HL.out ▸ byd_set (HL.out ▸ HR2.out) HB2.out ⟨_,_,_,rfl⟩,fun e=>absurd (show (5:Int)=0 from e) (by decide)⟩,grown_transP HG2.out (set_grown w3 _ _)⟩
   ·have v1:decide ((most:Int)<(n:Int))=false:=decide_eq_false (by omega)
    rw [if_neg hmz] at hr
    clear HRR hnp
    subst hr
    have hD:=byc_drop HR2.out HL.out s hs0
    go_upto_region 10 with fail
    obtain ⟨off',hra⟩:=if_addr (cap=s) b off s
    rw [hra] at hD ⊢
    have HD:=Lib.hid hD
    clear hD hra
    have HB0:=Lib.hid (HB2.out.set0 (.slice (some ⟨b,off',none⟩) (L-s) (cap-s)))
    have HD0:=Lib.hid (byd_set (g:=g) (j:=0) (u:=.slice (some ⟨b,off',none⟩) (L-s) (cap-s)) HD.out HB2.out ⟨_,_,_,rfl⟩)
    have HG0:=Lib.hid (set_grown w3 ⟨g,0,none⟩ (.slice (some ⟨b,off',none⟩) (L-s) (cap-s)))
    go_wp2_with fail
    go_ret
    have e9:(l.drop s).length=L-s:=by rw [List.length_drop,HL.out]
    exact ⟨rfl,⟨_,cap-s,l.drop s,fun c hc=>HBY.out c (List.mem_of_mem_drop hc),⟨_,_,rfl,hbB⟩,⟨hgB,by have:=HG2.out.size;simpa using Nat.le_trans hBw this,by omega⟩,by rw [e9];exact HB0.out,by rw [e9];exact HD0.out,fun _=>rfl⟩,grown_transP HG2.out HG0.out⟩
  ·have hr:RR=(0,⟨l,c⟩):=by
    rw [← HRR.out]
    exact rnum_bad (n:=(numP 0 0 l).2.1) (t:=(numP 0 0 l).2.2) (by rw [hF1]) hc
   clear HRR hF1 hF2
   subst hr
   have t0:(c == 0)=false:=by rw [beq_eq_false_iff_ne];exact hc
   have t1:(c != 0)=true:=by rw [bne_iff_ne];exact hc
   go_wp2_with fail
   go_ret
   exact ⟨rfl,⟨_,cap,l,HBY.out,⟨_,_,rfl,hbB⟩,⟨hgB,by have:=HG2.out.size;simpa using Nat.le_trans hBw this,by have:=HL.out;omega⟩,HL.out ▸ HB2.out.set1 c,HL.out ▸ byd_set (HL.out ▸ HR2.out) HB2.out ⟨_,_,_,rfl⟩,fun e=>absurd e hc⟩,grown_transP HG2.out (set_grown w3 _ _)⟩
 ·have t1:(c0 != 0)=true:=by rw [bne_iff_ne];exact hc
  have HH:=Lib.hid (show RD B w g ⟨rb,c0⟩ from ⟨_,cap,l,hb,⟨_,_,rfl,hbB⟩,⟨hgB,hBw,hcap⟩,hB,hR,hl⟩)
  rw [rnum_err (r:=⟨rb,c0⟩) hc]
  have HG:=Lib.hid (grown_self w (some g))
  clear hb hB hR hl
  go_enter Tryz.func100,Tryz.ntmps100
  go_wp2_with fail
  go_ret
  exact ⟨rfl,HH.out,HG.out⟩
theorem unsig_bits {n:Nat} (h:n<18446744073709551616):bits .xor .i64 ((n / 2:Nat):Int) (-((n % 2:Nat):Int))=unsig n:=by
 unfold unsig
 by_cases h2:n % 2=1
 ·rw [if_pos h2,h2,show (-((1:Nat):Int)) = -1 from rfl,(xor64 _).2,IntKind.wrap_i64]
  omega
 ·have h0:n % 2=0:=by omega
  rw [if_neg h2,h0,show (-((0:Nat):Int))=0 from rfl,(xor64 _).1,IntKind.wrap_i64]
  omega
theorem signed_dev (n:Nat) (w:World) (h:n<18446744073709551616) :
 Calls Tryz.prog 101 #[.int .u64 (n:Int)] w fun e w'=>e = .returned (.int .i64 (unsig n))∧w'=w:=by
 have hu:=unsig_bits h
 obtain ⟨q,hq⟩:∃ q,n / 2=q:=⟨_,rfl⟩
 obtain ⟨m,hm⟩:∃ m,n % 2=m:=⟨_,rfl⟩
 have hm1:m≤1:=by omega
 rw [hq,hm] at hu
 have t1:(n:Int) / 2=(q:Int):=by omega
 have t2:IntKind.i64.wrap (q:Int)=(q:Int):=by rw [IntKind.wrap_i64];omega
 have t3:bits .and .u64 (n:Int) 1=(m:Int):=by rw [Lib.u64_and1 _ (by omega) (by omega)];omega
 have t4:IntKind.i64.wrap (m:Int)=(m:Int):=by rw [IntKind.wrap_i64];omega
 obtain ⟨k,hk⟩:∃ k, -(m:Int)=k:=⟨_,rfl⟩
 have t5:IntKind.i64.wrap k=k:=by rw [IntKind.wrap_i64];omega
 rw [hk] at hu
 clear hq hm
 go_enter Tryz.func101,Tryz.ntmps101
 go_wp2_with fail
 go_ret
 exact ⟨rfl,rfl⟩
theorem many_c {B:Nat} {w:World} {g:Nat} {r:Rd} (h:RD B w g r) (most least:Nat) (hm:most≤2000) (hl:least≤4) :
 Calls Tryz.prog 97 #[.pointer (some ⟨g,0,none⟩),.int .i64 (most:Int),.int .i64 (least:Int)] w fun e w'=>e = .returned (.int .i64 ((rmany most least r).1:Int))∧RD B w' g (rmany most least r).2∧w.grownBy w' (some g):=by
 have K:=number_c h most (by omega)
 have hle:=rnum_le most r
 have hz:(rnum most r).2.c≠0→(rnum most r).1=0:=fun hc=>by
  unfold rnum at hc ⊢
  split
  ·rfl
  ·split
   ·rfl
   ·split
    ·rfl
    ·rename_i h1 h2 h3
     rw [if_neg h1,if_neg h2,if_neg h3] at hc
     simp at hc
 rw [rmany_dev]
 obtain ⟨q,hq⟩:∃ q,rnum most r=q:=⟨_,rfl⟩
 rw [hq] at K hle hz ⊢
 obtain ⟨n,l,c⟩:=q
 have KK:=Lib.hid K
 clear K hq h
 simp only at KK hle hz ⊢
 obtain ⟨p,hp⟩:∃ p,n * least=p:=⟨_,rfl⟩
 have hp0:p≤8000:=by
  rw [← hp]
  exact Nat.le_trans (Nat.mul_le_mul (by omega:n≤2000) hl) (by decide)
 have hp1:n=0→p=0:=fun e=>by rw [← hp,e,Nat.zero_mul]
 have t0:IntKind.u64.wrap (most:Int)=(most:Int):=by rw [IntKind.wrap_u64];omega
 have t1:(n:Int) * (least:Int)=(p:Int):=by rw [← hp];simp
 have t2:IntKind.i64.wrap (p:Int)=(p:Int):=by rw [IntKind.wrap_i64];omega
 have t9:IntKind.i64.wrap (n:Int)=(n:Int):=by rw [IntKind.wrap_i64];omega
 rw [hp]
 obtain ⟨RR,hRR⟩:∃ R:Nat × Rd,(if c=0∧l.length<p then (0,⟨l,3⟩) else (n,⟨l,c⟩))=R:=⟨_,rfl⟩
 rw [hRR]
 have HRR:=Lib.hid hRR
 clear hp hRR
 have HZ:=Lib.hid hz
 have HP1:=Lib.hid hp1
 clear hz hp1
 go_enter Tryz.func97,Tryz.ntmps97
 go_upto_region 2 with (go_at_call 100;refine KK.out.mono ?_;rintro e w2 ⟨rfl,⟨ad,cap,l2,b2,⟨b,off,rfl,hbB⟩,⟨hgB,hBw,hcap⟩,o2,o3,o4⟩,h2⟩;have O2:=Lib.hid o2;have O3:=Lib.hid o3;have O4:=Lib.hid o4;have B2:=Lib.hid b2;have H2:=Lib.hid h2;have hml:l2.length≤9223372036854775807:=o3.form.elim fun _ ⟨_,_,h⟩=>h;clear o2 o3 o4 b2 h2)
 obtain ⟨L,hL⟩:∃ L,l2.length=L:=⟨_,rfl⟩
 have HL:=Lib.hid hL
 rw [hL] at O2 O3 hml hcap
 have x0:=O2.out.cell0
 have x1:=O2.out.cell1
 have f1:=O2.out.frozen 1
 have sz:=O2.out.size
 clear hL KK
 by_cases hlp:L<p
 ·have hc:c=0:=by
   by_cases hc:c=0
   ·exact hc
   ·have:=HP1.out (HZ.out hc);omega
  subst hc
  have hll:l.length<p:=by
   have h1:l2=l:=O4.out rfl
   have h2:=HL.out
   rw [h1] at h2
   omega
  have t4:decide ((L:Int)<(p:Int))=true:=decide_eq_true (by omega)
  have hr:RR=(0,⟨l,3⟩):=by rw [← HRR.out];exact if_pos ⟨rfl,hll⟩
  clear HRR
  subst hr
  go_wp2_with fail
  go_ret
  exact ⟨rfl,⟨_,cap,l2,B2.out,⟨_,_,rfl,hbB⟩,⟨hgB,by simpa using hBw,by have:=HL.out;omega⟩,HL.out ▸ O2.out.set1 3,HL.out ▸ byd_set (HL.out ▸ O3.out) O2.out ⟨_,_,_,rfl⟩,fun e=>absurd (show (3:Int)=0 from e) (by decide)⟩,grown_transP H2.out (set_grown _ _ _)⟩
 ·have t4:decide ((L:Int)<(p:Int))=false:=decide_eq_false (by omega)
  have hr:RR=(n,⟨l,c⟩):=by
   rw [← HRR.out]
   refine if_neg fun e=>hlp ?_
   have h1:l2=l:=O4.out e.1
   have h2:=HL.out
   have h3:=e.2
   rw [h1] at h2
   omega
  clear HRR
  subst hr
  go_wp2_with fail
  go_ret
  exact ⟨rfl,⟨_,cap,l2,B2.out,⟨_,_,rfl,hbB⟩,⟨hgB,hBw,by have:=HL.out;omega⟩,HL.out ▸ O2.out,HL.out ▸ O3.out,O4.out⟩,H2.out⟩
theorem codeR_c {B:Nat} {w:World} {g:Nat} {r:Rd} (h:RD B w g r) :
 Calls Tryz.prog 98 #[.pointer (some ⟨g,0,none⟩)] w fun e w'=>e = .returned (.int .u32 ((rnum 999999 r).1:Int))∧RD B w' g (rnum 999999 r).2∧w.grownBy w' (some g):=by
 have K:=number_c h 999999 (by omega)
 have hle:=rnum_le 999999 r
 obtain ⟨q,hq⟩:∃ q,rnum 999999 r=q:=⟨_,rfl⟩
 rw [hq] at K hle ⊢
 obtain ⟨n,r'⟩:=q
 have KK:=Lib.hid K
 simp only at KK hle ⊢
 have t9:IntKind.u32.wrap (n:Int)=(n:Int):=by rw [IntKind.wrap_u32];omega
 clear K hq h
 go_enter Tryz.func98,Tryz.ntmps98
 go_wp2_with (go_at_call 100;refine KK.out.mono ?_;rintro e w2 ⟨rfl,o2,h2⟩;have O2:=Lib.hid o2;have H2:=Lib.hid h2;clear o2 h2)
 go_ret
 exact ⟨rfl,O2.out,H2.out⟩
theorem entityR_c {B:Nat} {w:World} {g:Nat} {r:Rd} (h:RD B w g r) :
 Calls Tryz.prog 64 #[.pointer (some ⟨g,0,none⟩)] w fun e w'=>e = .returned (.int .u16 ((rnum 999 r).1:Int))∧RD B w' g (rnum 999 r).2∧w.grownBy w' (some g):=by
 have K:=number_c h 999 (by omega)
 have hle:=rnum_le 999 r
 obtain ⟨q,hq⟩:∃ q,rnum 999 r=q:=⟨_,rfl⟩
 rw [hq] at K hle ⊢
 obtain ⟨n,r'⟩:=q
 have KK:=Lib.hid K
 simp only at KK hle ⊢
 have t9:IntKind.u16.wrap (n:Int)=(n:Int):=by rw [IntKind.wrap_u16];omega
 clear K hq h
 go_enter Tryz.func64,Tryz.ntmps64
 go_wp2_with (go_at_call 100;refine KK.out.mono ?_;rintro e w2 ⟨rfl,o2,h2⟩;have O2:=Lib.hid o2;have H2:=Lib.hid h2;clear o2 h2)
 go_ret
 exact ⟨rfl,O2.out,H2.out⟩
theorem dayR_c {B:Nat} {w:World} {g:Nat} {r:Rd} (h:RD B w g r) :
 Calls Tryz.prog 66 #[.pointer (some ⟨g,0,none⟩)] w fun e w'=>∃ y:Int,e = .returned (.int .i32 y)∧(-2147483648≤y∧y≤2147483647)∧RD B w' g (rday r).2∧((rday r).2.c=0→y=(rday r).1)∧w.grownBy w' (some g):=by
 have K:=number_c h 4294967295 (by omega)
 have hle:=rnum_le 4294967295 r
 obtain ⟨d1,d2⟩:=rday_dev r
 obtain ⟨q,hq⟩:∃ q,rnum 4294967295 r=q:=⟨_,rfl⟩
 rw [hq] at K hle d1 d2
 obtain ⟨n,r'⟩:=q
 have KK:=Lib.hid K
 have D1:=Lib.hid d1
 have D2:=Lib.hid d2
 simp only at KK hle D1 D2
 have KS:=Lib.hid (fun w'=>signed_dev n w' (by omega))
 obtain ⟨y,hy⟩:∃ y,unsig n=y:=⟨_,rfl⟩
 have hy2 : -2147483648≤y∧y≤2147483647:=by rw [← hy];unfold unsig;split <;> omega
 have t9:IntKind.i32.wrap y=y:=by rw [IntKind.wrap_i32];omega
 rw [hy] at KS D2
 clear K hq h d1 d2 hy
 go_enter Tryz.func66,Tryz.ntmps66
 go_wp2_with (first
  | (go_at_call 101;refine (KS.out _).mono ?_;rintro e w3 ⟨rfl,rfl⟩)
  | (go_at_call 100;refine KK.out.mono ?_;rintro e w2 ⟨rfl,o2,h2⟩;have O2:=Lib.hid o2;have H2:=Lib.hid h2;clear o2 h2))
 go_ret
 exact ⟨y,rfl,hy2,O2.out.err D1.out.symm (fun e=>(D2.out (D1.out ▸ e)).1.symm),fun e=>(D2.out (D1.out ▸ e)).2.symm,H2.out⟩
theorem name_of {P:Program} (w:World) (src e dst:TypeId) (hs:P.underlying src=some (.slice e)) (he:P.underlying e=some (.int .u8)) (hd:P.underlying dst=some .string) {b off cap:Nat} {l:List Nat} (hR:Recs byc 1 w (.slice (some ⟨b,off,none⟩) l.length cap) l) (hb:∀ c ∈ l,c<256) (n:Nat) (hn:n≤l.length) :
 (convert src dst (.slice (some ⟨b,off,none⟩) n cap)).run P w = .ok (.string (nameOf (l.take n))) w:=by
 have hsz:(nameOf (l.take n)).size=n:=by rw [nameOf_size,List.length_take];omega
 have h:=Lib.run_convert_whole (P:=P) w src e dst hs he hd b off (nameOf (l.take n)) (fun i hi=>by
  rw [hsz] at hi
  have hl:i<l.length:=by omega
  have e1:l[i]?=some l[i]:=List.getElem?_eq_getElem hl
  have h1:=recs_flat byc_len (by decide) hR i (.int .u8 (l[i]:Int)) (by rw [flat_byc,List.getElem?_map,e1];rfl)
  rw [h1]
  have h2:(nameOf (l.take n)).data[i]?=some (UInt8.ofNat l[i]):=by
   unfold nameOf
   simp [List.getElem?_take,hi,e1]
  have h3:(nameOf (l.take n))[i]'(by rw [hsz];exact hi)=UInt8.ofNat l[i]:=by
   have h4:=(Array.getElem?_eq_some_iff.1 h2).2
   exact h4
  rw [h3]
  have:=hb l[i] (List.getElem_mem hl)
  have e5:(UInt8.ofNat l[i]).toNat=l[i]:=by simp [UInt8.toNat_ofNat'];omega
  rw [e5]) cap
 rw [hsz] at h
 exact h
theorem rmany_in (most least:Nat) (hl:0<least) (r:Rd):((rmany most least r).2.c=0→(rmany most least r).1≤(rmany most least r).2.b.length)∧((rmany most least r).2.c≠0→(rmany most least r).1=0):=by
 unfold rmany
 split
 ·exact ⟨fun _=>Nat.zero_le _,fun _=>rfl⟩
 ·rename_i h1
  split
  ·exact ⟨fun _=>Nat.zero_le _,fun _=>rfl⟩
  ·rename_i h2
   refine ⟨fun h3=>?_,fun h3=>absurd h3 h2⟩
   have h4:¬ (rnum most r).2.b.length<(rnum most r).1 * least:=fun e=>h1 ⟨h3,e⟩
   have h5:(rnum most r).1 * 1≤(rnum most r).1 * least:=Nat.mul_le_mul_left _ hl
   omega
theorem nameR_c {B:Nat} {w:World} {g:Nat} {r:Rd} (h:RD B w g r) :
 Calls Tryz.prog 99 #[.pointer (some ⟨g,0,none⟩)] w fun e w'=>e = .returned (.string (rname r).1)∧RD B w' g (rname r).2∧w.grownBy w' (some g):=by
 have K:=many_c h 30 1 (by omega) (by omega)
 obtain ⟨hm1,hm2⟩:=rmany_in 30 1 (by omega) r
 have hle:=rmany_le 30 1 r
 unfold rname
 obtain ⟨q,hq⟩:∃ q,rmany 30 1 r=q:=⟨_,rfl⟩
 rw [hq] at K hm1 hm2 hle ⊢
 obtain ⟨n,l,c⟩:=q
 have KK:=Lib.hid K
 have HM1:=Lib.hid hm1
 have HM2:=Lib.hid hm2
 simp only at KK HM1 HM2 hle ⊢
 obtain ⟨NM,hNM⟩:∃ s,nameOf (l.take n)=s:=⟨_,rfl⟩
 obtain ⟨DL,hDL⟩:∃ s,l.drop n=s:=⟨_,rfl⟩
 rw [hNM,hDL]
 have HNM:=Lib.hid hNM
 have HDL:=Lib.hid hDL
 clear K hq h hm1 hm2 hNM hDL
 go_enter Tryz.func99,Tryz.ntmps99
 go_upto_region 2 with (go_at_call 97;refine KK.out.mono ?_;rintro e w2 ⟨rfl,⟨ad,cap,l2,b2,⟨b,off,rfl,hbB⟩,⟨hgB,hBw,hcap⟩,o2,o3,o4⟩,h2⟩;have O2:=Lib.hid o2;have O3:=Lib.hid o3;have O4:=Lib.hid o4;have B2:=Lib.hid b2;have H2:=Lib.hid h2;have hml:l2.length≤9223372036854775807:=o3.form.elim fun _ ⟨_,_,h⟩=>h;clear o2 o3 o4 b2 h2)
 rename World=>w3
 have hn2:n≤l2.length:=by
  by_cases hc:c=0
  ·have h1:l2=l:=O4.out hc
   rw [h1]
   exact HM1.out hc
  ·have:=HM2.out hc
   omega
 have htk:l2.take n=l.take n∧(c=0→l2.drop n=l.drop n):=by
  by_cases hc:c=0
  ·have h1:l2=l:=O4.out hc
   rw [h1]
   exact ⟨rfl,fun _=>rfl⟩
  ·have:=HM2.out hc
   subst this
   exact ⟨rfl,fun e=>absurd e hc⟩
 have hcv:=name_of (P:=Tryz.prog) w3 25 5 9 rfl rfl rfl O3.out B2.out n hn2
 rw [htk.1,HNM.out] at hcv
 have HTK:=Lib.hid (fun e=>(htk.2 e).trans HDL.out)
 obtain ⟨L,hL⟩:∃ L,l2.length=L:=⟨_,rfl⟩
 have HL:=Lib.hid hL
 rw [hL] at O2 O3 hml hcap hn2
 have x0:=O2.out.cell0
 have x1:=O2.out.cell1
 have f0:=O2.out.frozen 0
 have sz:=O2.out.size
 have hD:=byc_drop O3.out HL.out n hn2
 clear hL KK htk HNM HDL HM1 HM2 O4
 go_upto_region 4 with fail
 obtain ⟨off',hra⟩:=if_addr (cap=n) b off n
 rw [hra] at hD ⊢
 have HD:=Lib.hid hD
 clear hD hra
 have HB0:=Lib.hid (O2.out.set0 (.slice (some ⟨b,off',none⟩) (L-n) (cap-n)))
 have HD0:=Lib.hid (byd_set (g:=g) (j:=0) (u:=.slice (some ⟨b,off',none⟩) (L-n) (cap-n)) HD.out O2.out ⟨_,_,_,rfl⟩)
 have HG0:=Lib.hid (set_grown w3 ⟨g,0,none⟩ (.slice (some ⟨b,off',none⟩) (L-n) (cap-n)))
 go_wp2_with fail
 go_ret
 have e9:(l2.drop n).length=L-n:=by rw [List.length_drop,HL.out]
 exact ⟨rfl,⟨_,cap-n,l2.drop n,fun c hc=>B2.out c (List.mem_of_mem_drop hc),⟨_,_,rfl,hbB⟩,⟨hgB,by simpa using hBw,by omega⟩,by rw [e9];exact HB0.out,by rw [e9];exact HD0.out,HTK.out⟩,grown_transP H2.out HG0.out⟩
theorem grown_setP {w w':World} {row:Option Nat} (h:w.grownBy w' row) {X j:Nat} (u:Value) (hX:w.heap.size≤X):w.grownBy (w'.setCell ⟨X,j,none⟩ u) row :=
 ⟨h.os,h.tape,h.output,by simpa using h.size,fun k hk hr=>by rw [heap_setCell_other w' ⟨X,j,none⟩ k u (by show k≠X;omega)];exact h.block k hk hr⟩
theorem grown_allocP {w w':World} {row:Option Nat} (h:w.grownBy w' row) (o:Obj):w.grownBy (w'.alloc o) row :=
 ⟨h.os,h.tape,h.output,by have:=h.size;simp;omega,fun k hk hr=>by rw [heap_alloc_old w' o (Nat.lt_of_lt_of_le hk h.size)];exact h.block k hk hr⟩
structure AM (B X g:Nat) (w W:World) (T:TypeId) (rs cs:List Value) (r:Rd):Prop where
 x:X=w.heap.size
 lt:B≤X
 res:HBox W X rs T
 box:HBox W (X+1) cs T
 rd:RD B W g r
 gr:w.grownBy W (some g)
theorem AM.start {B g:Nat} {w:World} {r:Rd} (h:RD B w g r) (T:TypeId) (rs cs:List Value):AM B w.heap.size g w ((w.alloc (.cells rs.toArray T)).alloc (.cells cs.toArray T)) T rs cs r:=by
 have hB:=h.lt.2
 have hs:(w.alloc (.cells rs.toArray T)).heap.size=w.heap.size+1:=by simp
 have b1:Below B w (w.alloc (.cells rs.toArray T)):=(Below.refl B w).alloc hB _
 have b2:Below B w ((w.alloc (.cells rs.toArray T)).alloc (.cells cs.toArray T)):=b1.alloc (by omega) _
 refine ⟨rfl,hB,(HBox.new w rs T).alloc _,?_,h.stay b2,grown_allocP (grown_allocP (grown_self w _) _) _⟩
 have:=HBox.new (w.alloc (.cells rs.toArray T)) cs T
 rw [hs] at this
 exact this
theorem AM.call {B X g:Nat} {w W W':World} {T:TypeId} {rs cs:List Value} {r r':Rd} (h:AM B X g w W T rs cs r) (hr:RD B W' g r') (hg:W.grownBy W' (some g)):AM B X g w W' T rs cs r':=by
 have hgB:=h.rd.lt.1
 have hl:=h.lt
 exact ⟨h.x,hl,h.res.grown hg (fun e:some X=some g=>by have:=Option.some.inj e;omega),h.box.grown hg (fun e:some (X+1)=some g=>absurd (Option.some.inj e:X+1=g) (by omega)),hr,grown_transP h.gr hg⟩
theorem AM.set {B X g:Nat} {w W:World} {T:TypeId} {rs cs:List Value} {r:Rd} (h:AM B X g w W T rs cs r) (j:Nat) (u:Value):AM B X g w (W.setCell ⟨X+1,j,none⟩ u) T rs (cs.set j u) r:=by
 have hl:=h.lt
 have hx:=h.x
 have hB:=h.rd.lt.2
 exact ⟨hx,hl,h.res.grown (set_grown W ⟨X+1,j,none⟩ u) (fun e:some X=some (X+1)=>by have:=Option.some.inj e;omega),h.box.set j u,h.rd.stay ((Below.refl B W).grown (set_grown W ⟨X+1,j,none⟩ u) hB (fun k hk=>by cases hk;show B≤X+1;omega)),grown_setP h.gr u (by omega)⟩
theorem AM.setr {B X g:Nat} {w W:World} {T:TypeId} {rs cs:List Value} {r:Rd} (h:AM B X g w W T rs cs r) (j:Nat) (u:Value):AM B X g w (W.setCell ⟨X,j,none⟩ u) T (rs.set j u) cs r:=by
 have hl:=h.lt
 have hx:=h.x
 have hB:=h.rd.lt.2
 exact ⟨hx,hl,h.res.set j u,h.box.grown (set_grown W ⟨X,j,none⟩ u) (fun e:some (X+1)=some X=>by have:=Option.some.inj e;omega),h.rd.stay ((Below.refl B W).grown (set_grown W ⟨X,j,none⟩ u) hB (fun k hk=>by cases hk;show B≤X;omega)),grown_setP h.gr u (by omega)⟩
theorem accountR_c {B:Nat} {w:World} {g:Nat} {r:Rd} (h:RD B w g r) :
 Calls Tryz.prog 62 #[.pointer (some ⟨g,0,none⟩)] w fun e w'=>e = .returned (.agg #[.int .u32 ((racc r).1.code:Int),.string (racc r).1.name,.int .u8 ((racc r).1.kind:Int),.int .u32 ((racc r).1.par:Int)])∧RD B w' g (racc r).2∧w.grownBy w' (some g):=by
 have hn1:=rnum_le 999999 r
 obtain ⟨n1,h1⟩:∃ q,(rnum 999999 r).1=q:=⟨_,rfl⟩
 obtain ⟨r1,g1⟩:∃ q,(rnum 999999 r).2=q:=⟨_,rfl⟩
 have hn2:(rname r1).1.size≤30:=by
  unfold rname
  rw [nameOf_size,List.length_take]
  have:=rmany_le 30 1 r1
  omega
 obtain ⟨nm,h2⟩:∃ q,(rname r1).1=q:=⟨_,rfl⟩
 obtain ⟨r2,g2⟩:∃ q,(rname r1).2=q:=⟨_,rfl⟩
 have hn3:=rnum_le 255 r2
 obtain ⟨n3,h3⟩:∃ q,(rnum 255 r2).1=q:=⟨_,rfl⟩
 obtain ⟨r3,g3⟩:∃ q,(rnum 255 r2).2=q:=⟨_,rfl⟩
 have hn4:=rnum_le 999999 r3
 obtain ⟨n4,h4⟩:∃ q,(rnum 999999 r3).1=q:=⟨_,rfl⟩
 obtain ⟨r4,g4⟩:∃ q,(rnum 999999 r3).2=q:=⟨_,rfl⟩
 have e:racc r=(mkAc (n1,nm,n3,n4),r4):=by
  show (mkAc ((rnum 999999 r).1,(rname (rnum 999999 r).2).1,(rnum 255 (rname (rnum 999999 r).2).2).1,(rnum 999999 (rnum 255 (rname (rnum 999999 r).2).2).2).1),(rnum 999999 (rnum 255 (rname (rnum 999999 r).2).2).2).2)=_
  rw [h1,g1,h2,g2,h3,g3,h4,g4]
 rw [h1] at hn1
 rw [h2] at hn2
 rw [h3] at hn3
 rw [h4] at hn4
 have e1:(mkAc (n1,nm,n3,n4)).code=n1:=(show n1 % 4294967296=n1 from Nat.mod_eq_of_lt (by omega))
 have e2:(mkAc (n1,nm,n3,n4)).name=nm:=capN_small hn2
 have e3:(mkAc (n1,nm,n3,n4)).kind=n3:=(show n3 % 256=n3 from Nat.mod_eq_of_lt (by omega))
 have e4:(mkAc (n1,nm,n3,n4)).par=n4:=(show n4 % 4294967296=n4 from Nat.mod_eq_of_lt (by omega))
 rw [e]
 simp only [e1,e2,e3,e4]
 have K1:=Lib.hid (fun (W:World) (hW:RD B W g r)=>codeR_c hW)
 have K2:=Lib.hid (fun (W:World) (hW:RD B W g r1)=>nameR_c hW)
 have K3:=Lib.hid (fun (W:World) (hW:RD B W g r2)=>number_c hW 255 (by omega))
 have K4:=Lib.hid (fun (W:World) (hW:RD B W g r3)=>codeR_c hW)
 rw [h1,g1] at K1
 rw [h2,g2] at K2
 rw [h3,g3] at K3
 rw [h4,g4] at K4
 have t1:IntKind.u8.wrap (n3:Int)=(n3:Int):=by rw [IntKind.wrap_u8];omega
 have HA:=Lib.hid (AM.start h 76 [.int .u32 0,.string ⟨#[]⟩,.int .u8 0,.int .u32 0] [.int .u32 0,.string ⟨#[]⟩,.int .u8 0,.int .u32 0])
 clear h h1 g1 h2 g2 h3 g3 h4 g4 e e1 e2 e3 e4
 go_enter Tryz.func62,Tryz.ntmps62
 go_upto_region 2 with fail
 obtain ⟨X,hX⟩:∃ X,w.heap.size=X:=⟨_,rfl⟩
 rw [hX] at HA ⊢
 clear hX
 generalize (w.alloc (.cells #[.int .u32 0,.string ⟨#[]⟩,.int .u8 0,.int .u32 0] 76)).alloc (.cells #[.int .u32 0,.string ⟨#[]⟩,.int .u8 0,.int .u32 0] 76)=W0 at HA ⊢
 go_upto_region 3 with (go_at_call 98;refine (K1.out _ HA.out.rd).mono ?_;rintro e w2 ⟨rfl,o2,h2⟩;have HA2:=Lib.hid (HA.out.call o2 h2);have f2:=HA2.out.box.frozen 0;have s2:=HA2.out.box.size;have x2:=HA2.out.box.cell (j:=0) rfl;clear o2 h2)
 have HA3:=Lib.hid (HA2.out.set 0 (.int .u32 (n1:Int)))
 clear HA HA2 f2 s2 x2
 have HA:=HA3
 clear HA3
 simp only [List.set_cons_zero,List.set_cons_succ] at HA
 generalize w2.setCell ⟨X+1,0,none⟩ (.int .u32 (n1:Int))=W1 at HA ⊢
 go_upto_region 4 with (go_at_call 99;refine (K2.out _ HA.out.rd).mono ?_;rintro e w2 ⟨rfl,o2,h2⟩;have HA2:=Lib.hid (HA.out.call o2 h2);have f2:=HA2.out.box.frozen 1;have s2:=HA2.out.box.size;have x2:=HA2.out.box.cell (j:=1) rfl;clear o2 h2)
 have HA3:=Lib.hid (HA2.out.set 1 (.string nm))
 clear HA HA2 f2 s2 x2
 have HA:=HA3
 clear HA3
 simp only [List.set_cons_zero,List.set_cons_succ] at HA
 generalize w2.setCell ⟨X+1,1,none⟩ (.string nm)=W2 at HA ⊢
 go_upto_region 5 with (go_at_call 100;refine (K3.out _ HA.out.rd).mono ?_;rintro e w2 ⟨rfl,o2,h2⟩;have HA2:=Lib.hid (HA.out.call o2 h2);have f2:=HA2.out.box.frozen 2;have s2:=HA2.out.box.size;have x2:=HA2.out.box.cell (j:=2) rfl;clear o2 h2)
 have HA3:=Lib.hid (HA2.out.set 2 (.int .u8 (n3:Int)))
 clear HA HA2 f2 s2 x2
 have HA:=HA3
 clear HA3
 simp only [List.set_cons_zero,List.set_cons_succ] at HA
 generalize w2.setCell ⟨X+1,2,none⟩ (.int .u8 (n3:Int))=W3 at HA ⊢
 go_upto_region 6 with (go_at_call 98;refine (K4.out _ HA.out.rd).mono ?_;rintro e w2 ⟨rfl,o2,h2⟩;have HA2:=Lib.hid (HA.out.call o2 h2);have f2:=HA2.out.box.frozen 3;have s2:=HA2.out.box.size;have x2:=HA2.out.box.cell (j:=3) rfl;clear o2 h2)
 have HA3:=Lib.hid (HA2.out.set 3 (.int .u32 (n4:Int)))
 clear HA HA2 f2 s2 x2
 have HA:=HA3
 clear HA3
 simp only [List.set_cons_zero,List.set_cons_succ] at HA
 generalize w2.setCell ⟨X+1,3,none⟩ (.int .u32 (n4:Int))=W4 at HA ⊢
 have z0:=HA.out.box.cell (j:=0) rfl
 have z1:=HA.out.box.cell (j:=1) rfl
 have z2:=HA.out.box.cell (j:=2) rfl
 have z3:=HA.out.box.cell (j:=3) rfl
 have y0:=HA.out.res.cell (j:=0) rfl
 have f0:=HA.out.res.frozen 0
 have y1:=HA.out.res.cell (j:=1) rfl
 have f1:=HA.out.res.frozen 1
 have y2:=HA.out.res.cell (j:=2) rfl
 have f2:=HA.out.res.frozen 2
 have y3:=HA.out.res.cell (j:=3) rfl
 have f3:=HA.out.res.frozen 3
 have hs:=HA.out.res.size
 have HR:=Lib.hid ((((HA.out.setr 0 (.int .u32 (n1:Int))).setr 1 (.string nm)).setr 2 (.int .u8 (n3:Int))).setr 3 (.int .u32 (n4:Int)))
 simp only [List.set_cons_zero,List.set_cons_succ] at HR
 go_wp2_with fail
 have a0:=HR.out.res.cell (j:=0) rfl
 have a1:=HR.out.res.cell (j:=1) rfl
 have a2:=HR.out.res.cell (j:=2) rfl
 have a3:=HR.out.res.cell (j:=3) rfl
 refine bodyPost_ret (v:=.agg #[(.int .u32 (n1:Int)),(.string nm),(.int .u8 (n3:Int)),(.int .u32 (n4:Int))]) (by simp [results,Tryz.results62,go_sem,a0,a1,a2,a3]) rfl ?_
 exact ⟨rfl,HR.out.rd,HR.out.gr⟩
theorem lineR_c {B:Nat} {w:World} {g:Nat} {r:Rd} (h:RD B w g r) :
 Calls Tryz.prog 103 #[.pointer (some ⟨g,0,none⟩)] w fun e w'=>e = .returned (.agg #[.int .u32 ((rline r).1.acc:Int),.int .u16 ((rline r).1.ent.n:Int),.int .u16 ((rline r).1.ctr:Int),.int .i64 (rline r).1.amt])∧RD B w' g (rline r).2∧w.grownBy w' (some g):=by
 have hn1:=rnum_le 999999 r
 obtain ⟨n1,h1⟩:∃ q,(rnum 999999 r).1=q:=⟨_,rfl⟩
 obtain ⟨r1,g1⟩:∃ q,(rnum 999999 r).2=q:=⟨_,rfl⟩
 have hn2:=rnum_le 999 r1
 obtain ⟨n2,h2⟩:∃ q,(rnum 999 r1).1=q:=⟨_,rfl⟩
 obtain ⟨r2,g2⟩:∃ q,(rnum 999 r1).2=q:=⟨_,rfl⟩
 have hn3:=rnum_le 999 r2
 obtain ⟨n3,h3⟩:∃ q,(rnum 999 r2).1=q:=⟨_,rfl⟩
 obtain ⟨r3,g3⟩:∃ q,(rnum 999 r2).2=q:=⟨_,rfl⟩
 have hn4:=rnum_le 18446744073709551615 r3
 obtain ⟨n4,h4⟩:∃ q,(rnum 18446744073709551615 r3).1=q:=⟨_,rfl⟩
 obtain ⟨r4,g4⟩:∃ q,(rnum 18446744073709551615 r3).2=q:=⟨_,rfl⟩
 have e:rline r=(mkLn (n1,n2,n3,unsig n4),r4):=by
  show (mkLn ((rnum 999999 r).1,(rnum 999 (rnum 999999 r).2).1,(rnum 999 (rnum 999 (rnum 999999 r).2).2).1,unsig (rnum 18446744073709551615 (rnum 999 (rnum 999 (rnum 999999 r).2).2).2).1),(rnum 18446744073709551615 (rnum 999 (rnum 999 (rnum 999999 r).2).2).2).2)=_
  rw [h1,g1,h2,g2,h3,g3,h4,g4]
 rw [h1] at hn1
 rw [h2] at hn2
 rw [h3] at hn3
 rw [h4] at hn4
 have hu:=unsig_in hn4
 have e1:(mkLn (n1,n2,n3,unsig n4)).acc=n1:=(show n1 % 4294967296=n1 from Nat.mod_eq_of_lt (by omega))
 have e2:(mkLn (n1,n2,n3,unsig n4)).ent.n=n2:=(show n2 % 65536=n2 from Nat.mod_eq_of_lt (by omega))
 have e3:(mkLn (n1,n2,n3,unsig n4)).ctr=n3:=(show n3 % 65536=n3 from Nat.mod_eq_of_lt (by omega))
 have e4:(mkLn (n1,n2,n3,unsig n4)).amt=unsig n4:=(show IntKind.i64.wrap (unsig n4)=unsig n4 by rw [IntKind.wrap_i64];omega)
 rw [e]
 simp only [e1,e2,e3,e4]
 have K1:=Lib.hid (fun (W:World) (hW:RD B W g r)=>codeR_c hW)
 have K2:=Lib.hid (fun (W:World) (hW:RD B W g r1)=>entityR_c hW)
 have K3:=Lib.hid (fun (W:World) (hW:RD B W g r2)=>entityR_c hW)
 have K4:=Lib.hid (fun (W:World) (hW:RD B W g r3)=>number_c hW 18446744073709551615 (by omega))
 have K5:=Lib.hid (fun (W:World)=>signed_dev n4 W (by omega))
 rw [h1,g1] at K1
 rw [h2,g2] at K2
 rw [h3,g3] at K3
 rw [h4,g4] at K4
 obtain ⟨z,hz⟩:∃ z,unsig n4=z:=⟨_,rfl⟩
 rw [hz] at K5 ⊢
 have HA:=Lib.hid (AM.start h 89 [.int .u32 0,.int .u16 0,.int .u16 0,.int .i64 0] [.int .u32 0,.int .u16 0,.int .u16 0,.int .i64 0])
 clear h h1 g1 h2 g2 h3 g3 h4 g4 e e1 e2 e3 e4 hu hz
 go_enter Tryz.func103,Tryz.ntmps103
 go_upto_region 2 with fail
 obtain ⟨X,hX⟩:∃ X,w.heap.size=X:=⟨_,rfl⟩
 rw [hX] at HA ⊢
 clear hX
 generalize (w.alloc (.cells #[.int .u32 0,.int .u16 0,.int .u16 0,.int .i64 0] 89)).alloc (.cells #[.int .u32 0,.int .u16 0,.int .u16 0,.int .i64 0] 89)=W0 at HA ⊢
 go_upto_region 3 with (go_at_call 98;refine (K1.out _ HA.out.rd).mono ?_;rintro e w2 ⟨rfl,o2,h2⟩;have HA2:=Lib.hid (HA.out.call o2 h2);have f2:=HA2.out.box.frozen 0;have s2:=HA2.out.box.size;have x2:=HA2.out.box.cell (j:=0) rfl;clear o2 h2)
 have HA3:=Lib.hid (HA2.out.set 0 (.int .u32 (n1:Int)))
 clear HA HA2 f2 s2 x2
 have HA:=HA3
 clear HA3
 simp only [List.set_cons_zero,List.set_cons_succ] at HA
 generalize w2.setCell ⟨X+1,0,none⟩ (.int .u32 (n1:Int))=W1 at HA ⊢
 go_upto_region 4 with (go_at_call 64;refine (K2.out _ HA.out.rd).mono ?_;rintro e w2 ⟨rfl,o2,h2⟩;have HA2:=Lib.hid (HA.out.call o2 h2);have f2:=HA2.out.box.frozen 1;have s2:=HA2.out.box.size;have x2:=HA2.out.box.cell (j:=1) rfl;clear o2 h2)
 have HA3:=Lib.hid (HA2.out.set 1 (.int .u16 (n2:Int)))
 clear HA HA2 f2 s2 x2
 have HA:=HA3
 clear HA3
 simp only [List.set_cons_zero,List.set_cons_succ] at HA
 generalize w2.setCell ⟨X+1,1,none⟩ (.int .u16 (n2:Int))=W2 at HA ⊢
 go_upto_region 5 with (go_at_call 64;refine (K3.out _ HA.out.rd).mono ?_;rintro e w2 ⟨rfl,o2,h2⟩;have HA2:=Lib.hid (HA.out.call o2 h2);have f2:=HA2.out.box.frozen 2;have s2:=HA2.out.box.size;have x2:=HA2.out.box.cell (j:=2) rfl;clear o2 h2)
 have HA3:=Lib.hid (HA2.out.set 2 (.int .u16 (n3:Int)))
 clear HA HA2 f2 s2 x2
 have HA:=HA3
 clear HA3
 simp only [List.set_cons_zero,List.set_cons_succ] at HA
 generalize w2.setCell ⟨X+1,2,none⟩ (.int .u16 (n3:Int))=W3 at HA ⊢
 go_upto_region 6 with (first | (go_at_call 101;refine (K5.out _).mono ?_;rintro e w3 ⟨rfl,rfl⟩) | (go_at_call 100;refine (K4.out _ HA.out.rd).mono ?_;rintro e w2 ⟨rfl,o2,h2⟩;have HA2:=Lib.hid (HA.out.call o2 h2);have f2:=HA2.out.box.frozen 3;have s2:=HA2.out.box.size;have x2:=HA2.out.box.cell (j:=3) rfl;clear o2 h2))
 have HA3:=Lib.hid (HA2.out.set 3 (.int .i64 z))
 clear HA HA2 f2 s2 x2
 have HA:=HA3
 clear HA3
 simp only [List.set_cons_zero,List.set_cons_succ] at HA
 generalize w2.setCell ⟨X+1,3,none⟩ (.int .i64 z)=W4 at HA ⊢
 have z0:=HA.out.box.cell (j:=0) rfl
 have z1:=HA.out.box.cell (j:=1) rfl
 have z2:=HA.out.box.cell (j:=2) rfl
 have z3:=HA.out.box.cell (j:=3) rfl
 have y0:=HA.out.res.cell (j:=0) rfl
 have f0:=HA.out.res.frozen 0
 have y1:=HA.out.res.cell (j:=1) rfl
 have f1:=HA.out.res.frozen 1
 have y2:=HA.out.res.cell (j:=2) rfl
 have f2:=HA.out.res.frozen 2
 have y3:=HA.out.res.cell (j:=3) rfl
 have f3:=HA.out.res.frozen 3
 have hs:=HA.out.res.size
 have HR:=Lib.hid ((((HA.out.setr 0 (.int .u32 (n1:Int))).setr 1 (.int .u16 (n2:Int))).setr 2 (.int .u16 (n3:Int))).setr 3 (.int .i64 z))
 simp only [List.set_cons_zero,List.set_cons_succ] at HR
 go_wp2_with fail
 have a0:=HR.out.res.cell (j:=0) rfl
 have a1:=HR.out.res.cell (j:=1) rfl
 have a2:=HR.out.res.cell (j:=2) rfl
 have a3:=HR.out.res.cell (j:=3) rfl
 refine bodyPost_ret (v:=.agg #[(.int .u32 (n1:Int)),(.int .u16 (n2:Int)),(.int .u16 (n3:Int)),(.int .i64 z)]) (by simp [results,Tryz.results103,go_sem,a0,a1,a2,a3]) rfl ?_
 exact ⟨rfl,HR.out.rd,HR.out.gr⟩
theorem range_one (z:List Value):(List.range z.length).map (fun j=>z.toArray[j % z.length]!)=z:=by
 refine List.ext_getElem (by simp) fun i h1 h2=>?_
 have hi:i<z.length:=h2
 simp only [List.getElem_map,List.getElem_range]
 rw [Nat.mod_eq_of_lt hi]
 simp [hi]
theorem made_flat (z:List Value) (n:Nat):(madeCells z.toArray (n * z.length)).toList=(List.replicate n ()).flatMap (fun _=>z):=by
 unfold madeCells
 rw [Array.toList_map,Array.toList_range]
 show (List.range (n * z.length)).map (fun j=>z.toArray[j % z.length]!)=_
 induction n with
 | zero=>simp
 | succ n ih =>
  have hz:(List.range z.length).map (fun j=>z.toArray[(n * z.length+j) % z.length]!)=z:=by
   have e:(fun j=>z.toArray[(n * z.length+j) % z.length]!)=(fun j=>z.toArray[j % z.length]!):=by
    funext j
    rw [Nat.add_comm,Nat.add_mul_mod_self_right]
   rw [e]
   exact range_one z
  rw [Nat.succ_mul,List.range_add,List.map_append,List.map_map,ih]
  have e2:((fun j=>z.toArray[j % z.length]!) ∘ fun x=>n * z.length+x)=(fun j=>z.toArray[(n * z.length+j) % z.length]!):=rfl
  rw [e2,hz,List.replicate_succ',List.flatMap_append]
  simp
theorem flat_rep {α:Type} (enc:α→List Value) (x:α) (n:Nat):(List.replicate n x).flatMap enc=(List.replicate n ()).flatMap (fun _=>enc x):=by
 induction n with
 | zero=>rfl
 | succ n ih=>rw [List.replicate_succ,List.replicate_succ,List.flatMap_cons,List.flatMap_cons,ih]
theorem made_row {α:Type} {enc:α→List Value} {size:Nat} (x:α) (hx:(enc x).length=size) (hs:0<size) (w:World) (base:Nat) (t e:TypeId) (hu:Tryz.prog.underlying t=some (.slice e)) {z:Value} {by_:Nat} (hi:∃ i,Tryz.prog.info? e=some i∧i.zero=some z∧i.size=size∧i.bytes=by_) (hz:z.cells=(enc x).toArray) (hb:by_≤32) (n:Nat) (hn:n≤2000) (hbase:base≤w.heap.size) (h4:size≤4) :
 ∃ w',(Instr.makeSlice t (.int .i64 (n:Int)) (.int .i64 (n:Int))).run Tryz.prog w = .ok (.slice (some ⟨w.heap.size,0,none⟩) n n) w'∧w'.ownsRow base e size (.slice (some ⟨w.heap.size,0,none⟩) n n) n ((List.replicate n x).flatMap enc)∧w.grownBy w' none:=by
 obtain ⟨i,hi,hz0,hz1,hz2⟩:=hi
 have h1:n * size≤16777216:=Nat.le_trans (Nat.mul_le_mul hn h4) (by decide)
 have h2:i.bytes * n≤281474976710656:=Nat.le_trans (Nat.mul_le_mul (by omega:i.bytes≤32) hn) (by decide)
 obtain ⟨w',hr,ho,hg⟩:=run_makeSlice_full (P:=Tryz.prog) w base t e i z size hu hi hz0 hz1 .i64 .i64 n h1 h2 (by unfold maxLen;omega) hbase
 refine ⟨w',hr,?_,hg⟩
 rw [hz,← hx,made_flat] at ho
 rw [flat_rep]
 rw [hx] at ho
 exact ho
theorem own_open {w:World} {base G n cap size:Nat} {e:TypeId} {xs:List Value} (h:w.ownsRow base e size (.slice (some ⟨G,0,none⟩) n cap) n xs):(∀ j,w.frozen? ⟨G,j,none⟩=false)∧G<w.heap.size∧base≤G ∧ ∀ j u,xs[j]?=some u→w.cell? ⟨G,j,none⟩=some u:=by
 have hc:=h.cells (g:=G) rfl
 rcases h.2 with ⟨h1,_⟩ | ⟨g,cp,cur,h1,hb,hg,_⟩
 ·cases h1
 ·cases h1
  refine ⟨fun j=>by simp [World.frozen?,hg],(Array.getElem?_eq_some_iff.1 hg).1,hb,fun j u hu=>?_⟩
  have e:=hc j u hu
  have e2:(⟨G,0,none⟩:Addr).add j=⟨G,j,none⟩:=by unfold Addr.add;split <;> simp_all
  rwa [e2] at e
theorem set_next {α:Type} {ys:List α} {j n:Nat} {z y:α} (hl:ys.length=j) (hj:j<n):(ys ++ List.replicate (n-j) z)[j]?=some z∧(ys ++ List.replicate (n-j) z).set j y=(ys ++ [y]) ++ List.replicate (n-(j+1)) z:=by
 obtain ⟨m,hm⟩:∃ m,n-j=m+1:=⟨n-j-1,by omega⟩
 have hm2:n-(j+1)=m:=by omega
 rw [hm,hm2,List.replicate_succ]
 refine ⟨by rw [List.getElem?_append_right (by omega),hl];simp,?_⟩
 rw [List.set_append_right _ _ (by omega),hl,Nat.sub_self,List.set_cons_zero,List.append_assoc]
 rfl
theorem grown_rowP {w w1 w2:World} {g G:Nat} (h:w.grownBy w1 (some g)) (k:w1.grownBy w2 (some G)) (hG:w.heap.size≤G):w.grownBy w2 (some g) :=
 ⟨k.os.trans h.os,k.tape.trans h.tape,k.output.trans h.output,Nat.le_trans h.size k.size,fun i hi hr=>(k.block i (Nat.lt_of_lt_of_le hi h.size) (fun e=>by have:=Option.some.inj e;omega)).trans (h.block i hi hr)⟩
theorem RD.row {B:Nat} {w w':World} {g G:Nat} {r:Rd} (h:RD B w g r) (k:w.grownBy w' (some G)) (hG:B≤G):RD B w' g r :=
 h.stay ((Below.refl B w).grown k h.lt.2 (fun k hk=>by cases hk;exact hG))
theorem below_none {B:Nat} {w w':World} (h:w.grownBy w' none) (hB:B≤w.heap.size):Below B w w':=(Below.refl B w).grown h hB (fun k hk=>by cases hk)
theorem grown_weak {w w':World} {row:Option Nat} (h:w.grownBy w' none):w.grownBy w' row:=⟨h.os,h.tape,h.output,h.size,fun k hk _=>h.block k hk (by simp)⟩
theorem readall_a {B:Nat} {w:World} {g:Nat} {r:Rd} (h:RD B w g r) (most least:Nat) (hm:most≤2000) (hl:least≤4) :
 Calls Tryz.prog 61 #[.pointer (some ⟨g,0,none⟩),.int .i64 (most:Int),.int .i64 (least:Int),.func (.func 62) #[.pointer (some ⟨g,0,none⟩)] #[]] w fun e w'=>∃ (v:Value) (ys:List Ac),e = .returned v∧ys.length=(rmany most least r).1∧w'.ownsRow w.heap.size 76 4 v ys.length (ys.flatMap cc)∧RD B w' g (rlist most least racc r).2∧((rlist most least racc r).2.c=0→ys=(rlist most least racc r).1)∧w.grownBy w' (some g):=by
 have K1:=Lib.hid (many_c h most least hm hl)
 have hn:=Nat.le_trans (rmany_le most least r) hm
 have hB:=h.lt
 unfold rlist
 obtain ⟨n,hne⟩:∃ n,(rmany most least r).1=n:=⟨_,rfl⟩
 obtain ⟨s,hs⟩:∃ s,(rmany most least r).2=s:=⟨_,rfl⟩
 rw [hne] at K1 hn ⊢
 rw [hs] at K1 ⊢
 have K2:Hid (∀ (W:World) (s:Rd),RD B W g s→Calls Tryz.prog 62 #[.pointer (some ⟨g,0,none⟩)] W fun e w'=>∃ y:Ac,e = .returned (.agg #[.int .u32 (y.code:Int),.string y.name,.int .u8 (y.kind:Int),.int .u32 (y.par:Int)])∧RD B w' g (racc s).2∧((racc s).2.c=0→y=(racc s).1)∧W.grownBy w' (some g)):=Lib.hid (by
  intro W s hW
  refine (accountR_c hW).mono ?_
  rintro e w2 ⟨rfl,o2,h2⟩
  exact ⟨_,rfl,o2,fun _=>rfl,h2⟩)
 obtain ⟨X,hX⟩:∃ X,w.heap.size=X:=⟨_,rfl⟩
 have HX:=Lib.hid hX
 rw [hX] at hB ⊢
 clear h hne hs
 go_enter Tryz.func61,Tryz.ntmps61
 go_upto_region 2 with (go_at_call 97;refine K1.out.mono ?_;rintro e w2 ⟨rfl,o2,h2⟩;have hw2:X≤w2.heap.size:=HX.out ▸ h2.size;obtain ⟨w4,hmk,ho4,hg4⟩:=made_row (enc:=cc) (size:=4) ((⟨0,⟨#[]⟩,0,0,by omega,by omega,by omega,by decide⟩:Ac)) rfl (by decide) w2 X 30 76 Tryz.underlying30 (info_parts info35) rfl (by decide) n hn hw2 (by decide);have HO:=Lib.hid ho4;have HRD:=Lib.hid (o2.stay (below_none hg4 o2.lt.2));have HG:=Lib.hid (grown_transP h2 (grown_weak hg4));clear o2 h2 ho4 hg4 hw2)
 obtain ⟨G,hG⟩:∃ G,w2.heap.size=G:=⟨_,rfl⟩
 rw [hG] at HO ⊢
 clear hG hmk K1
 go_wp2_with fail
 go_loopw [18] (fun i wx=>∃ (j:Nat) (ys:List Ac),i = .int .i64 (j:Int)∧j≤n∧Hid (ys.length=j)∧Hid (wx.ownsRow X 76 4 (.slice (some ⟨G,0,none⟩) n n) n ((ys ++ List.replicate (n-j) ((⟨0,⟨#[]⟩,0,0,by omega,by omega,by omega,by decide⟩:Ac))).flatMap cc))∧Hid (RD B wx g (rrep racc j s).2)∧Hid ((rrep racc j s).2.c=0→ys=(rrep racc j s).1)∧Hid (w.grownBy wx (some g))) (fun i _=>n-(intOf i).toNat)
 case atStart=>exact ⟨0,[],rfl,Nat.zero_le _,Lib.hid rfl,HO,HRD,Lib.hid (fun _=>rfl),HG⟩
 case round =>
  clear HO HRD HG
  obtain ⟨j,ys,rfl,hj,HLY,HO,HRD,HC,HG⟩:=hrel
  rename World=>wr
  by_cases hlt:j<n
  ·have t2:decide ((j:Int)<(n:Int))=true:=decide_eq_true (by omega)
   obtain ⟨hG1,hG2,hG3,hG4⟩:=own_open HO.out
   have hne:G≠g:=by omega
   have HNE:=Lib.hid hne
   have HXG:=Lib.hid hG3
   clear hG1 hG2 hG3 hG4 hne
   go_upto_region 5 with fail
   go_upto_region 6 with (go_at_call 62;refine (K2.out _ _ HRD.out).mono ?_;rintro e w3 ⟨y,rfl,o3,c3,h3⟩;have HO3:=Lib.hid (HO.out.kept h3 (.inr (fun e=>HNE.out (Option.some.inj e))));have HRD3:=Lib.hid o3;have HC3:=Lib.hid c3;have HG3:=Lib.hid (grown_transP HG.out h3);have hopen:=own_open HO3.out;have hz:=(set_next (y:=y) (z:=(⟨0,⟨#[]⟩,0,0,by omega,by omega,by omega,by decide⟩:Ac)) HLY.out hlt).1;have f0:=hopen.1 (j * 4);have z0:=hopen.2.2.2 (j * 4) _ ((Nat.add_zero (j * 4)) ▸ flat_get cc_len hz (j:=0) rfl);have f1:=hopen.1 (j * 4+1);have z1:=hopen.2.2.2 (j * 4+1) _ (flat_get cc_len hz (j:=1) rfl);have f2:=hopen.1 (j * 4+2);have z2:=hopen.2.2.2 (j * 4+2) _ (flat_get cc_len hz (j:=2) rfl);have f3:=hopen.1 (j * 4+3);have z3:=hopen.2.2.2 (j * 4+3) _ (flat_get cc_len hz (j:=3) rfl);have sz:=hopen.2.1;clear o3 c3 h3 hopen hz)
   have HP:=Lib.hid (own_put4 cc_len HO3.out (set_next (y:=y) (z:=(⟨0,⟨#[]⟩,0,0,by omega,by omega,by omega,by decide⟩:Ac)) HLY.out hlt).1 (y:=y) rfl)
   rw [(set_next (y:=y) (z:=(⟨0,⟨#[]⟩,0,0,by omega,by omega,by omega,by decide⟩:Ac)) HLY.out hlt).2] at HP
   have hBG:B≤G:=by have:=HXG.out;omega
   have hwG:w.heap.size≤G:=by have:=HX.out;have:=HXG.out;omega
   clear f0 z0 f1 z1 f2 z2 f3 z3 sz HO HO3
   generalize ((((w3.setCell ⟨G,j * 4,none⟩ (.int .u32 (y.code:Int))).setCell ⟨G,j * 4+1,none⟩ (.string y.name)).setCell ⟨G,j * 4+2,none⟩ (.int .u8 (y.kind:Int))).setCell ⟨G,j * 4+3,none⟩ (.int .u32 (y.par:Int)))=W5 at HP ⊢
   have HR5:Hid (RD B W5 g (rrep racc (j+1) s).2):=Lib.hid (by rw [rrep_last];exact HRD3.out.row HP.out.2 hBG)
   have HG5:=Lib.hid (grown_rowP HG3.out HP.out.2 hwG)
   have HC5:=Lib.hid (rep_step cod_acc HC.out HC3.out)
   have HP1:=Lib.hid HP.out.1
   have HL5:Hid ((ys ++ [y]).length=j+1):=Lib.hid (by rw [List.length_append,HLY.out];rfl)
   clear HP HRD HRD3 HG HG3 HC HC3 HLY
   go_wp2_with fail
   go_round
   case rel=>exact ⟨j+1,ys ++ [y],rfl,by omega,HL5,HP1,HR5,HC5,HG5⟩
   case measure =>
    show n-((j:Int)+1).toNat<n-((j:Int)).toNat
    omega
  ·obtain rfl:j=n:=by omega
   have t2:decide ((j:Int)<(j:Int))=false:=decide_eq_false (by omega)
   go_wp2_with fail
   go_ret
   have h:=HO.out
   rw [Nat.sub_self,List.replicate_zero,List.append_nil] at h
   exact ⟨_,ys,rfl,HLY.out,by rw [HLY.out];exact h,HRD.out,HC.out,HG.out⟩
theorem readall_u {B:Nat} {w:World} {g:Nat} {r:Rd} (h:RD B w g r) (most least:Nat) (hm:most≤2000) (hl:least≤4) :
 Calls Tryz.prog 63 #[.pointer (some ⟨g,0,none⟩),.int .i64 (most:Int),.int .i64 (least:Int),.func (.func 64) #[.pointer (some ⟨g,0,none⟩)] #[]] w fun e w'=>∃ (v:Value) (ys:List Nat),e = .returned v∧ys.length=(rmany most least r).1∧w'.ownsRow w.heap.size 52 1 v ys.length (ys.flatMap uc)∧RD B w' g (rlist most least (rnum 999) r).2∧((rlist most least (rnum 999) r).2.c=0→ys=(rlist most least (rnum 999) r).1)∧w.grownBy w' (some g):=by
 have K1:=Lib.hid (many_c h most least hm hl)
 have hn:=Nat.le_trans (rmany_le most least r) hm
 have hB:=h.lt
 unfold rlist
 obtain ⟨n,hne⟩:∃ n,(rmany most least r).1=n:=⟨_,rfl⟩
 obtain ⟨s,hs⟩:∃ s,(rmany most least r).2=s:=⟨_,rfl⟩
 rw [hne] at K1 hn ⊢
 rw [hs] at K1 ⊢
 have K2:Hid (∀ (W:World) (s:Rd),RD B W g s→Calls Tryz.prog 64 #[.pointer (some ⟨g,0,none⟩)] W fun e w'=>∃ y:Nat,e = .returned (.int .u16 (y:Int))∧RD B w' g ((rnum 999) s).2∧(((rnum 999) s).2.c=0→y=((rnum 999) s).1)∧W.grownBy w' (some g)):=Lib.hid (by
  intro W s hW
  refine (entityR_c hW).mono ?_
  rintro e w2 ⟨rfl,o2,h2⟩
  exact ⟨_,rfl,o2,fun _=>rfl,h2⟩)
 obtain ⟨X,hX⟩:∃ X,w.heap.size=X:=⟨_,rfl⟩
 have HX:=Lib.hid hX
 rw [hX] at hB ⊢
 clear h hne hs
 go_enter Tryz.func63,Tryz.ntmps63
 go_upto_region 2 with (go_at_call 97;refine K1.out.mono ?_;rintro e w2 ⟨rfl,o2,h2⟩;have hw2:X≤w2.heap.size:=HX.out ▸ h2.size;obtain ⟨w4,hmk,ho4,hg4⟩:=made_row (enc:=uc) (size:=1) ((0:Nat)) rfl (by decide) w2 X 23 52 Tryz.underlying23 (info_parts info16) rfl (by decide) n hn hw2 (by decide);have HO:=Lib.hid ho4;have HRD:=Lib.hid (o2.stay (below_none hg4 o2.lt.2));have HG:=Lib.hid (grown_transP h2 (grown_weak hg4));clear o2 h2 ho4 hg4 hw2)
 obtain ⟨G,hG⟩:∃ G,w2.heap.size=G:=⟨_,rfl⟩
 rw [hG] at HO ⊢
 clear hG hmk K1
 go_wp2_with fail
 go_loopw [18] (fun i wx=>∃ (j:Nat) (ys:List Nat),i = .int .i64 (j:Int)∧j≤n∧Hid (ys.length=j)∧Hid (wx.ownsRow X 52 1 (.slice (some ⟨G,0,none⟩) n n) n ((ys ++ List.replicate (n-j) ((0:Nat))).flatMap uc))∧Hid (RD B wx g (rrep (rnum 999) j s).2)∧Hid ((rrep (rnum 999) j s).2.c=0→ys=(rrep (rnum 999) j s).1)∧Hid (w.grownBy wx (some g))) (fun i _=>n-(intOf i).toNat)
 case atStart=>exact ⟨0,[],rfl,Nat.zero_le _,Lib.hid rfl,HO,HRD,Lib.hid (fun _=>rfl),HG⟩
 case round =>
  clear HO HRD HG
  obtain ⟨j,ys,rfl,hj,HLY,HO,HRD,HC,HG⟩:=hrel
  rename World=>wr
  by_cases hlt:j<n
  ·have t2:decide ((j:Int)<(n:Int))=true:=decide_eq_true (by omega)
   obtain ⟨hG1,hG2,hG3,hG4⟩:=own_open HO.out
   have hne:G≠g:=by omega
   have HNE:=Lib.hid hne
   have HXG:=Lib.hid hG3
   clear hG1 hG2 hG3 hG4 hne
   go_upto_region 5 with fail
   go_upto_region 6 with (go_at_call 64;refine (K2.out _ _ HRD.out).mono ?_;rintro e w3 ⟨y,rfl,o3,c3,h3⟩;have HO3:=Lib.hid (HO.out.kept h3 (.inr (fun e=>HNE.out (Option.some.inj e))));have HRD3:=Lib.hid o3;have HC3:=Lib.hid c3;have HG3:=Lib.hid (grown_transP HG.out h3);have hopen:=own_open HO3.out;have hz:=(set_next (y:=y) (z:=(0:Nat)) HLY.out hlt).1;have f0:=hopen.1 j;have z0:=hopen.2.2.2 j _ (flat_get1 uc_len hz rfl);have sz:=hopen.2.1;clear o3 c3 h3 hopen hz)
   have HP:=Lib.hid (own_put1n uc_len HO3.out (set_next (y:=y) (z:=(0:Nat)) HLY.out hlt).1 (y:=y) rfl)
   rw [(set_next (y:=y) (z:=(0:Nat)) HLY.out hlt).2] at HP
   have hBG:B≤G:=by have:=HXG.out;omega
   have hwG:w.heap.size≤G:=by have:=HX.out;have:=HXG.out;omega
   clear f0 z0 sz HO HO3
   generalize (w3.setCell ⟨G,j,none⟩ (.int .u16 (y:Int)))=W5 at HP ⊢
   have HR5:Hid (RD B W5 g (rrep (rnum 999) (j+1) s).2):=Lib.hid (by rw [rrep_last];exact HRD3.out.row HP.out.2 hBG)
   have HG5:=Lib.hid (grown_rowP HG3.out HP.out.2 hwG)
   have HC5:=Lib.hid (rep_step (cod_num 999 (by omega)) HC.out HC3.out)
   have HP1:=Lib.hid HP.out.1
   have HL5:Hid ((ys ++ [y]).length=j+1):=Lib.hid (by rw [List.length_append,HLY.out];rfl)
   clear HP HRD HRD3 HG HG3 HC HC3 HLY
   go_wp2_with fail
   go_round
   case rel=>exact ⟨j+1,ys ++ [y],rfl,by omega,HL5,HP1,HR5,HC5,HG5⟩
   case measure =>
    show n-((j:Int)+1).toNat<n-((j:Int)).toNat
    omega
  ·obtain rfl:j=n:=by omega
   have t2:decide ((j:Int)<(j:Int))=false:=decide_eq_false (by omega)
   go_wp2_with fail
   go_ret
   have h:=HO.out
   rw [Nat.sub_self,List.replicate_zero,List.append_nil] at h
   exact ⟨_,ys,rfl,HLY.out,by rw [HLY.out];exact h,HRD.out,HC.out,HG.out⟩
theorem readall_d {B:Nat} {w:World} {g:Nat} {r:Rd} (h:RD B w g r) (most least:Nat) (hm:most≤2000) (hl:least≤4) :
 Calls Tryz.prog 65 #[.pointer (some ⟨g,0,none⟩),.int .i64 (most:Int),.int .i64 (least:Int),.func (.func 66) #[.pointer (some ⟨g,0,none⟩)] #[]] w fun e w'=>∃ (v:Value) (ys:List Int),e = .returned v∧ys.length=(rmany most least r).1∧w'.ownsRow w.heap.size 34 1 v ys.length (ys.flatMap dcl)∧RD B w' g (rlist most least rday r).2∧((rlist most least rday r).2.c=0→ys=(rlist most least rday r).1)∧w.grownBy w' (some g):=by
 have K1:=Lib.hid (many_c h most least hm hl)
 have hn:=Nat.le_trans (rmany_le most least r) hm
 have hB:=h.lt
 unfold rlist
 obtain ⟨n,hne⟩:∃ n,(rmany most least r).1=n:=⟨_,rfl⟩
 obtain ⟨s,hs⟩:∃ s,(rmany most least r).2=s:=⟨_,rfl⟩
 rw [hne] at K1 hn ⊢
 rw [hs] at K1 ⊢
 have K2:Hid (∀ (W:World) (s:Rd),RD B W g s→Calls Tryz.prog 66 #[.pointer (some ⟨g,0,none⟩)] W fun e w'=>∃ y:Int,e = .returned (.int .i32 y)∧RD B w' g (rday s).2∧((rday s).2.c=0→y=(rday s).1)∧W.grownBy w' (some g)):=Lib.hid (by
  intro W s hW
  refine (dayR_c hW).mono ?_
  rintro e w2 ⟨y,rfl,_,o2,c2,h2⟩
  exact ⟨y,rfl,o2,c2,h2⟩)
 obtain ⟨X,hX⟩:∃ X,w.heap.size=X:=⟨_,rfl⟩
 have HX:=Lib.hid hX
 rw [hX] at hB ⊢
 clear h hne hs
 go_enter Tryz.func65,Tryz.ntmps65
 go_upto_region 2 with (go_at_call 97;refine K1.out.mono ?_;rintro e w2 ⟨rfl,o2,h2⟩;have hw2:X≤w2.heap.size:=HX.out ▸ h2.size;obtain ⟨w4,hmk,ho4,hg4⟩:=made_row (enc:=dcl) (size:=1) ((0:Int)) rfl (by decide) w2 X 33 34 Tryz.underlying33 (info_parts infoD) rfl (by decide) n hn hw2 (by decide);have HO:=Lib.hid ho4;have HRD:=Lib.hid (o2.stay (below_none hg4 o2.lt.2));have HG:=Lib.hid (grown_transP h2 (grown_weak hg4));clear o2 h2 ho4 hg4 hw2)
 obtain ⟨G,hG⟩:∃ G,w2.heap.size=G:=⟨_,rfl⟩
 rw [hG] at HO ⊢
 clear hG hmk K1
 go_wp2_with fail
 go_loopw [18] (fun i wx=>∃ (j:Nat) (ys:List Int),i = .int .i64 (j:Int)∧j≤n∧Hid (ys.length=j)∧Hid (wx.ownsRow X 34 1 (.slice (some ⟨G,0,none⟩) n n) n ((ys ++ List.replicate (n-j) ((0:Int))).flatMap dcl))∧Hid (RD B wx g (rrep rday j s).2)∧Hid ((rrep rday j s).2.c=0→ys=(rrep rday j s).1)∧Hid (w.grownBy wx (some g))) (fun i _=>n-(intOf i).toNat)
 case atStart=>exact ⟨0,[],rfl,Nat.zero_le _,Lib.hid rfl,HO,HRD,Lib.hid (fun _=>rfl),HG⟩
 case round =>
  clear HO HRD HG
  obtain ⟨j,ys,rfl,hj,HLY,HO,HRD,HC,HG⟩:=hrel
  rename World=>wr
  by_cases hlt:j<n
  ·have t2:decide ((j:Int)<(n:Int))=true:=decide_eq_true (by omega)
   obtain ⟨hG1,hG2,hG3,hG4⟩:=own_open HO.out
   have hne:G≠g:=by omega
   have HNE:=Lib.hid hne
   have HXG:=Lib.hid hG3
   clear hG1 hG2 hG3 hG4 hne
   go_upto_region 5 with fail
   go_upto_region 6 with (go_at_call 66;refine (K2.out _ _ HRD.out).mono ?_;rintro e w3 ⟨y,rfl,o3,c3,h3⟩;have HO3:=Lib.hid (HO.out.kept h3 (.inr (fun e=>HNE.out (Option.some.inj e))));have HRD3:=Lib.hid o3;have HC3:=Lib.hid c3;have HG3:=Lib.hid (grown_transP HG.out h3);have hopen:=own_open HO3.out;have hz:=(set_next (y:=y) (z:=(0:Int)) HLY.out hlt).1;have f0:=hopen.1 j;have z0:=hopen.2.2.2 j _ (flat_get1 dcl_len hz rfl);have sz:=hopen.2.1;clear o3 c3 h3 hopen hz)
   have HP:=Lib.hid (own_put1n dcl_len HO3.out (set_next (y:=y) (z:=(0:Int)) HLY.out hlt).1 (y:=y) rfl)
   rw [(set_next (y:=y) (z:=(0:Int)) HLY.out hlt).2] at HP
   have hBG:B≤G:=by have:=HXG.out;omega
   have hwG:w.heap.size≤G:=by have:=HX.out;have:=HXG.out;omega
   clear f0 z0 sz HO HO3
   generalize (w3.setCell ⟨G,j,none⟩ (.int .i32 y))=W5 at HP ⊢
   have HR5:Hid (RD B W5 g (rrep rday (j+1) s).2):=Lib.hid (by rw [rrep_last];exact HRD3.out.row HP.out.2 hBG)
   have HG5:=Lib.hid (grown_rowP HG3.out HP.out.2 hwG)
   have HC5:=Lib.hid (rep_step cod_day HC.out HC3.out)
   have HP1:=Lib.hid HP.out.1
   have HL5:Hid ((ys ++ [y]).length=j+1):=Lib.hid (by rw [List.length_append,HLY.out];rfl)
   clear HP HRD HRD3 HG HG3 HC HC3 HLY
   go_wp2_with fail
   go_round
   case rel=>exact ⟨j+1,ys ++ [y],rfl,by omega,HL5,HP1,HR5,HC5,HG5⟩
   case measure =>
    show n-((j:Int)+1).toNat<n-((j:Int)).toNat
    omega
  ·obtain rfl:j=n:=by omega
   have t2:decide ((j:Int)<(j:Int))=false:=decide_eq_false (by omega)
   go_wp2_with fail
   go_ret
   have h:=HO.out
   rw [Nat.sub_self,List.replicate_zero,List.append_nil] at h
   exact ⟨_,ys,rfl,HLY.out,by rw [HLY.out];exact h,HRD.out,HC.out,HG.out⟩
theorem readall_l {B:Nat} {w:World} {g:Nat} {r:Rd} (h:RD B w g r) (most least:Nat) (hm:most≤2000) (hl:least≤4) :
 Calls Tryz.prog 102 #[.pointer (some ⟨g,0,none⟩),.int .i64 (most:Int),.int .i64 (least:Int),.func (.func 103) #[.pointer (some ⟨g,0,none⟩)] #[]] w fun e w'=>∃ (v:Value) (ys:List Ln),e = .returned v∧ys.length=(rmany most least r).1∧w'.ownsRow w.heap.size 89 4 v ys.length (ys.flatMap lc)∧RD B w' g (rlist most least rline r).2∧((rlist most least rline r).2.c=0→ys=(rlist most least rline r).1)∧w.grownBy w' (some g):=by
 have K1:=Lib.hid (many_c h most least hm hl)
 have hn:=Nat.le_trans (rmany_le most least r) hm
 have hB:=h.lt
 unfold rlist
 obtain ⟨n,hne⟩:∃ n,(rmany most least r).1=n:=⟨_,rfl⟩
 obtain ⟨s,hs⟩:∃ s,(rmany most least r).2=s:=⟨_,rfl⟩
 rw [hne] at K1 hn ⊢
 rw [hs] at K1 ⊢
 have K2:Hid (∀ (W:World) (s:Rd),RD B W g s→Calls Tryz.prog 103 #[.pointer (some ⟨g,0,none⟩)] W fun e w'=>∃ y:Ln,e = .returned (.agg #[.int .u32 (y.acc:Int),.int .u16 (y.ent.n:Int),.int .u16 (y.ctr:Int),.int .i64 y.amt])∧RD B w' g (rline s).2∧((rline s).2.c=0→y=(rline s).1)∧W.grownBy w' (some g)):=Lib.hid (by
  intro W s hW
  refine (lineR_c hW).mono ?_
  rintro e w2 ⟨rfl,o2,h2⟩
  exact ⟨_,rfl,o2,fun _=>rfl,h2⟩)
 obtain ⟨X,hX⟩:∃ X,w.heap.size=X:=⟨_,rfl⟩
 have HX:=Lib.hid hX
 rw [hX] at hB ⊢
 clear h hne hs
 go_enter Tryz.func102,Tryz.ntmps102
 go_upto_region 2 with (go_at_call 97;refine K1.out.mono ?_;rintro e w2 ⟨rfl,o2,h2⟩;have hw2:X≤w2.heap.size:=HX.out ▸ h2.size;obtain ⟨w4,hmk,ho4,hg4⟩:=made_row (enc:=lc) (size:=4) ((⟨0,⟨0,by omega⟩,0,0,by omega,by omega,by omega⟩:Ln)) rfl (by decide) w2 X 64 89 Tryz.underlying64 (info_parts infoL) rfl (by decide) n hn hw2 (by decide);have HO:=Lib.hid ho4;have HRD:=Lib.hid (o2.stay (below_none hg4 o2.lt.2));have HG:=Lib.hid (grown_transP h2 (grown_weak hg4));clear o2 h2 ho4 hg4 hw2)
 obtain ⟨G,hG⟩:∃ G,w2.heap.size=G:=⟨_,rfl⟩
 rw [hG] at HO ⊢
 clear hG hmk K1
 go_wp2_with fail
 go_loopw [18] (fun i wx=>∃ (j:Nat) (ys:List Ln),i = .int .i64 (j:Int)∧j≤n∧Hid (ys.length=j)∧Hid (wx.ownsRow X 89 4 (.slice (some ⟨G,0,none⟩) n n) n ((ys ++ List.replicate (n-j) ((⟨0,⟨0,by omega⟩,0,0,by omega,by omega,by omega⟩:Ln))).flatMap lc))∧Hid (RD B wx g (rrep rline j s).2)∧Hid ((rrep rline j s).2.c=0→ys=(rrep rline j s).1)∧Hid (w.grownBy wx (some g))) (fun i _=>n-(intOf i).toNat)
 case atStart=>exact ⟨0,[],rfl,Nat.zero_le _,Lib.hid rfl,HO,HRD,Lib.hid (fun _=>rfl),HG⟩
 case round =>
  clear HO HRD HG
  obtain ⟨j,ys,rfl,hj,HLY,HO,HRD,HC,HG⟩:=hrel
  rename World=>wr
  by_cases hlt:j<n
  ·have t2:decide ((j:Int)<(n:Int))=true:=decide_eq_true (by omega)
   obtain ⟨hG1,hG2,hG3,hG4⟩:=own_open HO.out
   have hne:G≠g:=by omega
   have HNE:=Lib.hid hne
   have HXG:=Lib.hid hG3
   clear hG1 hG2 hG3 hG4 hne
   go_upto_region 5 with fail
   go_upto_region 6 with (go_at_call 103;refine (K2.out _ _ HRD.out).mono ?_;rintro e w3 ⟨y,rfl,o3,c3,h3⟩;have HO3:=Lib.hid (HO.out.kept h3 (.inr (fun e=>HNE.out (Option.some.inj e))));have HRD3:=Lib.hid o3;have HC3:=Lib.hid c3;have HG3:=Lib.hid (grown_transP HG.out h3);have hopen:=own_open HO3.out;have hz:=(set_next (y:=y) (z:=(⟨0,⟨0,by omega⟩,0,0,by omega,by omega,by omega⟩:Ln)) HLY.out hlt).1;have f0:=hopen.1 (j * 4);have z0:=hopen.2.2.2 (j * 4) _ ((Nat.add_zero (j * 4)) ▸ flat_get lc_len hz (j:=0) rfl);have f1:=hopen.1 (j * 4+1);have z1:=hopen.2.2.2 (j * 4+1) _ (flat_get lc_len hz (j:=1) rfl);have f2:=hopen.1 (j * 4+2);have z2:=hopen.2.2.2 (j * 4+2) _ (flat_get lc_len hz (j:=2) rfl);have f3:=hopen.1 (j * 4+3);have z3:=hopen.2.2.2 (j * 4+3) _ (flat_get lc_len hz (j:=3) rfl);have sz:=hopen.2.1;clear o3 c3 h3 hopen hz)
   have HP:=Lib.hid (own_put4 lc_len HO3.out (set_next (y:=y) (z:=(⟨0,⟨0,by omega⟩,0,0,by omega,by omega,by omega⟩:Ln)) HLY.out hlt).1 (y:=y) rfl)
   rw [(set_next (y:=y) (z:=(⟨0,⟨0,by omega⟩,0,0,by omega,by omega,by omega⟩:Ln)) HLY.out hlt).2] at HP
   have hBG:B≤G:=by have:=HXG.out;omega
   have hwG:w.heap.size≤G:=by have:=HX.out;have:=HXG.out;omega
   clear f0 z0 f1 z1 f2 z2 f3 z3 sz HO HO3
   generalize ((((w3.setCell ⟨G,j * 4,none⟩ (.int .u32 (y.acc:Int))).setCell ⟨G,j * 4+1,none⟩ (.int .u16 (y.ent.n:Int))).setCell ⟨G,j * 4+2,none⟩ (.int .u16 (y.ctr:Int))).setCell ⟨G,j * 4+3,none⟩ (.int .i64 y.amt))=W5 at HP ⊢
   have HR5:Hid (RD B W5 g (rrep rline (j+1) s).2):=Lib.hid (by rw [rrep_last];exact HRD3.out.row HP.out.2 hBG)
   have HG5:=Lib.hid (grown_rowP HG3.out HP.out.2 hwG)
   have HC5:=Lib.hid (rep_step cod_line HC.out HC3.out)
   have HP1:=Lib.hid HP.out.1
   have HL5:Hid ((ys ++ [y]).length=j+1):=Lib.hid (by rw [List.length_append,HLY.out];rfl)
   clear HP HRD HRD3 HG HG3 HC HC3 HLY
   go_wp2_with fail
   go_round
   case rel=>exact ⟨j+1,ys ++ [y],rfl,by omega,HL5,HP1,HR5,HC5,HG5⟩
   case measure =>
    show n-((j:Int)+1).toNat<n-((j:Int)).toNat
    omega
  ·obtain rfl:j=n:=by omega
   have t2:decide ((j:Int)<(j:Int))=false:=decide_eq_false (by omega)
   go_wp2_with fail
   go_ret
   have h:=HO.out
   rw [Nat.sub_self,List.replicate_zero,List.append_nil] at h
   exact ⟨_,ys,rfl,HLY.out,by rw [HLY.out];exact h,HRD.out,HC.out,HG.out⟩
theorem own_baseP {w:World} {base base' size n:Nat} {e:TypeId} {v:Value} {xs:List Value} (h:w.ownsRow base e size v n xs) (hb:base'≤base):w.ownsRow base' e size v n xs :=
 ⟨h.1,h.2.elim Or.inl (fun ⟨g,cap,cur,hv,hg,r⟩=>Or.inr ⟨g,cap,cur,hv,Nat.le_trans hb hg,r⟩)⟩
theorem own_farP {w w':World} {base size n G:Nat} {e:TypeId} {v:Value} {xs:List Value} (h:w.ownsRow base e size v n xs) (hg:w.grownBy w' (some G)) (hG:G<base):w'.ownsRow base e size v n xs :=
 h.kept hg (.inr (fun he=>by
  rcases h.2 with ⟨h1,_⟩ | ⟨k,cap,cur,h1,hb,_⟩
  ·rw [h1] at he;cases he
  ·rw [h1] at he
   have:k=G:=Option.some.inj he
   omega))
theorem own_formP {w:World} {base size n:Nat} {e:TypeId} {v:Value} {xs:List Value} (h:w.ownsRow base e size v n xs):∃ r c,v = .slice r n c:=by
 rcases h.2 with ⟨h1,h2⟩ | ⟨g,cap,cur,h1,_⟩
 ·subst h2;exact ⟨_,_,h1⟩
 ·exact ⟨_,_,h1⟩
theorem jourR_c {B:Nat} {w:World} {g:Nat} {r:Rd} (h:RD B w g r) :
 Calls Tryz.prog 68 #[.pointer (some ⟨g,0,none⟩)] w fun e w'=>∃ (d:Int) (v:Value) (ls:List Ln),e = .returned (.agg #[.int .i32 d,v])∧(-2147483648≤d∧d≤2147483647)∧ls.length≤60∧w'.ownsRow w.heap.size 89 4 v ls.length (ls.flatMap lc)∧RD B w' g (rjour r).2∧((rjour r).2.c=0→(d,ls)=(rjour r).1)∧w.grownBy w' (some g):=by
 obtain ⟨r1,g1⟩:∃ q,(rday r).2=q:=⟨_,rfl⟩
 obtain ⟨r2,g2⟩:∃ q,(rlist 60 4 rline r1).2=q:=⟨_,rfl⟩
 have e2:(rjour r).2=r2:=by
  show (rlist 60 4 rline (rday r).2).2=r2
  rw [g1,g2]
 have e1:(rjour r).1=((rday r).1,(rlist 60 4 rline r1).1):=by
  show ((rday r).1,(rlist 60 4 rline (rday r).2).1)=_
  rw [g1]
 have hst:r2.c=0→r1.c=0:=fun h0=>by
  by_cases hc:r1.c=0
  ·exact hc
  ·exact absurd (g2 ▸ h0) ((cod_line.list 60 (by omega)).stick r1 hc)
 have hn60:=rmany_le 60 4 r1
 have K1:=Lib.hid (fun (W:World) (hW:RD B W g r)=>dayR_c hW)
 have K2:=Lib.hid (fun (W:World) (hW:RD B W g r1)=>readall_l hW 60 4 (by omega) (by omega))
 rw [g1] at K1
 rw [g2] at K2
 rw [e1,e2]
 have HST:=Lib.hid hst
 have HA:=Lib.hid (AM.start h 67 [.int .i32 0,.slice none 0 0] [.int .i32 0,.slice none 0 0])
 have hX:=h.lt.2
 clear h e1 e2 hst g1 g2
 go_enter Tryz.func68,Tryz.ntmps68
 go_upto_region 2 with fail
 obtain ⟨X,hXe⟩:∃ X,w.heap.size=X:=⟨_,rfl⟩
 have HX:=Lib.hid hXe
 rw [hXe] at HA hX ⊢
 clear hXe
 generalize (w.alloc (.cells #[.int .i32 0,.slice none 0 0] 67)).alloc (.cells #[.int .i32 0,.slice none 0 0] 67)=W0 at HA ⊢
 go_upto_region 3 with (go_at_call 66;refine (K1.out _ HA.out.rd).mono ?_;rintro e w2 ⟨d,rfl,hd,o2,c2,h2⟩;have HA2:=Lib.hid (HA.out.call o2 h2);have HC2:=Lib.hid c2;have f2:=HA2.out.box.frozen 0;have s2:=HA2.out.box.size;have x2:=HA2.out.box.cell (j:=0) rfl;clear o2 h2 c2)
 have HA3:=Lib.hid (HA2.out.set 0 (.int .i32 d))
 clear HA HA2 f2 s2 x2
 have HA:=HA3
 clear HA3
 simp only [List.set_cons_zero,List.set_cons_succ] at HA
 generalize w2.setCell ⟨X+1,0,none⟩ (.int .i32 d)=W1 at HA ⊢
 go_upto_region 4 with (go_at_call 102;refine (K2.out _ HA.out.rd).mono ?_;rintro e w3 ⟨v,ls,rfl,hl,o3,r3,c3,h3⟩;obtain ⟨rv,cv,rfl⟩:=own_formP o3;have HA2:=Lib.hid (HA.out.call r3 h3);have HC3:=Lib.hid c3;have hb1:X+1<W1.heap.size:=HA.out.box.size;have HO:=Lib.hid o3;have f2:=HA2.out.box.frozen 1;have s2:=HA2.out.box.size;have x2:=HA2.out.box.cell (j:=1) rfl;have HLN:=Lib.hid hl;clear r3 h3 c3 o3 hl)
 have HA3:=Lib.hid (HA2.out.set 1 (.slice rv ls.length cv))
 have HO2:=Lib.hid (own_farP HO.out (set_grown w3 ⟨X+1,1,none⟩ (.slice rv ls.length cv)) hb1)
 have HO3:=Lib.hid (own_baseP HO2.out hb1)
 clear HA HA2 f2 s2 x2 HO HO2 hb1
 have HA:=HA3
 have HO:=HO3
 clear HA3 HO3
 simp only [List.set_cons_zero,List.set_cons_succ] at HA
 generalize w3.setCell ⟨X+1,1,none⟩ (.slice rv ls.length cv)=W2 at HA HO ⊢
 have z0:=HA.out.box.cell (j:=0) rfl
 have z1:=HA.out.box.cell (j:=1) rfl
 have y0:=HA.out.res.cell (j:=0) rfl
 have y1:=HA.out.res.cell (j:=1) rfl
 have f0:=HA.out.res.frozen 0
 have f1:=HA.out.res.frozen 1
 have hs:=HA.out.res.size
 have HR:=Lib.hid ((HA.out.setr 0 (.int .i32 d)).setr 1 (.slice rv ls.length cv))
 have HO2:=Lib.hid (own_farP (own_farP HO.out (set_grown W2 ⟨X,0,none⟩ (.int .i32 d)) (by show X<X+1+1;omega)) (set_grown (W2.setCell ⟨X,0,none⟩ (.int .i32 d)) ⟨X,1,none⟩ (.slice rv ls.length cv)) (by show X<X+1+1;omega))
 simp only [List.set_cons_zero,List.set_cons_succ] at HR
 go_wp2_with fail
 have a0:=HR.out.res.cell (j:=0) rfl
 have a1:=HR.out.res.cell (j:=1) rfl
 refine bodyPost_ret (v:=.agg #[.int .i32 d,.slice rv ls.length cv]) (by simp [results,Tryz.results68,go_sem,a0,a1]) rfl ?_
 refine ⟨d,_,ls,rfl,hd,by rw [HLN.out];exact hn60,own_baseP HO2.out (by have:=HX.out;omega),HR.out.rd,fun h0=>?_,HR.out.gr⟩
 rw [HC2.out (HST.out h0),HC3.out h0]
theorem readall_j {B:Nat} {w:World} {g:Nat} {r:Rd} (h:RD B w g r) (most least:Nat) (hm:most≤2000) (hl:least≤4) :
 Calls Tryz.prog 67 #[.pointer (some ⟨g,0,none⟩),.int .i64 (most:Int),.int .i64 (least:Int),.func (.func 68) #[.pointer (some ⟨g,0,none⟩)] #[]] w fun e w'=>∃ (v:Value) (ys:List Jm),e = .returned v∧ys.length=(rmany most least r).1∧w'.ownsRow w.heap.size 67 2 v ys.length (ys.flatMap jc)∧(∀ p ∈ ys,w'.ownsRow w.heap.size 89 4 p.2.1 p.2.2.length (p.2.2.flatMap lc)∧p.2.2.length≤60 ∧ -2147483648≤p.1∧p.1≤2147483647)∧RD B w' g (rlist most least rjour r).2∧((rlist most least rjour r).2.c=0→ys.map jOf=(rlist most least rjour r).1)∧w.grownBy w' (some g):=by
 have K1:=Lib.hid (many_c h most least hm hl)
 have hn:=Nat.le_trans (rmany_le most least r) hm
 have hB:=h.lt
 unfold rlist
 obtain ⟨n,hne⟩:∃ n,(rmany most least r).1=n:=⟨_,rfl⟩
 obtain ⟨s,hs⟩:∃ s,(rmany most least r).2=s:=⟨_,rfl⟩
 rw [hne] at K1 hn ⊢
 rw [hs] at K1 ⊢
 have K2:Hid (∀ (W:World) (s:Rd),RD B W g s→Calls Tryz.prog 68 #[.pointer (some ⟨g,0,none⟩)] W fun e w'=>∃ (d:Int) (v:Value) (ls:List Ln),e = .returned (.agg #[.int .i32 d,v])∧(-2147483648≤d∧d≤2147483647)∧ls.length≤60∧w'.ownsRow W.heap.size 89 4 v ls.length (ls.flatMap lc)∧RD B w' g (rjour s).2∧((rjour s).2.c=0→(d,ls)=(rjour s).1)∧W.grownBy w' (some g)):=Lib.hid (fun W s hW=>jourR_c hW)
 obtain ⟨X,hX⟩:∃ X,w.heap.size=X:=⟨_,rfl⟩
 have HX:=Lib.hid hX
 rw [hX] at hB ⊢
 clear h hne hs
 go_enter Tryz.func67,Tryz.ntmps67
 go_upto_region 2 with (go_at_call 97;refine K1.out.mono ?_;rintro e w2 ⟨rfl,o2,h2⟩;have hw2:X≤w2.heap.size:=HX.out ▸ h2.size;obtain ⟨w4,hmk,ho4,hg4⟩:=made_row (enc:=jc) (size:=2) ((0,.slice none 0 0,[]):Jm) rfl (by decide) w2 X 39 67 Tryz.underlying39 (info_parts infoJ) rfl (by decide) n hn hw2 (by decide);have HO:=Lib.hid ho4;have HRD:=Lib.hid (o2.stay (below_none hg4 o2.lt.2));have HG:=Lib.hid (grown_transP h2 (grown_weak hg4));clear o2 h2 ho4 hg4 hw2)
 obtain ⟨G,hG⟩:∃ G,w2.heap.size=G:=⟨_,rfl⟩
 rw [hG] at HO ⊢
 clear hG hmk K1
 go_wp2_with fail
 go_loopw [18] (fun i wx=>∃ (j:Nat) (ys:List Jm),i = .int .i64 (j:Int)∧j≤n∧Hid (ys.length=j)∧Hid (wx.ownsRow X 67 2 (.slice (some ⟨G,0,none⟩) n n) n ((ys ++ List.replicate (n-j) ((0,.slice none 0 0,[]):Jm)).flatMap jc))∧Hid (∀ p ∈ ys,wx.ownsRow X 89 4 p.2.1 p.2.2.length (p.2.2.flatMap lc)∧p.2.2.length≤60 ∧ -2147483648≤p.1∧p.1≤2147483647)∧Hid (RD B wx g (rrep rjour j s).2)∧Hid ((rrep rjour j s).2.c=0→ys.map jOf=(rrep rjour j s).1)∧Hid (w.grownBy wx (some g))) (fun i _=>n-(intOf i).toNat)
 case atStart=>exact ⟨0,[],rfl,Nat.zero_le _,Lib.hid rfl,HO,Lib.hid (fun p hp=>by cases hp),HRD,Lib.hid (fun _=>rfl),HG⟩
 case round =>
  clear HO HRD HG
  obtain ⟨j,ys,rfl,hj,HLY,HO,HLS,HRD,HC,HG⟩:=hrel
  rename World=>wr
  by_cases hlt:j<n
  ·have t2:decide ((j:Int)<(n:Int))=true:=decide_eq_true (by omega)
   obtain ⟨hG1,hG2,hG3,hG4⟩:=own_open HO.out
   have hne:G≠g:=by omega
   have HNE:=Lib.hid hne
   have HXG:=Lib.hid hG3
   have HGR:=Lib.hid hG2
   have HXR:Hid (X≤wr.heap.size):=Lib.hid (by omega)
   have HgX:Hid (g<X):=Lib.hid (by omega)
   clear hG1 hG2 hG3 hG4 hne
   go_upto_region 5 with fail
   go_upto_region 6 with (go_at_call 68;refine (K2.out _ _ HRD.out).mono ?_;rintro e w3 ⟨d,v,ls,rfl,hd,hl60,ov,o3,c3,h3⟩;obtain ⟨rv,cv,rfl⟩:=own_formP ov;have HOV:=Lib.hid (own_baseP ov HXR.out);have HL60:=Lib.hid hl60;have HO3:=Lib.hid (HO.out.kept h3 (.inr (fun e=>HNE.out (Option.some.inj e))));have HLS3:=Lib.hid (fun p hp=>And.intro (own_farP (HLS.out p hp).1 h3 HgX.out) (HLS.out p hp).2);have HRD3:=Lib.hid o3;have HC3:=Lib.hid c3;have HG3:=Lib.hid (grown_transP HG.out h3);have hopen:=own_open HO3.out;have hz:=(set_next (y:=((d,.slice rv ls.length cv,ls):Jm)) (z:=((0,.slice none 0 0,[]):Jm)) HLY.out hlt).1;have f0:=hopen.1 (j * 2);have z0:=hopen.2.2.2 (j * 2) _ ((Nat.add_zero (j * 2)) ▸ flat_get jc_len hz (j:=0) rfl);have f1:=hopen.1 (j * 2+1);have z1:=hopen.2.2.2 (j * 2+1) _ (flat_get jc_len hz (j:=1) rfl);have sz:=hopen.2.1;clear o3 c3 h3 hopen hz ov hl60)
   have HP:=Lib.hid (own_put2 jc_len HO3.out (set_next (y:=((d,.slice rv ls.length cv,ls):Jm)) (z:=((0,.slice none 0 0,[]):Jm)) HLY.out hlt).1 (y:=((d,.slice rv ls.length cv,ls):Jm)) rfl)
   rw [(set_next (y:=((d,.slice rv ls.length cv,ls):Jm)) (z:=((0,.slice none 0 0,[]):Jm)) HLY.out hlt).2] at HP
   have hBG:B≤G:=by have:=HXG.out;omega
   have hwG:w.heap.size≤G:=by have:=HX.out;have:=HXG.out;omega
   have HLS5:Hid (∀ p ∈ ys ++ [((d,.slice rv ls.length cv,ls):Jm)],((w3.setCell ⟨G,j * 2,none⟩ (.int .i32 d)).setCell ⟨G,j * 2+1,none⟩ (.slice rv ls.length cv)).ownsRow X 89 4 p.2.1 p.2.2.length (p.2.2.flatMap lc)∧p.2.2.length≤60 ∧ -2147483648≤p.1∧p.1≤2147483647):=Lib.hid (fun p hp=>by
    have hap:∀ {v:Value} {n:Nat} {xs:List Value},w3.ownsRow X 89 4 v n xs→((w3.setCell ⟨G,j * 2,none⟩ (.int .i32 d)).setCell ⟨G,j * 2+1,none⟩ (.slice rv ls.length cv)).ownsRow X 89 4 v n xs:=fun o=>o.kept HP.out.2 (owns_apart o HO3.out (by decide))
    rcases List.mem_append.1 hp with hp | hp
    ·exact ⟨hap (HLS3.out p hp).1,(HLS3.out p hp).2⟩
    ·simp only [List.mem_singleton] at hp
     subst hp
     exact ⟨hap HOV.out,HL60.out,hd⟩)
   clear f0 z0 f1 z1 sz HO HO3 HOV HLS HLS3
   generalize (w3.setCell ⟨G,j * 2,none⟩ (.int .i32 d)).setCell ⟨G,j * 2+1,none⟩ (.slice rv ls.length cv)=W5 at HP HLS5 ⊢
   have HR5:Hid (RD B W5 g (rrep rjour (j+1) s).2):=Lib.hid (by rw [rrep_last];exact HRD3.out.row HP.out.2 hBG)
   have HG5:=Lib.hid (grown_rowP HG3.out HP.out.2 hwG)
   have HC5:Hid ((rrep rjour (j+1) s).2.c=0→(ys ++ [((d,.slice rv ls.length cv,ls):Jm)]).map jOf=(rrep rjour (j+1) s).1):=Lib.hid (by rw [List.map_append];exact rep_step cod_jour HC.out HC3.out)
   have HP1:=Lib.hid HP.out.1
   have HL5:Hid ((ys ++ [((d,.slice rv ls.length cv,ls):Jm)]).length=j+1):=Lib.hid (by rw [List.length_append,HLY.out];rfl)
   clear HP HRD HRD3 HG HG3 HC HC3 HLY
   go_wp2_with fail
   go_round
   case rel=>exact ⟨j+1,ys ++ [((d,.slice rv ls.length cv,ls):Jm)],rfl,by omega,HL5,HP1,HLS5,HR5,HC5,HG5⟩
   case measure =>
    show n-((j:Int)+1).toNat<n-((j:Int)).toNat
    omega
  ·obtain rfl:j=n:=by omega
   have t2:decide ((j:Int)<(j:Int))=false:=decide_eq_false (by omega)
   go_wp2_with fail
   go_ret
   have h:=HO.out
   rw [Nat.sub_self,List.replicate_zero,List.append_nil] at h
   exact ⟨_,ys,rfl,HLY.out,by rw [HLY.out];exact h,HLS.out,HRD.out,HC.out,HG.out⟩
theorem bookR_c {B:Nat} {w:World} {g:Nat} {r:Rd} (h:RD B w g r) :
 Calls Tryz.prog 26 #[.pointer (some ⟨g,0,none⟩)] w fun e w'=>∃ (vC vU vS vJ:Value) (C:List Ac) (U:List Nat) (S:List Int) (E:Int) (J:List Jm),e = .returned (.agg #[vC,vU,vS,.int .i32 E,vJ]) ∧
  w'.ownsRow w.heap.size 76 4 vC C.length (C.flatMap cc)∧w'.ownsRow w.heap.size 52 1 vU U.length (U.flatMap uc)∧w'.ownsRow w.heap.size 34 1 vS S.length (S.flatMap dcl)∧w'.ownsRow w.heap.size 67 2 vJ J.length (J.flatMap jc) ∧
  (∀ p ∈ J,w'.ownsRow w.heap.size 89 4 p.2.1 p.2.2.length (p.2.2.flatMap lc)∧p.2.2.length≤60 ∧ -2147483648≤p.1∧p.1≤2147483647)∧(C.length≤200∧U.length≤40∧S.length≤60∧J.length≤2000)∧RD B w' g (rbd r).2∧((rbd r).2.c=0→(C,U,S,E,J.map jOf)=(rbd r).1)∧w.grownBy w' (some g):=by
 obtain ⟨r1,g1⟩:∃ q,(rlist 200 4 racc r).2=q:=⟨_,rfl⟩
 obtain ⟨r2,g2⟩:∃ q,(rlist 40 1 (rnum 999) r1).2=q:=⟨_,rfl⟩
 obtain ⟨r3,g3⟩:∃ q,(rlist 60 1 rday r2).2=q:=⟨_,rfl⟩
 obtain ⟨r4,g4⟩:∃ q,(rday r3).2=q:=⟨_,rfl⟩
 obtain ⟨r5,g5⟩:∃ q,(rlist 2000 2 rjour r4).2=q:=⟨_,rfl⟩
 have e2:(rbd r).2=r5:=by
  show (rlist 2000 2 rjour (rday (rlist 60 1 rday (rlist 40 1 (rnum 999) (rlist 200 4 racc r).2).2).2).2).2=r5
  rw [g1,g2,g3,g4,g5]
 have e1:(rbd r).1=((rlist 200 4 racc r).1,(rlist 40 1 (rnum 999) r1).1,(rlist 60 1 rday r2).1,(rday r3).1,(rlist 2000 2 rjour r4).1):=by
  show ((rlist 200 4 racc r).1,(rlist 40 1 (rnum 999) (rlist 200 4 racc r).2).1,(rlist 60 1 rday (rlist 40 1 (rnum 999) (rlist 200 4 racc r).2).2).1,(rday (rlist 60 1 rday (rlist 40 1 (rnum 999) (rlist 200 4 racc r).2).2).2).1,(rlist 2000 2 rjour (rday (rlist 60 1 rday (rlist 40 1 (rnum 999) (rlist 200 4 racc r).2).2).2).2).1)=_
  rw [g1,g2,g3,g4]
 have back:∀ {α:Type} {enc:α→List Nat} {f:Rd→α × Rd} {ok:α→Prop} {m:Nat} {a b:Rd},Cod enc f ok m→(f a).2=b→b.c=0→a.c=0:=fun {α enc f ok m a b} hc he h0=>by
  by_cases h9:a.c=0
  ·exact h9
  ·exact absurd (he ▸ h0) (hc.stick a h9)
 have s4:r5.c=0→r4.c=0:=back (cod_jour.list 2000 (by omega)) g5
 have s3:r4.c=0→r3.c=0:=back cod_day g4
 have s2:r3.c=0→r2.c=0:=back (cod_day.list 60 (by omega)) g3
 have s1:r2.c=0→r1.c=0:=back ((cod_num 999 (by omega)).list 40 (by omega)) g2
 have HST:Hid (r5.c=0→r1.c=0∧r2.c=0∧r3.c=0∧r4.c=0):=Lib.hid (fun h=>⟨s1 (s2 (s3 (s4 h))),s2 (s3 (s4 h)),s3 (s4 h),s4 h⟩)
 have n1:=rmany_le 200 4 r
 have n2:=rmany_le 40 1 r1
 have n3:=rmany_le 60 1 r2
 have n5:=rmany_le 2000 2 r4
 have K1:=Lib.hid (fun (W:World) (hW:RD B W g r)=>readall_a hW 200 4 (by omega) (by omega))
 have K2:=Lib.hid (fun (W:World) (hW:RD B W g r1)=>readall_u hW 40 1 (by omega) (by omega))
 have K3:=Lib.hid (fun (W:World) (hW:RD B W g r2)=>readall_d hW 60 1 (by omega) (by omega))
 have K4:=Lib.hid (fun (W:World) (hW:RD B W g r3)=>dayR_c hW)
 have K5:=Lib.hid (fun (W:World) (hW:RD B W g r4)=>readall_j hW 2000 2 (by omega) (by omega))
 rw [g1] at K1
 rw [g2] at K2
 rw [g3] at K3
 rw [g4] at K4
 rw [g5] at K5
 rw [e1,e2]
 have HA:=Lib.hid (AM.start h 41 [.slice none 0 0,.slice none 0 0,.slice none 0 0,.int .i32 0,.slice none 0 0] [.slice none 0 0,.slice none 0 0,.slice none 0 0,.int .i32 0,.slice none 0 0])
 have hX:=h.lt
 clear h e1 e2 back s1 s2 s3 s4 g1 g2 g3 g4 g5
 go_enter Tryz.func26,Tryz.ntmps26
 go_upto_region 2 with fail
 obtain ⟨X,hXe⟩:∃ X,w.heap.size=X:=⟨_,rfl⟩
 have HX:=Lib.hid hXe
 rw [hXe] at HA hX ⊢
 clear hXe
 have HgX:Hid (g<X+1+1):=Lib.hid (by omega)
 generalize (w.alloc (.cells #[.slice none 0 0,.slice none 0 0,.slice none 0 0,.int .i32 0,.slice none 0 0] 41)).alloc (.cells #[.slice none 0 0,.slice none 0 0,.slice none 0 0,.int .i32 0,.slice none 0 0] 41)=W0 at HA ⊢
 have hb1:X+1+1≤W0.heap.size:=HA.out.box.size
 go_upto_region 3 with (go_at_call 61;refine (K1.out _ HA.out.rd).mono ?_;rintro e w2 ⟨v,C,rfl,hl,ov,o2,c2,h2⟩;have HA2:=Lib.hid (HA.out.call o2 h2);have HCC:=Lib.hid c2;obtain ⟨rC,cC,rfl⟩:=own_formP ov;have HC2:=Lib.hid (own_baseP ov hb1);have HNC:=Lib.hid hl;clear hl ov;have f2:=HA2.out.box.frozen 0;have s2:=HA2.out.box.size;have x2:=HA2.out.box.cell (j:=0) rfl;clear o2 h2 c2)
 have HA3:=Lib.hid (HA2.out.set 0 (.slice rC C.length cC))
 have HC3:=Lib.hid (own_farP HC2.out (set_grown w2 ⟨X+1,0,none⟩ (.slice rC C.length cC)) (Nat.lt_succ_self (X+1)))
 clear HA HA2 f2 s2 x2 hb1  HC2
 have HA:=HA3
 have HC:=HC3
 clear HA3 HC3
 simp only [List.set_cons_zero,List.set_cons_succ] at HA
 generalize w2.setCell ⟨X+1,0,none⟩ (.slice rC C.length cC)=W1 at HA HC ⊢
 have hb1:X+1+1≤W1.heap.size:=HA.out.box.size
 go_upto_region 4 with (go_at_call 63;refine (K2.out _ HA.out.rd).mono ?_;rintro e w2 ⟨v,U,rfl,hl,ov,o2,c2,h2⟩;have HA2:=Lib.hid (HA.out.call o2 h2);have HCU:=Lib.hid c2;obtain ⟨rU,cU,rfl⟩:=own_formP ov;have HU2:=Lib.hid (own_baseP ov hb1);have HNU:=Lib.hid hl;clear hl ov;have HC2:=Lib.hid (own_farP HC.out h2 HgX.out);have f2:=HA2.out.box.frozen 1;have s2:=HA2.out.box.size;have x2:=HA2.out.box.cell (j:=1) rfl;clear o2 h2 c2)
 have HA3:=Lib.hid (HA2.out.set 1 (.slice rU U.length cU))
 have HC3:=Lib.hid (own_farP HC2.out (set_grown w2 ⟨X+1,1,none⟩ (.slice rU U.length cU)) (Nat.lt_succ_self (X+1)))
 have HU3:=Lib.hid (own_farP HU2.out (set_grown w2 ⟨X+1,1,none⟩ (.slice rU U.length cU)) (Nat.lt_succ_self (X+1)))
 clear HA HA2 f2 s2 x2 hb1 HC HC2 HU2
 have HA:=HA3
 have HC:=HC3
 have HU:=HU3
 clear HA3 HC3 HU3
 simp only [List.set_cons_zero,List.set_cons_succ] at HA
 generalize w2.setCell ⟨X+1,1,none⟩ (.slice rU U.length cU)=W2 at HA HC HU ⊢
 have hb1:X+1+1≤W2.heap.size:=HA.out.box.size
 go_upto_region 5 with (go_at_call 65;refine (K3.out _ HA.out.rd).mono ?_;rintro e w2 ⟨v,S,rfl,hl,ov,o2,c2,h2⟩;have HA2:=Lib.hid (HA.out.call o2 h2);have HCS:=Lib.hid c2;obtain ⟨rS,cS,rfl⟩:=own_formP ov;have HS2:=Lib.hid (own_baseP ov hb1);have HNS:=Lib.hid hl;clear hl ov;have HC2:=Lib.hid (own_farP HC.out h2 HgX.out);have HU2:=Lib.hid (own_farP HU.out h2 HgX.out);have f2:=HA2.out.box.frozen 2;have s2:=HA2.out.box.size;have x2:=HA2.out.box.cell (j:=2) rfl;clear o2 h2 c2)
 have HA3:=Lib.hid (HA2.out.set 2 (.slice rS S.length cS))
 have HC3:=Lib.hid (own_farP HC2.out (set_grown w2 ⟨X+1,2,none⟩ (.slice rS S.length cS)) (Nat.lt_succ_self (X+1)))
 have HU3:=Lib.hid (own_farP HU2.out (set_grown w2 ⟨X+1,2,none⟩ (.slice rS S.length cS)) (Nat.lt_succ_self (X+1)))
 have HS3:=Lib.hid (own_farP HS2.out (set_grown w2 ⟨X+1,2,none⟩ (.slice rS S.length cS)) (Nat.lt_succ_self (X+1)))
 clear HA HA2 f2 s2 x2 hb1 HC HU HC2 HU2 HS2
 have HA:=HA3
 have HC:=HC3
 have HU:=HU3
 have HS:=HS3
 clear HA3 HC3 HU3 HS3
 simp only [List.set_cons_zero,List.set_cons_succ] at HA
 generalize w2.setCell ⟨X+1,2,none⟩ (.slice rS S.length cS)=W3 at HA HC HU HS ⊢
 have hb1:X+1+1≤W3.heap.size:=HA.out.box.size
 go_upto_region 6 with (go_at_call 66;refine (K4.out _ HA.out.rd).mono ?_;rintro e w2 ⟨E,rfl,hE,o2,c2,h2⟩;have HA2:=Lib.hid (HA.out.call o2 h2);have HCE:=Lib.hid c2;have HC2:=Lib.hid (own_farP HC.out h2 HgX.out);have HU2:=Lib.hid (own_farP HU.out h2 HgX.out);have HS2:=Lib.hid (own_farP HS.out h2 HgX.out);have f2:=HA2.out.box.frozen 3;have s2:=HA2.out.box.size;have x2:=HA2.out.box.cell (j:=3) rfl;clear o2 h2 c2)
 have HA3:=Lib.hid (HA2.out.set 3 (.int .i32 E))
 have HC3:=Lib.hid (own_farP HC2.out (set_grown w2 ⟨X+1,3,none⟩ (.int .i32 E)) (Nat.lt_succ_self (X+1)))
 have HU3:=Lib.hid (own_farP HU2.out (set_grown w2 ⟨X+1,3,none⟩ (.int .i32 E)) (Nat.lt_succ_self (X+1)))
 have HS3:=Lib.hid (own_farP HS2.out (set_grown w2 ⟨X+1,3,none⟩ (.int .i32 E)) (Nat.lt_succ_self (X+1)))
 clear HA HA2 f2 s2 x2 hb1 HC HU HS HC2 HU2 HS2
 have HA:=HA3
 have HC:=HC3
 have HU:=HU3
 have HS:=HS3
 clear HA3 HC3 HU3 HS3
 simp only [List.set_cons_zero,List.set_cons_succ] at HA
 generalize w2.setCell ⟨X+1,3,none⟩ (.int .i32 E)=W4 at HA HC HU HS ⊢
 have hb1:X+1+1≤W4.heap.size:=HA.out.box.size
 go_upto_region 7 with (go_at_call 67;refine (K5.out _ HA.out.rd).mono ?_;rintro e w2 ⟨v,J,rfl,hl,ov,ol,o2,c2,h2⟩;have HA2:=Lib.hid (HA.out.call o2 h2);have HCJ:=Lib.hid c2;obtain ⟨rJ,cJ,rfl⟩:=own_formP ov;have HJ2:=Lib.hid (own_baseP ov hb1);have HL2:=Lib.hid (fun p hp=>And.intro (own_baseP (ol p hp).1 hb1) (ol p hp).2);have HNJ:=Lib.hid hl;clear hl ov ol;have HC2:=Lib.hid (own_farP HC.out h2 HgX.out);have HU2:=Lib.hid (own_farP HU.out h2 HgX.out);have HS2:=Lib.hid (own_farP HS.out h2 HgX.out);have f2:=HA2.out.box.frozen 4;have s2:=HA2.out.box.size;have x2:=HA2.out.box.cell (j:=4) rfl;clear o2 h2 c2)
 have HA3:=Lib.hid (HA2.out.set 4 (.slice rJ J.length cJ))
 have HC3:=Lib.hid (own_farP HC2.out (set_grown w2 ⟨X+1,4,none⟩ (.slice rJ J.length cJ)) (Nat.lt_succ_self (X+1)))
 have HU3:=Lib.hid (own_farP HU2.out (set_grown w2 ⟨X+1,4,none⟩ (.slice rJ J.length cJ)) (Nat.lt_succ_self (X+1)))
 have HS3:=Lib.hid (own_farP HS2.out (set_grown w2 ⟨X+1,4,none⟩ (.slice rJ J.length cJ)) (Nat.lt_succ_self (X+1)))
 have HJ3:=Lib.hid (own_farP HJ2.out (set_grown w2 ⟨X+1,4,none⟩ (.slice rJ J.length cJ)) (Nat.lt_succ_self (X+1)))
 have HL3:=Lib.hid (fun p hp=>And.intro (own_farP (HL2.out p hp).1 (set_grown w2 ⟨X+1,4,none⟩ (.slice rJ J.length cJ)) (Nat.lt_succ_self (X+1))) (HL2.out p hp).2)
 clear HA HA2 f2 s2 x2 hb1 HC HU HS HC2 HU2 HS2 HJ2 HL2
 have HA:=HA3
 have HC:=HC3
 have HU:=HU3
 have HS:=HS3
 have HJ:=HJ3
 have HL:=HL3
 clear HA3 HC3 HU3 HS3 HJ3 HL3
 simp only [List.set_cons_zero,List.set_cons_succ] at HA
 generalize w2.setCell ⟨X+1,4,none⟩ (.slice rJ J.length cJ)=W5 at HA HC HU HS HJ HL ⊢
 have z0:=HA.out.box.cell (j:=0) rfl
 have y0:=HA.out.res.cell (j:=0) rfl
 have f0:=HA.out.res.frozen 0
 have z1:=HA.out.box.cell (j:=1) rfl
 have y1:=HA.out.res.cell (j:=1) rfl
 have f1:=HA.out.res.frozen 1
 have z2:=HA.out.box.cell (j:=2) rfl
 have y2:=HA.out.res.cell (j:=2) rfl
 have f2:=HA.out.res.frozen 2
 have z3:=HA.out.box.cell (j:=3) rfl
 have y3:=HA.out.res.cell (j:=3) rfl
 have f3:=HA.out.res.frozen 3
 have z4:=HA.out.box.cell (j:=4) rfl
 have y4:=HA.out.res.cell (j:=4) rfl
 have f4:=HA.out.res.frozen 4
 have hs:=HA.out.res.size
 have HR:=Lib.hid (((((HA.out.setr 0 (.slice rC C.length cC)).setr 1 (.slice rU U.length cU)).setr 2 (.slice rS S.length cS)).setr 3 (.int .i32 E)).setr 4 (.slice rJ J.length cJ))
 simp only [List.set_cons_zero,List.set_cons_succ] at HR
 have hX2:X<X+1+1:=by omega
 have HC9:=Lib.hid (own_farP (own_farP (own_farP (own_farP (own_farP HC.out (set_grown W5 ⟨X,0,none⟩ (.slice rC C.length cC)) hX2) (set_grown (W5.setCell ⟨X,0,none⟩ (.slice rC C.length cC)) ⟨X,1,none⟩ (.slice rU U.length cU)) hX2) (set_grown ((W5.setCell ⟨X,0,none⟩ (.slice rC C.length cC)).setCell ⟨X,1,none⟩ (.slice rU U.length cU)) ⟨X,2,none⟩ (.slice rS S.length cS)) hX2) (set_grown (((W5.setCell ⟨X,0,none⟩ (.slice rC C.length cC)).setCell ⟨X,1,none⟩ (.slice rU U.length cU)).setCell ⟨X,2,none⟩ (.slice rS S.length cS)) ⟨X,3,none⟩ (.int .i32 E)) hX2) (set_grown ((((W5.setCell ⟨X,0,none⟩ (.slice rC C.length cC)).setCell ⟨X,1,none⟩ (.slice rU U.length cU)).setCell ⟨X,2,none⟩ (.slice rS S.length cS)).setCell ⟨X,3,none⟩ (.int .i32 E)) ⟨X,4,none⟩ (.slice rJ J.length cJ)) hX2)
 have HU9:=Lib.hid (own_farP (own_farP (own_farP (own_farP (own_farP HU.out (set_grown W5 ⟨X,0,none⟩ (.slice rC C.length cC)) hX2) (set_grown (W5.setCell ⟨X,0,none⟩ (.slice rC C.length cC)) ⟨X,1,none⟩ (.slice rU U.length cU)) hX2) (set_grown ((W5.setCell ⟨X,0,none⟩ (.slice rC C.length cC)).setCell ⟨X,1,none⟩ (.slice rU U.length cU)) ⟨X,2,none⟩ (.slice rS S.length cS)) hX2) (set_grown (((W5.setCell ⟨X,0,none⟩ (.slice rC C.length cC)).setCell ⟨X,1,none⟩ (.slice rU U.length cU)).setCell ⟨X,2,none⟩ (.slice rS S.length cS)) ⟨X,3,none⟩ (.int .i32 E)) hX2) (set_grown ((((W5.setCell ⟨X,0,none⟩ (.slice rC C.length cC)).setCell ⟨X,1,none⟩ (.slice rU U.length cU)).setCell ⟨X,2,none⟩ (.slice rS S.length cS)).setCell ⟨X,3,none⟩ (.int .i32 E)) ⟨X,4,none⟩ (.slice rJ J.length cJ)) hX2)
 have HS9:=Lib.hid (own_farP (own_farP (own_farP (own_farP (own_farP HS.out (set_grown W5 ⟨X,0,none⟩ (.slice rC C.length cC)) hX2) (set_grown (W5.setCell ⟨X,0,none⟩ (.slice rC C.length cC)) ⟨X,1,none⟩ (.slice rU U.length cU)) hX2) (set_grown ((W5.setCell ⟨X,0,none⟩ (.slice rC C.length cC)).setCell ⟨X,1,none⟩ (.slice rU U.length cU)) ⟨X,2,none⟩ (.slice rS S.length cS)) hX2) (set_grown (((W5.setCell ⟨X,0,none⟩ (.slice rC C.length cC)).setCell ⟨X,1,none⟩ (.slice rU U.length cU)).setCell ⟨X,2,none⟩ (.slice rS S.length cS)) ⟨X,3,none⟩ (.int .i32 E)) hX2) (set_grown ((((W5.setCell ⟨X,0,none⟩ (.slice rC C.length cC)).setCell ⟨X,1,none⟩ (.slice rU U.length cU)).setCell ⟨X,2,none⟩ (.slice rS S.length cS)).setCell ⟨X,3,none⟩ (.int .i32 E)) ⟨X,4,none⟩ (.slice rJ J.length cJ)) hX2)
 have HJ9:=Lib.hid (own_farP (own_farP (own_farP (own_farP (own_farP HJ.out (set_grown W5 ⟨X,0,none⟩ (.slice rC C.length cC)) hX2) (set_grown (W5.setCell ⟨X,0,none⟩ (.slice rC C.length cC)) ⟨X,1,none⟩ (.slice rU U.length cU)) hX2) (set_grown ((W5.setCell ⟨X,0,none⟩ (.slice rC C.length cC)).setCell ⟨X,1,none⟩ (.slice rU U.length cU)) ⟨X,2,none⟩ (.slice rS S.length cS)) hX2) (set_grown (((W5.setCell ⟨X,0,none⟩ (.slice rC C.length cC)).setCell ⟨X,1,none⟩ (.slice rU U.length cU)).setCell ⟨X,2,none⟩ (.slice rS S.length cS)) ⟨X,3,none⟩ (.int .i32 E)) hX2) (set_grown ((((W5.setCell ⟨X,0,none⟩ (.slice rC C.length cC)).setCell ⟨X,1,none⟩ (.slice rU U.length cU)).setCell ⟨X,2,none⟩ (.slice rS S.length cS)).setCell ⟨X,3,none⟩ (.int .i32 E)) ⟨X,4,none⟩ (.slice rJ J.length cJ)) hX2)
 have HL9:=Lib.hid (fun p hp=>And.intro (own_farP (own_farP (own_farP (own_farP (own_farP (HL.out p hp).1 (set_grown W5 ⟨X,0,none⟩ (.slice rC C.length cC)) hX2) (set_grown (W5.setCell ⟨X,0,none⟩ (.slice rC C.length cC)) ⟨X,1,none⟩ (.slice rU U.length cU)) hX2) (set_grown ((W5.setCell ⟨X,0,none⟩ (.slice rC C.length cC)).setCell ⟨X,1,none⟩ (.slice rU U.length cU)) ⟨X,2,none⟩ (.slice rS S.length cS)) hX2) (set_grown (((W5.setCell ⟨X,0,none⟩ (.slice rC C.length cC)).setCell ⟨X,1,none⟩ (.slice rU U.length cU)).setCell ⟨X,2,none⟩ (.slice rS S.length cS)) ⟨X,3,none⟩ (.int .i32 E)) hX2) (set_grown ((((W5.setCell ⟨X,0,none⟩ (.slice rC C.length cC)).setCell ⟨X,1,none⟩ (.slice rU U.length cU)).setCell ⟨X,2,none⟩ (.slice rS S.length cS)).setCell ⟨X,3,none⟩ (.int .i32 E)) ⟨X,4,none⟩ (.slice rJ J.length cJ)) hX2) (HL.out p hp).2)
 go_wp2_with fail
 have a0:=HR.out.res.cell (j:=0) rfl
 have a1:=HR.out.res.cell (j:=1) rfl
 have a2:=HR.out.res.cell (j:=2) rfl
 have a3:=HR.out.res.cell (j:=3) rfl
 have a4:=HR.out.res.cell (j:=4) rfl
 refine bodyPost_ret (v:=.agg #[(.slice rC C.length cC),(.slice rU U.length cU),(.slice rS S.length cS),(.int .i32 E),(.slice rJ J.length cJ)]) (by simp [results,Tryz.results26,go_sem,a0,a1,a2,a3,a4]) rfl ?_
 have hwX:w.heap.size≤X+1+1:=by have:=HX.out;omega
 refine ⟨_,_,_,_,C,U,S,E,J,rfl,own_baseP HC9.out hwX,own_baseP HU9.out hwX,own_baseP HS9.out hwX,own_baseP HJ9.out hwX,fun p hp=>⟨own_baseP (HL9.out p hp).1 hwX,(HL9.out p hp).2⟩,⟨by rw [HNC.out];exact n1,by rw [HNU.out];exact n2,by rw [HNS.out];exact n3,by rw [HNJ.out];exact n5⟩,HR.out.rd,fun h0=>?_,HR.out.gr⟩
 obtain ⟨c1,c2,c3,c4⟩:=HST.out h0
 rw [HCC.out c1,HCU.out c2,HCS.out c3,HCE.out c4,HCJ.out h0]
def endE (r:Rd):Int:=if r.c≠0 then r.c else if r.b≠[] then 4 else 0
theorem endR_c {B:Nat} {w:World} {g:Nat} {r:Rd} (h:RD B w g r) :
 Calls Tryz.prog 27 #[.pointer (some ⟨g,0,none⟩)] w fun e w'=>e = .returned (.int .i64 (endE r))∧Below w.heap.size w w':=by
 obtain ⟨ad,cap,l,hb,⟨b,off,rfl,hbB⟩,⟨hgB,hBw,hcap⟩,hB,hR,hl⟩:=h
 obtain ⟨rb,c0⟩:=r
 simp only at hB hl
 obtain ⟨E,hE⟩:∃ E,endE ⟨rb,c0⟩=E:=⟨_,rfl⟩
 rw [hE]
 obtain ⟨L,hL⟩:∃ L,l.length=L:=⟨_,rfl⟩
 rw [hL] at hB
 have x0:=hB.cell0
 have x1:=hB.cell1
 have hb:=Below.refl w.heap.size w
 unfold endE at hE
 simp only at hE
 by_cases hc:c0=0
 ·subst hc
  obtain rfl:=hl rfl
  rw [if_neg (by simp)] at hE
  by_cases hp:0<L
  ·have t1:decide ((0:Int)<(L:Int))=true:=decide_eq_true (by omega)
   rw [if_pos (by intro h;rw [h] at hL;simp at hL;omega)] at hE
   subst hE
   clear hB hR hl
   go_enter Tryz.func27,Tryz.ntmps27
   go_wp2
   go_ret
   exact ⟨rfl,hb⟩
  ·have t1:decide ((0:Int)<(L:Int))=false:=decide_eq_false (by omega)
   rw [if_neg (by intro h;exact h (List.eq_nil_of_length_eq_zero (by omega)))] at hE
   subst hE
   clear hB hR hl
   go_enter Tryz.func27,Tryz.ntmps27
   go_wp2
   go_ret
   exact ⟨rfl,hb⟩
 ·have t1:(c0 == 0)=false:=by rw [beq_eq_false_iff_ne];exact hc
  rw [if_pos hc] at hE
  subst hE
  clear hB hR hl
  go_enter Tryz.func27,Tryz.ntmps27
  go_wp2
  go_ret
  exact ⟨rfl,hb⟩
def markE (l:List Nat):Int:=if 1048576<l.length then 2 else if l.length<4 then 3 else if l.take 4≠[84,82,80,49] then 1 else 0
theorem mark_c (vb:Value) (l:List Nat) (w:World) (hR:Recs byc 1 w vb l) (hb:∀ c ∈ l,c<256) :
 Calls Tryz.prog 25 #[vb] w fun e w'=>e = .returned (.int .i64 (markE l))∧Below w.heap.size w w':=by
 obtain ⟨rr,cap,rfl,hml⟩:=hR.form
 obtain ⟨E,hE⟩:∃ E,markE l=E:=⟨_,rfl⟩
 rw [hE]
 unfold markE at hE
 have hb0:=Below.refl w.heap.size w
 obtain ⟨L,hL⟩:∃ L,l.length=L:=⟨_,rfl⟩
 rw [hL] at hE ⊢
 by_cases h1:1048576<L
 ·have t1:decide ((1048576:Int)<(L:Int))=true:=decide_eq_true (by omega)
  rw [if_pos h1] at hE
  subst hE
  clear hR hb hL
  go_enter Tryz.func25,Tryz.ntmps25
  go_wp2
  go_ret
  exact ⟨rfl,hb0⟩
 ·have t1:decide ((1048576:Int)<(L:Int))=false:=decide_eq_false (by omega)
  rw [if_neg h1] at hE
  by_cases h2:L<4
  ·have t2:decide ((L:Int)<4)=true:=decide_eq_true (by omega)
   rw [if_pos h2] at hE
   subst hE
   clear hR hb hL
   go_enter Tryz.func25,Tryz.ntmps25
   go_wp2
   go_ret
   exact ⟨rfl,hb0⟩
  ·have t2:decide ((L:Int)<4)=false:=decide_eq_false (by omega)
   rw [if_neg h2] at hE
   obtain ⟨y,hy⟩:∃ y,l[0]?=some y:=⟨l[0]'(by omega),List.getElem?_eq_getElem (by omega)⟩
   obtain ⟨b,off,rfl,hb9,_⟩:=hR.at hy
   have hcap:L≤cap:=by
    rcases hR with ⟨_,_,h,h'⟩ | ⟨_,_,_,h,_,_,h',_⟩
    ·rw [h'] at hL;simp at hL;omega
    ·cases h;omega
   have hcv:=name_of (P:=Tryz.prog) w 25 5 9 rfl rfl rfl hR hb 4 (by omega)
   have hnl:nameL (nameOf (l.take 4))=l.take 4:=nameL_of (fun c hc=>hb c (List.mem_of_mem_take hc))
   obtain ⟨S,hS⟩:∃ S,nameOf (l.take 4)=S:=⟨_,rfl⟩
   rw [hS] at hcv hnl
   have hT:nameL ⟨#[84,82,80,49]⟩=[84,82,80,49]:=by decide
   by_cases h3:l.take 4=[84,82,80,49]
   ·have hST:S=⟨#[84,82,80,49]⟩:=by
     rw [← nameOf_L S,hnl,h3,← hT,nameOf_L]
    rw [if_neg (by simp [h3])] at hE
    subst hST
    subst hE
    clear hR hb hL hy hS hnl hT h3 hb9
    go_enter Tryz.func25,Tryz.ntmps25
    go_wp2
    go_ret
    exact ⟨rfl,hb0⟩
   ·have hST:S≠⟨#[84,82,80,49]⟩:=fun e=>h3 (by rw [← hnl,e];exact hT)
    rw [if_pos h3] at hE
    subst hE
    have t3:(S.toList == ([84,82,80,49]:List UInt8))=false:=by
     rw [beq_eq_false_iff_ne]
     intro h9
     apply h3
     rw [← hnl]
     unfold nameL
     rw [← ByteArray.toList_eq,h9]
     rfl
    clear hR hb hL hy hS hnl hT h3 hb9
    go_enter Tryz.func25,Tryz.ntmps25
    go_wp2
    go_ret
    exact ⟨rfl,hb0⟩
theorem recs_of_ownsP {α:Type} {enc:α→List Value} {k:Nat} (hk:∀ x,(enc x).length=k) {w:World} {base n:Nat} {e:TypeId} {v:Value} {xs:List α} (h:w.ownsRow base e k v n (xs.flatMap enc)) (hn:n=xs.length) (hm:n≤100000):Recs enc k w v xs:=by
 have hcl:=h.lt
 rcases h.2 with ⟨rfl,h0⟩ | ⟨g,cap,cur,rfl,hb,hg,hnc,hcm,_⟩
 ·have:xs=[]:=List.eq_nil_of_length_eq_zero (by omega)
  subst this
  exact .inl ⟨_,_,rfl,rfl⟩
 ·have hc:=h.cells (g:=g) rfl
  refine .inr ⟨g,0,cap,by rw [hn],(hcl g rfl).2,by omega,by omega,fun i x hx j u hu=>?_⟩
  have:=hc _ _ (flat_get hk hx hu)
  rw [Nat.zero_add]
  have e0:(⟨g,0,none⟩:Addr).add (i * k+j)=⟨g,i * k+j,none⟩:=by simp [Addr.add];intro h1 h2;omega
  rw [e0] at this
  exact this
def DecR (l:List Nat) (e:Ending) (w w':World):Prop:=∃ (vC vU vS vJ:Value) (vs:List Jm),e = .returned (.tuple #[bkV vC vU vS (decB l).1.E vJ,.int .i64 (decB l).2.2])∧FrM (decB l).1 vC vU vS w'∧JRow w' vJ vs∧vs.map jOf=(decB l).2.1∧Below w.heap.size w w'
theorem dec_zero {l:List Nat} {c:Int} {w w':World} (h:decB l=(⟨[],[],[],0⟩,[],c)) (hb:Below w.heap.size w w'):DecR l (.returned (.tuple #[.agg #[.slice none 0 0,.slice none 0 0,.slice none 0 0,.int .i32 0,.slice none 0 0],.int .i64 c])) w w':=by
 refine ⟨.slice none 0 0,.slice none 0 0,.slice none 0 0,.slice none 0 0,[],?_,?_,JRow.nil _ _ _,?_,hb⟩
 ·rw [h];rfl
 ·rw [h];exact ⟨.inl ⟨_,_,rfl,rfl⟩,.inl ⟨_,_,rfl,rfl⟩,.inl ⟨_,_,rfl,rfl⟩⟩
 ·rw [h];rfl
theorem decB_mark {l:List Nat} (h:markE l≠0):decB l=(⟨[],[],[],0⟩,[],markE l):=by
 unfold markE at h ⊢
 unfold decB
 split
 ·rfl
 ·rename_i h1
  rw [if_neg h1] at h
  split
  ·rfl
  ·rename_i h2
   rw [if_neg h2] at h
   split
   ·rfl
   ·rename_i h3
    rw [if_neg h3] at h
    exact absurd rfl h
theorem markE_ok {l:List Nat} (h:markE l=0):¬ 1048576<l.length ∧ ¬ l.length<4∧l.take 4=[84,82,80,49]:=by
 unfold markE at h
 split at h
 ·simp at h
 ·rename_i h1
  split at h
  ·simp at h
  ·rename_i h2
   split at h
   ·simp at h
   ·rename_i h3
    exact ⟨h1,h2,by simpa using h3⟩
theorem decB_bad {l:List Nat} (h:markE l=0) (hc:decE (rbd ⟨l.drop 4,0⟩)≠0):decB l=(⟨[],[],[],0⟩,[],decE (rbd ⟨l.drop 4,0⟩)):=by
 obtain ⟨h1,h2,h3⟩:=markE_ok h
 unfold decB
 rw [if_neg h1,if_neg h2,if_neg (by simp [h3]),if_pos hc]
theorem decB_good {l:List Nat} (h:markE l=0) (hc:decE (rbd ⟨l.drop 4,0⟩)=0):decB l=(frOf (rbd ⟨l.drop 4,0⟩).1,(rbd ⟨l.drop 4,0⟩).1.2.2.2.2,0):=by
 obtain ⟨h1,h2,h3⟩:=markE_ok h
 unfold decB
 rw [if_neg h1,if_neg h2,if_neg (by simp [h3]),if_neg (by simp [hc])]
theorem rbd_in {l:List Nat} (hb:∀ c ∈ l,c<256) (hc:(rbd ⟨l.drop 4,0⟩).2.c=0):OkBd (rbd ⟨l.drop 4,0⟩).1 :=
 (cod_bd.back ⟨l.drop 4,0⟩ (fun c hcc=>hb c (List.mem_of_mem_drop hcc)) hc).2.2
theorem ddecode_c {I:World→Prop} (D:DayC I) (BC:BookC I) (vb:Value) (l:List Nat) (w:World) (hI:I w) (hR:Recs byc 1 w vb l) (hb:∀ c ∈ l,c<256) :
 Calls Tryz.prog 12 #[vb] w fun e w'=>DecR l e w w':=by
 obtain ⟨rr,cap,rfl,hml⟩:=hR.form
 obtain ⟨X,hXe⟩:∃ X,w.heap.size=X:=⟨_,rfl⟩
 have HXE:=Lib.hid hXe
 have hb1:=(Below.refl w.heap.size w).alloc (Nat.le_refl _) (.cells #[.slice none 0 0,.slice none 0 0,.slice none 0 0,.int .i32 0,.slice none 0 0] 41)
 have hbx:HBox (w.alloc (.cells #[.slice none 0 0,.slice none 0 0,.slice none 0 0,.int .i32 0,.slice none 0 0] 41)) w.heap.size [.slice none 0 0,.slice none 0 0,.slice none 0 0,.int .i32 0,.slice none 0 0] 41:=HBox.new w [.slice none 0 0,.slice none 0 0,.slice none 0 0,.int .i32 0,.slice none 0 0] 41
 rw [hXe] at hbx
 have hs1:(w.alloc (.cells #[.slice none 0 0,.slice none 0 0,.slice none 0 0,.int .i32 0,.slice none 0 0] 41)).heap.size=X+1:=by simp [hXe]
 have K1:=mark_c _ l _ (hR.stay hb1) hb
 obtain ⟨L,hL⟩:∃ L,l.length=L:=⟨_,rfl⟩
 have HLL:=Lib.hid hL
 rw [hL] at K1 hR hml ⊢
 have HR:=Lib.hid hR
 have HB1:=Lib.hid hb1
 have HX1:=Lib.hid hbx
 have HS1:=Lib.hid hs1
 have HI:=Lib.hid hI
 have HD:=Lib.hid D
 have HBC:=Lib.hid BC
 have HBY:=Lib.hid hb
 have KK1:=Lib.hid K1
 clear hR hb1 hbx hs1 hI D BC hb K1 hL hXe
 by_cases hm:markE l=0
 ·rw [hm] at KK1
  obtain ⟨hm1,hm2,hm3⟩:=markE_ok hm
  have h4:4≤L:=by have:=HLL.out;omega
  obtain ⟨y,hy⟩:∃ y,l[0]?=some y:=⟨l[0]'(by have:=HLL.out;omega),List.getElem?_eq_getElem (by have:=HLL.out;omega)⟩
  obtain ⟨b,off,rfl,hb9,_⟩:=HR.out.at hy
  have hcap:L≤cap:=by
   rcases HR.out with ⟨_,_,h,h'⟩ | ⟨_,_,_,h,_,_,h',_⟩
   ·have:=HLL.out;rw [h'] at this;simp at this;omega
   ·cases h;have:=HLL.out;omega
  have HM:=Lib.hid hm
  clear hy hm hm1 hm2 hm3
  go_enter Tryz.func12,Tryz.ntmps12
  go_upto_region 1 with fail
  rw [HXE.out]
  generalize w.alloc (.cells #[.slice none 0 0,.slice none 0 0,.slice none 0 0,.int .i32 0,.slice none 0 0] 41)=W1 at HB1 HX1 HS1 KK1 ⊢
  go_upto_region 4 with (go_at_call 25;refine KK1.out.mono ?_;rintro e w2 ⟨rfl,h2⟩;have HB2:=Lib.hid (HB1.out.trans (h2.mono HB1.out.size));have HX2:=Lib.hid (HX1.out.stay h2);have hs2:X+1≤w2.heap.size:=HS1.out ▸ h2.size;clear h2)
  have HR2:=Lib.hid (HR.out.stay HB2.out)
  have hD:=byc_drop HR2.out HLL.out 4 h4
  obtain ⟨off',hra⟩:=if_addr (cap=4) b off 4
  rw [hra] at hD
  go_upto_region 5 with fail
  have hg2:b<w2.heap.size:=Nat.lt_of_lt_of_le hb9 HB2.out.size
  have hw2:w.heap.size≤w2.heap.size:=HB2.out.size
  have hrb:=heap_alloc_new w2 (.cells #[.slice (some ⟨b,off',none⟩) (L-4) (cap-4),.int .i64 0] 70)
  have hbw:=(Below.refl w2.heap.size w2).alloc (Nat.le_refl _) (.cells #[.slice (some ⟨b,off',none⟩) (L-4) (cap-4),.int .i64 0] 70)
  have hs3:(w2.alloc (.cells #[.slice (some ⟨b,off',none⟩) (L-4) (cap-4),.int .i64 0] 70)).heap.size=w2.heap.size+1:=by simp
  have hl4:(l.drop 4).length=L-4:=by rw [List.length_drop,HLL.out]
  have hRD:RD (w2.heap.size+1) (w2.alloc (.cells #[.slice (some ⟨b,off',none⟩) (L-4) (cap-4),.int .i64 0] 70)) w2.heap.size ⟨l.drop 4,0⟩ :=
   ⟨_,cap-4,l.drop 4,fun c hc=>HBY.out c (List.mem_of_mem_drop hc),⟨b,off',rfl,by omega⟩,⟨by omega,by omega,by omega⟩,by rw [hl4];exact hrb,by rw [hl4];exact hD.stay hbw,fun _=>rfl⟩
  have HB3:=Lib.hid (HB2.out.trans (hbw.mono hw2))
  have HX3:=Lib.hid (HX2.out.stay hbw)
  have HRD:=Lib.hid hRD
  have HS3:=Lib.hid hs3
  clear hD hra hRD hrb hbw hs3 hl4 HR2 HX2 HB2 HR hb9 hg2
  obtain ⟨g,hg⟩:∃ g,w2.heap.size=g:=⟨_,rfl⟩
  rw [hg] at HRD HS3 hs2 hw2 ⊢
  clear hg
  generalize w2.alloc (.cells #[.slice (some ⟨b,off',none⟩) (L-4) (cap-4),.int .i64 0] 70)=W3 at HB3 HX3 HRD HS3 ⊢
  have K5:=Lib.hid (bookR_c HRD.out)
  have HIN:=Lib.hid (fun h=>rbd_in (l:=l) HBY.out h)
  have HBAD:=Lib.hid (fun h=>decB_bad (l:=l) HM.out h)
  have HGOOD:=Lib.hid (fun h=>decB_good (l:=l) HM.out h)
  generalize rbd ⟨l.drop 4,0⟩=P at K5 HIN HBAD HGOOD
  go_upto_region 6 with (go_at_call 26;refine K5.out.mono ?_;rintro e w4 ⟨vC,vU,vS,vJ,C,U,S,E,J,rfl,oC,oU,oS,oJ,oL,hlen,hr,hc,hgr⟩;obtain ⟨rC,cC,rfl⟩:=own_formP oC;obtain ⟨rU,cU,rfl⟩:=own_formP oU;obtain ⟨rS,cS,rfl⟩:=own_formP oS;obtain ⟨rJ,cJ,rfl⟩:=own_formP oJ;have HROW:=Lib.hid (And.intro oC (And.intro oU (And.intro oS (And.intro oJ oL))));have HLEN:=Lib.hid hlen;have HR4:=Lib.hid hr;have HC4:=Lib.hid hc;have HG4:=Lib.hid hgr;clear oC oU oS oJ oL hlen hr hc hgr)
  have hbw:=(Below.refl w4.heap.size w4).alloc (Nat.le_refl _) (.cells #[.slice rC C.length cC,.slice rU U.length cU,.slice rS S.length cS,.int .i32 E,.slice rJ J.length cJ] 41)
  have hY:HBox (w4.alloc (.cells #[.slice rC C.length cC,.slice rU U.length cU,.slice rS S.length cS,.int .i32 E,.slice rJ J.length cJ] 41)) w4.heap.size [.slice rC C.length cC,.slice rU U.length cU,.slice rS S.length cS,.int .i32 E,.slice rJ J.length cJ] 41:=HBox.new w4 [.slice rC C.length cC,.slice rU U.length cU,.slice rS S.length cS,.int .i32 E,.slice rJ J.length cJ] 41
  have hsz4:g+1≤w4.heap.size:=HS3.out ▸ HG4.out.size
  have HB4:Hid (Below w.heap.size w w4):=Lib.hid (HB3.out.grown HG4.out HB3.out.size (fun k hk=>by cases hk;omega))
  have HX4:Hid (HBox w4 X [.slice none 0 0,.slice none 0 0,.slice none 0 0,.int .i32 0,.slice none 0 0] 41):=Lib.hid (HX3.out.grown HG4.out (fun e:some X=some g=>by have:=Option.some.inj e;omega))
  have HB5:=Lib.hid (HB4.out.trans (hbw.mono HB4.out.size))
  have HX5:=Lib.hid (HX4.out.stay hbw)
  have HY5:=Lib.hid hY
  have HR5:=Lib.hid (HR4.out.stay (hbw.mono hsz4))
  have HROW5:Hid ((w4.alloc (.cells #[.slice rC C.length cC,.slice rU U.length cU,.slice rS S.length cS,.int .i32 E,.slice rJ J.length cJ] 41)).ownsRow (g+1) 76 4 (.slice rC C.length cC) C.length (C.flatMap cc)∧(w4.alloc (.cells #[.slice rC C.length cC,.slice rU U.length cU,.slice rS S.length cS,.int .i32 E,.slice rJ J.length cJ] 41)).ownsRow (g+1) 52 1 (.slice rU U.length cU) U.length (U.flatMap uc)∧(w4.alloc (.cells #[.slice rC C.length cC,.slice rU U.length cU,.slice rS S.length cS,.int .i32 E,.slice rJ J.length cJ] 41)).ownsRow (g+1) 34 1 (.slice rS S.length cS) S.length (S.flatMap dcl)∧(w4.alloc (.cells #[.slice rC C.length cC,.slice rU U.length cU,.slice rS S.length cS,.int .i32 E,.slice rJ J.length cJ] 41)).ownsRow (g+1) 67 2 (.slice rJ J.length cJ) J.length (J.flatMap jc) ∧ ∀ p ∈ J,(w4.alloc (.cells #[.slice rC C.length cC,.slice rU U.length cU,.slice rS S.length cS,.int .i32 E,.slice rJ J.length cJ] 41)).ownsRow (g+1) 89 4 p.2.1 p.2.2.length (p.2.2.flatMap lc)∧p.2.2.length≤60 ∧ -2147483648≤p.1∧p.1≤2147483647):=Lib.hid (by
   have h:=HROW.out
   rw [HS3.out] at h
   exact ⟨own_below h.1 hbw,own_below h.2.1 hbw,own_below h.2.2.1 hbw,own_below h.2.2.2.1 hbw,fun p hp=>⟨own_below (h.2.2.2.2 p hp).1 hbw,(h.2.2.2.2 p hp).2⟩⟩)
  have hXg:X<g+1:=by omega
  obtain ⟨Y,hYe⟩:∃ Y,w4.heap.size=Y:=⟨_,rfl⟩
  rw [hYe] at HY5 hsz4 ⊢
  clear hbw hY HX3 HX4 HB3 HB4 HR4 HG4 HROW K5 hYe
  generalize w4.alloc (.cells #[.slice rC C.length cC,.slice rU U.length cU,.slice rS S.length cS,.int .i32 E,.slice rJ J.length cJ] 41)=W5 at HB5 HX5 HY5 HR5 HROW5 ⊢
  have K6:=Lib.hid (endR_c HR5.out)
  obtain ⟨EE,hEE⟩:∃ e,endE P.2=e:=⟨_,rfl⟩
  rw [hEE] at K6
  by_cases he:EE=0
  ·subst he
   have hPc:P.2.c=0∧P.2.b=[]:=by
    unfold endE at hEE
    split at hEE
    ·rename_i h;exact absurd hEE h
    ·rename_i h
     split at hEE
     ·simp at hEE
     ·rename_i h2;exact ⟨by simpa using h,by simpa using h2⟩
   have hP:=HC4.out hPc.1
   have hin:=HIN.out hPc.1
   have hfr:frOf P.1=⟨C,U,S,E⟩:=by rw [← hP];rfl
   have hjs:P.1.2.2.2.2=J.map jOf:=by rw [← hP]
   have hde:decE P=chkB ⟨C,U,S,E⟩ (J.map jOf):=by
    unfold decE
    rw [if_neg (by simp [hPc.1]),if_neg (by simp [hPc.2]),hfr,hjs]
   rw [← hP] at hin
   have hfi:FrIn ⟨C,U,S,E⟩:=⟨by show C.length≤300;have:=HLEN.out.1;omega,⟨by show U.length≤100;have:=HLEN.out.2.1;omega,fun x hx=>by have:=hin.2.1.2 x hx;omega⟩,⟨by show S.length≤100;have:=HLEN.out.2.2.1;omega,hin.2.2.1.2⟩,hin.2.2.2.1⟩
   have hFM:FrM ⟨C,U,S,E⟩ (.slice rC C.length cC) (.slice rU U.length cU) (.slice rS S.length cS) W5:=⟨recs_of_ownsP cc_len HROW5.out.1 rfl (by have:=HLEN.out.1;omega),recs_of_ownsP uc_len HROW5.out.2.1 rfl (by have:=HLEN.out.2.1;omega),recs_of_ownsP dcl_len HROW5.out.2.2.1 rfl (by have:=HLEN.out.2.2.1;omega)⟩
   have hJM:JRow W5 (.slice rJ J.length cJ) J:=⟨recs_of_ownsP jc_len HROW5.out.2.2.2.1 rfl (by have:=HLEN.out.2.2.2;omega),fun p hp=>recs_of_ownsP lc_len (HROW5.out.2.2.2.2 p hp).1 rfl (by have:=(HROW5.out.2.2.2.2 p hp).2.1;omega)⟩
   have hI5:I W5:=HD.out.stay HI.out HB5.out
   have K7:=Lib.hid (fun (w':World) (h:Below W5.heap.size W5 w')=>HBC.out.check (.slice rC C.length cC) (.slice rU U.length cU) (.slice rS S.length cS) (.slice rJ J.length cJ) ⟨C,U,S,E⟩ J w' (HD.out.stay hI5 h) (hFM.stay h) hfi (hJM.stay h) HLEN.out.2.2.2 (fun p hp=>⟨by have:=(HROW5.out.2.2.2.2 p hp).2.1;omega,(HROW5.out.2.2.2.2 p hp).2.2⟩))
   have HDE:=Lib.hid hde
   have HFR:=Lib.hid hfr
   have HJS:=Lib.hid hjs
   unfold bkV at K7
   simp only at K7
   obtain ⟨KK,hKK⟩:∃ k,chkB ⟨C,U,S,E⟩ (J.map jOf)=k:=⟨_,rfl⟩
   rw [hKK] at K7 HDE
   clear hFM hJM hde hfr hjs hP hin hfi hI5 hPc hEE HIN HC4 hKK
   go_upto_region 9 with (go_at_call 27;refine K6.out.mono ?_;rintro e w6 ⟨rfl,h6⟩;have HB6:=Lib.hid (HB5.out.trans (h6.mono HB5.out.size));have HX6:=Lib.hid (HX5.out.stay h6);have HY6:=Lib.hid (HY5.out.stay h6);have H6:=Lib.hid h6;clear h6)
   have x0:=HY6.out.cell (j:=0) rfl
   have x1:=HY6.out.cell (j:=1) rfl
   have x2:=HY6.out.cell (j:=2) rfl
   have x3:=HY6.out.cell (j:=3) rfl
   have x4:=HY6.out.cell (j:=4) rfl
   by_cases hk:KK=0
   ·subst hk
    go_upto_region 12 with (go_at_call 20;refine (K7.out _ H6.out).mono ?_;rintro e w7 ⟨rfl,h7⟩;have HB7:=Lib.hid (HB6.out.trans (h7.mono HB6.out.size));have HX7:=Lib.hid (HX6.out.stay h7);have HY7:=Lib.hid (HY6.out.stay h7);have H7:=Lib.hid (H6.out.trans (h7.mono H6.out.size));clear h7)
    clear x0 x1 x2 x3 x4 HX6 HY6 HB6 H6
    have x0:=HY7.out.cell (j:=0) rfl
    have x1:=HY7.out.cell (j:=1) rfl
    have x2:=HY7.out.cell (j:=2) rfl
    have x3:=HY7.out.cell (j:=3) rfl
    have x4:=HY7.out.cell (j:=4) rfl
    have y0:=HX7.out.cell (j:=0) rfl
    have f0:=HX7.out.frozen 0
    have y1:=HX7.out.cell (j:=1) rfl
    have f1:=HX7.out.frozen 1
    have y2:=HX7.out.cell (j:=2) rfl
    have f2:=HX7.out.frozen 2
    have y3:=HX7.out.cell (j:=3) rfl
    have f3:=HX7.out.frozen 3
    have y4:=HX7.out.cell (j:=4) rfl
    have f4:=HX7.out.frozen 4
    have hs:=HX7.out.size
    have HZ:=Lib.hid (HBox.set5 HX7.out (.slice rC C.length cC) (.slice rU U.length cU) (.slice rS S.length cS) (.int .i32 E) (.slice rJ J.length cJ))
    have HBZ:=Lib.hid (HB7.out.grown (grown_sets5 w7 X (.slice rC C.length cC) (.slice rU U.length cU) (.slice rS S.length cS) (.int .i32 E) (.slice rJ J.length cJ)) HB7.out.size (fun k hk=>by cases hk;exact Nat.le_of_eq HXE.out))
    have R1:=own_farP (own_below HROW5.out.1 H7.out) (grown_sets5 w7 X (.slice rC C.length cC) (.slice rU U.length cU) (.slice rS S.length cS) (.int .i32 E) (.slice rJ J.length cJ)) hXg
    have R2:=own_farP (own_below HROW5.out.2.1 H7.out) (grown_sets5 w7 X (.slice rC C.length cC) (.slice rU U.length cU) (.slice rS S.length cS) (.int .i32 E) (.slice rJ J.length cJ)) hXg
    have R3:=own_farP (own_below HROW5.out.2.2.1 H7.out) (grown_sets5 w7 X (.slice rC C.length cC) (.slice rU U.length cU) (.slice rS S.length cS) (.int .i32 E) (.slice rJ J.length cJ)) hXg
    have R4:=own_farP (own_below HROW5.out.2.2.2.1 H7.out) (grown_sets5 w7 X (.slice rC C.length cC) (.slice rU U.length cU) (.slice rS S.length cS) (.int .i32 E) (.slice rJ J.length cJ)) hXg
    have R5:=fun p hp=>own_farP (own_below (HROW5.out.2.2.2.2 p hp).1 H7.out) (grown_sets5 w7 X (.slice rC C.length cC) (.slice rU U.length cU) (.slice rS S.length cS) (.int .i32 E) (.slice rJ J.length cJ)) hXg
    have R1:=Lib.hid R1
    have R2:=Lib.hid R2
    have R3:=Lib.hid R3
    have R4:=Lib.hid R4
    have R5:=Lib.hid R5
    go_wp2_with fail
    have a0:=HZ.out.cell (j:=0) rfl
    have a1:=HZ.out.cell (j:=1) rfl
    have a2:=HZ.out.cell (j:=2) rfl
    have a3:=HZ.out.cell (j:=3) rfl
    have a4:=HZ.out.cell (j:=4) rfl
    refine bodyPost_ret (v:=.tuple #[.agg #[.slice rC C.length cC,.slice rU U.length cU,.slice rS S.length cS,.int .i32 E,.slice rJ J.length cJ],.int .i64 0]) (by simp [results,Tryz.results12,go_sem,a0,a1,a2,a3,a4]) rfl ?_
    have eg:=HGOOD.out HDE.out
    rw [HFR.out,HJS.out] at eg
    refine ⟨.slice rC C.length cC,.slice rU U.length cU,.slice rS S.length cS,.slice rJ J.length cJ,J,?_,?_,?_,?_,HBZ.out⟩
    ·rw [eg];rfl
    ·rw [eg]
     exact ⟨recs_of_ownsP cc_len R1.out rfl (by have:=HLEN.out.1;omega),recs_of_ownsP uc_len R2.out rfl (by have:=HLEN.out.2.1;omega),recs_of_ownsP dcl_len R3.out rfl (by have:=HLEN.out.2.2.1;omega)⟩
    ·exact ⟨recs_of_ownsP jc_len R4.out rfl (by have:=HLEN.out.2.2.2;omega),fun p hp=>recs_of_ownsP lc_len (R5.out p hp) rfl (by have:=(HROW5.out.2.2.2.2 p hp).2.1;omega)⟩
    ·rw [eg]
   ·have eq0:=HBAD.out (by rw [HDE.out];exact hk)
    rw [HDE.out] at eq0
    have EQ:=Lib.hid eq0
    have t1:(KK != 0)=true:=by rw [bne_iff_ne];exact hk
    clear eq0
    go_upto_region 11 with (go_at_call 20;refine (K7.out _ H6.out).mono ?_;rintro e w7 ⟨rfl,h7⟩;have HB7:=Lib.hid (HB6.out.trans (h7.mono HB6.out.size));have HX7:=Lib.hid (HX6.out.stay h7);clear h7)
    have y0:=HX7.out.cell (j:=0) rfl
    have f0:=HX7.out.frozen 0
    have y1:=HX7.out.cell (j:=1) rfl
    have f1:=HX7.out.frozen 1
    have y2:=HX7.out.cell (j:=2) rfl
    have f2:=HX7.out.frozen 2
    have y3:=HX7.out.cell (j:=3) rfl
    have f3:=HX7.out.frozen 3
    have y4:=HX7.out.cell (j:=4) rfl
    have f4:=HX7.out.frozen 4
    have hs:=HX7.out.size
    have HZ:=Lib.hid (HBox.set5 HX7.out (.slice none 0 0) (.slice none 0 0) (.slice none 0 0) (.int .i32 0) (.slice none 0 0))
    have HBZ:=Lib.hid (HB7.out.grown (grown_sets5 w7 X (.slice none 0 0) (.slice none 0 0) (.slice none 0 0) (.int .i32 0) (.slice none 0 0)) HB7.out.size (fun k hk=>by cases hk;exact Nat.le_of_eq HXE.out))
    go_wp2_with fail
    have a0:=HZ.out.cell (j:=0) rfl
    have a1:=HZ.out.cell (j:=1) rfl
    have a2:=HZ.out.cell (j:=2) rfl
    have a3:=HZ.out.cell (j:=3) rfl
    have a4:=HZ.out.cell (j:=4) rfl
    exact bodyPost_ret (v:=.tuple #[.agg #[.slice none 0 0,.slice none 0 0,.slice none 0 0,.int .i32 0,.slice none 0 0],.int .i64 KK]) (by simp [results,Tryz.results12,go_sem,a0,a1,a2,a3,a4]) rfl (dec_zero EQ.out HBZ.out)
  ·have hde:decE P=EE:=by
    rw [← hEE]
    have h9:endE P.2≠0:=by rw [hEE];exact he
    unfold endE at h9 ⊢
    unfold decE
    split
    ·rfl
    ·rename_i h
     rw [if_neg h] at h9
     split
     ·rfl
     ·rename_i h2
      rw [if_neg h2] at h9
      exact absurd rfl h9
   have eq0:=HBAD.out (by rw [hde];exact he)
   rw [hde] at eq0
   have EQ:=Lib.hid eq0
   have t1:(EE != 0)=true:=by rw [bne_iff_ne];exact he
   clear hde eq0 hEE
   go_upto_region 8 with (go_at_call 27;refine K6.out.mono ?_;rintro e w6 ⟨rfl,h6⟩;have HB6:=Lib.hid (HB5.out.trans (h6.mono HB5.out.size));have HX6:=Lib.hid (HX5.out.stay h6);clear h6)
   have y0:=HX6.out.cell (j:=0) rfl
   have f0:=HX6.out.frozen 0
   have y1:=HX6.out.cell (j:=1) rfl
   have f1:=HX6.out.frozen 1
   have y2:=HX6.out.cell (j:=2) rfl
   have f2:=HX6.out.frozen 2
   have y3:=HX6.out.cell (j:=3) rfl
   have f3:=HX6.out.frozen 3
   have y4:=HX6.out.cell (j:=4) rfl
   have f4:=HX6.out.frozen 4
   have hs:=HX6.out.size
   have HZ:=Lib.hid (HBox.set5 HX6.out (.slice none 0 0) (.slice none 0 0) (.slice none 0 0) (.int .i32 0) (.slice none 0 0))
   have HBZ:=Lib.hid (HB6.out.grown (grown_sets5 w6 X (.slice none 0 0) (.slice none 0 0) (.slice none 0 0) (.int .i32 0) (.slice none 0 0)) HB6.out.size (fun k hk=>by cases hk;exact Nat.le_of_eq HXE.out))
   go_wp2_with fail
   have a0:=HZ.out.cell (j:=0) rfl
   have a1:=HZ.out.cell (j:=1) rfl
   have a2:=HZ.out.cell (j:=2) rfl
   have a3:=HZ.out.cell (j:=3) rfl
   have a4:=HZ.out.cell (j:=4) rfl
   exact bodyPost_ret (v:=.tuple #[.agg #[.slice none 0 0,.slice none 0 0,.slice none 0 0,.int .i32 0,.slice none 0 0],.int .i64 EE]) (by simp [results,Tryz.results12,go_sem,a0,a1,a2,a3,a4]) rfl (dec_zero EQ.out HBZ.out)
 ·have eq0:=decB_mark hm
  obtain ⟨c,hc⟩:∃ c,markE l=c:=⟨_,rfl⟩
  rw [hc] at KK1 hm eq0
  have EQ:=Lib.hid eq0
  have t1:(c != 0)=true:=by rw [bne_iff_ne];exact hm
  clear hc eq0
  go_enter Tryz.func12,Tryz.ntmps12
  go_upto_region 1 with fail
  rw [HXE.out]
  generalize w.alloc (.cells #[.slice none 0 0,.slice none 0 0,.slice none 0 0,.int .i32 0,.slice none 0 0] 41)=W1 at HB1 HX1 HS1 KK1 ⊢
  go_upto_region 3 with (go_at_call 25;refine KK1.out.mono ?_;rintro e w2 ⟨rfl,h2⟩;have HB2:=Lib.hid (HB1.out.trans (h2.mono HB1.out.size));have HX2:=Lib.hid (HX1.out.stay h2);clear h2)
  have y0:=HX2.out.cell (j:=0) rfl
  have f0:=HX2.out.frozen 0
  have y1:=HX2.out.cell (j:=1) rfl
  have f1:=HX2.out.frozen 1
  have y2:=HX2.out.cell (j:=2) rfl
  have f2:=HX2.out.frozen 2
  have y3:=HX2.out.cell (j:=3) rfl
  have f3:=HX2.out.frozen 3
  have y4:=HX2.out.cell (j:=4) rfl
  have f4:=HX2.out.frozen 4
  have hs:=HX2.out.size
  have HZ:=Lib.hid (HBox.set5 HX2.out (.slice none 0 0) (.slice none 0 0) (.slice none 0 0) (.int .i32 0) (.slice none 0 0))
  have HBZ:=Lib.hid (HB2.out.grown (grown_sets5 w2 X (.slice none 0 0) (.slice none 0 0) (.slice none 0 0) (.int .i32 0) (.slice none 0 0)) HB2.out.size (fun k hk=>by cases hk;exact Nat.le_of_eq HXE.out))
  go_wp2_with fail
  have a0:=HZ.out.cell (j:=0) rfl
  have a1:=HZ.out.cell (j:=1) rfl
  have a2:=HZ.out.cell (j:=2) rfl
  have a3:=HZ.out.cell (j:=3) rfl
  have a4:=HZ.out.cell (j:=4) rfl
  exact bodyPost_ret (v:=.tuple #[.agg #[.slice none 0 0,.slice none 0 0,.slice none 0 0,.int .i32 0,.slice none 0 0],.int .i64 c]) (by simp [results,Tryz.results12,go_sem,a0,a1,a2,a3,a4]) rfl (dec_zero EQ.out HBZ.out)
end Go.Proofs.YtmpefjnfelfnfaaGreatDoor

/- Contracts of law 11's reader of numbers. -/
import Derived.Test.YtmpefjnfelfnfaaGreatDoorCeall
import Derived.Deep.DeepCutAuto
import Derived.Laws.ShiftsVarLaws
set_option maxRecDepth 100000
set_option maxHeartbeats 4000000
namespace Go.Proofs.YtmpefjnfelfnfaaGreatDoor
open Go.RowKit
set_option linter.unusedVariables false
set_option linter.unusedSimpArgs false
def RBk (w:World) (g:Nat) (vb:Value) (c:Int):Prop:=w.heap[g]?=some (.cells #[vb,.int .i64 c] 133 (0,0))
theorem RBk.size {w:World} {g:Nat} {vb:Value} {c:Int} (h:RBk w g vb c):g<w.heap.size:=(Array.getElem?_eq_some_iff.1 h).1
theorem RBk.cell0 {w:World} {g:Nat} {vb:Value} {c:Int} (h:RBk w g vb c):w.cell? ⟨g,0,none⟩=some vb:=by
 have h':w.heap[g]?=some (.cells #[vb,.int .i64 c] 133 (0,0)):=h
 simp [World.cell?,h']
theorem RBk.cell1 {w:World} {g:Nat} {vb:Value} {c:Int} (h:RBk w g vb c):w.cell? ⟨g,1,none⟩=some (.int .i64 c):=by
 have h':w.heap[g]?=some (.cells #[vb,.int .i64 c] 133 (0,0)):=h
 simp [World.cell?,h']
theorem RBk.frozen {w:World} {g:Nat} {vb:Value} {c:Int} (h:RBk w g vb c) (j:Nat):w.frozen? ⟨g,j,none⟩=false:=by
 have h':w.heap[g]?=some (.cells #[vb,.int .i64 c] 133 (0,0)):=h
 simp [World.frozen?,h']
theorem RBk.set0 {w:World} {g:Nat} {vb:Value} {c:Int} (h:RBk w g vb c) (v:Value):RBk (w.setCell ⟨g,0,none⟩ v) g v c:=by
 have h':w.heap[g]?=some (.cells #[vb,.int .i64 c] 133 (0,0)):=h
 unfold RBk
 simp only [World.setCell,Array.getElem?_modify,h',if_true]
 simp
theorem RBk.set1 {w:World} {g:Nat} {vb:Value} {c:Int} (h:RBk w g vb c) (d:Int):RBk (w.setCell ⟨g,1,none⟩ (.int .i64 d)) g vb d:=by
 have h':w.heap[g]?=some (.cells #[vb,.int .i64 c] 133 (0,0)):=h
 unfold RBk
 simp only [World.setCell,Array.getElem?_modify,h',if_true]
 simp
theorem byc_far {w:World} {g b off n cap:Nat} {l:List Nat} {vb:Value} {c:Int} (hR:Recs byc 1 w (.slice (some ⟨b,off,none⟩) n cap) l) (hl:0<l.length) (hB:RBk w g vb c) (hv:∃ r n cap,vb = .slice r n cap):b≠g:=by
 intro e
 subst e
 obtain ⟨x,hx⟩:∃ x,l[0]?=some x:=⟨l[0],List.getElem?_eq_getElem hl⟩
 obtain ⟨g',o',e,_,hc⟩:=hR.at hx
 cases e
 have h0:=hc 0 _ rfl
 obtain ⟨r,n',cap',rfl⟩:=hv
 have h':w.heap[b]?=some (.cells #[.slice r n' cap',.int .i64 c] 133 (0,0)):=hB
 simp only [Nat.zero_mul,Nat.add_zero] at h0
 unfold World.cell? at h0
 rw [h'] at h0
 rcases (by omega:off=0∨off=1∨2≤off) with rfl | rfl | ho
 ·simp at h0
 ·simp at h0
 ·simp [show ¬ off<2 by omega] at h0
theorem byc_set {w:World} {g j:Nat} {u v vb:Value} {l:List Nat} {c:Int} (hR:Recs byc 1 w v l) (hB:RBk w g vb c) (hv:∃ r n cap,vb = .slice r n cap):Recs byc 1 (w.setCell ⟨g,j,none⟩ u) v l:=by
 have hR0:=hR
 rcases hR with ⟨r,cap,e1,e2⟩ | ⟨b,off,cap,rfl,h1,h2,h3,h4⟩
 ·exact .inl ⟨r,cap,e1,e2⟩
 ·rcases Nat.eq_zero_or_pos l.length with h0 | h0
  ·rw [h0]
   exact .inl ⟨_,_,rfl,List.eq_nil_of_length_eq_zero h0⟩
  ·have hne:=byc_far hR0 h0 hB hv
   exact hR0.grown (set_grown w ⟨g,j,none⟩ u) hne
def BlkB (n:Nat) (v:Value):Prop:=∃ (b o m c:Nat),v = .slice (some ⟨b,o,none⟩) m c∧b<n
theorem rnum11_c (n0 g:Nat) (vb:Value) (r:Rd) (most:Nat) (w:World) (hB:RBk w g vb r.c) (hR:Recs byc 1 w vb r.b) (hK:BlkB n0 vb) (hb:∀ c ∈ r.b,c<256) (hm:most<18446744073709551616) :
 Calls Tryz.prog 78 #[.pointer (some ⟨g,0,none⟩),.int .u64 (most:Int)] w fun e w'=>e = .returned (.int .u64 ((rnum most r).1:Int)) ∧ ∃ v',RBk w' g v' (rnum most r).2.c∧Recs byc 1 w' v' (rnum most r).2.b∧BlkB n0 v'∧w.grownBy w' (some g):=by
 obtain ⟨rr,cap,rfl,hml⟩:=hR.form
 obtain ⟨l,c0⟩:=r
 simp only at hB hR hK hb hml ⊢
 have hvb:∃ r n cp,Value.slice rr l.length cap = .slice r n cp:=⟨rr,l.length,cap,rfl⟩
 have HBK:=Lib.hid hB
 have x0:=hB.cell0
 have x1:=hB.cell1
 have f0:=hB.frozen 0
 have f1:=hB.frozen 1
 have hsz:=hB.size
 have HR:=Lib.hid hR
 have HK:=Lib.hid hK
 have HV:=Lib.hid hvb
 clear hK
 have gr0:w.grownBy w (some g):=⟨rfl,rfl,rfl,Nat.le_refl _,fun _ _ _=>rfl⟩
 by_cases hc:c0=0
 ·subst hc
  obtain ⟨L,hL⟩:∃ L,l.length=L:=⟨_,rfl⟩
  have HL:=Lib.hid hL
  rw [hL] at x0 HBK HR HK HV hml
  have HP:Hid (numP 0 0 l=numP 0 0 (l.drop 0)):=Lib.hid rfl
  have HBY:=Lib.hid hb
  have HG:=Lib.hid gr0
  clear hB hR hb hvb hL gr0
  obtain ⟨RR,hRR⟩:∃ R,rnum most ⟨l,0⟩=R:=⟨_,rfl⟩
  rw [hRR]
  have HRR:=Lib.hid hRR
  clear hRR
  go_enter Tryz.func78,Tryz.ntmps78
  go_wp2_with fail
  go_loop [5,18] (fun s5 i=>∃ (k a:Nat),s5 = .int .u64 (a:Int)∧i = .int .i64 (k:Int)∧k≤L∧k≤9∧a<128 ^ k∧Hid (numP 0 0 l=numP k a (l.drop k))) (fun _ i=>L-(intOf i).toNat)
  case atStart=>exact ⟨0,0,rfl,rfl,Nat.zero_le _,by omega,by simp,HP⟩
  case round =>
   clear HP
   obtain ⟨k,a,rfl,rfl,hk,hk9,ha,HP⟩:=hrel
   by_cases hlt:k<L
   ·obtain ⟨c,hc⟩:∃ c,l[k]?=some c:=⟨l[k]'(by have:=HL.out;omega),List.getElem?_eq_getElem (by have:=HL.out;omega)⟩
    have hc256:=HBY.out c (List.mem_of_getElem? hc)
    have hstep:=numP_step (n:=a) hc
    rw [← HP.out] at hstep
    obtain ⟨b,off,rfl,hb,hcx⟩:=HR.out.at hc
    have y0:=hcx 0 _ rfl
    simp only [Nat.mul_one,Nat.add_zero] at y0
    have HST:=Lib.hid hstep
    have HC:=Lib.hid hc
    obtain ⟨cI,hcI⟩:∃ i:Int,(c:Int)=i:=⟨_,rfl⟩
    obtain ⟨BD,hBD⟩:∃ b,decide ((0<k∧c=0)∨(k=9∧1<c))=b:=⟨_,rfl⟩
    have HBD:=Lib.hid hBD
    have HCI:=Lib.hid hcI
    rw [hcI] at y0
    clear hcx hstep hc hb hcI hBD
    go_upto_region 7 with fail
    obtain ⟨kI,hkI⟩:∃ i:Int,(k:Int)=i:=⟨_,rfl⟩
    have HKI:=Lib.hid hkI
    rw [hkI]
    clear hkI
    go_cut [36] (fun s36 wx=>s36 = .bool BD∧w=wx)
    case first =>
     rcases (by omega:k=0∨(0<k∧c=0)∨(0<k∧c≠0∧k=9∧1<c)∨(0<k∧c≠0∧k=9 ∧ ¬ 1<c)∨(0<k∧c≠0∧k≠9)) with h | ⟨h1,h2⟩ | ⟨h1,h2,h3,h4⟩ | ⟨h1,h2,h3,h4⟩ | ⟨h1,h2,h3⟩
     ·have t1:decide (0<kI)=false:=decide_eq_false (by have:=HKI.out;have:=HCI.out;omega)
      have t3:(kI == 9)=false:=by rw [beq_eq_false_iff_ne];have:=HKI.out;have:=HCI.out;omega
      have hb:BD=false:=by rw [← HBD.out];exact decide_eq_false (by have:=HKI.out;have:=HCI.out;omega)
      go_wp2_with fail
      go_meet
      exact ⟨hb ▸ rfl,rfl⟩
     ·have t1:decide (0<kI)=true:=decide_eq_true (by have:=HKI.out;have:=HCI.out;omega)
      have t2:(cI == 0)=true:=by rw [beq_iff_eq];have:=HKI.out;have:=HCI.out;omega
      have hb:BD=true:=by rw [← HBD.out];exact decide_eq_true (by have:=HKI.out;have:=HCI.out;omega)
      go_wp2_with fail
      go_meet
      exact ⟨hb ▸ rfl,rfl⟩
     ·have t1:decide (0<kI)=true:=decide_eq_true (by have:=HKI.out;have:=HCI.out;omega)
      have t2:(cI == 0)=false:=by rw [beq_eq_false_iff_ne];have:=HKI.out;have:=HCI.out;omega
      have t3:(kI == 9)=true:=by rw [beq_iff_eq];have:=HKI.out;have:=HCI.out;omega
      have t4:decide (1<cI)=true:=decide_eq_true (by have:=HKI.out;have:=HCI.out;omega)
      have hb:BD=true:=by rw [← HBD.out];exact decide_eq_true (by have:=HKI.out;have:=HCI.out;omega)
      go_wp2_with fail
      go_meet
      exact ⟨hb ▸ rfl,rfl⟩
     ·have t1:decide (0<kI)=true:=decide_eq_true (by have:=HKI.out;have:=HCI.out;omega)
      have t2:(cI == 0)=false:=by rw [beq_eq_false_iff_ne];have:=HKI.out;have:=HCI.out;omega
      have t3:(kI == 9)=true:=by rw [beq_iff_eq];have:=HKI.out;have:=HCI.out;omega
      have t4:decide (1<cI)=false:=decide_eq_false (by have:=HKI.out;have:=HCI.out;omega)
      have hb:BD=false:=by rw [← HBD.out];exact decide_eq_false (by have:=HKI.out;have:=HCI.out;omega)
      go_wp2_with fail
      go_meet
      exact ⟨hb ▸ rfl,rfl⟩
     ·have t1:decide (0<kI)=true:=decide_eq_true (by have:=HKI.out;have:=HCI.out;omega)
      have t2:(cI == 0)=false:=by rw [beq_eq_false_iff_ne];have:=HKI.out;have:=HCI.out;omega
      have t3:(kI == 9)=false:=by rw [beq_eq_false_iff_ne];have:=HKI.out;have:=HCI.out;omega
      have hb:BD=false:=by rw [← HBD.out];exact decide_eq_false (by have:=HKI.out;have:=HCI.out;omega)
      go_wp2_with fail
      go_meet
      exact ⟨hb ▸ rfl,rfl⟩
    case rest =>
     obtain ⟨rfl,rfl⟩:=hcut
     have hb:=HBD.out
     have HST2:=HST.out
     cases BD with
     | true =>
      have hp:(0<k∧c=0)∨(k=9∧1<c):=of_decide_eq_true hb
      rw [if_pos hp] at HST2
      have hr:RR=(0,⟨l,1⟩):=by rw [← HRR.out];exact rnum_bad HST2 (by decide)
      clear HRR
      subst hr
      go_wp2_with fail
      go_ret
      exact ⟨rfl,_,HBK.out.set1 1,byc_set (HL.out ▸ HR.out) HBK.out HV.out,HK.out,set_grown w _ _⟩
     | false =>
      have hp:¬ ((0<k∧c=0)∨(k=9∧1<c)):=of_decide_eq_false hb
      rw [if_neg hp] at HST2
      have hcI:=HCI.out
      have hkI:=HKI.out
      obtain ⟨x,hx⟩:∃ x,c % 128=x:=⟨_,rfl⟩
      obtain ⟨s,hs⟩:∃ s,7 * k=s:=⟨_,rfl⟩
      obtain ⟨y,hy⟩:∃ y,x * 2 ^ s=y:=⟨_,rfl⟩
      obtain ⟨z,hz⟩:∃ z,a+y=z:=⟨_,rfl⟩
      have hx128:x<128:=by omega
      have hs63:s≤63:=by omega
      have hz128:z<128 ^ (k+1):=by
       rw [← hz,← hy,← hs,← pow7,Nat.pow_succ,Nat.mul_comm (128 ^ k) 128]
       have:x * 128 ^ k≤127 * 128 ^ k:=Nat.mul_le_mul_right _ (by omega)
       omega
      have hz64:z<18446744073709551616:=by
       rcases (by omega:k=9∨k<9) with h | h
       ·have hx1:x≤1:=by omega
        have:x * 2 ^ s≤1 * 2 ^ s:=Nat.mul_le_mul_right _ hx1
        have e:s=63:=by omega
        subst e
        subst h
        rw [hy] at this
        have e9:(128:Nat) ^ 9=2 ^ 63:=by decide
        rw [e9] at ha
        omega
       ·have:(128:Nat) ^ (k+1)≤128 ^ 9:=Nat.pow_le_pow_right (by omega) (by omega)
        have e9:(128:Nat) ^ 9=9223372036854775808:=by decide
        omega
      rw [hx,pow7,hs,hy,hz] at HST2
      have t1:cI.tmod 128=(x:Int):=by rw [Int.tmod_eq_emod_of_nonneg (by omega)];omega
      have t1':cI % 128=(x:Int):=by omega
      have t2:IntKind.u8.wrap (x:Int)=(x:Int):=by rw [IntKind.wrap_u8];omega
      have t3:IntKind.u64.wrap (x:Int)=(x:Int):=by rw [IntKind.wrap_u64];omega
      have t4:(7:Int) * kI=(s:Int):=by omega
      have t5:IntKind.i64.wrap (s:Int)=(s:Int):=by rw [IntKind.wrap_i64];omega
      have t5':decide ((s:Int)<0)=false:=decide_eq_false (by omega)
      have t6:(x:Int) * 2 ^ min s 64=(y:Int):=by
       rw [Nat.min_eq_left (by omega),← hy]
       simp
      have t6':(x:Int) * 2 ^ min ((s:Int).toNat) 64=(y:Int):=by rw [Int.toNat_natCast];exact t6
      have t6x:(x:Int) * 2 ^ s=(y:Int):=by rw [← hy];simp
      have t7:IntKind.u64.wrap (y:Int)=(y:Int):=by rw [IntKind.wrap_u64];omega
      have t8:(a:Int)+(y:Int)=(z:Int):=by omega
      have t9:IntKind.u64.wrap (z:Int)=(z:Int):=by rw [IntKind.wrap_u64];omega
      have HZ:=Lib.hid hz128
      have HZ6:=Lib.hid hz64
      have HX:=Lib.hid hp
      have HC2:=Lib.hid hc256
      clear hb hp hx hs hy hz hz128 hz64 hcI hkI
      by_cases hlt128:c<128
      ·have u1:decide (cI<128)=true:=decide_eq_true (by have:=HCI.out;omega)
       rw [if_pos hlt128] at HST2
       have hr:=rnum_yes (most:=most) HST2
       rw [HRR.out] at hr
       obtain ⟨q,hq⟩:∃ q,k+1=q:=⟨_,rfl⟩
       have u2:kI+1=(q:Int):=by have:=HKI.out;omega
       have u3:IntKind.i64.wrap (q:Int)=(q:Int):=by rw [IntKind.wrap_i64];omega
       have u4:q≤L:=by omega
       have hD:=byc_drop HR.out HL.out q u4
       go_upto_region 13 with fail
       obtain ⟨ra,hra⟩:∃ ra,(if cap=q then some (⟨b,off,none⟩:Addr) else some ⟨b,off+q,none⟩)=ra:=⟨_,rfl⟩
       have hK2:BlkB n0 (.slice ra (L-q) (cap-q)):=by
        obtain ⟨b1,o1,m1,c1,e1,e2⟩:=HK.out
        cases e1
        rw [← hra]
        split
        ·exact ⟨_,_,_,_,rfl,e2⟩
        ·exact ⟨_,_,_,_,rfl,e2⟩
       rw [hra] at hD ⊢
       have HK2:=Lib.hid hK2
       clear hK2
       have HD:=Lib.hid hD
       clear hD hra
       have HB0:=Lib.hid (HBK.out.set0 (.slice ra (L-q) (cap-q)))
       have HD0:=Lib.hid (byc_set (g:=g) (j:=0) (u:=.slice ra (L-q) (cap-q)) HD.out HBK.out HV.out)
       have HG0:=Lib.hid (set_grown w ⟨g,0,none⟩ (.slice ra (L-q) (cap-q)))
       have HG1:=Lib.hid (set_grown2 w g 0 1 (.slice ra (L-q) (cap-q)) (.int .i64 5))
       have f10:=HB0.out.frozen 1
       have hsz0:=HB0.out.size
       by_cases hmz:most<z
       ·have v1:decide ((most:Int)<(z:Int))=true:=decide_eq_true (by omega)
        rw [if_pos hmz] at hr
        clear HRR
        subst hr
        go_wp2_with fail
        go_ret
        exact ⟨rfl,_,HB0.out.set1 5,byc_set HD0.out HB0.out ⟨_,_,_,rfl⟩,HK2.out,HG1.out⟩
       ·have v1:decide ((most:Int)<(z:Int))=false:=decide_eq_false (by omega)
        rw [if_neg hmz] at hr
        clear HRR
        subst hr
        go_wp2_with fail
        go_ret
        subst hq
        exact ⟨rfl,_,HB0.out,HD0.out,HK2.out,HG0.out⟩
      ·have u1:decide (cI<128)=false:=decide_eq_false (by have:=HCI.out;omega)
       rw [if_neg hlt128] at HST2
       have hk9':k<9:=by have:=HX.out;omega
       obtain ⟨q,hq⟩:∃ q,k+1=q:=⟨_,rfl⟩
       have u2:kI+1=(q:Int):=by have:=HKI.out;omega
       have u2':(k:Int)+1=(q:Int):=by omega
       have u3:IntKind.i64.wrap (q:Int)=(q:Int):=by rw [IntKind.wrap_i64];omega
       have HQ:=Lib.hid hq
       clear hq
       go_wp2_with fail
       go_round
       case rel=>exact ⟨q,z,rfl,rfl,by have:=HQ.out;omega,by have:=HQ.out;omega,HQ.out ▸ HZ.out,Lib.hid (HQ.out ▸ HST2)⟩
       case measure =>
        have:=HQ.out
        show L-((q:Int)).toNat<L-((k:Int)).toNat
        omega
   ·obtain rfl:k=L:=by omega
    have t0:decide ((k:Int)<(k:Int))=false:=decide_eq_false (by omega)
    have e0:numP 0 0 l=(3,0,[]):=by rw [HP.out,List.drop_eq_nil_of_le (by have:=HL.out;omega)];rfl
    have hr:RR=(0,⟨l,3⟩):=by rw [← HRR.out];exact rnum_bad e0 (by decide)
    clear HRR
    subst hr
    go_wp2_with fail
    go_ret
    exact ⟨rfl,_,HBK.out.set1 3,byc_set (HL.out ▸ HR.out) HBK.out HV.out,HK.out,set_grown w _ _⟩
 ·have hn:(c0 != 0)=true:=by simp [hc]
  have e:rnum most ⟨l,c0⟩=(0,⟨l,c0⟩):=rnum_err hc
  rw [e]
  have HG:=Lib.hid gr0
  clear hB hR hb hvb e gr0
  go_enter Tryz.func78,Tryz.ntmps78
  go_wp2_with fail
  go_ret
  exact ⟨rfl,_,HBK.out,HR.out,HK.out,HG.out⟩
def RM (n0:Nat) (w:World) (g:Nat) (r:Rd):Prop:=(∀ c ∈ r.b,c<256) ∧ ∃ vb,RBk w g vb r.c∧Recs byc 1 w vb r.b∧BlkB n0 vb
theorem RM.num {n0:Nat} {w:World} {g:Nat} {r:Rd} (h:RM n0 w g r) (most:Nat) (hm:most<18446744073709551616) :
 Calls Tryz.prog 78 #[.pointer (some ⟨g,0,none⟩),.int .u64 (most:Int)] w fun e w'=>e = .returned (.int .u64 ((rnum most r).1:Int))∧RM n0 w' g (rnum most r).2∧w.grownBy w' (some g):=by
 obtain ⟨hb,vb,hB,hR,hK⟩:=h
 refine (rnum11_c n0 g vb r most w hB hR hK hb hm).mono ?_
 rintro e w' ⟨h1,v',h2,h3,h5,h4⟩
 exact ⟨h1,⟨fun c hc=>hb c (rnum_mem most r c hc),v',h2,h3,h5⟩,h4⟩
theorem RM.signed {n0:Nat} {w:World} {g:Nat} {r:Rd} (h:RM n0 w g r) :
 Calls Tryz.prog 80 #[.pointer (some ⟨g,0,none⟩)] w fun e w'=>e = .returned (.int .i64 (rsig r).1)∧RM n0 w' g (rsig r).2∧w.grownBy w' (some g):=by
 have K:=h.num 18446744073709551615 (by decide)
 have hle:=rnum_le 18446744073709551615 r
 unfold rsig
 obtain ⟨n,hn⟩:∃ n,(rnum 18446744073709551615 r).1=n:=⟨_,rfl⟩
 obtain ⟨r',hr'⟩:∃ r',(rnum 18446744073709551615 r).2=r':=⟨_,rfl⟩
 rw [hn,hr'] at K
 rw [hn] at hle ⊢
 rw [hr']
 have KK:=Lib.hid K
 clear K hn hr' h
 obtain ⟨q,hq⟩:∃ q,n / 2=q:=⟨_,rfl⟩
 have t3:(n:Int).tdiv 2=(q:Int):=by rw [Int.tdiv_eq_ediv_of_nonneg (by omega)];omega
 have t3':(n:Int) / 2=(q:Int):=by omega
 have t3u:IntKind.u64.wrap (q:Int)=(q:Int):=by rw [IntKind.wrap_u64];omega
 have t4:IntKind.i64.wrap (q:Int)=(q:Int):=by rw [IntKind.wrap_i64];omega
 by_cases h2:n % 2=1
 ·have t1:(n:Int).tmod 2=1:=by rw [Int.tmod_eq_emod_of_nonneg (by omega)];omega
  have t2:(n:Int) % 2=1:=by omega
  obtain ⟨m,hm⟩:∃ m:Int, -(q:Int)=m:=⟨_,rfl⟩
  have t5:IntKind.i64.wrap m=m:=by rw [IntKind.wrap_i64];omega
  have t6:IntKind.i64.wrap (m-1)=m-1:=by rw [IntKind.wrap_i64];omega
  have e:unsig n=m-1:=by unfold unsig;rw [if_pos h2,hq,hm]
  rw [e]
  clear e hq h2
  go_enter Tryz.func80,Tryz.ntmps80
  go_wp2_with (go_at_call 78;refine KK.out.mono ?_;rintro e w2 ⟨rfl,o2,h2⟩;have O2:=Lib.hid o2;have H2:=Lib.hid h2;clear o2 h2)
  go_ret
  exact ⟨rfl,O2.out,H2.out⟩
 ·have t1:(n:Int).tmod 2=0:=by rw [Int.tmod_eq_emod_of_nonneg (by omega)];omega
  have t2:(n:Int) % 2=0:=by omega
  have e:unsig n=(q:Int):=by unfold unsig;rw [if_neg h2,hq]
  rw [e]
  clear e hq h2
  go_enter Tryz.func80,Tryz.ntmps80
  go_wp2_with (go_at_call 78;refine KK.out.mono ?_;rintro e w2 ⟨rfl,o2,h2⟩;have O2:=Lib.hid o2;have H2:=Lib.hid h2;clear o2 h2)
  go_ret
  exact ⟨rfl,O2.out,H2.out⟩
theorem RM.day {n0:Nat} {w:World} {g:Nat} {r:Rd} (h:RM n0 w g r) :
 Calls Tryz.prog 79 #[.pointer (some ⟨g,0,none⟩)] w fun e w'=>e = .returned (.int .i32 (rday r).1)∧RM n0 w' g (rday r).2∧w.grownBy w' (some g):=by
 have K:=h.signed
 have hz : -9223372036854775808≤(rsig r).1∧(rsig r).1≤9223372036854775807:=unsig_in (rnum_le 18446744073709551615 r)
 unfold rday
 obtain ⟨z,hzz⟩:∃ z,(rsig r).1=z:=⟨_,rfl⟩
 obtain ⟨r',hr'⟩:∃ r',(rsig r).2=r':=⟨_,rfl⟩
 rw [hzz,hr'] at K
 rw [hzz] at hz
 rw [hzz,hr']
 have KK:=Lib.hid K
 clear K hzz hr' h
 obtain ⟨l,c⟩:=r'
 obtain ⟨d,hd⟩:∃ d,IntKind.i32.wrap z=d:=⟨_,rfl⟩
 simp only at KK ⊢
 by_cases hc:c=0
 ·subst hc
  by_cases hr:z < -2147483648∨2147483648≤z
  ·rw [if_pos ⟨rfl,hr⟩,hd]
   by_cases h1:z < -2147483648
   ·have t1:decide (z < -2147483648)=true:=decide_eq_true h1
    go_enter Tryz.func79,Tryz.ntmps79
    go_wp2_with (go_at_call 80;refine KK.out.mono ?_;rintro e w2 ⟨rfl,⟨b2,vb,o2,o3,o4⟩,h2⟩;have O4:=Lib.hid o4;clear o4;have x1:=o2.cell1;have f1:=o2.frozen 1;have sz:=o2.size;have O2:=Lib.hid o2;have O3:=Lib.hid o3;have B2:=Lib.hid b2;have H2:=Lib.hid h2;obtain ⟨rr,cap,rfl,hml⟩:=o3.form;clear o2 o3 b2 h2)
    go_ret
    exact ⟨rfl,⟨B2.out,_,O2.out.set1 5,byc_set O3.out O2.out ⟨_,_,_,rfl⟩,O4.out⟩,grown_trans H2.out (set_grown _ _ _)⟩
   ·have t1:decide (z < -2147483648)=false:=decide_eq_false h1
    have t2:decide (2147483648≤z)=true:=decide_eq_true (by omega)
    go_enter Tryz.func79,Tryz.ntmps79
    go_wp2_with (go_at_call 80;refine KK.out.mono ?_;rintro e w2 ⟨rfl,⟨b2,vb,o2,o3,o4⟩,h2⟩;have O4:=Lib.hid o4;clear o4;have x1:=o2.cell1;have f1:=o2.frozen 1;have sz:=o2.size;have O2:=Lib.hid o2;have O3:=Lib.hid o3;have B2:=Lib.hid b2;have H2:=Lib.hid h2;obtain ⟨rr,cap,rfl,hml⟩:=o3.form;clear o2 o3 b2 h2)
    go_ret
    exact ⟨rfl,⟨B2.out,_,O2.out.set1 5,byc_set O3.out O2.out ⟨_,_,_,rfl⟩,O4.out⟩,grown_trans H2.out (set_grown _ _ _)⟩
  ·rw [if_neg (fun e=>hr e.2),hd]
   have t1:decide (z < -2147483648)=false:=decide_eq_false (by omega)
   have t2:decide (2147483648≤z)=false:=decide_eq_false (by omega)
   go_enter Tryz.func79,Tryz.ntmps79
   go_wp2_with (go_at_call 80;refine KK.out.mono ?_;rintro e w2 ⟨rfl,⟨b2,vb,o2,o3,o4⟩,h2⟩;have O4:=Lib.hid o4;clear o4;have x1:=o2.cell1;have f1:=o2.frozen 1;have sz:=o2.size;have O2:=Lib.hid o2;have O3:=Lib.hid o3;have B2:=Lib.hid b2;have H2:=Lib.hid h2;clear o2 o3 b2 h2)
   go_ret
   exact ⟨rfl,⟨B2.out,_,O2.out,O3.out,O4.out⟩,H2.out⟩
 ·rw [if_neg (fun e=>hc e.1),hd]
  have t0:(c == 0)=false:=by rw [beq_eq_false_iff_ne];exact hc
  go_enter Tryz.func79,Tryz.ntmps79
  go_wp2_with (go_at_call 80;refine KK.out.mono ?_;rintro e w2 ⟨rfl,⟨b2,vb,o2,o3,o4⟩,h2⟩;have O4:=Lib.hid o4;clear o4;have x1:=o2.cell1;have f1:=o2.frozen 1;have sz:=o2.size;have O2:=Lib.hid o2;have O3:=Lib.hid o3;have B2:=Lib.hid b2;have H2:=Lib.hid h2;clear o2 o3 b2 h2)
  go_ret
  exact ⟨rfl,⟨B2.out,_,O2.out,O3.out,O4.out⟩,H2.out⟩
theorem RM.many {n0:Nat} {w:World} {g:Nat} {r:Rd} (h:RM n0 w g r) (most least:Nat) (hm:most≤2000) (hl:least≤4) :
 Calls Tryz.prog 77 #[.pointer (some ⟨g,0,none⟩),.int .u64 (most:Int),.int .u64 (least:Int)] w fun e w'=>e = .returned (.int .i64 ((rmany most least r).1:Int))∧RM n0 w' g (rmany most least r).2∧w.grownBy w' (some g):=by
 have K:=h.num most (by omega)
 have hle:=rnum_le most r
 unfold rmany
 obtain ⟨q,hq⟩:∃ q,rnum most r=q:=⟨_,rfl⟩
 rw [hq] at K hle ⊢
 obtain ⟨n,l,c⟩:=q
 have KK:=Lib.hid K
 clear K hq h
 simp only at KK hle ⊢
 obtain ⟨p,hp⟩:∃ p,n * least=p:=⟨_,rfl⟩
 obtain ⟨L,hL⟩:∃ L,l.length=L:=⟨_,rfl⟩
 have hp0:p≤8000:=by
  rw [← hp]
  exact Nat.le_trans (Nat.mul_le_mul (by omega:n≤2000) hl) (by decide)
 have t1:(n:Int) * (least:Int)=(p:Int):=by rw [← hp];simp
 have t2:IntKind.u64.wrap (p:Int)=(p:Int):=by rw [IntKind.wrap_u64];omega
 have t9:IntKind.i64.wrap (n:Int)=(n:Int):=by rw [IntKind.wrap_i64];omega
 rw [hp,hL]
 have HL:=Lib.hid hL
 clear hp hL
 by_cases hc:c=0
 ·subst hc
  by_cases hr:L<p
  ·have t4:decide ((L:Int)<(p:Int))=true:=decide_eq_true (by omega)
   rw [if_pos ⟨rfl,hr⟩]
   go_enter Tryz.func77,Tryz.ntmps77
   go_wp2_with (go_at_call 78;refine KK.out.mono ?_;rintro e w2 ⟨rfl,⟨b2,vb,o2,o3,o4⟩,h2⟩;have O4:=Lib.hid o4;clear o4;obtain ⟨rr,cap,rfl,hml⟩:=o3.form;simp only at o2 o3;rw [HL.out] at o2 hml;have x1:=o2.cell1;have x0:=o2.cell0;have f1:=o2.frozen 1;have sz:=o2.size;have O2:=Lib.hid o2;have O3:=Lib.hid o3;have B2:=Lib.hid b2;have H2:=Lib.hid h2;have t3:IntKind.u64.wrap (L:Int)=(L:Int):=(by rw [IntKind.wrap_u64];omega);clear o2 o3 b2 h2)
   go_ret
   exact ⟨rfl,⟨B2.out,_,O2.out.set1 3,(by have h3:=O3.out;rw [HL.out] at h3;exact byc_set h3 O2.out ⟨_,_,_,rfl⟩),(by have h:=O4.out;rw [HL.out] at h;exact h)⟩,grown_trans H2.out (set_grown _ _ _)⟩
  ·have t4:decide ((L:Int)<(p:Int))=false:=decide_eq_false (by omega)
   rw [if_neg (fun e=>hr e.2),if_neg (by simp)]
   go_enter Tryz.func77,Tryz.ntmps77
   go_wp2_with (go_at_call 78;refine KK.out.mono ?_;rintro e w2 ⟨rfl,⟨b2,vb,o2,o3,o4⟩,h2⟩;have O4:=Lib.hid o4;clear o4;obtain ⟨rr,cap,rfl,hml⟩:=o3.form;simp only at o2 o3;rw [HL.out] at o2 hml;have x1:=o2.cell1;have x0:=o2.cell0;have f1:=o2.frozen 1;have sz:=o2.size;have O2:=Lib.hid o2;have O3:=Lib.hid o3;have B2:=Lib.hid b2;have H2:=Lib.hid h2;have t3:IntKind.u64.wrap (L:Int)=(L:Int):=(by rw [IntKind.wrap_u64];omega);clear o2 o3 b2 h2)
   go_ret
   exact ⟨rfl,⟨B2.out,_,O2.out,HL.out ▸ O3.out,(by have h:=O4.out;rw [HL.out] at h;exact h)⟩,H2.out⟩
 ·have t0:(c == 0)=false:=by rw [beq_eq_false_iff_ne];exact hc
  have t0':(c != 0)=true:=by rw [bne_iff_ne];exact hc
  rw [if_neg (fun e=>hc e.1),if_pos hc]
  go_enter Tryz.func77,Tryz.ntmps77
  go_wp2_with (go_at_call 78;refine KK.out.mono ?_;rintro e w2 ⟨rfl,⟨b2,vb,o2,o3,o4⟩,h2⟩;have O4:=Lib.hid o4;clear o4;have x1:=o2.cell1;have f1:=o2.frozen 1;have sz:=o2.size;have O2:=Lib.hid o2;have O3:=Lib.hid o3;have B2:=Lib.hid b2;have H2:=Lib.hid h2;clear o2 o3 b2 h2)
  go_ret
  exact ⟨rfl,⟨B2.out,_,O2.out,O3.out,O4.out⟩,H2.out⟩
end Go.Proofs.YtmpefjnfelfnfaaGreatDoor

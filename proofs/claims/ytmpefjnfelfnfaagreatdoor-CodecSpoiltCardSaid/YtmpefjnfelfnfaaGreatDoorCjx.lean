/- What the laws ask of codec's Decode. -/
import Derived.Test.YtmpefjnfelfnfaaGreatDoorChall
import Derived.Test.YtmpefjnfelfnfaaGreatDoorCgall
import Derived.Test.YtmpefjnfelfnfaaGreatDoorCdall
set_option maxRecDepth 100000
set_option maxHeartbeats 4000000
namespace Go.Proofs.YtmpefjnfelfnfaaGreatDoor
open Go.RowKit
set_option linter.unusedVariables false
set_option linter.unusedSimpArgs false
structure DecC (I:World→Prop):Prop where
 dec:∀ (vb:Value) (l:List Nat) (w:World),I w→Recs byc 1 w vb l→(∀ c ∈ l,c<256)→Calls Tryz.prog 12 #[vb] w fun e w'=>DecR l e w w'
theorem decC {I:World→Prop} (D:DayC I) (B:BookC I):DecC I where
 dec vb l w hI hR hb:=ddecode_c D B vb l w hI hR hb
theorem dec_bad0 {l:List Nat} (h:(decB l).2.2≠0):(decB l).1=⟨[],[],[],0⟩∧(decB l).2.1=[]:=by
 unfold decB at h ⊢
 by_cases h1:1048576<l.length
 ·rw [if_pos h1];exact ⟨rfl,rfl⟩
 ·rw [if_neg h1] at h ⊢
  by_cases h2:l.length<4
  ·rw [if_pos h2];exact ⟨rfl,rfl⟩
  ·rw [if_neg h2] at h ⊢
   by_cases h3:l.take 4≠[84,82,80,49]
   ·rw [if_pos h3];exact ⟨rfl,rfl⟩
   ·rw [if_neg h3] at h ⊢
    by_cases h4:decE (rbd ⟨l.drop 4,0⟩)≠0
    ·rw [if_pos h4];exact ⟨rfl,rfl⟩
    ·rw [if_neg h4] at h;exact absurd rfl h
theorem dec_in {l:List Nat} (hb:∀ c ∈ l,c<256):FrIn (decB l).1∧(decB l).2.1.length≤2000 ∧ ∀ p ∈ (decB l).2.1,p.2.length≤60:=by
 by_cases h:(decB l).2.2=0
 ·obtain ⟨_,⟨⟨c1,c2⟩,⟨u1,u2⟩,⟨s1,s2⟩,⟨e1,e2⟩,⟨j1,j2⟩⟩,_,_⟩:=enc_dec hb h
  simp only [bdOf] at c1 u1 u2 s1 s2 e1 e2 j1 j2
  exact ⟨⟨by omega,⟨by omega,fun x hx=>by have:=u2 x hx;omega⟩,⟨by omega,s2⟩,⟨e1,e2⟩⟩,j1,fun p hp=>(j2 p hp).2.1⟩
 ·obtain ⟨e1,e2⟩:=dec_bad0 h
  rw [e1,e2]
  exact ⟨⟨by decide,⟨by decide,fun x hx=>by cases hx⟩,⟨by decide,fun x hx=>by cases hx⟩,by decide⟩,by decide,fun p hp=>by cases hp⟩
theorem dec_jm {l:List Nat} (hb:∀ c ∈ l,c<256) {vs:List Jm} (h:vs.map jOf=(decB l).2.1):vs.length≤2000 ∧ ∀ p ∈ vs,p.2.2.length≤100:=by
 obtain ⟨_,h1,h2⟩:=dec_in hb
 rw [← h] at h1 h2
 refine ⟨by rw [List.length_map] at h1;exact h1,fun p hp=>?_⟩
 have h3:p.2.2.length≤60:=h2 (jOf p) (List.mem_map_of_mem hp)
 omega
def LDecC (I:World→Prop):Prop:=∀ (vb:Value) (l:List Nat) (w:World),I w→Recs byc 1 w vb l→(∀ c ∈ l,c<256)→Calls Tryz.prog 42 #[vb] w fun e w'=>DecR l e w w'
def GotM (l:List Nat) (w:World) (v:Value):Prop:=∃ (vC vU vS vJ:Value) (vs:List Jm),v=bkV vC vU vS (decB l).1.E vJ∧FrM (decB l).1 vC vU vS w∧JRow w vJ vs∧vs.map jOf=(decB l).2.1
theorem GotM.stay {l:List Nat} {w w':World} {v:Value} (h:GotM l w v) (hb:Below w.heap.size w w'):GotM l w' v:=by
 obtain ⟨vC,vU,vS,vJ,vs,e,hF,hJ,hj⟩:=h
 exact ⟨vC,vU,vS,vJ,vs,e,hF.stay hb,hJ.stay hb,hj⟩
theorem got_of {l:List Nat} {e:Ending} {w w':World} {c:Int} (h:DecR l e w w') (hc:(decB l).2.2=c):∃ (s1 s2 s3 s4:Option Addr) (n1 n2 n3 n4 k1 k2 k3 k4:Nat) (E:Int),e = .returned (.tuple #[.agg #[.slice s1 n1 k1,.slice s2 n2 k2,.slice s3 n3 k3,.int .i32 E,.slice s4 n4 k4],.int .i64 c])∧GotM l w' (.agg #[.slice s1 n1 k1,.slice s2 n2 k2,.slice s3 n3 k3,.int .i32 E,.slice s4 n4 k4])∧Below w.heap.size w w':=by
 obtain ⟨vC,vU,vS,vJ,vs,rfl,hF,hJ,hj,hb⟩:=h
 rw [hc]
 have hm:GotM l w' (bkV vC vU vS (decB l).1.E vJ):=⟨vC,vU,vS,vJ,vs,rfl,hF,hJ,hj⟩
 obtain ⟨s0,k0,rfl,_⟩:=hF.c.form
 obtain ⟨s1,k1,rfl,_⟩:=hF.u.form
 obtain ⟨s2,k2,rfl,_⟩:=hF.s.form
 obtain ⟨s4,k4,rfl,_⟩:=hJ.1.form
 exact ⟨s0,s1,s2,s4,_,_,_,_,k0,k1,k2,k4,_,rfl,hm,hb⟩
theorem same_got {I:World→Prop} (B:BookC I) {l:List Nat} (hb:∀ c ∈ l,c<256) {w:World} {u v:Value} (h:GotM l w u) (k:GotM l w v) :
 Calls Tryz.prog 16 #[u,v] w fun e w'=>e = .returned (.bool true)∧Below w.heap.size w w':=by
 obtain ⟨vC,vU,vS,vJ,vs,rfl,hF,hJ,hj⟩:=h
 obtain ⟨uC,uU,uS,uJ,us,rfl,kF,kJ,kj⟩:=k
 obtain ⟨a,b⟩:=dec_jm hb hj
 obtain ⟨c,d⟩:=dec_jm hb kj
 have hi:=(dec_in hb).1
 refine (B.same vC vU vS vJ uC uU uS uJ (decB l).1 (decB l).1 vs us w hF kF hi hi hJ kJ a c b d).mono ?_
 rintro e w' ⟨rfl,hb⟩
 refine ⟨?_,hb⟩
 rw [hj,kj]
 simp [eqF]
theorem enc_got {I:World→Prop} (CO:CodecC I) {l:List Nat} (hb:∀ c ∈ l,c<256) (h0:(decB l).2.2=0) {w:World} {v:Value} (h:GotM l w v) :
 Calls Tryz.prog 13 #[v] w fun e w'=>∃ v',e = .returned v'∧Recs byc 1 w' v' l∧Below w.heap.size w w':=by
 obtain ⟨vC,vU,vS,vJ,vs,rfl,hF,hJ,hj⟩:=h
 obtain ⟨e1,e2,_,_⟩:=enc_dec hb h0
 have hok:OkBw (bdOf (decB l).1 (vs.map jOf)):=by rw [hj];exact e2.wide
 have K:=CO.enc vC vU vS vJ (decB l).1 vs w hF hJ hok
 rw [hj,e1] at K
 exact K
theorem is_c {I:World→Prop} (D:DayC I) (BC:BookC I) (CO:CodecC I) (DE:DecC I) (LD:LDecC I) (vb:Value) (l:List Nat) (w:World) (hI:I w) (hR:Recs byc 1 w vb l) (hb:∀ c ∈ l,c<256) :
 Calls Tryz.prog 17 #[vb] w fun e w'=>e = .returned (.bool true)∧Below w.heap.size w w':=by
 obtain ⟨c0,hc⟩:∃ c,(decB l).2.2=c:=⟨_,rfl⟩
 have KD1:=Lib.hid ((DE.dec vb l w hI hR hb).mono fun e w' h=>got_of h hc)
 have KD2:=Lib.hid (fun (w1:World) (h:Below w.heap.size w w1)=>(LD vb l w1 (D.stay hI h) (hR.stay h) hb).mono fun e w' h=>got_of h hc)
 have KS:=Lib.hid (fun (w':World) (u v:Value) (hu:GotM l w' u) (hv:GotM l w' v)=>same_got BC hb hu hv)
 have KE:=Lib.hid (fun (h0:c0=0) (w':World) (v:Value) (hv:GotM l w' v)=>enc_got CO hb (hc.trans h0) hv)
 have KQ:=Lib.hid (fun (w':World) (u:Value) (hu:Recs byc 1 w' u l) (hB:Below w.heap.size w w')=>show Calls Tryz.prog 14 #[u,vb] w' fun e w''=>e = .returned (.bool true)∧Below w'.heap.size w' w'' from (equal_8 u vb _ _ w' hu (hR.stay hB)).mono (by rintro e w'' ⟨rfl,hb⟩;exact ⟨by simp,hb⟩))
 clear D BC CO DE LD hI hR hb hc
 go_enter Tryz.func17,Tryz.ntmps17
 go_upto_region 2 with (go_at_call 12;refine (KD1.out).mono ?_;rintro e w1 ⟨g1,g2,g3,g4,gn1,gn2,gn3,gn4,gk1,gk2,gk3,gk4,gE,rfl,hg,h1⟩;have HGg:=Lib.hid hg;have HB1a:=Lib.hid (h1);clear hg h1)
 have hbw:=(Below.refl w1.heap.size w1).alloc (Nat.le_refl _) (.cells #[.slice g1 gn1 gk1,.slice g2 gn2 gk2,.slice g3 gn3 gk3,.int .i32 gE,.slice g4 gn4 gk4] 41)
 have hfb:HBox (w1.alloc (.cells #[.slice g1 gn1 gk1,.slice g2 gn2 gk2,.slice g3 gn3 gk3,.int .i32 gE,.slice g4 gn4 gk4] 41)) w1.heap.size [.slice g1 gn1 gk1,.slice g2 gn2 gk2,.slice g3 gn3 gk3,.int .i32 gE,.slice g4 gn4 gk4] 41:=HBox.new w1 [.slice g1 gn1 gk1,.slice g2 gn2 gk2,.slice g3 gn3 gk3,.int .i32 gE,.slice g4 gn4 gk4] 41
 have HGg1:=Lib.hid (HGg.out.stay hbw)
 have HB1:=Lib.hid (HB1a.out.trans (hbw.mono HB1a.out.size))
 have HX:=Lib.hid hfb
 clear hbw hfb HGg HB1a
 generalize w1.alloc (.cells #[.slice g1 gn1 gk1,.slice g2 gn2 gk2,.slice g3 gn3 gk3,.int .i32 gE,.slice g4 gn4 gk4] 41)=W1 at HGg1 HB1 HX ⊢
 generalize w1.heap.size=X at HX ⊢
 go_upto_region 3 with (go_at_call 42;refine (KD2.out _ HB1.out).mono ?_;rintro e w2 ⟨z1,z2,z3,z4,zn1,zn2,zn3,zn4,zk1,zk2,zk3,zk4,zE,rfl,hg,h1⟩;have HGz:=Lib.hid hg;have HB2a:=Lib.hid (HB1.out.trans (h1.mono HB1.out.size));have HGg1b:=Lib.hid (HGg1.out.stay h1);have HXb:=Lib.hid (HX.out.stay h1);clear hg h1)
 have hbw:=(Below.refl w2.heap.size w2).alloc (Nat.le_refl _) (.cells #[.slice z1 zn1 zk1,.slice z2 zn2 zk2,.slice z3 zn3 zk3,.int .i32 zE,.slice z4 zn4 zk4] 41)
 have hfb:HBox (w2.alloc (.cells #[.slice z1 zn1 zk1,.slice z2 zn2 zk2,.slice z3 zn3 zk3,.int .i32 zE,.slice z4 zn4 zk4] 41)) w2.heap.size [.slice z1 zn1 zk1,.slice z2 zn2 zk2,.slice z3 zn3 zk3,.int .i32 zE,.slice z4 zn4 zk4] 41:=HBox.new w2 [.slice z1 zn1 zk1,.slice z2 zn2 zk2,.slice z3 zn3 zk3,.int .i32 zE,.slice z4 zn4 zk4] 41
 have HGz1:=Lib.hid (HGz.out.stay hbw)
 have HB2:=Lib.hid (HB2a.out.trans (hbw.mono HB2a.out.size))
 have HY:=Lib.hid hfb
 have HGg2:=Lib.hid (HGg1b.out.stay hbw)
 have HX2:=Lib.hid (HXb.out.stay hbw)
 clear hbw hfb HGz HB2a HGg1b HXb HGg1 HX HB1
 generalize w2.alloc (.cells #[.slice z1 zn1 zk1,.slice z2 zn2 zk2,.slice z3 zn3 zk3,.int .i32 zE,.slice z4 zn4 zk4] 41)=W2 at HGz1 HB2 HY HGg2 HX2 ⊢
 generalize w2.heap.size=Y at HY ⊢
 have x0:=HX2.out.cell (j:=0) rfl
 have x1:=HX2.out.cell (j:=1) rfl
 have x2:=HX2.out.cell (j:=2) rfl
 have x3:=HX2.out.cell (j:=3) rfl
 have x4:=HX2.out.cell (j:=4) rfl
 have y0:=HY.out.cell (j:=0) rfl
 have y1:=HY.out.cell (j:=1) rfl
 have y2:=HY.out.cell (j:=2) rfl
 have y3:=HY.out.cell (j:=3) rfl
 have y4:=HY.out.cell (j:=4) rfl
 by_cases h0:c0=0
 ·subst h0
  have KE2:=Lib.hid (KE.out rfl)
  clear KE
  go_wp2_with (first
   | (go_at_call 14;refine (KQ.out _ _ HR4.out HB4.out).mono ?_;rintro e w5 ⟨rfl,h5⟩;have HB5:=Lib.hid (HB4.out.trans (h5.mono HB4.out.size));clear h5)
   | (go_at_call 13;refine (KE2.out _ _ HG3.out).mono ?_;rintro e w4 ⟨u4,rfl,r4,h4⟩;have HR4:=Lib.hid r4;have HB4:=Lib.hid (HB3.out.trans (h4.mono HB3.out.size));clear r4 h4)
   | (go_at_call 16;refine (KS.out _ _ _ HGg2.out HGz1.out).mono ?_;rintro e w3 ⟨rfl,h3⟩;have HB3:=Lib.hid (HB2.out.trans (h3.mono HB2.out.size));have HG3:=Lib.hid (HGg2.out.stay h3);have HX3:=Lib.hid (HX2.out.stay h3);have v0:=HX3.out.cell (j:=0) rfl;have v1:=HX3.out.cell (j:=1) rfl;have v2:=HX3.out.cell (j:=2) rfl;have v3:=HX3.out.cell (j:=3) rfl;have v4:=HX3.out.cell (j:=4) rfl;clear h3))
  go_ret
  exact ⟨rfl,HB5.out⟩
 ·have t6:(c0 != 0)=true:=by rw [bne_iff_ne];exact h0
  go_wp2_with (go_at_call 16;refine (KS.out _ _ _ HGg2.out HGz1.out).mono ?_;rintro e w3 ⟨rfl,h3⟩;have HB3:=Lib.hid (HB2.out.trans (h3.mono HB2.out.size));have HG3:=Lib.hid (HGg2.out.stay h3);have HX3:=Lib.hid (HX2.out.stay h3);have v0:=HX3.out.cell (j:=0) rfl;have v1:=HX3.out.cell (j:=1) rfl;have v2:=HX3.out.cell (j:=2) rfl;have v3:=HX3.out.cell (j:=3) rfl;have v4:=HX3.out.cell (j:=4) rfl;clear h3)
  go_ret
  exact ⟨rfl,HB3.out⟩
end Go.Proofs.YtmpefjnfelfnfaaGreatDoor

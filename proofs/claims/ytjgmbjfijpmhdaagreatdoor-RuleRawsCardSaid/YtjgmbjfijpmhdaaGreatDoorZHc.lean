/- Contract of law 6's own Check: the same. -/
import Derived.Test.YtjgmbjfijpmhdaaGreatDoorZHall
set_option maxRecDepth 100000
set_option maxHeartbeats 4000000
namespace Go.Proofs.YtjgmbjfijpmhdaaGreatDoor
open Go.RowKit
set_option linter.unusedVariables false
set_option linter.unusedSimpArgs false
theorem gv_none:gv none = .agg #[.int .u32 0,.string ⟨#[]⟩,.int .u8 0,.int .u32 0]:=rfl
theorem gv_some (a:Ac):gv (some a) = .agg #[.int .u32 (a.code:Int),.string a.name,.int .u8 (a.kind:Int),.int .u32 (a.par:Int)]:=rfl
theorem lcheckA_c (v:Value) (c:List Ac) (w:World) (hR:Recs cc 4 w v c) :
 Calls Tryz.prog 39 #[v] w fun e w'=>e = .returned (.int .i64 (chkA c))∧Below w.heap.size w w':=by
 obtain ⟨r0,cap0,hv,hm⟩:=hR.form
 have HR:=Lib.hid hR
 obtain ⟨L,hL⟩:∃ L,c.length=L:=⟨_,rfl⟩
 have HL:=Lib.hid hL
 rw [hL] at hv hm
 have HC0:Hid (chk1 0 c=chk1 0 (c.drop 0)):=Lib.hid rfl
 have HD0:Hid (chk2 c c=chk2 c (c.drop 0)):=Lib.hid rfl
 have HZ:=Lib.hid (And.intro (@chkA_big c) (And.intro (@chkA_one c) (@chkA_two c)))
 rw [hL] at HZ
 obtain ⟨R,hRR⟩:∃ R,chkA c=R:=⟨_,rfl⟩
 have HRR:=Lib.hid hRR
 rw [hRR]
 subst hv
 clear hR hL hRR
 by_cases h200:200<L
 ·obtain rfl:R=2:=by rw [← HRR.out];exact HZ.out.1 h200
  have e1:(200:Int)<(L:Int):=by omega
  go_enter Tryz.func39,Tryz.ntmps39
  go_wp2
  go_ret
  exact ⟨rfl,Below.refl _ _⟩
 ·have e1:¬ (200:Int)<(L:Int):=by omega
  go_enter Tryz.func39,Tryz.ntmps39
  go_wp2
  go_loopw [3,15] (fun s i wr=>∃ (k h:Nat),k≤L∧s = .int .u32 (h:Int)∧i = .int .i64 k∧h<4294967296∧Hid (k=0→h=0)∧Hid (chk1 0 c=chk1 h (c.drop k))∧Below w.heap.size w wr) (fun _ i _=>L-(intOf i).toNat)
  case atStart=>exact ⟨0,0,Nat.zero_le _,rfl,rfl,by omega,Lib.hid (fun _=>rfl),HC0,Below.refl _ _⟩
  case round =>
   obtain ⟨k,h,hk,rfl,rfl,hh,HK0,HK,hb⟩:=hrel
   rename World=>wr
   by_cases hlt:k<L
   ·obtain ⟨a,ha⟩:∃ a,c[k]?=some a:=⟨c[k]'(by have:=HL.out;omega),List.getElem?_eq_getElem (by have:=HL.out;omega)⟩
    have HS:=Lib.hid (HK.out.trans (chk1_at ha))
    have K1:=Lib.hid (fun (w:World)=>lname_c2 a.name w a.hn)
    obtain ⟨g,off,hcv,hg,hcy⟩:=(HR.out.stay hb).at ha
    subst hcv
    obtain ⟨c0,c1,c2,c3⟩:=Recs.cells4 (c:=c) hcy
    have hbs:=hb.size
    clear ha hcy HK
    go_upto_region 7 with fail
    have HX:=Lib.hid (Box4.new wr (.int .u32 (a.code:Int)) (.string a.name) (.int .u8 (a.kind:Int)) (.int .u32 (a.par:Int)) 82)
    have HB:=Lib.hid (hb.alloc hbs (.cells #[.int .u32 (a.code:Int),.string a.name,.int .u8 (a.kind:Int),.int .u32 (a.par:Int)] 82))
    clear c0 c1 c2 c3 hb hbs
    generalize wr.alloc (.cells #[.int .u32 (a.code:Int),.string a.name,.int .u8 (a.kind:Int),.int .u32 (a.par:Int)] 82)=wx at *
    generalize wr.heap.size=Y at *
    obtain ⟨z0,z1,z2,z3,_,_,_,_,_⟩:=HX.out
    have HW:Hid (∀ x,x≠0→one1 h a=x→x=R):=Lib.hid (fun x h0 hx=>by
     have h1:=HS.out
     rw [hx,if_pos h0] at h1
     rw [← HRR.out,HZ.out.2.1 h200 (by rw [h1];exact h0),h1])
    obtain ⟨nb,hnb⟩:∃ nb,nameB a.name.toList=nb:=⟨_,rfl⟩
    rw [hnb] at K1
    by_cases hz:a.code=0
    ·have e2:((a.code:Int) == 0)=true:=by simp [hz]
     obtain rfl:(5:Int)=R:=HW.out 5 (by decide) (by unfold one1;rw [if_pos (.inl hz)])
     clear HS HW hnb
     go_wp2
     go_ret
     exact ⟨rfl,HB.out⟩
    ·have e2:((a.code:Int) == 0)=false:=by simp;omega
     by_cases hbig:999999<a.code
     ·have e3:(999999:Int)<(a.code:Int):=by omega
      obtain rfl:(5:Int)=R:=HW.out 5 (by decide) (by unfold one1;rw [if_pos (.inr hbig)])
      clear HS HW hnb
      go_wp2
      go_ret
      exact ⟨rfl,HB.out⟩
     ·have e3:¬ (999999:Int)<(a.code:Int):=by omega
      have hin:¬ (a.code=0∨999999<a.code):=by omega
      have hac:=a.hc
      by_cases hk0:0<k
      ·have e4:(0:Int)<(k:Int):=by omega
       by_cases hle:a.code≤h
       ·have e6:(a.code:Int)≤(h:Int):=by omega
        obtain rfl:(6:Int)=R:=HW.out 6 (by decide) (by unfold one1;rw [if_neg hin,if_pos hle])
        clear HS HW hnb
        go_wp2
        go_ret
        exact ⟨rfl,HB.out⟩
       ·have e6:¬ (a.code:Int)≤(h:Int):=by omega
        cases nb
        ·have hn:=hnb
         obtain rfl:(10:Int)=R:=HW.out 10 (by decide) (by unfold one1;rw [if_neg hin,if_neg hle,if_pos hnb])
         clear HS HW hnb
         go_wp2_with (go_at_call 67;refine (K1.out _).mono ?_;rintro e w1 ⟨rfl,hb1⟩;have HB1:=Lib.hid (HB.out.trans (hb1.mono HB.out.size));obtain ⟨u0,u1,u2,u3,_,_,_,_,_⟩:=HX.out.stay hb1;clear hb1)
         go_ret
         exact ⟨rfl,HB1.out⟩
        ·by_cases hkd:5≤a.kind
         ·have e5:(4:Int)<(a.kind:Int):=by omega
          obtain rfl:(9:Int)=R:=HW.out 9 (by decide) (by unfold one1;rw [if_neg hin,if_neg hle,if_neg (by rw [hnb];simp),if_pos hkd])
          clear HS HW hnb
          go_wp2_with (go_at_call 67;refine (K1.out _).mono ?_;rintro e w1 ⟨rfl,hb1⟩;have HB1:=Lib.hid (HB.out.trans (hb1.mono HB.out.size));obtain ⟨u0,u1,u2,u3,_,_,_,_,_⟩:=HX.out.stay hb1;clear hb1)
          go_ret
          exact ⟨rfl,HB1.out⟩
         ·have e5:¬ (4:Int)<(a.kind:Int):=by omega
          have HS1:Hid (chk1 0 c=chk1 a.code (c.drop (k+1))):=Lib.hid (by
           have h1:=HS.out
           have h2:one1 h a=0:=by unfold one1;rw [if_neg hin,if_neg hle,if_neg (by rw [hnb];simp),if_neg hkd]
           rwa [h2,if_neg (by simp)] at h1)
          clear HS HW hnb
          go_wp2_with (go_at_call 67;refine (K1.out _).mono ?_;rintro e w1 ⟨rfl,hb1⟩;have HB1:=Lib.hid (HB.out.trans (hb1.mono HB.out.size));obtain ⟨u0,u1,u2,u3,_,_,_,_,_⟩:=HX.out.stay hb1;clear hb1)
          go_roundw
          case rel=>exact ⟨k+1,a.code,by omega,rfl,by go_num,hac,Lib.hid (fun h=>by omega),HS1,HB1.out⟩
          case measure=>simp [intOf];omega
      ·have e4:¬ (0:Int)<(k:Int):=by omega
       have hh0:=HK0.out (by omega)
       have hle:¬ a.code≤h:=by omega
       clear hh0
       cases nb
       ·have hn:=hnb
        obtain rfl:(10:Int)=R:=HW.out 10 (by decide) (by unfold one1;rw [if_neg hin,if_neg hle,if_pos hnb])
        clear HS HW hnb
        go_wp2_with (go_at_call 67;refine (K1.out _).mono ?_;rintro e w1 ⟨rfl,hb1⟩;have HB1:=Lib.hid (HB.out.trans (hb1.mono HB.out.size));obtain ⟨u0,u1,u2,u3,_,_,_,_,_⟩:=HX.out.stay hb1;clear hb1)
        go_ret
        exact ⟨rfl,HB1.out⟩
       ·by_cases hkd:5≤a.kind
        ·have e5:(4:Int)<(a.kind:Int):=by omega
         obtain rfl:(9:Int)=R:=HW.out 9 (by decide) (by unfold one1;rw [if_neg hin,if_neg hle,if_neg (by rw [hnb];simp),if_pos hkd])
         clear HS HW hnb
         go_wp2_with (go_at_call 67;refine (K1.out _).mono ?_;rintro e w1 ⟨rfl,hb1⟩;have HB1:=Lib.hid (HB.out.trans (hb1.mono HB.out.size));obtain ⟨u0,u1,u2,u3,_,_,_,_,_⟩:=HX.out.stay hb1;clear hb1)
         go_ret
         exact ⟨rfl,HB1.out⟩
        ·have e5:¬ (4:Int)<(a.kind:Int):=by omega
         have HS1:Hid (chk1 0 c=chk1 a.code (c.drop (k+1))):=Lib.hid (by
          have h1:=HS.out
          have h2:one1 h a=0:=by unfold one1;rw [if_neg hin,if_neg hle,if_neg (by rw [hnb];simp),if_neg hkd]
          rwa [h2,if_neg (by simp)] at h1)
         clear HS HW hnb
         go_wp2_with (go_at_call 67;refine (K1.out _).mono ?_;rintro e w1 ⟨rfl,hb1⟩;have HB1:=Lib.hid (HB.out.trans (hb1.mono HB.out.size));obtain ⟨u0,u1,u2,u3,_,_,_,_,_⟩:=HX.out.stay hb1;clear hb1)
         go_roundw
         case rel=>exact ⟨k+1,a.code,by omega,rfl,by go_num,hac,Lib.hid (fun h=>by omega),HS1,HB1.out⟩
         case measure=>simp [intOf];omega
   ·obtain rfl:k=L:=by omega
    have h10:chk1 0 c=0:=by rw [HK.out];exact chk1_end (by have:=HL.out;omega)
    have H2:=Lib.hid (HZ.out.2.2 h200 h10)
    have HBO:=Lib.hid hb
    clear hb h10 HK HZ HC0 HK0
    go_wp2
    go_loopw [52] (fun i wr=>∃ (j:Nat),j≤k∧i = .int .i64 j∧Hid (chk2 c c=chk2 c (c.drop j))∧Below w.heap.size w wr) (fun i _=>k-(intOf i).toNat)
    case atStart=>exact ⟨0,Nat.zero_le _,rfl,HD0,HBO.out⟩
    case round =>
     obtain ⟨j,hj,rfl,HK,hb⟩:=hrel
     rename World=>wr
     by_cases hlt:j<k
     ·obtain ⟨a,ha⟩:∃ a,c[j]?=some a:=⟨c[j]'(by have:=HL.out;omega),List.getElem?_eq_getElem (by have:=HL.out;omega)⟩
      have HS:=Lib.hid (HK.out.trans (chk2_at ha))
      have hrw:=HR.out.stay hb
      have HRW:=Lib.hid (hrw.stay ((Below.refl wr.heap.size wr).alloc (Nat.le_refl _) (.cells #[.int .u32 (a.code:Int),.string a.name,.int .u8 (a.kind:Int),.int .u32 (a.par:Int)] 82)))
      have K1:=Lib.hid (fun (w:World) (h:Recs cc 4 w (.slice r0 k cap0) c)=>getl_c (.slice r0 k cap0) c a.par w h)
      have K2:=Lib.hid (fun (w:World) (h:Recs cc 4 w (.slice r0 k cap0) c)=>deep_c (.slice r0 k cap0) c a.code w h)
      have hlen:=wayF_len 13 c a.code
      obtain ⟨g,off,hcv,hg,hcy⟩:=hrw.at ha
      subst hcv
      obtain ⟨c0,c1,c2,c3⟩:=Recs.cells4 (c:=c) hcy
      have hbs:=hb.size
      clear ha hcy HK hrw
      go_upto_region 20 with fail
      have HX:=Lib.hid (Box4.new wr (.int .u32 (a.code:Int)) (.string a.name) (.int .u8 (a.kind:Int)) (.int .u32 (a.par:Int)) 82)
      have HB:=Lib.hid (hb.alloc hbs (.cells #[.int .u32 (a.code:Int),.string a.name,.int .u8 (a.kind:Int),.int .u32 (a.par:Int)] 82))
      clear c0 c1 c2 c3 hb hbs
      generalize wr.alloc (.cells #[.int .u32 (a.code:Int),.string a.name,.int .u8 (a.kind:Int),.int .u32 (a.par:Int)] 82)=wx at *
      generalize wr.heap.size=Y at *
      obtain ⟨z0,z1,z2,z3,_,_,_,_,_⟩:=HX.out
      have HW:Hid (∀ x,x≠0→one2 c a=x→x=R):=Lib.hid (fun x h0 hx=>by
       have h1:=HS.out
       rw [hx,if_pos h0] at h1
       rw [← HRR.out,H2.out,h1])
      have HN:Hid (one2 c a=0→chk2 c c=chk2 c (c.drop (j+1))):=Lib.hid (fun h=>by
       have h1:=HS.out
       rwa [h,if_neg (by simp)] at h1)
      clear HS
      by_cases hp0:a.par=0
      ·have e2:((a.par:Int) == 0)=true:=by simp [hp0]
       have HS1:=Lib.hid (HN.out (by unfold one2;rw [if_pos hp0]))
       clear HW HN
       go_wp2
       go_roundw
       case rel=>exact ⟨j+1,by omega,by go_num,HS1,HB.out⟩
       case measure=>simp [intOf];omega
      ·have e2:((a.par:Int) == 0)=false:=by simp;omega
       cases hg0:getA c a.par with
       | none =>
        rw [hg0] at K1
        simp only [gv_none,Option.isSome_none] at K1
        obtain rfl:(8:Int)=R:=HW.out 8 (by decide) (by unfold one2;rw [if_neg hp0,hg0])
        clear HW HN hg0
        go_wp2_with (go_at_call 68;refine (K1.out _ HRW.out).mono ?_;rintro e w1 ⟨rfl,hb1⟩;have hBa:=HB.out.trans (hb1.mono HB.out.size);have HB1:=Lib.hid (hBa.alloc hBa.size (.cells #[.int .u32 0,.string ⟨#[]⟩,.int .u8 0,.int .u32 0] 82));have HR1:=Lib.hid ((HRW.out.stay hb1).stay ((Below.refl w1.heap.size w1).alloc (Nat.le_refl _) (.cells #[.int .u32 0,.string ⟨#[]⟩,.int .u8 0,.int .u32 0] 82)));obtain ⟨u0,u1,u2,u3,_,_,_,_,_⟩:=HX.out.stay hb1;clear hb1 hBa)
        go_ret
        exact ⟨rfl,HB1.out⟩
       | some p =>
        rw [hg0] at K1
        simp only [gv_some,Option.isSome_some] at K1
        by_cases hk:p.kind=a.kind
        ·have ek:((p.kind:Int) != (a.kind:Int))=false:=by simp;omega
         by_cases h12:12<(wayF 13 c a.code).length
         ·have e12:(12:Int)<((wayF 13 c a.code).length:Int):=by omega
          obtain rfl:(11:Int)=R:=HW.out 11 (by decide) (by unfold one2;rw [if_neg hp0,hg0];simp only;rw [if_neg (by simpa using hk),if_pos h12])
          clear HW HN hg0 hk
          generalize (wayF 13 c a.code).length=N at *
          go_upto_region 26 with (go_at_call 68;refine (K1.out _ HRW.out).mono ?_;rintro e w1 ⟨rfl,hb1⟩;have hBa:=HB.out.trans (hb1.mono HB.out.size);have HB1:=Lib.hid (hBa.alloc hBa.size (.cells #[.int .u32 (p.code:Int),.string p.name,.int .u8 (p.kind:Int),.int .u32 (p.par:Int)] 82));have HR1:=Lib.hid ((HRW.out.stay hb1).stay ((Below.refl w1.heap.size w1).alloc (Nat.le_refl _) (.cells #[.int .u32 (p.code:Int),.string p.name,.int .u8 (p.kind:Int),.int .u32 (p.par:Int)] 82)));obtain ⟨u0,u1,u2,u3,_,_,_,_,_⟩:=HX.out.stay hb1;clear hb1 hBa)
          go_wp2_with (go_at_call 51;refine (K2.out _ HR1.out).mono ?_;rintro e w2 ⟨rfl,hb2⟩;have HB2:=Lib.hid (HB1.out.trans (hb2.mono HB1.out.size));clear hb2)
          go_ret
          exact ⟨rfl,HB2.out⟩
         ·have e12:¬ (12:Int)<((wayF 13 c a.code).length:Int):=by omega
          have HS1:=Lib.hid (HN.out (by unfold one2;rw [if_neg hp0,hg0];simp only;rw [if_neg (by simpa using hk),if_neg h12]))
          clear HW HN hg0 hk
          generalize (wayF 13 c a.code).length=N at *
          go_upto_region 26 with (go_at_call 68;refine (K1.out _ HRW.out).mono ?_;rintro e w1 ⟨rfl,hb1⟩;have hBa:=HB.out.trans (hb1.mono HB.out.size);have HB1:=Lib.hid (hBa.alloc hBa.size (.cells #[.int .u32 (p.code:Int),.string p.name,.int .u8 (p.kind:Int),.int .u32 (p.par:Int)] 82));have HR1:=Lib.hid ((HRW.out.stay hb1).stay ((Below.refl w1.heap.size w1).alloc (Nat.le_refl _) (.cells #[.int .u32 (p.code:Int),.string p.name,.int .u8 (p.kind:Int),.int .u32 (p.par:Int)] 82)));obtain ⟨u0,u1,u2,u3,_,_,_,_,_⟩:=HX.out.stay hb1;clear hb1 hBa)
          go_wp2_with (go_at_call 51;refine (K2.out _ HR1.out).mono ?_;rintro e w2 ⟨rfl,hb2⟩;have HB2:=Lib.hid (HB1.out.trans (hb2.mono HB1.out.size));clear hb2)
          go_roundw
          case rel=>exact ⟨j+1,by omega,by go_num,HS1,HB2.out⟩
          case measure=>simp [intOf];omega
        ·have ek:((p.kind:Int) != (a.kind:Int))=true:=by simp;omega
         obtain rfl:(9:Int)=R:=HW.out 9 (by decide) (by unfold one2;rw [if_neg hp0,hg0];simp only;rw [if_pos (by simpa using hk)])
         clear HW HN hg0
         go_wp2_with (go_at_call 68;refine (K1.out _ HRW.out).mono ?_;rintro e w1 ⟨rfl,hb1⟩;have hBa:=HB.out.trans (hb1.mono HB.out.size);have HB1:=Lib.hid (hBa.alloc hBa.size (.cells #[.int .u32 (p.code:Int),.string p.name,.int .u8 (p.kind:Int),.int .u32 (p.par:Int)] 82));have HR1:=Lib.hid ((HRW.out.stay hb1).stay ((Below.refl w1.heap.size w1).alloc (Nat.le_refl _) (.cells #[.int .u32 (p.code:Int),.string p.name,.int .u8 (p.kind:Int),.int .u32 (p.par:Int)] 82)));obtain ⟨u0,u1,u2,u3,_,_,_,_,_⟩:=HX.out.stay hb1;clear hb1 hBa)
         go_ret
         exact ⟨rfl,HB1.out⟩
     ·obtain rfl:j=k:=by omega
      have HB:=Lib.hid hb
      obtain rfl:R=0:=by rw [← HRR.out,H2.out,HK.out];exact chk2_end (by have:=HL.out;omega)
      clear hb HK
      go_wp2
      go_ret
      exact ⟨rfl,HB.out⟩

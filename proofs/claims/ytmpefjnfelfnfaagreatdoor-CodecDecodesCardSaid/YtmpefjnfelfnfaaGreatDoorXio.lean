/- Contract of law 10's has: is all of a line in a frame? -/
import Derived.Test.YtmpefjnfelfnfaaGreatDoorLawb
import Derived.BigQuiet
import Derived.Deep.QuietTactic
import Derived.Test.YtmpefjnfelfnfaaGreatDoorIef
import Derived.Test.YtmpefjnfelfnfaaGreatDoorUall
set_option maxRecDepth 100000
set_option maxHeartbeats 4000000
namespace Go.Proofs.YtmpefjnfelfnfaaGreatDoor
open Go.RowKit
set_option linter.unusedVariables false
set_option linter.unusedSimpArgs false
theorem any_step {α:Type} {xs:List α} {k:Nat} {x:α} (p:α→Bool) (h:xs[k]?=some x):(xs.take (k+1)).any p=((xs.take k).any p || p x):=by
 rw [List.take_add_one,h]
 simp
theorem below_drewX {B:Nat} {w w':World} (h:Below B w w') (n:Nat):Below B w (w'.drewN n):=h.trans ⟨rfl,rfl,rfl,Nat.le_refl _,fun _ _=>rfl⟩
theorem has_c (f:Fr) (vC vU vS:Value) (l:Ln) (w:World) (hF:FrM f vC vU vS w) :
 Calls Tryz.prog 107 #[frV vC vU vS f.E,lnV l] w fun e w'=>e = .returned (.bool (hasF f l))∧Below w.heap.size w w':=by
 have hmix:Tryz.prog.follows .mixedOrders=true:=by kernel_rfl
 have HF:=Lib.hid hF
 obtain ⟨rC,capC,rfl,hmC⟩:=hF.c.form
 obtain ⟨rU,capU,rfl,hmU⟩:=hF.u.form
 obtain ⟨LC,hLC⟩:∃ n,f.C.length=n:=⟨_,rfl⟩
 obtain ⟨LU,hLU⟩:∃ n,f.U.length=n:=⟨_,rfl⟩
 have HLC:=Lib.hid hLC
 have HLU:=Lib.hid hLU
 have hle:=l.ent.h
 have HL:Hid (hasF f l=(f.C.any (fun a=>a.code == l.acc) && f.U.any (fun n=>n == l.ent.n) && (l.ctr == 0 || f.U.any (fun n=>n == l.ctr)))):=Lib.hid rfl
 obtain ⟨R,hR⟩:∃ R,hasF f l=R:=⟨_,rfl⟩
 rw [hR] at HL ⊢
 rw [lnV_cells]
 unfold frV
 rw [hLC,hLU] at HF ⊢
 rw [hLC] at hmC
 rw [hLU] at hmU
 obtain ⟨EE,hEE⟩:∃ n,f.E=n:=⟨_,rfl⟩
 rw [hEE]
 clear hF hLC hLU hR hEE
 have hb:=((Below.refl w.heap.size w).alloc (Nat.le_refl _) (.cells #[.slice rC LC capC,.slice rU LU capU,vS,.int .i32 EE] 38)).alloc (by simp) (.cells #[.int .u32 (l.acc:Int),.int .u16 (l.ent.n:Int),.int .u16 (l.ctr:Int),.int .i64 l.amt] 89)
 have bf:=(Box4.new w (.slice rC LC capC) (.slice rU LU capU) vS (.int .i32 EE) 38).alloc (.cells #[.int .u32 (l.acc:Int),.int .u16 (l.ent.n:Int),.int .u16 (l.ctr:Int),.int .i64 l.amt] 89)
 have s1:(w.alloc (.cells #[.slice rC LC capC,.slice rU LU capU,vS,.int .i32 EE] 38)).heap.size=w.heap.size+1:=by simp
 have bl:=Box4.new (w.alloc (.cells #[.slice rC LC capC,.slice rU LU capU,vS,.int .i32 EE] 38)) (.int .u32 (l.acc:Int)) (.int .u16 (l.ent.n:Int)) (.int .u16 (l.ctr:Int)) (.int .i64 l.amt) 89
 rw [s1] at bl
 go_enter Tryz.func107,Tryz.ntmps107
 go_upto_region 1 with fail
 generalize (w.alloc (.cells #[.slice rC LC capC,.slice rU LU capU,vS,.int .i32 EE] 38)).alloc (.cells #[.int .u32 (l.acc:Int),.int .u16 (l.ent.n:Int),.int .u16 (l.ctr:Int),.int .i64 l.amt] 89)=W at *
 have BF:=Lib.hid bf
 have BL:=Lib.hid bl
 have HB:=Lib.hid hb
 obtain ⟨f0,f1,f2,f3,_,_,_,_,_⟩:=bf
 obtain ⟨l0,l1,l2,l3,_,_,_,_,_⟩:=bl
 clear hb s1
 go_still hmix
 have BF1:=Lib.hid BF.out.drew
 have BL1:=Lib.hid BL.out.drew
 have HB1:=Lib.hid HB.out.drew
 change Hid (Box4 W.drew _ _ _ _ _) at BF1
 go_wp2_with fail
 go_loopw [5,18] (fun s i wr=>∃ (k:Nat) (A:Bool),s = .bool A∧i = .int .i64 k∧k≤LC∧Hid (A=(f.C.take k).any (fun a=>a.code == l.acc))∧Hid (Below w.heap.size w wr)∧Hid (Box4 wr w.heap.size (.slice rC LC capC) (.slice rU LU capU) vS (.int .i32 EE))∧Hid (Box4 wr (w.heap.size+1) (.int .u32 (l.acc:Int)) (.int .u16 (l.ent.n:Int)) (.int .u16 (l.ctr:Int)) (.int .i64 l.amt))) (fun _ i _=>LC-(intOf i).toNat)
 case atStart=>exact ⟨0,false,rfl,rfl,Nat.zero_le _,Lib.hid rfl,HB1,BF1,BL1⟩
 case round =>
  clear HB1 BF1 BL1
  obtain ⟨k,A,rfl,rfl,hk,HA,HB,BF,BL⟩:=hrel
  rename World=>wr
  obtain ⟨f0,f1,f2,f3,_,_,_,_,_⟩:=BF.out
  obtain ⟨l0,l1,l2,l3,_,_,_,_,ls⟩:=BL.out
  by_cases hlt:k<LC
  ·obtain ⟨a,ha⟩:∃ a,f.C[k]?=some a:=⟨f.C[k]'(by have:=HLC.out;omega),List.getElem?_eq_getElem (by have:=HLC.out;omega)⟩
   obtain ⟨g,off,rfl,hg,hc⟩:=(HF.out.stay HB.out).c.at ha
   have c0:=hc 0 _ rfl
   have c1:=hc 1 _ rfl
   have c2:=hc 2 _ rfl
   have c3:=hc 3 _ rfl
   simp only [Nat.add_zero] at c0
   have HST:=Lib.hid (any_step (fun a=>a.code == l.acc) ha)
   have BF2:=Lib.hid (BF.out.alloc (.cells #[.int .u32 (a.code:Int),.string a.name,.int .u8 (a.kind:Int),.int .u32 (a.par:Int)] 76))
   have BL2:=Lib.hid (BL.out.alloc (.cells #[.int .u32 (a.code:Int),.string a.name,.int .u8 (a.kind:Int),.int .u32 (a.par:Int)] 76))
   have HB2:=Lib.hid (HB.out.alloc HB.out.size (.cells #[.int .u32 (a.code:Int),.string a.name,.int .u8 (a.kind:Int),.int .u32 (a.par:Int)] 76))
   clear hc ha
   cases A with
   | true =>
    go_wp2
    go_roundw
    case rel=>exact ⟨k+1,true,rfl,by go_num,by omega,Lib.hid (by rw [HST.out,← HA.out];rfl),HB2,BF2,BL2⟩
    case measure=>simp [intOf];omega
   | false =>
    by_cases he:a.code=l.acc
    ·have e1:((a.code:Int) == (l.acc:Int))=true:=by simp [he]
     have HE:=Lib.hid he
     clear he
     go_wp2
     go_roundw
     case rel=>exact ⟨k+1,true,by first | rfl | simp,by go_num,by omega,Lib.hid (by rw [HST.out,← HA.out];simp [HE.out]),HB2,BF2,BL2⟩
     case measure=>simp [intOf];omega
    ·have e1:((a.code:Int) == (l.acc:Int))=false:=by simp;omega
     have HE:=Lib.hid he
     clear he
     go_wp2
     go_roundw
     case rel=>exact ⟨k+1,false,by first | rfl | simp,by go_num,by omega,Lib.hid (by rw [HST.out,← HA.out];simp [HE.out]),HB2,BF2,BL2⟩
     case measure=>simp [intOf];omega
  ·obtain rfl:k=LC:=by omega
   have HA2:Hid (A=f.C.any (fun a=>a.code == l.acc)):=Lib.hid (by rw [HA.out,List.take_of_length_le (by rw [HLC.out];exact Nat.le_refl _)])
   clear HA
   go_wp2_with fail
   clear f0 f1 f2 f3 l0 l1 l2 l3
   have hcz:((l.ctr:Int) == 0)=(l.ctr == 0):=Bool.eq_iff_iff.2 (by simp)
   go_loopw [6,7,34] (fun s c i wq=>∃ (m:Nat) (B C:Bool),s = .bool B∧c = .bool C∧i = .int .i64 m∧m≤LU∧Hid (B=(f.U.take m).any (fun n=>n == l.ent.n))∧Hid (C=(l.ctr == 0 || (f.U.take m).any (fun n=>n == l.ctr)))∧Hid (Below w.heap.size w wq)∧Hid (Box4 wq w.heap.size (.slice rC k capC) (.slice rU LU capU) vS (.int .i32 EE))∧Hid (Box4 wq (w.heap.size+1) (.int .u32 (l.acc:Int)) (.int .u16 (l.ent.n:Int)) (.int .u16 (l.ctr:Int)) (.int .i64 l.amt))) (fun _ _ i _=>LU-(intOf i).toNat)
   case atStart=>exact ⟨0,false,(l.ctr == 0),rfl,by rw [hcz],rfl,Nat.zero_le _,Lib.hid rfl,Lib.hid (by simp),HB,BF,BL⟩
   case round =>
    clear HB BF BL
    obtain ⟨m,B,C,rfl,rfl,rfl,hm,HBB,HCC,HB,BF,BL⟩:=hrel
    rename World=>wq
    obtain ⟨l0,l1,l2,l3,_,_,_,_,ls⟩:=BL.out
    by_cases hlt2:m<LU
    ·obtain ⟨n,hn⟩:∃ n,f.U[m]?=some n:=⟨f.U[m]'(by have:=HLU.out;omega),List.getElem?_eq_getElem (by have:=HLU.out;omega)⟩
     obtain ⟨g,off,rfl,hg,hc⟩:=(HF.out.stay HB.out).u.at hn
     have u0:=hc 0 (.int .u16 (n:Int)) rfl
     simp only [Nat.mul_one,Nat.add_zero] at u0
     have HST1:=Lib.hid (any_step (fun n=>n == l.ent.n) hn)
     have HST2:=Lib.hid (any_step (fun n=>n == l.ctr) hn)
     obtain ⟨X,hX⟩:∃ X,((n:Int) == (l.ent.n:Int))=X:=⟨_,rfl⟩
     obtain ⟨Y,hY⟩:∃ Y,((n:Int) == (l.ctr:Int))=Y:=⟨_,rfl⟩
     have HX:Hid ((n == l.ent.n)=X):=Lib.hid (by rw [← hX];exact (Bool.eq_iff_iff.2 (by simp;omega)))
     have HY:Hid ((n == l.ctr)=Y):=Lib.hid (by rw [← hY];exact (Bool.eq_iff_iff.2 (by simp;omega)))
     clear hc hn hcz
     cases B <;> cases C
     ·go_wp2_with fail
      go_quiet (fail)
      go_wp2
      go_roundw
      case rel=>exact ⟨m+1,X,Y,by first | rfl | simp,by first | rfl | simp,by go_num,by omega,Lib.hid (by rw [HST1.out,← HBB.out,HX.out];simp),Lib.hid (by rw [HST2.out,HY.out,← Bool.or_assoc,← HCC.out];simp),Lib.hid (below_drewX HB.out _),Lib.hid (BF.out.stay (below_drewX (Below.refl _ _) _)),Lib.hid (BL.out.stay (below_drewX (Below.refl _ _) _))⟩
      case measure=>simp [intOf];omega
     ·go_wp2_with fail
      go_quiet (fail)
      go_wp2
      go_roundw
      case rel=>exact ⟨m+1,X,true,by first | rfl | simp,by first | rfl | simp,by go_num,by omega,Lib.hid (by rw [HST1.out,← HBB.out,HX.out];simp),Lib.hid (by rw [HST2.out,HY.out,← Bool.or_assoc,← HCC.out];simp),Lib.hid (below_drewX HB.out _),Lib.hid (BF.out.stay (below_drewX (Below.refl _ _) _)),Lib.hid (BL.out.stay (below_drewX (Below.refl _ _) _))⟩
      case measure=>simp [intOf];omega
     ·go_wp2_with fail
      go_quiet (fail)
      go_wp2
      go_roundw
      case rel=>exact ⟨m+1,true,Y,by first | rfl | simp,by first | rfl | simp,by go_num,by omega,Lib.hid (by rw [HST1.out,← HBB.out,HX.out];simp),Lib.hid (by rw [HST2.out,HY.out,← Bool.or_assoc,← HCC.out];simp),Lib.hid (below_drewX HB.out _),Lib.hid (BF.out.stay (below_drewX (Below.refl _ _) _)),Lib.hid (BL.out.stay (below_drewX (Below.refl _ _) _))⟩
      case measure=>simp [intOf];omega
     ·go_wp2_with fail
      go_quiet (fail)
      go_wp2
      go_roundw
      case rel=>exact ⟨m+1,true,true,by first | rfl | simp,by first | rfl | simp,by go_num,by omega,Lib.hid (by rw [HST1.out,← HBB.out,HX.out];simp),Lib.hid (by rw [HST2.out,HY.out,← Bool.or_assoc,← HCC.out];simp),Lib.hid (below_drewX HB.out _),Lib.hid (BF.out.stay (below_drewX (Below.refl _ _) _)),Lib.hid (BL.out.stay (below_drewX (Below.refl _ _) _))⟩
      case measure=>simp [intOf];omega
    ·obtain rfl:m=LU:=by omega
     have hR:R=(A && B && C):=by
      rw [HL.out,HA2.out,HBB.out,HCC.out,List.take_of_length_le (by rw [HLU.out];exact Nat.le_refl _)]
     subst hR
     cases A <;> cases B <;> cases C <;>
      (go_wp2
       go_ret
       exact ⟨rfl,HB.out⟩)
theorem check10_c {I:World→Prop} (D:DayC I) (B:BookC I) (f:Fr) (vC vU vS vJ:Value) (vs:List Jm) (w:World) (hI:I w) (hF:FrM f vC vU vS w) (hFI:FrIn f) (hJ:JRow w vJ vs) (hl:vs.length≤2000) (hp:∀ p ∈ vs,p.2.2.length≤100 ∧ -2147483648≤p.1∧p.1≤2147483647) :
 Calls Tryz.prog 81 #[bkV vC vU vS f.E vJ] w fun e w'=>e = .returned (.int .i64 (chkB f (vs.map jOf)))∧Below w.heap.size w w':=by
 have hmix:Tryz.prog.follows .mixedOrders=true:=by kernel_rfl
 obtain ⟨rC,cC,rfl,_⟩:=hF.c.form
 obtain ⟨rU,cU,rfl,_⟩:=hF.u.form
 obtain ⟨rS,cS,rfl,_⟩:=hF.s.form
 obtain ⟨rJ,cJ,rfl,_⟩:=hJ.1.form
 obtain ⟨R,hR⟩:∃ n,chkB f (vs.map jOf)=n:=⟨_,rfl⟩
 have HR:=Lib.hid hR
 have KF:=Lib.hid (fun (w':World) (h:Below w.heap.size w w')=>B.fcheck _ _ _ f w' (D.stay hI h) (hF.stay h) hFI)
 have KP:=Lib.hid (fun (d:Int) (hc:chkF f=0) (w':World) (h:Below w.heap.size w w')=>lperiod_c _ f.S f.E d w' (hF.stay h).s (chkD_ok10 (chkF_ok10 hc)).1 (chkD_ok10 (chkF_ok10 hc)).2.1 (by have:=(chkD_ok10 (chkF_ok10 hc)).2.2;omega))
 have KH:=Lib.hid (fun (l:Ln) (w':World) (h:Below w.heap.size w w')=>has_c f _ _ _ l w' (hF.stay h))
 have KL:=Lib.hid (fun (v:Value) (ls:List Ln) (d:Int) (w':World) (hR:Recs lc 4 w' v ls) (hl:ls.length≤100) (hd:I32 d)=>lcheck_c v ls d w' hR hl hd)
 unfold bkV
 unfold frV at KF KH
 obtain ⟨EE,hEE⟩:∃ n,f.E=n:=⟨_,rfl⟩
 obtain ⟨LC,hLC⟩:∃ n,f.C.length=n:=⟨_,rfl⟩
 obtain ⟨LU,hLU⟩:∃ n,f.U.length=n:=⟨_,rfl⟩
 obtain ⟨LS,hLS⟩:∃ n,f.S.length=n:=⟨_,rfl⟩
 obtain ⟨m,hm⟩:∃ n,vs.length=n:=⟨_,rfl⟩
 obtain ⟨cF,hcF⟩:∃ n,chkF f=n:=⟨_,rfl⟩
 have HM:=Lib.hid hm
 have HCF:=Lib.hid hcF
 have HPP:=Lib.hid hp
 have HEE:=Lib.hid hEE
 rw [hEE,hLC,hLU,hLS] at KF KH
 rw [hEE,hLS] at KP
 rw [hcF] at KF
 rw [hR,hEE,hLC,hLU,hLS]
 rw [hm] at hJ hl ⊢
 have hb:=(Below.refl w.heap.size w).alloc (Nat.le_refl _) (.cells #[.slice rC LC cC,.slice rU LU cU,.slice rS LS cS,.int .i32 EE,.slice rJ m cJ] 41)
 have bx:=HBox.new w [.slice rC LC cC,.slice rU LU cU,.slice rS LS cS,.int .i32 EE,.slice rJ m cJ] 41
 change HBox (w.alloc (.cells #[.slice rC LC cC,.slice rU LU cU,.slice rS LS cS,.int .i32 EE,.slice rJ m cJ] 41)) _ _ _ at bx
 have HJ:=Lib.hid hJ
 clear D B hI hF hFI hR hEE hLC hLU hLS hm hcF hp hJ
 go_enter Tryz.func81,Tryz.ntmps81
 go_upto_region 1 with fail
 generalize w.alloc (.cells #[.slice rC LC cC,.slice rU LU cU,.slice rS LS cS,.int .i32 EE,.slice rJ m cJ] 41)=W at *
 generalize hY:w.heap.size=Y at bx ⊢
 clear hY
 have x0:=bx.cell (j:=0) rfl
 have x1:=bx.cell (j:=1) rfl
 have x2:=bx.cell (j:=2) rfl
 have x3:=bx.cell (j:=3) rfl
 have x4:=bx.cell (j:=4) rfl
 have HB:=Lib.hid hb
 have HX:=Lib.hid bx
 clear hb bx
 go_upto_region 2 with (go_at_call 52;refine (KF.out _ HB.out).mono ?_;rintro e w4 ⟨rfl,h4⟩;have HX4:=Lib.hid (HX.out.stay h4);have HB4:=Lib.hid (HB.out.trans (h4.mono HB.out.size));clear h4)
 clear x0 x1 x2 x3 x4 HX HB
 by_cases hc0:cF=0
 ·subst hc0
  have HRS:Hid (chkJs f (prevD vs 0) ((vs.drop 0).map jOf)=R):=Lib.hid (by
   have h:=HR.out
   unfold chkB at h
   rw [if_neg (by rw [HCF.out];simp),if_neg (by rw [List.length_map,HM.out];omega)] at h
   exact h)
  have x4:=HX4.out.cell (j:=4) rfl
  have e1:¬ (2000:Int)<(m:Int):=by omega
  go_wp2_with fail
  clear x4
  go_loopw [22] (fun i wr=>∃ k:Nat,i = .int .i64 k∧k≤m∧Hid (chkJs f (prevD vs k) ((vs.drop k).map jOf)=R)∧Hid (HBox wr Y [.slice rC LC cC,.slice rU LU cU,.slice rS LS cS,.int .i32 EE,.slice rJ m cJ] 41)∧Hid (Below w.heap.size w wr)) (fun i _=>m-(intOf i).toNat)
  case atStart=>exact ⟨0,rfl,Nat.zero_le _,HRS,HX4,HB4⟩
  case round =>
   clear HRS HX4 HB4
   obtain ⟨k,rfl,hk,HRS,HX,HB⟩:=hrel
   rename World=>wr
   by_cases hlt:k<m
   ·obtain ⟨p,hp⟩:∃ p,vs[k]?=some p:=⟨vs[k]'(by have:=HM.out;omega),List.getElem?_eq_getElem (by have:=HM.out;omega)⟩
    have HJr:=Lib.hid (HJ.out.stay HB.out)
    obtain ⟨g,off,cp,er,hg,hcp,c0,c1,hRl⟩:=HJr.out.at hp
    rw [HM.out] at er
    cases er
    obtain ⟨rl,cl,hvl,hml⟩:=hRl.form
    rw [hvl] at c1 hRl
    have hpi:=HPP.out p (List.mem_of_getElem? hp)
    have HST:=Lib.hid ((chkJs_step (f:=f) hp).symm.trans HRS.out)
    obtain ⟨dd,hdd⟩:∃ d,p.1=d:=⟨_,rfl⟩
    obtain ⟨LL,hLL⟩:∃ n,p.2.2.length=n:=⟨_,rfl⟩
    obtain ⟨CJ,hCJ⟩:∃ n,chkJ p.1 p.2.2=n:=⟨_,rfl⟩
    have KL2:=fun (w':World) (h:Below wr.heap.size wr w')=>KL.out _ p.2.2 dd w' (hRl.stay h) hpi.1 (by unfold I32;omega)
    rw [hCJ] at HST
    rw [← hdd,hCJ,hLL] at KL2
    rw [hdd] at KL2 c0
    rw [hLL] at c1 hml
    have HRL:=Lib.hid hRl
    have HP:=Lib.hid hp
    have HDD:=Lib.hid hdd
    have HLL:=Lib.hid hLL
    have KL3:=Lib.hid KL2
    clear hp hRl hvl hpi hdd hLL hCJ KL2
    have hbw:=(Below.refl wr.heap.size wr).alloc (Nat.le_refl _) (.cells #[.int .i32 dd,.slice rl LL cl] 67)
    have hjb:=HBox.new wr [.int .i32 dd,.slice rl LL cl] 67
    change HBox (wr.alloc (.cells #[.int .i32 dd,.slice rl LL cl] 67)) _ _ _ at hjb
    have x4:=HX.out.cell (j:=4) rfl
    go_upto_region 9 with fail
    clear c0 c1 hg x4
    generalize wr.alloc (.cells #[.int .i32 dd,.slice rl LL cl] 67)=W1 at *
    generalize hJY:wr.heap.size=JY at hjb ⊢
    have y0:=hjb.cell (j:=0) rfl
    have y1:=hjb.cell (j:=1) rfl
    have HJB:=Lib.hid hjb
    have HX1:=Lib.hid (HX.out.stay hbw)
    have HB1:=Lib.hid (HB.out.trans (hbw.mono HB.out.size))
    have HBW:=Lib.hid hbw
    clear hjb hbw hJY HX HB
    go_upto_region 10 with (go_at_call 105;refine (KL3.out _ HBW.out).mono ?_;rintro e w5 ⟨rfl,h5⟩;have HX5:=Lib.hid (HX1.out.stay h5);have HJB5:=Lib.hid (HJB.out.stay h5);have HB5:=Lib.hid (HB1.out.trans (h5.mono HB1.out.size));have HBW5:=Lib.hid (HBW.out.trans (h5.mono HBW.out.size));clear h5)
    clear y0 y1 HX1 HJB HB1 HBW
    by_cases hcj:CJ=0
    ·subst hcj
     obtain ⟨kI,hkI⟩:∃ i:Int,(k:Int)=i:=⟨_,rfl⟩
     rw [hkI]
     have HT:Hid ((¬ ∃ q,prevD vs k=some q∧dd<q)→(if perI f.S EE dd<0 then 13 else if p.2.2.all (hasF f)=false then 8 else chkJs f (prevD vs (k+1)) ((vs.drop (k+1)).map jOf))=R):=Lib.hid (fun h=>by
      have hr:=HST.out
      rw [if_neg (by simp),HDD.out,if_neg h,HEE.out] at hr
      exact hr)
     have y0:=HJB5.out.cell (j:=0) rfl
     have x4:=HX5.out.cell (j:=4) rfl
     rcases (by cases k with
      | zero=>exact .inl rfl
      | succ n=>exact .inr ⟨n,rfl⟩:k=0 ∨ ∃ n,k=n+1) with h0 | ⟨n,hn⟩
     ·have f1:decide (0<kI)=false:=decide_eq_false (by omega)
      have HT2:=Lib.hid (HT.out (by rw [h0];unfold prevD;simp))
      clear HST HT h0
      go_upto_region 12 with fail
      go_quiet (fail)
      have HX6:=Lib.hid (HX5.out.stay (below_drewQ _ w5 nq))
      have HJB6:=Lib.hid (HJB5.out.stay (below_drewQ _ w5 nq))
      have HB6:=Lib.hid (HB5.out.trans (below_drewQ _ w5 nq))
      have HBW6:=Lib.hid (HBW5.out.trans (below_drewQ _ w5 nq))
      clear HX5 HJB5 HB5 HBW5 y0 x4
      generalize w5.drewN nq=w6 at *
      have y0:=HJB6.out.cell (j:=0) rfl
      have x2:=HX6.out.cell (j:=2) rfl
      have x3:=HX6.out.cell (j:=3) rfl
      have KP2:=Lib.hid (KP.out dd HCF.out)
      obtain ⟨pv,hpv⟩:∃ n,perI f.S EE dd=n:=⟨_,rfl⟩
      rw [hpv] at KP2 HT2
      clear hpv
      subst hkI
      by_cases hpn:pv<0
      ·have hr:=HT2.out
       rw [if_pos hpn] at hr
       subst hr
       have g1:decide (pv<0)=true:=decide_eq_true hpn
       go_wp2_with (go_at_call 106;refine (KP2.out _ HB6.out).mono ?_;rintro e w8 ⟨rfl,h8⟩;have HX8:=Lib.hid (HX6.out.stay h8);have HJB8:=Lib.hid (HJB6.out.stay h8);have HB8:=Lib.hid (HB6.out.trans (h8.mono HB6.out.size));have HBW8:=Lib.hid (HBW6.out.trans (h8.mono HBW6.out.size));clear h8)
       go_ret
       exact ⟨rfl,HB8.out⟩
      ·have hr:=HT2.out
       rw [if_neg hpn] at hr
       have HT4:=Lib.hid hr
       have g1:decide (pv<0)=false:=decide_eq_false hpn
       clear hr HT2
       go_upto_region 16 with (go_at_call 106;refine (KP2.out _ HB6.out).mono ?_;rintro e w8 ⟨rfl,h8⟩;have HX8:=Lib.hid (HX6.out.stay h8);have HJB8:=Lib.hid (HJB6.out.stay h8);have HB8:=Lib.hid (HB6.out.trans (h8.mono HB6.out.size));have HBW8:=Lib.hid (HBW6.out.trans (h8.mono HBW6.out.size));clear h8)
       clear y0 x2 x3 HX6 HJB6 HB6 HBW6
       have y1:=HJB8.out.cell (j:=1) rfl
       go_wp2_with fail
       clear y1
       go_loopw [56] (fun i wq=>∃ j:Nat,i = .int .i64 j∧j≤LL∧Hid ((p.2.2.take j).all (hasF f)=true)∧Hid (HBox wq Y [.slice rC LC cC,.slice rU LU cU,.slice rS LS cS,.int .i32 EE,.slice (some ⟨g,off,none⟩) m cJ] 41)∧Hid (Below w.heap.size w wq)∧Hid (Below wr.heap.size wr wq)) (fun i _=>LL-(intOf i).toNat)
       case atStart=>exact ⟨0,rfl,Nat.zero_le _,Lib.hid rfl,HX8,HB8,HBW8⟩
       case round =>
        clear HX8 HB8 HBW8 HJB8
        obtain ⟨j,rfl,hjl,HA,HX,HB,HBW⟩:=hrel
        rename World=>wq
        by_cases hltj:j<LL
        ·obtain ⟨l,hl⟩:∃ l,p.2.2[j]?=some l:=⟨p.2.2[j]'(by have:=HLL.out;omega),List.getElem?_eq_getElem (by have:=HLL.out;omega)⟩
         obtain ⟨gl,ol,rfl,hgl,hcx⟩:=(HRL.out.stay HBW.out).at hl
         have c0:=hcx 0 _ rfl
         have c1:=hcx 1 _ rfl
         have c2:=hcx 2 _ rfl
         have c3:=hcx 3 _ rfl
         rw [Nat.add_zero] at c0
         have HS:Hid ((p.2.2.take (j+1)).all (hasF f)=hasF f l):=Lib.hid (by
          rw [List.take_add_one,hl,List.all_append,HA.out];simp)
         have HN:Hid (hasF f l=false→p.2.2.all (hasF f)=false):=Lib.hid (fun h=>by
          rw [List.all_eq_false]
          exact ⟨l,List.mem_of_getElem? hl,by rw [h];simp⟩)
         have K1:=fun w' h=>KH.out l w' h
         clear hcx hl HA
         unfold lnV at K1
         have hbq:=(Below.refl wq.heap.size wq).alloc (Nat.le_refl _) (.cells #[.int .u32 (l.acc:Int),.int .u16 (l.ent.n:Int),.int .u16 (l.ctr:Int),.int .i64 l.amt] 89)
         have hlb:=HBox.new wq [.int .u32 (l.acc:Int),.int .u16 (l.ent.n:Int),.int .u16 (l.ctr:Int),.int .i64 l.amt] 89
         change HBox (wq.alloc (.cells #[.int .u32 (l.acc:Int),.int .u16 (l.ent.n:Int),.int .u16 (l.ctr:Int),.int .i64 l.amt] 89)) _ _ _ at hlb
         go_upto_region 19 with fail
         clear c0 c1 c2 c3 hgl
         generalize wq.alloc (.cells #[.int .u32 (l.acc:Int),.int .u16 (l.ent.n:Int),.int .u16 (l.ctr:Int),.int .i64 l.amt] 89)=W3 at *
         generalize wq.heap.size=LY at hlb ⊢
         have HXq:=Lib.hid (HX.out.stay hbq)
         have HBq:=Lib.hid (HB.out.trans (hbq.mono HB.out.size))
         have HBWq:=Lib.hid (HBW.out.trans (hbq.mono HBW.out.size))
         have x0:=HXq.out.cell (j:=0) rfl
         have x1:=HXq.out.cell (j:=1) rfl
         have x2:=HXq.out.cell (j:=2) rfl
         have x3:=HXq.out.cell (j:=3) rfl
         have z0:=hlb.cell (j:=0) rfl
         have z1:=hlb.cell (j:=1) rfl
         have z2:=hlb.cell (j:=2) rfl
         have z3:=hlb.cell (j:=3) rfl
         have K2:=K1 W3 HBq.out
         clear K1 hbq hlb HX HB HBW
         cases hT:hasF f l with
         | true =>
          rw [hT] at K2 HS
          have K3:=Lib.hid K2
          clear K2
          go_wp2_with (go_at_call 107;refine K3.out.mono ?_;rintro e w9 ⟨rfl,h9⟩;have HX9:=Lib.hid (HXq.out.stay h9);have HB9:=Lib.hid (HBq.out.trans (h9.mono HBq.out.size));have HBW9:=Lib.hid (HBWq.out.trans (h9.mono HBWq.out.size));clear h9)
          go_roundw
          case rel=>exact ⟨j+1,by go_num,by omega,HS,HX9,HB9,HBW9⟩
          case measure=>simp [intOf];omega
         | false =>
          rw [hT] at K2
          have K3:=Lib.hid K2
          have hr:=HT4.out
          rw [if_pos (HN.out hT)] at hr
          subst hr
          clear K2
          go_wp2_with (go_at_call 107;refine K3.out.mono ?_;rintro e w9 ⟨rfl,h9⟩;have HB9:=Lib.hid (HBq.out.trans (h9.mono HBq.out.size));clear h9)
          go_ret
          exact ⟨rfl,HB9.out⟩
        ·obtain rfl:j=LL:=by omega
         have hr:=HT4.out
         rw [if_neg (by have h:=HA.out;rw [List.take_of_length_le (by have:=HLL.out;omega)] at h;rw [h];simp)] at hr
         have HR9:=Lib.hid hr
         clear hr HT4
         go_wp2_with fail
         go_roundw
         case rel=>exact ⟨k+1,by go_num,by omega,HR9,HX,HB⟩
         case measure=>simp [intOf];omega
     ·obtain ⟨q,hq⟩:∃ q,vs[n]?=some q:=⟨_,List.getElem?_eq_getElem (by have:=HM.out;omega)⟩
      have f1:decide (0<kI)=true:=decide_eq_true (by omega)
      have f2:IntKind.i64.wrap (kI-1)=(n:Int):=by rw [show kI-1=(n:Int) by omega];rw [IntKind.wrap_i64];omega
      have f3:n<m:=by omega
      have hJ5:=HJr.out.stay HBW5.out
      obtain ⟨hg,_,c0,_,_⟩:=hJ5.cells hq
      obtain ⟨qd,hqd⟩:∃ d,q.1=d:=⟨_,rfl⟩
      rw [hqd] at c0
      have hpr:prevD vs k=some qd:=by rw [hn,prevD_succ hq,hqd]
      by_cases hlq:dd<qd
      ·have f4:decide (dd<qd)=true:=decide_eq_true hlq
       have hr:=HST.out
       rw [if_neg (by simp),HDD.out,if_pos ⟨qd,hpr,hlq⟩] at hr
       subst hr
       clear HST HT hn hpr hJ5
       go_upto_region 12 with fail
       go_quiet (fail)
       go_wp2_with fail
       go_ret
       exact ⟨rfl,HB5.out.trans (below_drewQ _ _ _)⟩
      ·have f4:decide (dd<qd)=false:=decide_eq_false hlq
       have HT2:=Lib.hid (HT.out (by rw [hpr];rintro ⟨q',e,h⟩;cases e;exact hlq h))
       clear HST HT hpr hJ5
       go_upto_region 12 with fail
       go_quiet (fail)
       clear f1 f2 f3 f4 c0 hg hqd hq hn
       have HX6:=Lib.hid (HX5.out.stay (below_drewQ _ w5 nq))
       have HJB6:=Lib.hid (HJB5.out.stay (below_drewQ _ w5 nq))
       have HB6:=Lib.hid (HB5.out.trans (below_drewQ _ w5 nq))
       have HBW6:=Lib.hid (HBW5.out.trans (below_drewQ _ w5 nq))
       clear HX5 HJB5 HB5 HBW5 y0 x4
       generalize w5.drewN nq=w6 at *
       have y0:=HJB6.out.cell (j:=0) rfl
       have x2:=HX6.out.cell (j:=2) rfl
       have x3:=HX6.out.cell (j:=3) rfl
       have KP2:=Lib.hid (KP.out dd HCF.out)
       obtain ⟨pv,hpv⟩:∃ n,perI f.S EE dd=n:=⟨_,rfl⟩
       rw [hpv] at KP2 HT2
       clear hpv
       subst hkI
       by_cases hpn:pv<0
       ·have hr:=HT2.out
        rw [if_pos hpn] at hr
        subst hr
        have g1:decide (pv<0)=true:=decide_eq_true hpn
        go_wp2_with (go_at_call 106;refine (KP2.out _ HB6.out).mono ?_;rintro e w8 ⟨rfl,h8⟩;have HX8:=Lib.hid (HX6.out.stay h8);have HJB8:=Lib.hid (HJB6.out.stay h8);have HB8:=Lib.hid (HB6.out.trans (h8.mono HB6.out.size));have HBW8:=Lib.hid (HBW6.out.trans (h8.mono HBW6.out.size));clear h8)
        go_ret
        exact ⟨rfl,HB8.out⟩
       ·have hr:=HT2.out
        rw [if_neg hpn] at hr
        have HT4:=Lib.hid hr
        have g1:decide (pv<0)=false:=decide_eq_false hpn
        clear hr HT2
        go_upto_region 16 with (go_at_call 106;refine (KP2.out _ HB6.out).mono ?_;rintro e w8 ⟨rfl,h8⟩;have HX8:=Lib.hid (HX6.out.stay h8);have HJB8:=Lib.hid (HJB6.out.stay h8);have HB8:=Lib.hid (HB6.out.trans (h8.mono HB6.out.size));have HBW8:=Lib.hid (HBW6.out.trans (h8.mono HBW6.out.size));clear h8)
        clear y0 x2 x3 HX6 HJB6 HB6 HBW6
        have y1:=HJB8.out.cell (j:=1) rfl
        go_wp2_with fail
        clear y1
        go_loopw [56] (fun i wq=>∃ j:Nat,i = .int .i64 j∧j≤LL∧Hid ((p.2.2.take j).all (hasF f)=true)∧Hid (HBox wq Y [.slice rC LC cC,.slice rU LU cU,.slice rS LS cS,.int .i32 EE,.slice (some ⟨g,off,none⟩) m cJ] 41)∧Hid (Below w.heap.size w wq)∧Hid (Below wr.heap.size wr wq)) (fun i _=>LL-(intOf i).toNat)
        case atStart=>exact ⟨0,rfl,Nat.zero_le _,Lib.hid rfl,HX8,HB8,HBW8⟩
        case round =>
         clear HX8 HB8 HBW8 HJB8
         obtain ⟨j,rfl,hjl,HA,HX,HB,HBW⟩:=hrel
         rename World=>wq
         by_cases hltj:j<LL
         ·obtain ⟨l,hl⟩:∃ l,p.2.2[j]?=some l:=⟨p.2.2[j]'(by have:=HLL.out;omega),List.getElem?_eq_getElem (by have:=HLL.out;omega)⟩
          obtain ⟨gl,ol,rfl,hgl,hcx⟩:=(HRL.out.stay HBW.out).at hl
          have c0:=hcx 0 _ rfl
          have c1:=hcx 1 _ rfl
          have c2:=hcx 2 _ rfl
          have c3:=hcx 3 _ rfl
          rw [Nat.add_zero] at c0
          have HS:Hid ((p.2.2.take (j+1)).all (hasF f)=hasF f l):=Lib.hid (by
           rw [List.take_add_one,hl,List.all_append,HA.out];simp)
          have HN:Hid (hasF f l=false→p.2.2.all (hasF f)=false):=Lib.hid (fun h=>by
           rw [List.all_eq_false]
           exact ⟨l,List.mem_of_getElem? hl,by rw [h];simp⟩)
          have K1:=fun w' h=>KH.out l w' h
          clear hcx hl HA
          unfold lnV at K1
          have hbq:=(Below.refl wq.heap.size wq).alloc (Nat.le_refl _) (.cells #[.int .u32 (l.acc:Int),.int .u16 (l.ent.n:Int),.int .u16 (l.ctr:Int),.int .i64 l.amt] 89)
          have hlb:=HBox.new wq [.int .u32 (l.acc:Int),.int .u16 (l.ent.n:Int),.int .u16 (l.ctr:Int),.int .i64 l.amt] 89
          change HBox (wq.alloc (.cells #[.int .u32 (l.acc:Int),.int .u16 (l.ent.n:Int),.int .u16 (l.ctr:Int),.int .i64 l.amt] 89)) _ _ _ at hlb
          go_upto_region 19 with fail
          clear c0 c1 c2 c3 hgl
          generalize wq.alloc (.cells #[.int .u32 (l.acc:Int),.int .u16 (l.ent.n:Int),.int .u16 (l.ctr:Int),.int .i64 l.amt] 89)=W3 at *
          generalize wq.heap.size=LY at hlb ⊢
          have HXq:=Lib.hid (HX.out.stay hbq)
          have HBq:=Lib.hid (HB.out.trans (hbq.mono HB.out.size))
          have HBWq:=Lib.hid (HBW.out.trans (hbq.mono HBW.out.size))
          have x0:=HXq.out.cell (j:=0) rfl
          have x1:=HXq.out.cell (j:=1) rfl
          have x2:=HXq.out.cell (j:=2) rfl
          have x3:=HXq.out.cell (j:=3) rfl
          have z0:=hlb.cell (j:=0) rfl
          have z1:=hlb.cell (j:=1) rfl
          have z2:=hlb.cell (j:=2) rfl
          have z3:=hlb.cell (j:=3) rfl
          have K2:=K1 W3 HBq.out
          clear K1 hbq hlb HX HB HBW
          cases hT:hasF f l with
          | true =>
           rw [hT] at K2 HS
           have K3:=Lib.hid K2
           clear K2
           go_wp2_with (go_at_call 107;refine K3.out.mono ?_;rintro e w9 ⟨rfl,h9⟩;have HX9:=Lib.hid (HXq.out.stay h9);have HB9:=Lib.hid (HBq.out.trans (h9.mono HBq.out.size));have HBW9:=Lib.hid (HBWq.out.trans (h9.mono HBWq.out.size));clear h9)
           go_roundw
           case rel=>exact ⟨j+1,by go_num,by omega,HS,HX9,HB9,HBW9⟩
           case measure=>simp [intOf];omega
          | false =>
           rw [hT] at K2
           have K3:=Lib.hid K2
           have hr:=HT4.out
           rw [if_pos (HN.out hT)] at hr
           subst hr
           clear K2
           go_wp2_with (go_at_call 107;refine K3.out.mono ?_;rintro e w9 ⟨rfl,h9⟩;have HB9:=Lib.hid (HBq.out.trans (h9.mono HBq.out.size));clear h9)
           go_ret
           exact ⟨rfl,HB9.out⟩
         ·obtain rfl:j=LL:=by omega
          have hr:=HT4.out
          rw [if_neg (by have h:=HA.out;rw [List.take_of_length_le (by have:=HLL.out;omega)] at h;rw [h];simp)] at hr
          have HR9:=Lib.hid hr
          clear hr HT4
          go_wp2_with fail
          go_roundw
          case rel=>exact ⟨k+1,by go_num,by omega,HR9,HX,HB⟩
          case measure=>simp [intOf];omega
    ·have hr:=HST.out
     rw [if_pos hcj] at hr
     subst hr
     have hcj':(CJ != 0)=true:=by simp [hcj]
     go_wp2_with fail
     go_ret
     exact ⟨rfl,HB5.out⟩
   ·obtain rfl:k=m:=by omega
    have hr:=HRS.out
    rw [List.drop_eq_nil_of_le (by rw [HM.out];exact Nat.le_refl _)] at hr
    have hr2:(0:Int)=R:=hr
    subst hr2
    go_wp2_with fail
    go_ret
    exact ⟨rfl,HB.out⟩
 ·have hr:=HR.out
  unfold chkB at hr
  rw [HCF.out,if_pos hc0] at hr
  subst hr
  have hc1:(cF != 0)=true:=by simp [hc0]
  go_wp2_with fail
  go_ret
  exact ⟨rfl,HB4.out⟩
end Go.Proofs.YtmpefjnfelfnfaaGreatDoor

/- The walk of law RuleRaws. -/
import Derived.Test.YtjgmbjfijpmhdaaGreatDoorZXfh
import Derived.Test.YtjgmbjfijpmhdaaGreatDoorZUall
import Derived.Test.YtjgmbjfijpmhdaaGreatDoorZQball
import Derived.Test.YtjgmbjfijpmhdaaGreatDoorZEwx
import Derived.Deep.RegionWith
import Derived.Deep.DeepCutAuto
import Derived.BigRegion
import Derived.Test.YtjgmbjfijpmhdaaGreatDoorZQrall
import Derived.Test.YtjgmbjfijpmhdaaGreatDoorZGxx
import Derived.Test.YtjgmbjfijpmhdaaGreatDoorZGyy
set_option maxRecDepth 100000
set_option maxHeartbeats 4000000
namespace Go.Proofs.YtjgmbjfijpmhdaaGreatDoor
open Go.RowKit Go.Lib
set_option linter.unusedVariables false
set_option linter.unusedSimpArgs false
theorem FrIn.of_chk {g:Fr} (h:chkF g=0):FrIn g:=by
 have k:=FrOk.of h
 refine ⟨by have:=k.lenA;omega,⟨by have:=k.lenU;omega,fun x hx=>by have:=k.units x hx;omega⟩,⟨by have:=k.lenS;omega,fun x hx=>by have:=k.days x (by simp [hx]);omega⟩,by have:=k.days g.E (by simp);omega⟩
theorem eqF_refl (g:Fr):eqF g g=true:=by unfold eqF;simp
def Rop.by (o:Rop) (k:Int) (hk : -9223372036854775808≤k∧k≤9223372036854775807):Rop:=⟨k,o.frm,o.to,o.name,o.parts,o.starts,o.en,hk,o.hf,o.ht,o.hn,o.hp,o.hs,o.he⟩
def spn0:Spn:=⟨0,0,false,by decide,by decide⟩
theorem ruleraws_c (x:Bk) (vCh vUn vLo vJs:Value) (js:List Jp) (o:Rop) (vP vO:Value) (pos kn:Int) (w:World) (hI:InS w) (hM:BkM x vCh vUn vLo vJs js w) (hO:RopM w o vP vO) (hkn : -9223372036854775808≤kn∧kn≤9223372036854775807) :
 Calls Tryz.prog 4 #[bV vCh vUn x.first vLo vJs,ropV o vP vO pos,.int .i64 kn] w fun e w'=>e = .returned (.bool true)∧Below w.heap.size w w':=by
 obtain ⟨q1,d1,rfl, -⟩:=hM.ch.form
 obtain ⟨q2,d2,rfl, -⟩:=hM.un.form
 obtain ⟨q3,d3,rfl, -⟩:=hM.lo.form
 obtain ⟨q4,d4,rfl, -⟩:=hM.jr.form
 obtain ⟨vCh,hvCh⟩:∃ v,Value.slice q1 x.chart.length d1=v:=⟨_,rfl⟩
 obtain ⟨vUn,hvUn⟩:∃ v,Value.slice q2 x.units.length d2=v:=⟨_,rfl⟩
 obtain ⟨vLo,hvLo⟩:∃ v,Value.slice q3 x.long.length d3=v:=⟨_,rfl⟩
 obtain ⟨vJs,hvJs⟩:∃ v,Value.slice q4 js.length d4=v:=⟨_,rfl⟩
 rw [hvCh,hvUn,hvLo,hvJs] at hM ⊢
 clear hvCh hvUn hvLo hvJs
 have KA:=Lib.hid (fun (w':World) (h:Below w.heap.size w w')=>awake15_ev w' (hI.stay h))
 have KL:=Lib.hid (fun (w':World) (h:Below w.heap.size w w')=>light_c x vCh vUn vLo vJs js w' (hM.stay h))
 have KF:=Lib.hid (fun (w':World) (h:Below w.heap.size w w')=>frame_c x vCh vUn vLo vJs w' (hM.ch.stay h) (hM.un.stay h) (hM.lo.stay h))
 obtain ⟨cm1,cm2,cm3⟩:=frC_made x.chart
 obtain ⟨uu1,uu2,uu3,uu4⟩:=frU_ok x.units
 obtain ⟨rp,cp,rfl,hcp⟩:=cap_of hO.parts
 obtain ⟨rs,cs,rfl,hcs⟩:=cap_of hO.starts
 obtain ⟨np,hnp⟩:∃ n,o.parts.length=n:=⟨_,rfl⟩
 obtain ⟨ns,hns⟩:∃ n,o.starts.length=n:=⟨_,rfl⟩
 obtain ⟨NX,hNX⟩:∃ r,nextF (frB x) spn0 (o.by kn hkn)=r:=⟨_,rfl⟩
 have K1:=Lib.hid (fun (hp:np≤10) (hs:ns≤70) (vC vU vS:Value) (w':World) (h:Below w.heap.size w w') (hF:FrM (frB x) vC vU vS w')=>next_c (frB x) vC vU vS spn0 (o.by kn hkn) _ _ pos w' (hI.stay h).1 hF (frB_chk x) ⟨hO.parts.stay h,hO.starts.stay h⟩ (show o.starts.length≤100 by omega) (fun _ _=>True) trivial trivial)
 have K2:=Lib.hid (fun (hp:np≤10) (hs:ns≤70) (vC vU vS:Value) (w':World) (h:Below w.heap.size w w') (hF:FrM (frB x) vC vU vS w')=>lnext_c (frB x) vC vU vS spn0 (o.by kn hkn) _ _ pos w' (hI.stay h).1 hF (frB_chk x) cm3 (by have:(frB x).U.length≤9:=uu3;omega) ⟨hO.parts.stay h,hO.starts.stay h⟩ (show o.starts.length≤100 by omega) (show o.parts.length≤1000 by omega))
 have HCK:=Lib.hid (fun (g:Fr) (h:nextF (frB x) spn0 (o.by kn hkn) = .ok g)=>FrIn.of_chk (nextF_chk h).1)
 rw [hNX] at K1 K2 HCK
 have KE:=Lib.hid (fun (g:Fr) (hg:FrIn g) (vC vU vS vC2 vU2 vS2:Value) (w':World) (h:FrM g vC vU vS w') (h2:FrM g vC2 vU2 vS2 w')=>(by have k:=sameframe_b vC vU vS vC2 vU2 vS2 g g w' h h2 hg hg;rw [eqF_refl] at k;exact k:Calls Tryz.prog 18 #[frV vC vU vS g.E,frV vC2 vU2 vS2 g.E] w' fun e w''=>e = .returned (.bool true)∧Below w'.heap.size w' w''))
 obtain ⟨NC,hNC⟩:∃ n,(frB x).C.length=n:=⟨_,rfl⟩
 obtain ⟨NU,hNU⟩:∃ n,(frB x).U.length=n:=⟨_,rfl⟩
 obtain ⟨NS,hNS⟩:∃ n,(frB x).S.length=n:=⟨_,rfl⟩
 have hC1:NC≤40:=by rw [← hNC];exact cm2
 have hU1:NU≤9:=by rw [← hNU];exact uu3
 have hS1:NS≤100:=by rw [← hNS];exact (frB_in x).s.1
 have HNC:=Lib.hid hNC
 have HNU:=Lib.hid hNU
 have HNS:=Lib.hid hNS
 obtain ⟨EE,hEE⟩:∃ n,(frB x).E=n:=⟨_,rfl⟩
 have HEE:=Lib.hid hEE
 obtain ⟨LT,hLT⟩:∃ b,lightB x=b:=⟨_,rfl⟩
 rw [hLT] at KL
 rw [hEE,hNC,hNU,hNS] at KF
 rw [hEE] at K1 K2
 unfold ropV Rop.by at K1 K2
 unfold ropV
 simp only at K1 K2
 obtain ⟨kd,fr,tt,nm,ps,ss,en,y1,y2,y3,y4,y5,y6,y7⟩:=o
 simp only at hnp hns hcp hcs K1 K2 ⊢
 rw [hnp,hns] at K1 K2 ⊢
 obtain ⟨nz,hnz⟩:∃ k,nm.size=k:=⟨_,rfl⟩
 have HNZ:=Lib.hid hnz
 unfold bV at KL KF ⊢
 unfold frV at KF
 unfold frV spnV spn0 at K1 K2
 simp only at K1 K2
 have hb:=((Below.refl w.heap.size w).alloc (Nat.le_refl _) (.cells #[vCh,vUn,.int .i16 x.first,vLo,vJs] 28)).alloc (by simp) (.cells #[.int .i64 kd,.int .u32 (fr:Int),.int .u32 (tt:Int),.string nm,.slice rp np cp,.slice rs ns cs,.int .i32 en,.int .i64 pos] 49)
 have bx:=(HBox.new w [vCh,vUn,.int .i16 x.first,vLo,vJs] 28).alloc (.cells #[.int .i64 kd,.int .u32 (fr:Int),.int .u32 (tt:Int),.string nm,.slice rp np cp,.slice rs ns cs,.int .i32 en,.int .i64 pos] 49)
 have ox:=HBox.new (w.alloc (.cells #[vCh,vUn,.int .i16 x.first,vLo,vJs] 28)) [.int .i64 kd,.int .u32 (fr:Int),.int .u32 (tt:Int),.string nm,.slice rp np cp,.slice rs ns cs,.int .i32 en,.int .i64 pos] 49
 rw [show (w.alloc (.cells #[vCh,vUn,.int .i16 x.first,vLo,vJs] 28)).heap.size=w.heap.size+1 by simp] at ox
 change HBox ((w.alloc (.cells #[vCh,vUn,.int .i16 x.first,vLo,vJs] 28)).alloc (.cells #[.int .i64 kd,.int .u32 (fr:Int),.int .u32 (tt:Int),.string nm,.slice rp np cp,.slice rs ns cs,.int .i32 en,.int .i64 pos] 49)) _ _ _ at bx ox
 clear hI hM hO hEE hLT hNC hNU hNS hnp hns hNX hnz cm1 cm2 cm3 uu1 uu2 uu3 uu4 hcp hcs y1 y2 y3 y4 y5 y6 y7
 go_enter Tryz.func4,Tryz.ntmps4
 go_upto_region 1 with fail
 generalize ((w.alloc (.cells #[vCh,vUn,.int .i16 x.first,vLo,vJs] 28)).alloc (.cells #[.int .i64 kd,.int .u32 (fr:Int),.int .u32 (tt:Int),.string nm,.slice rp np cp,.slice rs ns cs,.int .i32 en,.int .i64 pos] 49))=W at *
 obtain ⟨G,hGG⟩:∃ G,w.heap.size=G:=⟨_,rfl⟩
 rw [hGG] at bx ox ⊢
 have HGG:=Lib.hid hGG
 clear hGG
 have HX:=Lib.hid bx
 have HO:=Lib.hid ox
 have HB:Hid (Below w.heap.size w W):=hb
 clear bx hb ox
 go_upto_region 3 with (go_at_call 9;refine (KA.out _ HB.out).mono ?_;rintro e w4 ⟨rfl,h4⟩;have HX4:=Lib.hid (HX.out.stay h4);have HO4:=Lib.hid (HO.out.stay h4);have HB4:=Lib.hid (HB.out.trans (h4.mono HB.out.size));clear h4)
 have x0:=HX4.out.cell (j:=0) rfl
 have x1:=HX4.out.cell (j:=1) rfl
 have x2:=HX4.out.cell (j:=2) rfl
 have x3:=HX4.out.cell (j:=3) rfl
 have x4:=HX4.out.cell (j:=4) rfl
 clear HX HO HB
 cases LT with
 | false =>
  go_wp2_with (go_at_call 10;refine (KL.out _ HB4.out).mono ?_;rintro e w5 ⟨rfl,h5⟩;have HX5:=Lib.hid (HX4.out.stay h5);have HO5:=Lib.hid (HO4.out.stay h5);have o0:=HO5.out.cell (j:=0) rfl;have o1:=HO5.out.cell (j:=1) rfl;have o2:=HO5.out.cell (j:=2) rfl;have o3:=HO5.out.cell (j:=3) rfl;have o4:=HO5.out.cell (j:=4) rfl;have o5:=HO5.out.cell (j:=5) rfl;have o6:=HO5.out.cell (j:=6) rfl;have o7:=HO5.out.cell (j:=7) rfl;have HB5:=Lib.hid (HB4.out.trans (h5.mono HB4.out.size));clear h5)
  go_ret
  exact ⟨rfl,HB5.out⟩
 | true =>
  by_cases hp:10<np
  ·have v1:decide ((np:Int) > 10)=true:=decide_eq_true (by omega)
   clear hp
   go_wp2_with (go_at_call 10;refine (KL.out _ HB4.out).mono ?_;rintro e w5 ⟨rfl,h5⟩;have HX5:=Lib.hid (HX4.out.stay h5);have HO5:=Lib.hid (HO4.out.stay h5);have o0:=HO5.out.cell (j:=0) rfl;have o1:=HO5.out.cell (j:=1) rfl;have o2:=HO5.out.cell (j:=2) rfl;have o3:=HO5.out.cell (j:=3) rfl;have o4:=HO5.out.cell (j:=4) rfl;have o5:=HO5.out.cell (j:=5) rfl;have o6:=HO5.out.cell (j:=6) rfl;have o7:=HO5.out.cell (j:=7) rfl;have HB5:=Lib.hid (HB4.out.trans (h5.mono HB4.out.size));clear h5)
   go_ret
   exact ⟨rfl,HB5.out⟩
  ·have v1:decide ((np:Int) > 10)=false:=decide_eq_false (by omega)
   by_cases hn:60<nz
   ·have v2:decide ((nm.size:Int) > 60)=true:=decide_eq_true (by have:=HNZ.out;omega)
    clear hp hn
    go_wp2_with (go_at_call 10;refine (KL.out _ HB4.out).mono ?_;rintro e w5 ⟨rfl,h5⟩;have HX5:=Lib.hid (HX4.out.stay h5);have HO5:=Lib.hid (HO4.out.stay h5);have o0:=HO5.out.cell (j:=0) rfl;have o1:=HO5.out.cell (j:=1) rfl;have o2:=HO5.out.cell (j:=2) rfl;have o3:=HO5.out.cell (j:=3) rfl;have o4:=HO5.out.cell (j:=4) rfl;have o5:=HO5.out.cell (j:=5) rfl;have o6:=HO5.out.cell (j:=6) rfl;have o7:=HO5.out.cell (j:=7) rfl;have HB5:=Lib.hid (HB4.out.trans (h5.mono HB4.out.size));clear h5)
    go_ret
    exact ⟨rfl,HB5.out⟩
   ·have v2:decide ((nm.size:Int) > 60)=false:=decide_eq_false (by have:=HNZ.out;omega)
    by_cases hs:70<ns
    ·have v3:decide ((ns:Int) > 70)=true:=decide_eq_true (by omega)
     clear hp hn hs
     go_wp2_with (go_at_call 10;refine (KL.out _ HB4.out).mono ?_;rintro e w5 ⟨rfl,h5⟩;have HX5:=Lib.hid (HX4.out.stay h5);have HO5:=Lib.hid (HO4.out.stay h5);have o0:=HO5.out.cell (j:=0) rfl;have o1:=HO5.out.cell (j:=1) rfl;have o2:=HO5.out.cell (j:=2) rfl;have o3:=HO5.out.cell (j:=3) rfl;have o4:=HO5.out.cell (j:=4) rfl;have o5:=HO5.out.cell (j:=5) rfl;have o6:=HO5.out.cell (j:=6) rfl;have o7:=HO5.out.cell (j:=7) rfl;have HB5:=Lib.hid (HB4.out.trans (h5.mono HB4.out.size));clear h5)
     go_ret
     exact ⟨rfl,HB5.out⟩
    ·have v3:decide ((ns:Int) > 70)=false:=decide_eq_false (by omega)
     have K1p:=Lib.hid (K1.out (by omega) (by omega))
     have K2p:=Lib.hid (K2.out (by omega) (by omega))
     clear hp hn hs
     go_upto_region 5 with (go_at_call 10;refine (KL.out _ HB4.out).mono ?_;rintro e w5 ⟨rfl,h5⟩;have HX5:=Lib.hid (HX4.out.stay h5);have HO5:=Lib.hid (HO4.out.stay h5);have o0:=HO5.out.cell (j:=0) rfl;have o1:=HO5.out.cell (j:=1) rfl;have o2:=HO5.out.cell (j:=2) rfl;have o3:=HO5.out.cell (j:=3) rfl;have o4:=HO5.out.cell (j:=4) rfl;have o5:=HO5.out.cell (j:=5) rfl;have o6:=HO5.out.cell (j:=6) rfl;have o7:=HO5.out.cell (j:=7) rfl;have HB5:=Lib.hid (HB4.out.trans (h5.mono HB4.out.size));clear h5)
     clear x0 x1 x2 x3 x4 o0 o1 o2 o3 o4 o5 o6 o7 v1 v2 v3 K1 K2
     have x0:=HX5.out.cell (j:=0) rfl
     have x1:=HX5.out.cell (j:=1) rfl
     have x2:=HX5.out.cell (j:=2) rfl
     have x3:=HX5.out.cell (j:=3) rfl
     have x4:=HX5.out.cell (j:=4) rfl
     go_upto_region 6 with (go_at_call 11;refine (KF.out _ HB5.out).mono ?_;rintro e w6 ⟨vC,vU,vS,rfl,oC,oU,oS,h6⟩;obtain ⟨r1,c1,rfl⟩:=owns_form oC;obtain ⟨r2,c2,rfl⟩:=owns_form oU;obtain ⟨r3,c3,rfl⟩:=owns_form oS;have HC6:=Lib.hid oC;have HU6:=Lib.hid oU;have HS6:=Lib.hid oS;have HW5:Hid (G+1<w5.heap.size):=Lib.hid HO5.out.size;have HO6:=Lib.hid (HO5.out.stay h6);have HB6:=Lib.hid (HB5.out.trans (h6.mono HB5.out.size));clear oC oU oS h6)
     have hbw:=(Below.refl w6.heap.size w6).alloc (Nat.le_refl _) (.cells #[.slice r1 NC c1,.slice r2 NU c2,.slice r3 NS c3,.int .i32 EE] 41)
     have hfb:=HBox.new w6 [.slice r1 NC c1,.slice r2 NU c2,.slice r3 NS c3,.int .i32 EE] 41
     change HBox (w6.alloc (.cells #[.slice r1 NC c1,.slice r2 NU c2,.slice r3 NS c3,.int .i32 EE] 41)) _ _ _ at hfb
     have HC7:=Lib.hid (owns_below HC6.out hbw)
     have HU7:=Lib.hid (owns_below HU6.out hbw)
     have HS7:=Lib.hid (owns_below HS6.out hbw)
     have HO7:=Lib.hid (HO6.out.stay hbw)
     have HB7:=Lib.hid (HB6.out.trans (hbw.mono HB6.out.size))
     have HYG:Hid (G+1<w6.heap.size):=Lib.hid HO6.out.size
     clear hbw x0 x1 x2 x3 x4 HX5 HO5 HB5 HB6 HC6 HU6 HS6 HO6 HX4 HO4 HB4
     generalize w6.alloc (.cells #[.slice r1 NC c1,.slice r2 NU c2,.slice r3 NS c3,.int .i32 EE] 41)=V at *
     obtain ⟨Y,hY⟩:∃ Y,w6.heap.size=Y:=⟨_,rfl⟩
     rw [hY] at hfb HYG ⊢
     clear hY
     have o0:=HO7.out.cell (j:=0) rfl
     have of0:=HO7.out.frozen 0
     have os0:=HO7.out.size
     go_upto_region 7 with fail
     have ho8:=HO7.out.set 0 (.int .i64 kn)
     change HBox _ (G+1) [.int .i64 kn,.int .u32 (fr:Int),.int .u32 (tt:Int),.string nm,.slice rp np cp,.slice rs ns cs,.int .i32 en,.int .i64 pos] _ at ho8
     have hf8:=hfb.grown (grownBy_set V ⟨G+1,0,none⟩ (.int .i64 kn)) (fun e=>absurd (show Y=G+1 from Option.some.inj e) (by have:=HYG.out;omega))
     have hb8:=HB7.out.setCell (p:=⟨G+1,0,none⟩) (by show w.heap.size≤G+1;have:=HGG.out;omega) (.int .i64 kn)
     have hm8:FrM (frB x) (.slice r1 NC c1) (.slice r2 NU c2) (.slice r3 NS c3) (V.setCell ⟨G+1,0,none⟩ (.int .i64 kn)):=⟨recs_of_owns cc_len (HC7.out.kept (grownBy_set V ⟨G+1,0,none⟩ (.int .i64 kn)) (.inr (owns_far (m:=G+1) HC7.out (.inl HW5.out)))) HNC.out.symm (by omega),recs_of_owns uc_len (HU7.out.kept (grownBy_set V ⟨G+1,0,none⟩ (.int .i64 kn)) (.inr (owns_far (m:=G+1) HU7.out (.inl HW5.out)))) HNU.out.symm (by omega),recs_of_owns dcl_len (HS7.out.kept (grownBy_set V ⟨G+1,0,none⟩ (.int .i64 kn)) (.inr (owns_far (m:=G+1) HS7.out (.inl HW5.out)))) HNS.out.symm (by omega)⟩
     change HBox (V.setCell ⟨G+1,0,none⟩ (.int .i64 kn)) _ _ _ at hf8
     generalize V.setCell ⟨G+1,0,none⟩ (.int .i64 kn)=V8 at *
     have HFB8:=Lib.hid hf8
     have HO8:=Lib.hid ho8
     have HB8:=Lib.hid hb8
     have HF8:=Lib.hid hm8
     have f0:=hf8.cell (j:=0) rfl
     have f1:=hf8.cell (j:=1) rfl
     have f2:=hf8.cell (j:=2) rfl
     have f3:=hf8.cell (j:=3) rfl
     clear o0 of0 os0 hf8 hb8 hm8 hfb HO7 HB7 HC7 HU7 HS7
     have o0:=ho8.cell (j:=0) rfl
     have o1:=ho8.cell (j:=1) rfl
     have o2:=ho8.cell (j:=2) rfl
     have o3:=ho8.cell (j:=3) rfl
     have o4:=ho8.cell (j:=4) rfl
     have o5:=ho8.cell (j:=5) rfl
     have o6:=ho8.cell (j:=6) rfl
     have o7:=ho8.cell (j:=7) rfl
     clear ho8
     have KN1:=Lib.hid (K1p.out _ _ _ V8 HB8.out HF8.out)
     cases NX with
     | error c =>
      go_upto_region 8 with (go_at_call 16;refine (KN1.out).mono ?_;rintro e w9 ⟨hr,h⟩;obtain rfl:=FrR.errX hr;have HFBw:=Lib.hid (HFB8.out.stay h);have HOw:=Lib.hid (HO8.out.stay h);have HFw:=Lib.hid (HF8.out.stay h);have HBw:=Lib.hid (HB8.out.trans (h.mono HB8.out.size));clear h hr)
      have hb:=(Below.refl w9.heap.size w9).alloc (Nat.le_refl _) (.cells #[.slice none 0 0,.slice none 0 0,.slice none 0 0,.int .i32 0] 41)
      have hq:=HBox.new w9 [.slice none 0 0,.slice none 0 0,.slice none 0 0,.int .i32 0] 41
      change HBox (w9.alloc (.cells #[.slice none 0 0,.slice none 0 0,.slice none 0 0,.int .i32 0] 41)) _ _ _ at hq
      have HFB10:=Lib.hid (HFBw.out.stay hb)
      have HO10:=Lib.hid (HOw.out.stay hb)
      have HF10:=Lib.hid (HFw.out.stay hb)
      have HB10:=Lib.hid (HBw.out.trans (hb.mono HBw.out.size))
      generalize w9.alloc (.cells #[.slice none 0 0,.slice none 0 0,.slice none 0 0,.int .i32 0] 41)=W10 at *
      have HQ10:=Lib.hid hq
      generalize w9.heap.size=S10 at *
      clear hb HFBw HOw HFw HBw
      clear f0 f1 f2 f3 o0 o1 o2 o3 o4 o5 o6 o7
      have f100:=HFB10.out.cell (j:=0) rfl
      have f101:=HFB10.out.cell (j:=1) rfl
      have f102:=HFB10.out.cell (j:=2) rfl
      have f103:=HFB10.out.cell (j:=3) rfl
      have o100:=HO10.out.cell (j:=0) rfl
      have o101:=HO10.out.cell (j:=1) rfl
      have o102:=HO10.out.cell (j:=2) rfl
      have o103:=HO10.out.cell (j:=3) rfl
      have o104:=HO10.out.cell (j:=4) rfl
      have o105:=HO10.out.cell (j:=5) rfl
      have o106:=HO10.out.cell (j:=6) rfl
      have o107:=HO10.out.cell (j:=7) rfl
      have KN2:=Lib.hid (K2p.out _ _ _ W10 HB10.out HF10.out)
      go_upto_region 9 with (go_at_call 17;refine (KN2.out).mono ?_;rintro e w11 ⟨hr,h⟩;obtain rfl:e = .returned (.tuple #[.agg #[.slice none 0 0,.slice none 0 0,.slice none 0 0,.int .i32 0],.int .i64 c]):=hr;have HFBw:=Lib.hid (HFB10.out.stay h);have HOw:=Lib.hid (HO10.out.stay h);have HFw:=Lib.hid (HF10.out.stay h);have HBw:=Lib.hid (HB10.out.trans (h.mono HB10.out.size));have HP11:=Lib.hid (HQ10.out.stay h);clear h)
      have hb:=(Below.refl w11.heap.size w11).alloc (Nat.le_refl _) (.cells #[.slice none 0 0,.slice none 0 0,.slice none 0 0,.int .i32 0] 41)
      have hq:=HBox.new w11 [.slice none 0 0,.slice none 0 0,.slice none 0 0,.int .i32 0] 41
      change HBox (w11.alloc (.cells #[.slice none 0 0,.slice none 0 0,.slice none 0 0,.int .i32 0] 41)) _ _ _ at hq
      have HFB12:=Lib.hid (HFBw.out.stay hb)
      have HO12:=Lib.hid (HOw.out.stay hb)
      have HF12:=Lib.hid (HFw.out.stay hb)
      have HB12:=Lib.hid (HBw.out.trans (hb.mono HBw.out.size))
      have HP12:=Lib.hid (HP11.out.stay hb)
      generalize w11.alloc (.cells #[.slice none 0 0,.slice none 0 0,.slice none 0 0,.int .i32 0] 41)=W12 at *
      have HQ12:=Lib.hid hq
      generalize w11.heap.size=S12 at *
      clear hb HFBw HOw HFw HBw
      clear f100 f101 f102 f103 o100 o101 o102 o103 o104 o105 o106 o107
      have f120:=HFB12.out.cell (j:=0) rfl
      have f121:=HFB12.out.cell (j:=1) rfl
      have f122:=HFB12.out.cell (j:=2) rfl
      have f123:=HFB12.out.cell (j:=3) rfl
      have o120:=HO12.out.cell (j:=0) rfl
      have o121:=HO12.out.cell (j:=1) rfl
      have o122:=HO12.out.cell (j:=2) rfl
      have o123:=HO12.out.cell (j:=3) rfl
      have o124:=HO12.out.cell (j:=4) rfl
      have o125:=HO12.out.cell (j:=5) rfl
      have o126:=HO12.out.cell (j:=6) rfl
      have o127:=HO12.out.cell (j:=7) rfl
      have p0:=HP12.out.cell (j:=0) rfl
      have q0:=HQ12.out.cell (j:=0) rfl
      have p1:=HP12.out.cell (j:=1) rfl
      have q1:=HQ12.out.cell (j:=1) rfl
      have p2:=HP12.out.cell (j:=2) rfl
      have q2:=HQ12.out.cell (j:=2) rfl
      have p3:=HP12.out.cell (j:=3) rfl
      have q3:=HQ12.out.cell (j:=3) rfl
      have e1:((c:Int) == c)=true:=beq_self_eq_true _
      have KS:=Lib.hid (KE.out ⟨[],[],[],0⟩ ⟨by simp,by simp,by simp,by decide⟩ (.slice none 0 0) (.slice none 0 0) (.slice none 0 0) (.slice none 0 0) (.slice none 0 0) (.slice none 0 0) W12 ⟨.inl ⟨_,_,rfl,rfl⟩,.inl ⟨_,_,rfl,rfl⟩,.inl ⟨_,_,rfl,rfl⟩⟩ ⟨.inl ⟨_,_,rfl,rfl⟩,.inl ⟨_,_,rfl,rfl⟩,.inl ⟨_,_,rfl,rfl⟩⟩)
      unfold frV at KS
      go_wp2_with (go_at_call 18;refine (KS.out).mono ?_;rintro e w13 ⟨rfl,h⟩;have HB13:=Lib.hid (HB12.out.trans (h.mono HB12.out.size));clear h)
      go_ret
      exact ⟨rfl,HB13.out⟩
     | ok g =>
      have HIG:=Lib.hid (HCK.out g rfl)
      go_upto_region 8 with (go_at_call 16;refine (KN1.out).mono ?_;rintro e w9 ⟨hr,h⟩;obtain ⟨a1,a2,a3,a4,a5,a6,a7,a8,a9,rfl,hfg, -⟩:=FrR.okX hr;have HFBw:=Lib.hid (HFB8.out.stay h);have HOw:=Lib.hid (HO8.out.stay h);have HFw:=Lib.hid (HF8.out.stay h);have HBw:=Lib.hid (HB8.out.trans (h.mono HB8.out.size));have HGw:=Lib.hid hfg;clear hfg;clear h hr)
      have hb:=(Below.refl w9.heap.size w9).alloc (Nat.le_refl _) (.cells #[.slice a1 a2 a3,.slice a4 a5 a6,.slice a7 a8 a9,.int .i32 g.E] 41)
      have hq:=HBox.new w9 [.slice a1 a2 a3,.slice a4 a5 a6,.slice a7 a8 a9,.int .i32 g.E] 41
      change HBox (w9.alloc (.cells #[.slice a1 a2 a3,.slice a4 a5 a6,.slice a7 a8 a9,.int .i32 g.E] 41)) _ _ _ at hq
      have HFB10:=Lib.hid (HFBw.out.stay hb)
      have HO10:=Lib.hid (HOw.out.stay hb)
      have HF10:=Lib.hid (HFw.out.stay hb)
      have HB10:=Lib.hid (HBw.out.trans (hb.mono HBw.out.size))
      have HG10:=Lib.hid (HGw.out.stay hb)
      generalize w9.alloc (.cells #[.slice a1 a2 a3,.slice a4 a5 a6,.slice a7 a8 a9,.int .i32 g.E] 41)=W10 at *
      have HQ10:=Lib.hid hq
      generalize w9.heap.size=S10 at *
      clear hb HFBw HOw HFw HBw
      clear f0 f1 f2 f3 o0 o1 o2 o3 o4 o5 o6 o7
      have f100:=HFB10.out.cell (j:=0) rfl
      have f101:=HFB10.out.cell (j:=1) rfl
      have f102:=HFB10.out.cell (j:=2) rfl
      have f103:=HFB10.out.cell (j:=3) rfl
      have o100:=HO10.out.cell (j:=0) rfl
      have o101:=HO10.out.cell (j:=1) rfl
      have o102:=HO10.out.cell (j:=2) rfl
      have o103:=HO10.out.cell (j:=3) rfl
      have o104:=HO10.out.cell (j:=4) rfl
      have o105:=HO10.out.cell (j:=5) rfl
      have o106:=HO10.out.cell (j:=6) rfl
      have o107:=HO10.out.cell (j:=7) rfl
      have KN2:=Lib.hid (K2p.out _ _ _ W10 HB10.out HF10.out)
      go_upto_region 9 with (go_at_call 17;refine (KN2.out).mono ?_;rintro e w11 ⟨hr,h⟩;obtain ⟨b1,b2,b3,b4,b5,b6,b7,b8,b9,rfl,hfg⟩:=hr;have HFBw:=Lib.hid (HFB10.out.stay h);have HOw:=Lib.hid (HO10.out.stay h);have HFw:=Lib.hid (HF10.out.stay h);have HBw:=Lib.hid (HB10.out.trans (h.mono HB10.out.size));have HP11:=Lib.hid (HQ10.out.stay h);have HG11:=Lib.hid (HG10.out.stay h);have HHw:=Lib.hid hfg;clear hfg;clear h)
      have hb:=(Below.refl w11.heap.size w11).alloc (Nat.le_refl _) (.cells #[.slice b1 b2 b3,.slice b4 b5 b6,.slice b7 b8 b9,.int .i32 g.E] 41)
      have hq:=HBox.new w11 [.slice b1 b2 b3,.slice b4 b5 b6,.slice b7 b8 b9,.int .i32 g.E] 41
      change HBox (w11.alloc (.cells #[.slice b1 b2 b3,.slice b4 b5 b6,.slice b7 b8 b9,.int .i32 g.E] 41)) _ _ _ at hq
      have HFB12:=Lib.hid (HFBw.out.stay hb)
      have HO12:=Lib.hid (HOw.out.stay hb)
      have HF12:=Lib.hid (HFw.out.stay hb)
      have HB12:=Lib.hid (HBw.out.trans (hb.mono HBw.out.size))
      have HP12:=Lib.hid (HP11.out.stay hb)
      have HG12:=Lib.hid (HG11.out.stay hb)
      have HH12:=Lib.hid (HHw.out.stay hb)
      generalize w11.alloc (.cells #[.slice b1 b2 b3,.slice b4 b5 b6,.slice b7 b8 b9,.int .i32 g.E] 41)=W12 at *
      have HQ12:=Lib.hid hq
      generalize w11.heap.size=S12 at *
      clear hb HFBw HOw HFw HBw
      clear f100 f101 f102 f103 o100 o101 o102 o103 o104 o105 o106 o107
      have f120:=HFB12.out.cell (j:=0) rfl
      have f121:=HFB12.out.cell (j:=1) rfl
      have f122:=HFB12.out.cell (j:=2) rfl
      have f123:=HFB12.out.cell (j:=3) rfl
      have o120:=HO12.out.cell (j:=0) rfl
      have o121:=HO12.out.cell (j:=1) rfl
      have o122:=HO12.out.cell (j:=2) rfl
      have o123:=HO12.out.cell (j:=3) rfl
      have o124:=HO12.out.cell (j:=4) rfl
      have o125:=HO12.out.cell (j:=5) rfl
      have o126:=HO12.out.cell (j:=6) rfl
      have o127:=HO12.out.cell (j:=7) rfl
      have p0:=HP12.out.cell (j:=0) rfl
      have q0:=HQ12.out.cell (j:=0) rfl
      have p1:=HP12.out.cell (j:=1) rfl
      have q1:=HQ12.out.cell (j:=1) rfl
      have p2:=HP12.out.cell (j:=2) rfl
      have q2:=HQ12.out.cell (j:=2) rfl
      have p3:=HP12.out.cell (j:=3) rfl
      have q3:=HQ12.out.cell (j:=3) rfl
      have KS:=Lib.hid (KE.out g HIG.out _ _ _ _ _ _ W12 HG12.out HH12.out)
      unfold frV at KS
      go_wp2_with (go_at_call 18;refine (KS.out).mono ?_;rintro e w13 ⟨rfl,h⟩;have HB13:=Lib.hid (HB12.out.trans (h.mono HB12.out.size));clear h)
      go_ret
      exact ⟨rfl,HB13.out⟩
end Go.Proofs.YtjgmbjfijpmhdaaGreatDoor
namespace Go.Proofs.YtjgmbjfijpmhdaaGreatDoor
open Go.ChangeShapes Go.WideShapes Go.ChangeAt Go.RowKit Go.Joins
set_option linter.unusedVariables false
set_option linter.unusedSimpArgs false
theorem i64_inO {a:Int} (h:(Lit.int .i64 a).wf=true) : -9223372036854775808≤a∧a≤9223372036854775807:=by
 simp [Lit.wf,IntKind.min,IntKind.max,IntKind.bits,IntKind.signed] at h;omega
theorem i32_inO {a:Int} (h:(Lit.int .i32 a).wf=true) : -2147483648≤a∧a≤2147483647:=by
 simp [Lit.wf,IntKind.min,IntKind.max,IntKind.bits,IntKind.signed] at h;omega
section
variable {H:Type} {enc:TypeId × Value→H}
theorem pt_cells {W:World} {base fuel:Nat} {sp:Nat→Bool} {held:Bool} {cs:List Value} {x:DataW H × List MemPlace} (h:DataW.trod enc Tryz.prog W base sp held fuel 94 cs=some x):∃ q:Nat × Int,cs=ptz q∧(q.1<4294967296 ∧ -9223372036854775808≤q.2∧q.2≤9223372036854775807):=by
 have c1:Tryz.prog.cellsOf 94=2:=by kernel_rfl
 have c2:Tryz.prog.cellsOf 46=1:=by kernel_rfl
 have c4:Tryz.prog.cellsOf 2=1:=by kernel_rfl
 obtain ⟨xs,n,_,_,hl,hxl,hf⟩:=DataW.trod_struct Tryz.underlying94 h
 rw [c1] at hl
 match cs,hl with
 | [v0,v1],_ =>
  match xs,hxl with
  | [y0,y1],_ =>
   have h0:=hf 0 _ rfl
   have h1:=hf 1 _ rfl
   simp [c2,c4] at h0 h1
   obtain ⟨a,ea,_,wa⟩:=DataW.trod_int Tryz.underlying46 h0
   obtain ⟨b,eb,_,wb⟩:=DataW.trod_int Tryz.underlying2 h1
   cases ea
   cases eb
   obtain ⟨a,rfl,ba⟩:=u32_natO wa
   exact ⟨(a,b),rfl,ba,i64_inO wb⟩
theorem cal_cells {W:World} {base fuel:Nat} {held:Bool} {cs:List Value} {x:DataW H × List MemPlace} (h:DataW.trod enc Tryz.prog W base (fun _=>true) held fuel 39 cs=some x):∃ (v:Value) (S:List Int) (E:Int),cs=[v,.int .i32 E]∧Recs dcl 1 W v S∧(∀ d ∈ S, -2147483648≤d∧d≤2147483647)∧(-2147483648≤E∧E≤2147483647):=by
 have c1:Tryz.prog.cellsOf 39=2:=by kernel_rfl
 have c2:Tryz.prog.cellsOf 36=1:=by kernel_rfl
 have c4:Tryz.prog.cellsOf 37=1:=by kernel_rfl
 obtain ⟨xs,n,_,_,hl,hxl,hf⟩:=DataW.trod_struct Tryz.underlying39 h
 rw [c1] at hl
 match cs,hl with
 | [v0,v1],_ =>
  match xs,hxl with
  | [y0,y1],_ =>
   have h0:=hf 0 _ rfl
   have h1:=hf 1 _ rfl
   simp [c2,c4] at h0 h1
   obtain ⟨a,za,ea,ha,hq⟩:=recs_trod (en:=dcl) (Q:=fun d:Int=>-2147483648≤d∧d≤2147483647) dcl_len (by omega) Tryz.underlying36 (by kernel_rfl) h0 (fun {fuel cs x} hc=>by
    obtain ⟨n,e,_,wn⟩:=DataW.trod_int Tryz.underlying37 hc
    exact ⟨n,e,i32_inO wn⟩)
   obtain ⟨b,eb,_,wb⟩:=DataW.trod_int Tryz.underlying37 h1
   cases ea
   cases eb
   exact ⟨v0,za,b,rfl,ha,hq,i32_inO wb⟩
theorem rop_cells {W:World} {base fuel:Nat} {held:Bool} {cs:List Value} {x:DataW H × List MemPlace} (h:DataW.trod enc Tryz.prog W base (fun _=>true) held fuel 49 cs=some x):∃ (o:Rop) (vP vO:Value) (pos:Int),cs=ropC o vP vO pos∧RopM W o vP vO:=by
 have c1:Tryz.prog.cellsOf 49=8:=by kernel_rfl
 have c2:Tryz.prog.cellsOf 45=1:=by kernel_rfl
 have c3:Tryz.prog.cellsOf 46=1:=by kernel_rfl
 have c4:Tryz.prog.cellsOf 9=1:=by kernel_rfl
 have c5:Tryz.prog.cellsOf 47=1:=by kernel_rfl
 have c6:Tryz.prog.cellsOf 39=2:=by kernel_rfl
 have c7:Tryz.prog.cellsOf 3=1:=by kernel_rfl
 obtain ⟨xs,n,_,_,hl,hxl,hf⟩:=DataW.trod_struct Tryz.underlying49 h
 rw [c1] at hl
 match cs,hl with
 | [v0,v1,v2,v3,v4,v5,v6,v7],_ =>
  match xs,hxl with
  | [y0,y1,y2,y3,y4,y5,y6],_ =>
   have h0:=hf 0 _ rfl
   have h1:=hf 1 _ rfl
   have h2:=hf 2 _ rfl
   have h3:=hf 3 _ rfl
   have h4:=hf 4 _ rfl
   have h5:=hf 5 _ rfl
   have h6:=hf 6 _ rfl
   simp [c2,c3,c4,c5,c6,c7] at h0 h1 h2 h3 h4 h5 h6
   obtain ⟨a,ea,_,wa⟩:=DataW.trod_int Tryz.underlying45 h0
   obtain ⟨b,eb,_,wb⟩:=DataW.trod_int Tryz.underlying46 h1
   obtain ⟨c,ec,_,wc⟩:=DataW.trod_int Tryz.underlying46 h2
   obtain ⟨s,es,_,ws⟩:=DataW.trod_string Tryz.underlying9 h3
   obtain ⟨d,zd,ed,hd,qd⟩:=recs_trod (Q:=fun q:Nat × Int=>q.1<4294967296 ∧ -9223372036854775808≤q.2∧q.2≤9223372036854775807) ptz_len (by omega) Tryz.underlying47 (by kernel_rfl) h4 (fun {fuel cs x} hc=>pt_cells hc)
   obtain ⟨f,zf,e,ef,hS,hq,hE⟩:=cal_cells h5
   obtain ⟨g,eg,_,wg⟩:=DataW.trod_int Tryz.underlying3 h6
   cases ea
   cases eb
   cases ec
   cases es
   cases ed
   cases ef
   cases eg
   obtain ⟨b,rfl,bb⟩:=u32_natO wb
   obtain ⟨c,rfl,bc⟩:=u32_natO wc
   exact ⟨⟨a,b,c,s,zd,zf,e,i64_inO wa,bb,bc,by unfold maxLen at ws;omega,qd,hq,hE⟩,v4,v5,g,rfl,⟨hd,hS⟩⟩
theorem rop_open {W:World} {r:Reach} {b0 base:Nat} {held:Bool} {v:Value} {d:DataW H} {p:List MemPlace} (hv:Value.okWide Tryz.prog W r b0 49 v) (h:DataW.Trod enc Tryz.prog W base (fun _=>true) held 49 v d p) :
 ∃ (o:Rop) (vP vO:Value) (pos:Int),v=ropV o vP vO pos∧RopM W o vP vO:=by
 obtain ⟨cs,rfl,_⟩:=okWide_struct Tryz.underlying49 hv
 obtain ⟨fuel,hf⟩:=h
 obtain ⟨o,a,b,pos,hk,hM⟩:=rop_cells hf
 refine ⟨o,a,b,pos,?_,hM⟩
 have:cs.toList=_:=hk
 unfold ropV
 congr 1
 apply Array.ext'
 rw [this];rfl
end
end Go.Proofs.YtjgmbjfijpmhdaaGreatDoor
namespace Go.Proofs.YtjgmbjfijpmhdaaGreatDoor
open Go.RowKit Go.Lib
theorem ruleraws_r (x:Bk) (vCh vUn vLo vJs:Value) (js:List Jp) (o:Rop) (vP vO:Value) (pos kn:Int) (w:World) (hI:InS w) (hM:BkM x vCh vUn vLo vJs js w) (hO:RopM w o vP vO) (hk:(Lit.int .i64 kn).wf=true) :
 Calls Tryz.prog 4 #[bV vCh vUn x.first vLo vJs,ropV o vP vO pos,.int .i64 kn] w fun e w'=>e = .returned (.bool true)∧Below w.heap.size w w' :=
 ruleraws_c x vCh vUn vLo vJs js o vP vO pos kn w hI hM hO (i64_inO hk)

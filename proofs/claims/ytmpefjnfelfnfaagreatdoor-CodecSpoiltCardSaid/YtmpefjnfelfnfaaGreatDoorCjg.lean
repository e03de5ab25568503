/- The walk of law CodecSpoilt. -/
import Derived.Test.YtmpefjnfelfnfaaGreatDoorCjx
import Derived.Test.YtmpefjnfelfnfaaGreatDoorCjy
import Derived.Test.YtmpefjnfelfnfaaGreatDoorChall
import Derived.Test.YtmpefjnfelfnfaaGreatDoorCeall
import Derived.Test.YtmpefjnfelfnfaaGreatDoorXwa
set_option maxRecDepth 100000
set_option maxHeartbeats 4000000
namespace Go.Proofs.YtmpefjnfelfnfaaGreatDoor
open Go.RowKit
set_option linter.unusedVariables false
set_option linter.unusedSimpArgs false
theorem lencm_c {x:Bk} (hT:lightB x=true) {w:World} {v:Value} (h:MkB x w v) :
 Calls Tryz.prog 15 #[v] w fun e w'=>∃ r c,e = .returned (.slice r (encB (frB x) (makeJ x)).length c)∧Recs byc 1 w' (.slice r (encB (frB x) (makeJ x)).length c) (encB (frB x) (makeJ x))∧Below w.heap.size w w':=by
 obtain ⟨vC,vU,vS,vJ,vs,rfl,hM⟩:=h
 have hok:OkBw (bdOf (frB x) (vs.map jOf)):=by rw [hM.js];exact (made_bd hT).1.wide
 have hl:=encBw_len hok
 have K:=lencode_c vC vU vS vJ (frB x) vs w hM.fr hM.jr hok
 rw [hM.js] at K hl
 refine K.mono ?_
 rintro e w' ⟨v',rfl,ho,hb⟩
 have hr:=recs_of_owns8 ho (by omega)
 obtain ⟨r,c,rfl,_⟩:=hr.form
 exact ⟨r,c,rfl,hr,hb⟩
theorem any_okw {base:Nat} {w:World} {vC vU vS vJ:Value} {f:Fr} {vs:List Jm} (h:AnyM base w vC vU vS vJ f vs):OkBw (bdOf f (vs.map jOf)):=by
 refine ⟨⟨h.fi.c,fun a ha=>okAw (h.nm a ha)⟩,⟨h.fi.u.1,fun a ha=>by have:=h.fi.u.2 a ha;omega⟩,h.fi.s,h.fi.e,⟨?_,fun j hj=>?_⟩⟩
 ·show (vs.map jOf).length≤2000
  rw [List.length_map];have:=h.jl.1;omega
 ·obtain ⟨p,hp,rfl⟩:=List.mem_map.1 hj
  obtain ⟨h1,h2⟩:=h.jl.2 p hp
  exact ⟨h2,h1,fun l _=>okLw l⟩
theorem lenca_c {base:Nat} {w:World} {v:Value} (h:AnyB base w v) :
 Calls Tryz.prog 15 #[v] w fun e w'=>∃ v' k,e = .returned v'∧Recs byc 1 w' v' k∧(∀ c ∈ k,c<256)∧Below w.heap.size w w':=by
 obtain ⟨vC,vU,vS,vJ,f,vs,rfl,hM⟩:=h
 have hok:=any_okw hM
 have hl:=encBw_len hok
 refine (lencode_c vC vU vS vJ f vs w hM.fr hM.jr hok).mono ?_
 rintro e w' ⟨v',rfl,ho,hb⟩
 exact ⟨v',_,rfl,recs_of_owns8 ho (by omega),encB_lt _ _,hb⟩
theorem encB_ge (f:Fr) (js:List (Int × List Ln)):5≤(encB f js).length:=by
 have h:=encFr_len f
 rw [encB_eq,List.length_append,List.length_append]
 have h1:=numB_pos js.length
 omega
theorem formM {x:Bk} {w:World} {v:Value} (h:MkB x w v):∃ (s1 s2 s3 s4:Option Addr) (n1 n2 n3 n4 k1 k2 k3 k4:Nat) (E:Int),v = .agg #[.slice s1 n1 k1,.slice s2 n2 k2,.slice s3 n3 k3,.int .i32 E,.slice s4 n4 k4]:=by
 obtain ⟨vC,vU,vS,vJ,vs,rfl,hM⟩:=h
 obtain ⟨s0,k0,rfl,_⟩:=hM.fr.c.form
 obtain ⟨s1,k1,rfl,_⟩:=hM.fr.u.form
 obtain ⟨s2,k2,rfl,_⟩:=hM.fr.s.form
 obtain ⟨s4,k4,rfl,_⟩:=hM.jr.1.form
 exact ⟨s0,s1,s2,s4,_,_,_,_,k0,k1,k2,k4,_,rfl⟩
def R14 (f:List Value):Nat→Value→World→Prop:=fun i v _=>v=(f[i]?).getD undef
theorem if_addrS (c:Prop) [Decidable c] (b off s:Nat):∃ off',(if c then some (⟨b,off,none⟩:Addr) else some ⟨b,off+s,none⟩)=some ⟨b,off',none⟩:=by
 split
 ·exact ⟨_,rfl⟩
 ·exact ⟨_,rfl⟩
theorem codecspoilt_any {I:World→Prop} (C:AllotC) (D:DayC I) (K:KeyC I) (U:UnitC) (LC:CalC I) (EC:EntryC I) (B:BookC I) (CO:CodecC I) (DE:DecC I) (LD:LDecC I) (x:Bk) (vCh vUn vLo vJs:Value) (js:List Jp) (at_ cut:Nat) (vm:Value) (ms:List Nat) (wh:Nat) (by_:Int) (hat:at_<65536) (hcut:cut<256) (hms:∀ c ∈ ms,c<256) (hwh:wh<256) (hby : -9223372036854775808≤by_∧by_≤9223372036854775807) (w:World) (hI:I w) (hM:BkM x vCh vUn vLo vJs js w) (hm:Recs byc 1 w vm ms) :
 Calls Tryz.prog 5 #[bV vCh vUn x.first vLo vJs,.int .u16 (at_:Int),.int .u8 (cut:Int),vm,.int .u8 (wh:Int),.int .i64 by_] w fun e w'=>e = .returned (.bool true)∧Below w.heap.size w w':=by
 have hmix:Tryz.prog.follows .mixedOrders=true:=by kernel_rfl
 obtain ⟨q1,d1,rfl,_⟩:=hM.ch.form
 obtain ⟨q2,d2,rfl,_⟩:=hM.un.form
 obtain ⟨q3,d3,rfl,_⟩:=hM.lo.form
 obtain ⟨q4,d4,rfl,_⟩:=hM.jr.form
 obtain ⟨vCh,hvCh⟩:∃ v,Value.slice q1 x.chart.length d1=v:=⟨_,rfl⟩
 obtain ⟨vUn,hvUn⟩:∃ v,Value.slice q2 x.units.length d2=v:=⟨_,rfl⟩
 obtain ⟨vLo,hvLo⟩:∃ v,Value.slice q3 x.long.length d3=v:=⟨_,rfl⟩
 obtain ⟨vJs,hvJs⟩:∃ v,Value.slice q4 js.length d4=v:=⟨_,rfl⟩
 rw [hvCh,hvUn,hvLo,hvJs] at hM ⊢
 clear hvCh hvUn hvLo hvJs
 have HI:=Lib.hid hI
 have HDY:=Lib.hid D
 have HBC:=Lib.hid B
 have HCO:=Lib.hid CO
 have KA:=Lib.hid (fun (w':World) (h:Below w.heap.size w w')=>awake11_any C D K U LC EC B CO w' (D.stay hI h))
 have KL:=Lib.hid (fun (w':World) (h:Below w.heap.size w w')=>light_c x vCh vUn vLo vJs js w' (hM.stay h))
 have KM0:=Lib.hid (fun (hT:lightB x=true) (w':World) (h:Below w.heap.size w w')=>mk_c x vCh vUn vLo vJs js w' (hM.stay h) hT)
 obtain ⟨LT,hLT⟩:∃ b,lightB x=b:=⟨_,rfl⟩
 have HLT:=Lib.hid hLT
 rw [hLT] at KL
 unfold bV at KL KM0 ⊢
 have HDE:=Lib.hid DE
 clear DE
 have KI:=Lib.hid (fun (w':World) (v:Value) (k:List Nat) (h:Below w.heap.size w w') (hr:Recs byc 1 w' v k) (hk:∀ c ∈ k,c<256)=>is_c HDY.out HBC.out HCO.out HDE.out LD v k w' (HDY.out.stay HI.out h) hr hk)
 have KE0:=Lib.hid (fun (hT:lightB x=true) (w':World) (v:Value) (h:MkB x w' v)=>lencm_c hT h)
 have KSP0:=Lib.hid (fun (hT:lightB x=true) (w':World) (v:Value) (h:MkB x w' v) (q:Nat) (hq:q<256)=>spoil_mk h hT q cut by_ hq hcut hby)
 obtain ⟨rm,cm,rfl,hml⟩:=hm.form
 have HMS:=Lib.hid hm
 have HMB:=Lib.hid hms
 obtain ⟨M,hMl⟩:∃ n,ms.length=n:=⟨_,rfl⟩
 have HML:=Lib.hid hMl
 rw [hMl] at HMS hml ⊢
 clear hm hms hMl LD
 have hb:=(Below.refl w.heap.size w).alloc (Nat.le_refl _) (.cells #[vCh,vUn,.int .i16 x.first,vLo,vJs] 28)
 have bx:=HBox.new w [vCh,vUn,.int .i16 x.first,vLo,vJs] 28
 change HBox (w.alloc (.cells #[vCh,vUn,.int .i16 x.first,vLo,vJs] 28)) _ _ _ at bx
 clear C D K U LC EC B CO hI hM hLT
 go_enter Tryz.func5,Tryz.ntmps5
 go_upto_region 1 with fail
 generalize w.alloc (.cells #[vCh,vUn,.int .i16 x.first,vLo,vJs] 28)=W at *
 generalize w.heap.size=X at bx ⊢
 have HX:=Lib.hid bx
 have HB:=Lib.hid hb
 clear bx hb
 go_upto_region 3 with (go_at_call 9;refine (KA.out _ HB.out).mono ?_;rintro e w4 ⟨rfl,h4⟩;have HX4:=Lib.hid (HX.out.stay h4);have HB4:=Lib.hid (HB.out.trans (h4.mono HB.out.size));clear h4)
 have x0:=HX4.out.cell (j:=0) rfl
 have x1:=HX4.out.cell (j:=1) rfl
 have x2:=HX4.out.cell (j:=2) rfl
 have x3:=HX4.out.cell (j:=3) rfl
 have x4:=HX4.out.cell (j:=4) rfl
 clear HX HB
 cases LT with
 | false =>
  go_wp2_with (go_at_call 10;refine (KL.out _ HB4.out).mono ?_;rintro e w5 ⟨rfl,h5⟩;have HB5:=Lib.hid (HB4.out.trans (h5.mono HB4.out.size));clear h5)
  go_ret
  exact ⟨rfl,HB5.out⟩
 | true =>
  have KM:=Lib.hid (KM0.out HLT.out)
  have KE:=Lib.hid (KE0.out HLT.out)
  have KSP:=Lib.hid (KSP0.out HLT.out)
  clear KM0 KE0 KSP0
  by_cases hm30:30<M
  ·have t1:decide ((30:Int)<(M:Int))=true:=decide_eq_true (by omega)
   go_wp2_with (go_at_call 10;refine (KL.out _ HB4.out).mono ?_;rintro e w5 ⟨rfl,h5⟩;have HX5:=Lib.hid (HX4.out.stay h5);have HB5:=Lib.hid (HB4.out.trans (h5.mono HB4.out.size));clear h5)
   go_ret
   exact ⟨rfl,HB5.out⟩
  have t1:decide ((30:Int)<(M:Int))=false:=decide_eq_false (by omega)
  go_upto_region 5 with (go_at_call 10;refine (KL.out _ HB4.out).mono ?_;rintro e w5 ⟨rfl,h5⟩;have HX5:=Lib.hid (HX4.out.stay h5);have HB5:=Lib.hid (HB4.out.trans (h5.mono HB4.out.size));clear h5)
  clear x0 x1 x2 x3 x4 HX4 HB4
  have x0:=HX5.out.cell (j:=0) rfl
  have x1:=HX5.out.cell (j:=1) rfl
  have x2:=HX5.out.cell (j:=2) rfl
  have x3:=HX5.out.cell (j:=3) rfl
  have x4:=HX5.out.cell (j:=4) rfl
  go_upto_region 6 with (go_at_call 11;refine (KM.out _ HB5.out).mono ?_;rintro e w6 ⟨v6,rfl,hK,h6⟩;obtain ⟨b1,b2,b3,b4,bn1,bn2,bn3,bn4,bk1,bk2,bk3,bk4,bE,rfl⟩:=formM hK;have HK6:=Lib.hid hK;have HB6:=Lib.hid (HB5.out.trans (h6.mono HB5.out.size));clear hK h6)
  have hbw:=(Below.refl w6.heap.size w6).alloc (Nat.le_refl _) (.cells #[.slice b1 bn1 bk1,.slice b2 bn2 bk2,.slice b3 bn3 bk3,.int .i32 bE,.slice b4 bn4 bk4] 41)
  have hfb:HBox (w6.alloc (.cells #[.slice b1 bn1 bk1,.slice b2 bn2 bk2,.slice b3 bn3 bk3,.int .i32 bE,.slice b4 bn4 bk4] 41)) w6.heap.size [.slice b1 bn1 bk1,.slice b2 bn2 bk2,.slice b3 bn3 bk3,.int .i32 bE,.slice b4 bn4 bk4] 41:=HBox.new w6 [.slice b1 bn1 bk1,.slice b2 bn2 bk2,.slice b3 bn3 bk3,.int .i32 bE,.slice b4 bn4 bk4] 41
  have HK7:=Lib.hid (HK6.out.stay hbw)
  have HB7:=Lib.hid (HB6.out.trans (hbw.mono HB6.out.size))
  have HY7:=Lib.hid hfb
  clear hbw hfb x0 x1 x2 x3 x4 HX5 HB5 HK6 HB6 KM KL KA
  generalize w6.alloc (.cells #[.slice b1 bn1 bk1,.slice b2 bn2 bk2,.slice b3 bn3 bk3,.int .i32 bE,.slice b4 bn4 bk4] 41)=W7 at HK7 HB7 HY7 ⊢
  generalize w6.heap.size=Y at HY7 ⊢
  have y0:=HY7.out.cell (j:=0) rfl
  have y1:=HY7.out.cell (j:=1) rfl
  have y2:=HY7.out.cell (j:=2) rfl
  have y3:=HY7.out.cell (j:=3) rfl
  have y4:=HY7.out.cell (j:=4) rfl
  obtain ⟨p,hp⟩:∃ p,wh % 2=p:=⟨_,rfl⟩
  have hp2:p<2:=by omega
  have s4:(wh:Int).tmod 2=(p:Int):=by rw [Int.tmod_eq_emod_of_nonneg (by omega),← hp];rfl
  have s5:(wh:Int) % 2=(p:Int):=by rw [← hp];rfl
  have s6:IntKind.u8.wrap (p:Int)=(p:Int):=by rw [IntKind.wrap_u8];omega
  by_cases hp1:p=1
  ·have s7:((p:Int) == 1)=true:=by rw [beq_iff_eq];omega
   obtain ⟨q,hq⟩:∃ q,wh / 2=q:=⟨_,rfl⟩
   have hq2:q<256:=by omega
   have r4:(wh:Int).tdiv 2=(q:Int):=by rw [Int.tdiv_eq_ediv_of_nonneg (by omega),← hq];rfl
   have r5:(wh:Int) / 2=(q:Int):=by rw [← hq];rfl
   have r6:IntKind.u8.wrap (q:Int)=(q:Int):=by rw [IntKind.wrap_u8];omega
   have KS7:=Lib.hid (KSP.out W7 _ HK7.out q hq2)
   clear hp hp1 hq KSP KE HK7 HY7
   go_wp2_with (first
    | (go_at_call 17;refine (KI.out _ _ _ HB9.out HR9.out HY9.out).mono ?_;rintro e w10 ⟨rfl,h10⟩;have HB10:=Lib.hid (HB9.out.trans (h10.mono HB9.out.size));clear h10)
    | (go_at_call 15;refine (lenca_c HA8.out).mono ?_;rintro e w9 ⟨v9,k9,rfl,r9,y9,h9⟩;have HR9:=Lib.hid r9;have HY9:=Lib.hid y9;have HB9:=Lib.hid (HB8.out.trans (h9.mono HB8.out.size));clear r9 y9 h9)
    | (go_at_call 18;refine KS7.out.mono ?_;rintro e w8 ⟨v8,rfl,a8,h8⟩;have HA8:=Lib.hid a8;have HB8:=Lib.hid (HB7.out.trans (h8.mono HB7.out.size));clear a8 h8))
   go_ret
   exact ⟨rfl,HB10.out⟩
  have s7:((p:Int) == 1)=false:=by rw [beq_eq_false_iff_ne];omega
  obtain ⟨hb1,hb2,hb3,hb4⟩:=made_bd HLT.out
  have hb6:5≤(encB (frB x) (makeJ x)).length:=encB_ge _ _
  have HLTB:=Lib.hid (fun c hc=>encB_lt (frB x) (makeJ x) c hc)
  have KE7:=Lib.hid (KE.out _ _ HK7.out)
  generalize encB (frB x) (makeJ x)=EB at KE7 hb4 hb6 HLTB
  obtain ⟨L,hL⟩:∃ n,EB.length=n:=⟨_,rfl⟩
  rw [hL] at KE7 hb4 hb6
  have HL:=Lib.hid hL
  clear hL hb1 hb2 hb3 hp hp1 KE KSP HK7
  go_upto_region 9 with (go_at_call 15;refine KE7.out.mono ?_;rintro e w8 ⟨r8,c8,rfl,o8,h8⟩;have HO8:=Lib.hid o8;have HB8:=Lib.hid (HB7.out.trans (h8.mono HB7.out.size));clear o8 h8)
  clear y0 y1 y2 y3 y4 HY7 KE7 HB7
  obtain ⟨b8,off8,rfl,hb88,hc8⟩:=rec_some HO8.out HL.out (by omega)
  obtain ⟨L1,hL1⟩:∃ n,L+1=n:=⟨_,rfl⟩
  obtain ⟨k,hk⟩:∃ k,at_ % L1=k:=⟨_,rfl⟩
  have hkL:k≤L:=by have:at_ % L1<L1:=Nat.mod_lt _ (by omega);omega
  have u1:(L:Int)+1=(L1:Int):=by omega
  have u2:IntKind.i64.wrap (L1:Int)=(L1:Int):=by rw [IntKind.wrap_i64];omega
  have u3:((L1:Int) == 0)=false:=by rw [beq_eq_false_iff_ne];omega
  have u4:¬ L1=0:=by omega
  have u5:(at_:Int).tmod (L1:Int)=(k:Int):=by rw [Int.tmod_eq_emod_of_nonneg (by omega),← hk];rfl
  have u6:(at_:Int) % (L1:Int)=(k:Int):=by rw [← hk];rfl
  have u7:IntKind.i64.wrap (k:Int)=(k:Int):=by rw [IntKind.wrap_i64];omega
  have u8:IntKind.i64.wrap (at_:Int)=(at_:Int):=by rw [IntKind.wrap_i64];omega
  clear hk
  go_upto_region 10 with fail
  clear u1 u2 u3 u4 u5 u6 u8 s4 s5 s6 s7 hL1
  obtain ⟨q,hq⟩:∃ q,cut % 5=q:=⟨_,rfl⟩
  have hq5:q<5:=by omega
  have v1:(cut:Int).tmod 5=(q:Int):=by rw [Int.tmod_eq_emod_of_nonneg (by omega),← hq];rfl
  have v2:(cut:Int) % 5=(q:Int):=by rw [← hq];rfl
  have v3:IntKind.u8.wrap (q:Int)=(q:Int):=by rw [IntKind.wrap_u8];omega
  have v4:IntKind.i64.wrap (q:Int)=(q:Int):=by rw [IntKind.wrap_i64];omega
  obtain ⟨kq,hkq⟩:∃ n,k+q=n:=⟨_,rfl⟩
  have v5:(k:Int)+(q:Int)=(kq:Int):=by omega
  have v6:IntKind.i64.wrap (kq:Int)=(kq:Int):=by rw [IntKind.wrap_i64];omega
  obtain ⟨j,hj⟩:∃ n,min kq L=n:=⟨_,rfl⟩
  have hjL:j≤L:=by omega
  have v7:min (kq:Int) (L:Int)=(j:Int):=by omega
  obtain ⟨off9,hra⟩:=if_addrS (c8=j) b8 off8 j
  have hD:=byc_drop HO8.out HL.out j hjL
  rw [hra] at hD
  have HT9:=Lib.hid (byc_take HO8.out HL.out k hkL)
  have HD9:=Lib.hid hD
  have HRA:=Lib.hid hra
  clear hq hkq hj hD hra
  refine wp_region_part 14 (fun w'=>Below w8.heap.size w8 w') (R14 [.slice (some ⟨b8,off8,none⟩) L c8,.int .i64 (k:Int),.slice (some ⟨b8,off8,none⟩) k c8,.slice rm M cm,.slice (some ⟨b8,off8,none⟩) L c8,.int .i64 (k:Int),.int .u8 (cut:Int),.int .u8 (q:Int),.int .i64 (q:Int),.int .i64 (kq:Int),.slice (some ⟨b8,off8,none⟩) L c8,.int .i64 (L:Int),.int .i64 (j:Int),.slice (some ⟨b8,off9,none⟩) (L-j) (c8-j)]) hmix (by decide) (by kernel_rfl) (by kernel_rfl) (by kernel_rfl) (Below.refl _ _).drew ?_ ?_
  ·intro a w' i hi hC hfar hrd
   rcases (by omega:i=0∨i=1∨i=2∨i=3∨i=4∨i=5∨i=6∨i=7∨i=8∨i=9∨i=10∨i=11∨i=12∨i=13) with rfl | rfl | rfl | rfl | rfl | rfl | rfl | rfl | rfl | rfl | rfl | rfl | rfl | rfl
   ·refine op_run (.move (.tmp 14)) (some 47) (by unfold opIs;kernel_rfl) (.slice (some ⟨b8,off8,none⟩) L c8) (w':=w') (fun o ho=>by unfold execOp;rw [ho];simp only [(hfar 14 (by kernel_rfl)).trans (show _=((.slice (some ⟨b8,off8,none⟩) L c8):Value) by kernel_rfl)];go_simp) ?_
    exact ⟨_,congrArg (fun d=>a.put d (.slice (some ⟨b8,off8,none⟩) L c8)) (by kernel_rfl),hC,rfl,fun j u h=>h⟩
   ·refine op_run (.move (.tmp 15)) (some 48) (by unfold opIs;kernel_rfl) (.int .i64 (k:Int)) (w':=w') (fun o ho=>by unfold execOp;rw [ho];simp only [(hfar 15 (by kernel_rfl)).trans (show _=((.int .i64 (k:Int)):Value) by kernel_rfl)];go_simp) ?_
    exact ⟨_,congrArg (fun d=>a.put d (.int .i64 (k:Int))) (by kernel_rfl),hC,rfl,fun j u h=>h⟩
   ·have hx1:k≤c8:=by omega
    refine op_run (.slice 25 (.tmp 47) none (some (.tmp 48)) none) (some 49) (by unfold opIs;kernel_rfl) (.slice (some ⟨b8,off8,none⟩) k c8) (w':=w') (fun o ho=>by unfold execOp;rw [ho];simp only [Option.map_some,Option.map_none,show a.eval (.tmp 47)=(.slice (some ⟨b8,off8,none⟩) L c8) from hrd 0 47 (by kernel_rfl) (by kernel_rfl),show a.eval (.tmp 48)=(.int .i64 (k:Int)) from hrd 1 48 (by kernel_rfl) (by kernel_rfl)];go_simp) ?_
    exact ⟨_,congrArg (fun d=>a.put d (.slice (some ⟨b8,off8,none⟩) k c8)) (by kernel_rfl),hC,rfl,fun j u h=>h⟩
   ·refine op_run (.move (.tmp 3)) (some 50) (by unfold opIs;kernel_rfl) (.slice rm M cm) (w':=w') (fun o ho=>by unfold execOp;rw [ho];simp only [(hfar 3 (by kernel_rfl)).trans (show _=((.slice rm M cm):Value) by kernel_rfl)];go_simp) ?_
    exact ⟨_,congrArg (fun d=>a.put d (.slice rm M cm)) (by kernel_rfl),hC,rfl,fun j u h=>h⟩
   ·refine op_run (.move (.tmp 14)) (some 51) (by unfold opIs;kernel_rfl) (.slice (some ⟨b8,off8,none⟩) L c8) (w':=w') (fun o ho=>by unfold execOp;rw [ho];simp only [(hfar 14 (by kernel_rfl)).trans (show _=((.slice (some ⟨b8,off8,none⟩) L c8):Value) by kernel_rfl)];go_simp) ?_
    exact ⟨_,congrArg (fun d=>a.put d (.slice (some ⟨b8,off8,none⟩) L c8)) (by kernel_rfl),hC,rfl,fun j u h=>h⟩
   ·refine op_run (.move (.tmp 15)) (some 52) (by unfold opIs;kernel_rfl) (.int .i64 (k:Int)) (w':=w') (fun o ho=>by unfold execOp;rw [ho];simp only [(hfar 15 (by kernel_rfl)).trans (show _=((.int .i64 (k:Int)):Value) by kernel_rfl)];go_simp) ?_
    exact ⟨_,congrArg (fun d=>a.put d (.int .i64 (k:Int))) (by kernel_rfl),hC,rfl,fun j u h=>h⟩
   ·refine op_run (.move (.tmp 2)) (some 53) (by unfold opIs;kernel_rfl) (.int .u8 (cut:Int)) (w':=w') (fun o ho=>by unfold execOp;rw [ho];simp only [(hfar 2 (by kernel_rfl)).trans (show _=((.int .u8 (cut:Int)):Value) by kernel_rfl)];go_simp) ?_
    exact ⟨_,congrArg (fun d=>a.put d (.int .u8 (cut:Int))) (by kernel_rfl),hC,rfl,fun j u h=>h⟩
   ·refine op_run (.binOp .rem 5 (.tmp 53) (.const (.int .u8 5)) 5) (some 54) (by unfold opIs;kernel_rfl) (.int .u8 (q:Int)) (w':=w') (fun o ho=>by unfold execOp;rw [ho];simp only [show a.eval (.tmp 53)=(.int .u8 (cut:Int)) from hrd 6 53 (by kernel_rfl) (by kernel_rfl)];go_simp) ?_
    exact ⟨_,congrArg (fun d=>a.put d (.int .u8 (q:Int))) (by kernel_rfl),hC,rfl,fun j u h=>h⟩
   ·refine op_run (.convert 5 3 (.tmp 54)) (some 55) (by unfold opIs;kernel_rfl) (.int .i64 (q:Int)) (w':=w') (fun o ho=>by unfold execOp;rw [ho];simp only [show a.eval (.tmp 54)=(.int .u8 (q:Int)) from hrd 7 54 (by kernel_rfl) (by kernel_rfl)];go_simp) ?_
    exact ⟨_,congrArg (fun d=>a.put d (.int .i64 (q:Int))) (by kernel_rfl),hC,rfl,fun j u h=>h⟩
   ·refine op_run (.binOp .add 3 (.tmp 52) (.tmp 55) 3) (some 56) (by unfold opIs;kernel_rfl) (.int .i64 (kq:Int)) (w':=w') (fun o ho=>by unfold execOp;rw [ho];simp only [show a.eval (.tmp 52)=(.int .i64 (k:Int)) from hrd 5 52 (by kernel_rfl) (by kernel_rfl),show a.eval (.tmp 55)=(.int .i64 (q:Int)) from hrd 8 55 (by kernel_rfl) (by kernel_rfl)];go_simp) ?_
    exact ⟨_,congrArg (fun d=>a.put d (.int .i64 (kq:Int))) (by kernel_rfl),hC,rfl,fun j u h=>h⟩
   ·refine op_run (.move (.tmp 14)) (some 57) (by unfold opIs;kernel_rfl) (.slice (some ⟨b8,off8,none⟩) L c8) (w':=w') (fun o ho=>by unfold execOp;rw [ho];simp only [(hfar 14 (by kernel_rfl)).trans (show _=((.slice (some ⟨b8,off8,none⟩) L c8):Value) by kernel_rfl)];go_simp) ?_
    exact ⟨_,congrArg (fun d=>a.put d (.slice (some ⟨b8,off8,none⟩) L c8)) (by kernel_rfl),hC,rfl,fun j u h=>h⟩
   ·refine op_run (.call { callee:=.builtin .len,args:=#[.tmp 57],argTypes:=#[25] }) (some 58) (by unfold opIs;kernel_rfl) (.int .i64 (L:Int)) (w':=w') (fun o ho=>by unfold execOp;rw [ho];simp only [resolve,List.map_toArray,List.map_cons,List.map_nil,show a.eval (.tmp 57)=(.slice (some ⟨b8,off8,none⟩) L c8) from hrd 10 57 (by kernel_rfl) (by kernel_rfl)];go_simp) ?_
    exact ⟨_,congrArg (fun d=>a.put d (.int .i64 (L:Int))) (by kernel_rfl),hC,rfl,fun j u h=>h⟩
   ·refine op_run (.call { callee:=.builtin .min,args:=#[.tmp 56,.tmp 58],argTypes:=#[3,3] }) (some 59) (by unfold opIs;kernel_rfl) (.int .i64 (j:Int)) (w':=w') (fun o ho=>by unfold execOp;rw [ho];simp only [resolve,List.map_toArray,List.map_cons,List.map_nil,show a.eval (.tmp 56)=(.int .i64 (kq:Int)) from hrd 9 56 (by kernel_rfl) (by kernel_rfl),show a.eval (.tmp 58)=(.int .i64 (L:Int)) from hrd 11 58 (by kernel_rfl) (by kernel_rfl)];go_simp) ?_
    exact ⟨_,congrArg (fun d=>a.put d (.int .i64 (j:Int))) (by kernel_rfl),hC,rfl,fun j u h=>h⟩
   ·have hra2:=HRA.out
    have hx1:j≤c8:=by omega
    refine op_run (.slice 25 (.tmp 51) (some (.tmp 59)) none none) (some 60) (by unfold opIs;kernel_rfl) (.slice (some ⟨b8,off9,none⟩) (L-j) (c8-j)) (w':=w') (fun o ho=>by unfold execOp;rw [ho];simp only [Option.map_some,Option.map_none,show a.eval (.tmp 51)=(.slice (some ⟨b8,off8,none⟩) L c8) from hrd 4 51 (by kernel_rfl) (by kernel_rfl),show a.eval (.tmp 59)=(.int .i64 (j:Int)) from hrd 12 59 (by kernel_rfl) (by kernel_rfl)];go_simp) ?_
    exact ⟨_,congrArg (fun d=>a.put d (.slice (some ⟨b8,off9,none⟩) (L-j) (c8-j))) (by kernel_rfl),hC,rfl,fun j u h=>h⟩
  ·intro bv w' hC hR
   have e2:bv 2=(.slice (some ⟨b8,off8,none⟩) k c8):=hR 2 (by omega)
   have e3:bv 3=(.slice rm M cm):=hR 3 (by omega)
   have e13:bv 13=(.slice (some ⟨b8,off9,none⟩) (L-j) (c8-j)):=hR 13 (by omega)
   simp only [List.take_succ_cons,List.take_zero,List.drop_succ_cons,List.drop_zero,putL,if_true,Nat.reduceAdd,Act.put,List.getElem_toArray,List.getElem_cons_zero,List.getElem_cons_succ,List.setIfInBounds_toArray,List.set_cons_zero,List.set_cons_succ]
   rw [e2,e3,e13]
   clear hR e2 e3 e13
   have hbw:=(Below.refl w'.heap.size w').alloc (Nat.le_refl _) (.cells #[(.slice (some ⟨b8,off8,none⟩) k c8),(.slice rm M cm),(.slice (some ⟨b8,off9,none⟩) (L-j) (c8-j))] 25)
   have hbx:=HBox.new w' [(.slice (some ⟨b8,off8,none⟩) k c8),(.slice rm M cm),(.slice (some ⟨b8,off9,none⟩) (L-j) (c8-j))] 25
   have hB9:=HB8.out.trans (hC.mono HB8.out.size)
   have hB10:=hB9.trans (hbw.mono hB9.size)
   have hlt:(EB.take k).length+ms.length+(EB.drop j).length≤10000000:=by rw [List.length_take,List.length_drop,HML.out,HL.out];omega
   have KC:=concat_8 w'.heap.size (.slice (some ⟨b8,off8,none⟩) k c8) (.slice rm M cm) (.slice (some ⟨b8,off9,none⟩) (L-j) (c8-j)) (EB.take k) ms (EB.drop j) (w'.alloc (.cells #[(.slice (some ⟨b8,off8,none⟩) k c8),(.slice rm M cm),(.slice (some ⟨b8,off9,none⟩) (L-j) (c8-j))] 25)) ((HT9.out.stay hC).stay hbw) ((HMS.out.stay hB9).stay hbw) ((HD9.out.stay hC).stay hbw) hlt (by rw [List.length_take,List.length_drop,HML.out,HL.out];omega) (hbx.cell (j:=0) rfl) (hbx.cell (j:=1) rfl) (hbx.cell (j:=2) rfl) (by simp)
   have KC9:=Lib.hid KC
   have HB10:=Lib.hid hB10
   have HLT9:=Lib.hid hlt
   have HBY9:Hid (∀ c ∈ (EB.take k ++ ms) ++ EB.drop j,c<256):=Lib.hid (fun c hc=>by
    rcases List.mem_append.1 hc with hc | hc
    ·rcases List.mem_append.1 hc with hc | hc
     ·exact HLTB.out c (List.mem_of_mem_take hc)
     ·exact HMB.out c hc
    ·exact HLTB.out c (List.mem_of_mem_drop hc))
   clear KC hB9 hB10 hlt hbw hbx HT9 HD9 HO8 HRA v1 v2 v3 v4 v5 v6 v7
   go_wp2_with (first
    | (go_at_call 19;refine KC9.out.mono ?_;rintro e w10 ⟨v10,rfl,o10,h10⟩;have HR10:=Lib.hid (recs_of_owns8 o10 (by have:=HLT9.out;rw [List.length_append,List.length_append];omega));have HB11:=Lib.hid (HB10.out.trans (h10.mono HB10.out.size));clear o10 h10)
    | (go_at_call 17;refine (KI.out _ _ _ HB11.out HR10.out HBY9.out).mono ?_;rintro e w11 ⟨rfl,h11⟩;have HB12:=Lib.hid (HB11.out.trans (h11.mono HB11.out.size));clear h11))
   go_ret
   exact ⟨rfl,HB12.out⟩
end Go.Proofs.YtmpefjnfelfnfaaGreatDoor

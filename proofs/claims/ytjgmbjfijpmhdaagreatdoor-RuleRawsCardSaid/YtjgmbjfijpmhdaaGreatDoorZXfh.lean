/- Contract of law 10's Frame. -/
import Derived.Test.YtjgmbjfijpmhdaaGreatDoorZXe
import Derived.Test.YtjgmbjfijpmhdaaGreatDoorZOw
import Derived.Test.YtjgmbjfijpmhdaaGreatDoorZCkl
import Derived.Test.YtjgmbjfijpmhdaaGreatDoorZNef
import Derived.Test.YtjgmbjfijpmhdaaGreatDoorZTall
set_option maxRecDepth 100000
set_option maxHeartbeats 4000000
namespace Go.Proofs.YtjgmbjfijpmhdaaGreatDoor
open Go.RowKit
set_option linter.unusedVariables false
set_option linter.unusedSimpArgs false
theorem box4_heap {w:World} {g:Nat} {c0 c1 c2 c3:Value} {T:TypeId} (h:w.heap[g]?=some (.cells #[c0,c1,c2,c3] T (0,0))):Box4 w g c0 c1 c2 c3:=by
 refine ⟨?_,?_,?_,?_,?_,?_,?_,?_,(Array.getElem?_eq_some_iff.1 h).1⟩ <;> simp [World.cell?,World.frozen?,h]
theorem Box4.set0 {w:World} {b:Nat} {c0 c1 c2 c3:Value} (h:Box4 w b c0 c1 c2 c3) (u:Value):Box4 (w.setCell ⟨b,0,none⟩ u) b u c1 c2 c3:=by
 obtain ⟨h0,h1,h2,h3,f0,f1,f2,f3,h4⟩:=h
 exact ⟨by go_simp,by go_simp,by go_simp,by go_simp,by go_simp,by go_simp,by go_simp,by go_simp,by go_simp⟩
theorem Box4.set1 {w:World} {b:Nat} {c0 c1 c2 c3:Value} (h:Box4 w b c0 c1 c2 c3) (u:Value):Box4 (w.setCell ⟨b,1,none⟩ u) b c0 u c2 c3:=by
 obtain ⟨h0,h1,h2,h3,f0,f1,f2,f3,h4⟩:=h
 exact ⟨by go_simp,by go_simp,by go_simp,by go_simp,by go_simp,by go_simp,by go_simp,by go_simp,by go_simp⟩
section
variable {P:Program} {ops:Array Oper} {Q:Exit→Act→World→Prop}
end
def bV (vCh vUn:Value) (first:Int) (vLo vJs:Value):Value:=.agg #[vCh,vUn,.int .i16 first,vLo,vJs]
def RF (B X:Nat) (vCh vUn vLo:Value) (first E:Int) (C:List Ac) (U:List Nat) (S:List Int):Nat→Value→World→Prop
 | 0,v,_=>v = .pointer (some ⟨X,0,none⟩)
 | 1,v,_=>v=vCh
 | 2,v,w=>w.ownsRow B 82 4 v C.length (C.flatMap cc)
 | 3,v,_=>v = .pointer (some ⟨X,1,none⟩)
 | 4,v,_=>v=vUn
 | 5,v,w=>w.ownsRow B 77 1 v U.length (U.flatMap uc)
 | 6,v,_=>v = .pointer (some ⟨X,2,none⟩)
 | 7,v,_=>v = .int .i16 first
 | 8,v,_=>v = .pointer (some ⟨X,3,none⟩)
 | 9,v,_=>v=vLo
 | 10,v,w=>∃ vS,v = .agg #[vS,.int .i32 E]∧w.ownsRow B 37 1 vS S.length (S.flatMap dcl)
 | 11,v,w=>∃ vC vU vS,v = .agg #[vC,vU,vS,.int .i32 E]∧w.ownsRow B 82 4 vC C.length (C.flatMap cc)∧w.ownsRow B 77 1 vU U.length (U.flatMap uc)∧w.ownsRow B 37 1 vS S.length (S.flatMap dcl)
 | _,v,w=>∃ g,v = .pointer (some ⟨g,0,none⟩)∧B≤g∧w.heap[g]?=some (.cells #[.slice none 0 0,.slice none 0 0,.slice none 0 0,.int .i32 0] 41 (0,0))
theorem RF.stay {B X:Nat} {vCh vUn vLo:Value} {first E:Int} {C:List Ac} {U:List Nat} {S:List Int} {w w':World} (hb:Below w.heap.size w w'):∀ j u,RF B X vCh vUn vLo first E C U S j u w→RF B X vCh vUn vLo first E C U S j u w'
 | 0,_,h=>h
 | 1,_,h=>h
 | 2,_,h=>owns_below (by exact h) hb
 | 3,_,h=>h
 | 4,_,h=>h
 | 5,_,h=>owns_below (by exact h) hb
 | 6,_,h=>h
 | 7,_,h=>h
 | 8,_,h=>h
 | 9,_,h=>h
 | 10,_,⟨vS,h1,h2⟩=>⟨vS,h1,owns_below h2 hb⟩
 | 11,_,⟨vC,vU,vS,h1,h2,h3,h4⟩=>⟨vC,vU,vS,h1,owns_below h2 hb,owns_below h3 hb,owns_below h4 hb⟩
 | _+12,_,⟨g,h1,h2,h3⟩=>⟨g,h1,h2,(hb.block g (Array.getElem?_eq_some_iff.1 h3).1).trans h3⟩
theorem frame_c (x:Bk) (vCh vUn vLo vJs:Value) (w:World) (h1:Recs qc 4 w vCh x.chart) (h2:Recs uc 1 w vUn x.units) (h3:Recs u8c 1 w vLo x.long) :
 Calls Tryz.prog 11 #[bV vCh vUn x.first vLo vJs] w fun e w'=>∃ vC vU vS,e = .returned (frV vC vU vS (frB x).E)∧w'.ownsRow w.heap.size 82 4 vC (frB x).C.length ((frB x).C.flatMap cc)∧w'.ownsRow w.heap.size 77 1 vU (frB x).U.length ((frB x).U.flatMap uc)∧w'.ownsRow w.heap.size 37 1 vS (frB x).S.length ((frB x).S.flatMap dcl)∧Below w.heap.size w w':=by
 have hmix:Tryz.prog.follows .mixedOrders=true:=by kernel_rfl
 have H1:=Lib.hid h1
 have H2:=Lib.hid h2
 have H3:=Lib.hid h3
 have hf:=x.hf
 unfold bV frV
 obtain ⟨r1,c1,rfl,_⟩:=h1.form
 obtain ⟨r2,c2,rfl,_⟩:=h2.form
 obtain ⟨r3,c3,rfl,_⟩:=h3.form
 clear h1 h2 h3
 go_enter Tryz.func11,Tryz.ntmps11
 go_upto_region 1 with fail
 have hb:=((Below.refl w.heap.size w).alloc (Nat.le_refl _) (.cells #[.slice r1 x.chart.length c1,.slice r2 x.units.length c2,.int .i16 x.first,.slice r3 x.long.length c3,vJs] 28)).alloc (by simp) (.cells #[.slice none 0 0,.slice none 0 0,.slice none 0 0,.int .i32 0] 41)
 have bx:=(RBox.new w [.slice r1 x.chart.length c1,.slice r2 x.units.length c2,.int .i16 x.first,.slice r3 x.long.length c3,vJs] 28).alloc (.cells #[.slice none 0 0,.slice none 0 0,.slice none 0 0,.int .i32 0] 41)
 have s1:(w.alloc (.cells #[.slice r1 x.chart.length c1,.slice r2 x.units.length c2,.int .i16 x.first,.slice r3 x.long.length c3,vJs] 28)).heap.size=w.heap.size+1:=by simp
 change RBox ((w.alloc (.cells #[.slice r1 x.chart.length c1,.slice r2 x.units.length c2,.int .i16 x.first,.slice r3 x.long.length c3,vJs] 28)).alloc _) _ _ at bx
 generalize w.alloc (.cells #[.slice r1 x.chart.length c1,.slice r2 x.units.length c2,.int .i16 x.first,.slice r3 x.long.length c3,vJs] 28)=w1 at hb bx s1 ⊢
 have br:=Box4.new w1 (.slice none 0 0) (.slice none 0 0) (.slice none 0 0) (.int .i32 0) 41
 have s2:(w1.alloc (.cells #[.slice none 0 0,.slice none 0 0,.slice none 0 0,.int .i32 0] 41)).heap.size=w.heap.size+1+1:=by simp;omega
 rw [s1] at br
 generalize w1.alloc (.cells #[.slice none 0 0,.slice none 0 0,.slice none 0 0,.int .i32 0] 41)=W at hb bx br s2 ⊢
 have HX:=Lib.hid bx
 have HBR:=Lib.hid br
 have HB:=Lib.hid hb
 have HS:=Lib.hid s2
 clear hb bx br s1 s2
 refine wp_region_part 13 (fun w'=>Below W.heap.size W w') (RF W.heap.size w.heap.size (.slice r1 x.chart.length c1) (.slice r2 x.units.length c2) (.slice r3 x.long.length c3) x.first (mkE x.first x.long) (mkC x.chart) (mkU x.units) (mkS x.first x.long)) hmix (by decide) (by kernel_rfl) (by kernel_rfl) (by kernel_rfl) (Below.refl _ _).drew ?_ ?_
 ·intro a w' i hi hC hfar hrd
  have hBw:Below w.heap.size w w':=HB.out.trans (hC.mono (by have:=HS.out;omega))
  have K1:=make_c (.slice r1 x.chart.length c1) x.chart w' (H1.out.stay hBw)
  have K2:=makeU_c (.slice r2 x.units.length c2) x.units w' (H2.out.stay hBw)
  have K3:=makeC_c (.slice r3 x.long.length c3) x.long x.first hf w' (H3.out.stay hBw)
  rcases (by omega:i=0∨i=1∨i=2∨i=3∨i=4∨i=5∨i=6∨i=7∨i=8∨i=9∨i=10∨i=11∨i=12) with rfl | rfl | rfl | rfl | rfl | rfl | rfl | rfl | rfl | rfl | rfl | rfl | rfl
  ·refine op_run (.fieldAddr 28 (.tmp 1) 0) (some 4) (by unfold opIs;kernel_rfl) (.pointer (some ⟨w.heap.size,0,none⟩)) (w':=w') (fun o ho=>by unfold execOp;rw [ho];simp only [(hfar 1 (by kernel_rfl)).trans (show _=Value.pointer (some ⟨w.heap.size,0,none⟩) by kernel_rfl)];go_simp) ?_
   exact ⟨_,congrArg (fun d=>a.put d (.pointer (some ⟨w.heap.size,0,none⟩))) (by kernel_rfl),hC,rfl,fun j u h=>h⟩
  ·refine op_load 22 (.tmp 4) (some 5) (by unfold opIs;kernel_rfl) _ (.slice r1 x.chart.length c1) (hrd 0 4 (by kernel_rfl) (by kernel_rfl)) (by have:=(HX.out.stay hC).at_ 0 _ rfl;go_simp) ?_
   exact ⟨_,congrArg (fun d=>a.put d (.slice r1 x.chart.length c1)) (by kernel_rfl),hC,rfl,fun j u h=>h⟩
  ·refine op_call (.call { callee:=.value (.func 29),args:=#[.tmp 5],argTypes:=#[22] }) (some 6) (by unfold opIs;kernel_rfl) 29 #[.slice r1 x.chart.length c1] (fun o ho=>by unfold execOp;rw [ho];simp only [resolve,List.map_toArray,List.map_cons,List.map_nil,show a.eval (.tmp 5)=_ from hrd 1 5 (by kernel_rfl) (by kernel_rfl)];kernel_rfl) K1 ?_
   rintro e w'' ⟨v',rfl,ho,hb⟩
   exact ⟨_,rfl,_,congrArg (fun d=>a.put d _) (by kernel_rfl),hC.trans (hb.mono hC.size),owns_mono ho hC.size,RF.stay hb⟩
  ·refine op_run (.fieldAddr 28 (.tmp 1) 1) (some 7) (by unfold opIs;kernel_rfl) (.pointer (some ⟨w.heap.size,1,none⟩)) (w':=w') (fun o ho=>by unfold execOp;rw [ho];simp only [(hfar 1 (by kernel_rfl)).trans (show _=Value.pointer (some ⟨w.heap.size,0,none⟩) by kernel_rfl)];go_simp) ?_
   exact ⟨_,congrArg (fun d=>a.put d (.pointer (some ⟨w.heap.size,1,none⟩))) (by kernel_rfl),hC,rfl,fun j u h=>h⟩
  ·refine op_load 23 (.tmp 7) (some 8) (by unfold opIs;kernel_rfl) _ (.slice r2 x.units.length c2) (hrd 3 7 (by kernel_rfl) (by kernel_rfl)) (by have:=(HX.out.stay hC).at_ 1 _ rfl;go_simp) ?_
   exact ⟨_,congrArg (fun d=>a.put d (.slice r2 x.units.length c2)) (by kernel_rfl),hC,rfl,fun j u h=>h⟩
  ·refine op_call (.call { callee:=.value (.func 30),args:=#[.tmp 8],argTypes:=#[23] }) (some 9) (by unfold opIs;kernel_rfl) 30 #[.slice r2 x.units.length c2] (fun o ho=>by unfold execOp;rw [ho];simp only [resolve,List.map_toArray,List.map_cons,List.map_nil,show a.eval (.tmp 8)=_ from hrd 4 8 (by kernel_rfl) (by kernel_rfl)];kernel_rfl) K2 ?_
   rintro e w'' ⟨v',rfl,ho,hb⟩
   exact ⟨_,rfl,_,congrArg (fun d=>a.put d _) (by kernel_rfl),hC.trans (hb.mono hC.size),owns_mono ho hC.size,RF.stay hb⟩
  ·refine op_run (.fieldAddr 28 (.tmp 1) 2) (some 10) (by unfold opIs;kernel_rfl) (.pointer (some ⟨w.heap.size,2,none⟩)) (w':=w') (fun o ho=>by unfold execOp;rw [ho];simp only [(hfar 1 (by kernel_rfl)).trans (show _=Value.pointer (some ⟨w.heap.size,0,none⟩) by kernel_rfl)];go_simp) ?_
   exact ⟨_,congrArg (fun d=>a.put d (.pointer (some ⟨w.heap.size,2,none⟩))) (by kernel_rfl),hC,rfl,fun j u h=>h⟩
  ·refine op_load 24 (.tmp 10) (some 11) (by unfold opIs;kernel_rfl) _ (.int .i16 x.first) (hrd 6 10 (by kernel_rfl) (by kernel_rfl)) (by have:=(HX.out.stay hC).at_ 2 _ rfl;go_simp) ?_
   exact ⟨_,congrArg (fun d=>a.put d (.int .i16 x.first)) (by kernel_rfl),hC,rfl,fun j u h=>h⟩
  ·refine op_run (.fieldAddr 28 (.tmp 1) 3) (some 12) (by unfold opIs;kernel_rfl) (.pointer (some ⟨w.heap.size,3,none⟩)) (w':=w') (fun o ho=>by unfold execOp;rw [ho];simp only [(hfar 1 (by kernel_rfl)).trans (show _=Value.pointer (some ⟨w.heap.size,0,none⟩) by kernel_rfl)];go_simp) ?_
   exact ⟨_,congrArg (fun d=>a.put d (.pointer (some ⟨w.heap.size,3,none⟩))) (by kernel_rfl),hC,rfl,fun j u h=>h⟩
  ·refine op_load 25 (.tmp 12) (some 13) (by unfold opIs;kernel_rfl) _ (.slice r3 x.long.length c3) (hrd 8 12 (by kernel_rfl) (by kernel_rfl)) (by have:=(HX.out.stay hC).at_ 3 _ rfl;go_simp) ?_
   exact ⟨_,congrArg (fun d=>a.put d (.slice r3 x.long.length c3)) (by kernel_rfl),hC,rfl,fun j u h=>h⟩
  ·refine op_call (.call { callee:=.value (.func 31),args:=#[.tmp 11,.tmp 13],argTypes:=#[24,25] }) (some 14) (by unfold opIs;kernel_rfl) 31 #[.int .i16 x.first,.slice r3 x.long.length c3] (fun o ho=>by unfold execOp;rw [ho];simp only [resolve,List.map_toArray,List.map_cons,List.map_nil,show a.eval (.tmp 11)=_ from hrd 7 11 (by kernel_rfl) (by kernel_rfl),show a.eval (.tmp 13)=_ from hrd 9 13 (by kernel_rfl) (by kernel_rfl)];kernel_rfl) K3 ?_
   rintro e w'' ⟨v',rfl,ho,hb⟩
   exact ⟨_,rfl,_,congrArg (fun d=>a.put d _) (by kernel_rfl),hC.trans (hb.mono hC.size),⟨v',rfl,owns_mono ho hC.size⟩,RF.stay hb⟩
  ·obtain ⟨vS,e3,hS⟩:=hrd 10 14 (by kernel_rfl) (by kernel_rfl)
   have e1:w'.ownsRow W.heap.size 82 4 (a.eval (.tmp 6)) (mkC x.chart).length ((mkC x.chart).flatMap cc):=hrd 2 6 (by kernel_rfl) (by kernel_rfl)
   have e2:w'.ownsRow W.heap.size 77 1 (a.eval (.tmp 9)) (mkU x.units).length ((mkU x.units).flatMap uc):=hrd 5 9 (by kernel_rfl) (by kernel_rfl)
   obtain ⟨q1,n1,g1⟩:=owns_form e1
   obtain ⟨q2,n2,g2⟩:=owns_form e2
   obtain ⟨q3,n3,rfl⟩:=owns_form hS
   rw [g1] at e1
   rw [g2] at e2
   refine op_run (.build 41 #[(0,.tmp 6),(1,.tmp 9),(2,.tmp 14)]) (some 15) (by unfold opIs;kernel_rfl) (.agg #[.slice q1 (mkC x.chart).length n1,.slice q2 (mkU x.units).length n2,.slice q3 (mkS x.first x.long).length n3,.int .i32 (mkE x.first x.long)]) (w':=w') (fun o ho=>by
    unfold execOp;rw [ho]
    simp only [List.map_toArray,List.map_cons,List.map_nil,e3,g1,g2]
    go_simp) ?_
   exact ⟨_,congrArg (fun d=>a.put d (.agg #[.slice q1 (mkC x.chart).length n1,.slice q2 (mkU x.units).length n2,.slice q3 (mkS x.first x.long).length n3,.int .i32 (mkE x.first x.long)])) (by kernel_rfl),hC,⟨_,_,_,rfl,e1,e2,hS⟩,fun j u h=>h⟩
  ·refine op_run (.alloc 41) (some 3) (by unfold opIs;kernel_rfl) (.pointer (some ⟨w'.heap.size,0,none⟩)) (w':=w'.alloc (.cells #[.slice none 0 0,.slice none 0 0,.slice none 0 0,.int .i32 0] 41)) (fun o ho=>by unfold execOp;rw [ho];go_simp) ?_
   have hb:=(Below.refl w'.heap.size w').alloc (Nat.le_refl _) (.cells #[.slice none 0 0,.slice none 0 0,.slice none 0 0,.int .i32 0] 41)
   exact ⟨_,congrArg (fun d=>a.put d (.pointer (some ⟨w'.heap.size,0,none⟩))) (by kernel_rfl),hC.trans (hb.mono hC.size),⟨_,rfl,hC.size,heap_alloc_new w' _⟩,RF.stay hb⟩
 ·intro b w' hC hR
  obtain ⟨vC,vU,vS,e11,oC,oU,oS⟩:=hR 11 (by omega)
  obtain ⟨g,e12,hg,hgz⟩:=hR 12 (by omega)
  simp only [List.take_succ_cons,List.take_zero,List.drop_succ_cons,List.drop_zero,putL,if_true,Nat.reduceAdd,Act.put,List.getElem_toArray,List.getElem_cons_zero,List.getElem_cons_succ,List.setIfInBounds_toArray,List.set_cons_zero,List.set_cons_succ]
  rw [e11,e12]
  clear e11 e12 hR
  obtain ⟨q1,n1,rfl⟩:=owns_form oC
  obtain ⟨q2,n2,rfl⟩:=owns_form oU
  obtain ⟨q3,n3,rfl⟩:=owns_form oS
  have bg:=box4_heap hgz
  have fC:=owns_type_far oC hgz (by decide)
  have fU:=owns_type_far oU hgz (by decide)
  have fS:=owns_type_far oS hgz (by decide)
  have BR:=Lib.hid (HBR.out.stay hC)
  have HB1:=Lib.hid (HB.out.trans (hC.mono (by have:=HS.out;omega)))
  have HSZ:=Lib.hid hC.size
  have HG:=Lib.hid hg
  obtain ⟨LC,hLC⟩:∃ n,(mkC x.chart).length=n:=⟨_,rfl⟩
  obtain ⟨LU,hLU⟩:∃ n,(mkU x.units).length=n:=⟨_,rfl⟩
  obtain ⟨LS,hLS⟩:∃ n,(mkS x.first x.long).length=n:=⟨_,rfl⟩
  obtain ⟨EE,hEE⟩:∃ n,mkE x.first x.long=n:=⟨_,rfl⟩
  rw [hLC] at oC fC ⊢
  rw [hLU] at oU fU ⊢
  rw [hLS] at oS fS ⊢
  rw [hEE]
  have HOC:=Lib.hid oC
  have HOU:=Lib.hid oU
  have HOS:=Lib.hid oS
  have HFC:=Lib.hid fC
  have HFU:=Lib.hid fU
  have HFS:=Lib.hid fS
  have HE:Hid ((frB x).E=EE∧(frB x).S=mkS x.first x.long):=Lib.hid ⟨hEE,rfl⟩
  have HL:=Lib.hid (And.intro hLC (And.intro hLU hLS))
  obtain ⟨z0,z1,z2,z3,z4,z5,z6,z7,z8⟩:=bg
  have HBG:=Lib.hid (show Box4 w' g _ _ _ _ from ⟨z0,z1,z2,z3,z4,z5,z6,z7,z8⟩)
  clear oC oU oS fC fU fS hLC hLU hLS hEE hg hC hgz H1 H2 H3 HX HBR HB
  go_upto_region 2 with fail
  have G1:=grown_sets w' g (.slice q1 LC n1) (.slice q2 LU n2) (.slice q3 LS n3) (.int .i32 EE)
  have BG:=Lib.hid (HBG.out.sets (.slice q1 LC n1) (.slice q2 LU n2) (.slice q3 LS n3) (.int .i32 EE))
  have PC:=Lib.hid (HOC.out.kept G1 (.inr HFC.out))
  have PU:=Lib.hid (HOU.out.kept G1 (.inr HFU.out))
  have PS:=Lib.hid (HOS.out.kept G1 (.inr HFS.out))
  have PR:=Lib.hid (BR.out.grown G1 (by intro h;have:=Option.some.inj h;have:=HG.out;have:=HS.out;omega))
  have PB:=Lib.hid (HB1.out.grown G1 HB1.out.size (fun j hj=>by cases hj;have:=HG.out;have:=HS.out;omega))
  have PZ:=Lib.hid (Nat.le_trans HSZ.out G1.size)
  clear G1 HBG HOC HOU HOS BR HB1 HSZ z0 z1 z2 z3 z4 z5 z6 z7 z8
  generalize ((((w'.setCell ⟨g,0,none⟩ (.slice q1 LC n1)).setCell ⟨g,1,none⟩ (.slice q2 LU n2)).setCell ⟨g,2,none⟩ (.slice q3 LS n3)).setCell ⟨g,3,none⟩ (.int .i32 EE))=V0 at *
  obtain ⟨z0,z1,z2,z3,z4,z5,z6,z7,z8⟩:=BG.out
  rcases Nat.eq_zero_or_pos LC with hc0 | hc0
  ·subst hc0
   go_upto_region 4 with fail
   have GS:World.grownBy V0 (V0.setCell ⟨g,0,none⟩ (.slice (some ⟨V0.heap.size,0,none⟩) 1 1)) (some g):=grownBy_set V0 ⟨g,0,none⟩ (.slice (some ⟨V0.heap.size,0,none⟩) 1 1)
   have hz:(V0.setCell ⟨g,0,none⟩ (.slice (some ⟨V0.heap.size,0,none⟩) 1 1)).heap.size=V0.heap.size:=by simp
   have GB:=(Below.refl (V0.setCell ⟨g,0,none⟩ (.slice (some ⟨V0.heap.size,0,none⟩) 1 1)).heap.size (V0.setCell ⟨g,0,none⟩ (.slice (some ⟨V0.heap.size,0,none⟩) 1 1))).alloc (Nat.le_refl _) (.cells #[.int .u32 7,.string ⟨#[67,97,115,104]⟩,.int .u8 0,.int .u32 0] 82)
   have hgs:g<V0.heap.size:=BG.out.size
   have hlit:=World.ownsRow_lit (base:=W.heap.size) (e:=82) (size:=4) (V0.setCell ⟨g,0,none⟩ (.slice (some ⟨V0.heap.size,0,none⟩) 1 1)) #[.int .u32 7,.string ⟨#[67,97,115,104]⟩,.int .u8 0,.int .u32 0] 1 (by rw [hz];exact PZ.out) (by unfold maxLen;omega) rfl
   rw [hz] at hlit
   have N_BG:=Lib.hid ((BG.out.set0 (.slice (some ⟨V0.heap.size,0,none⟩) 1 1)).alloc (.cells #[.int .u32 7,.string ⟨#[67,97,115,104]⟩,.int .u8 0,.int .u32 0] 82))
   have N_PC:=Lib.hid hlit
   have N_PU:=Lib.hid (owns_below (PU.out.kept GS (.inr HFU.out)) GB)
   have N_PS:=Lib.hid (owns_below (PS.out.kept GS (.inr HFS.out)) GB)
   have N_PR:=Lib.hid ((PR.out.grown GS (by intro h;have:=Option.some.inj h;have:=HG.out;have:=HS.out;omega)).alloc (.cells #[.int .u32 7,.string ⟨#[67,97,115,104]⟩,.int .u8 0,.int .u32 0] 82))
   have hpb:=PB.out.grown GS PB.out.size (fun j hj=>by cases hj;have:=HG.out;have:=HS.out;omega)
   have N_PB:=Lib.hid (hpb.alloc hpb.size (.cells #[.int .u32 7,.string ⟨#[67,97,115,104]⟩,.int .u8 0,.int .u32 0] 82))
   have N_PZ:=Lib.hid (Nat.le_trans (Nat.le_trans PZ.out GS.size) GB.size)
   have N_HFC:=Lib.hid (show (Value.slice (some ⟨V0.heap.size,0,none⟩) 1 1).ownBlock≠some g by intro h;exact absurd (Option.some.inj h) (Nat.ne_of_gt hgs))
   clear BG PC PU PS PR PB PZ HFC
   clear GS GB hgs hz hpb hlit z0 z1 z2 z3 z4 z5 z6 z7 z8
   generalize hA:(V0.setCell ⟨g,0,none⟩ (.slice (some ⟨V0.heap.size,0,none⟩) 1 1)).alloc (.cells #[.int .u32 7,.string ⟨#[67,97,115,104]⟩,.int .u8 0,.int .u32 0] 82)=V1 at *
   clear hA
   generalize V0.heap.size=YC at *
   have BG:=N_BG
   have PC:=N_PC
   have PU:=N_PU
   have PS:=N_PS
   have PR:=N_PR
   have PB:=N_PB
   have PZ:=N_PZ
   have HFC:=N_HFC
   clear N_BG N_PC N_PU N_PS N_PR N_PB N_PZ N_HFC
   obtain ⟨z0,z1,z2,z3,z4,z5,z6,z7,z8⟩:=BG.out
   rcases Nat.eq_zero_or_pos LU with hu0 | hu0
   ·subst hu0
    go_upto_region 6 with fail
    have GS:World.grownBy V1 (V1.setCell ⟨g,1,none⟩ (.slice (some ⟨V1.heap.size,0,none⟩) 1 1)) (some g):=grownBy_set V1 ⟨g,1,none⟩ (.slice (some ⟨V1.heap.size,0,none⟩) 1 1)
    have hz:(V1.setCell ⟨g,1,none⟩ (.slice (some ⟨V1.heap.size,0,none⟩) 1 1)).heap.size=V1.heap.size:=by simp
    have GB:=(Below.refl (V1.setCell ⟨g,1,none⟩ (.slice (some ⟨V1.heap.size,0,none⟩) 1 1)).heap.size (V1.setCell ⟨g,1,none⟩ (.slice (some ⟨V1.heap.size,0,none⟩) 1 1))).alloc (Nat.le_refl _) (.cells #[.int .u16 5] 77)
    have hgs:g<V1.heap.size:=BG.out.size
    have hlit:=World.ownsRow_lit (base:=W.heap.size) (e:=77) (size:=1) (V1.setCell ⟨g,1,none⟩ (.slice (some ⟨V1.heap.size,0,none⟩) 1 1)) #[.int .u16 5] 1 (by rw [hz];exact PZ.out) (by unfold maxLen;omega) rfl
    rw [hz] at hlit
    have N_BG:=Lib.hid ((BG.out.set1 (.slice (some ⟨V1.heap.size,0,none⟩) 1 1)).alloc (.cells #[.int .u16 5] 77))
    have N_PU:=Lib.hid hlit
    have N_PC:=Lib.hid (owns_below (PC.out.kept GS (.inr HFC.out)) GB)
    have N_PS:=Lib.hid (owns_below (PS.out.kept GS (.inr HFS.out)) GB)
    have N_PR:=Lib.hid ((PR.out.grown GS (by intro h;have:=Option.some.inj h;have:=HG.out;have:=HS.out;omega)).alloc (.cells #[.int .u16 5] 77))
    have hpb:=PB.out.grown GS PB.out.size (fun j hj=>by cases hj;have:=HG.out;have:=HS.out;omega)
    have N_PB:=Lib.hid (hpb.alloc hpb.size (.cells #[.int .u16 5] 77))
    have N_PZ:=Lib.hid (Nat.le_trans (Nat.le_trans PZ.out GS.size) GB.size)
    have N_HFU:=Lib.hid (show (Value.slice (some ⟨V1.heap.size,0,none⟩) 1 1).ownBlock≠some g by intro h;exact absurd (Option.some.inj h) (Nat.ne_of_gt hgs))
    clear BG PC PU PS PR PB PZ HFU
    clear GS GB hgs hz hpb hlit z0 z1 z2 z3 z4 z5 z6 z7 z8
    generalize hA:(V1.setCell ⟨g,1,none⟩ (.slice (some ⟨V1.heap.size,0,none⟩) 1 1)).alloc (.cells #[.int .u16 5] 77)=V2 at *
    clear hA
    generalize V1.heap.size=YU at *
    have BG:=N_BG
    have PC:=N_PC
    have PU:=N_PU
    have PS:=N_PS
    have PR:=N_PR
    have PB:=N_PB
    have PZ:=N_PZ
    have HFU:=N_HFU
    clear N_BG N_PC N_PU N_PS N_PR N_PB N_PZ N_HFU
    obtain ⟨z0,z1,z2,z3,z4,z5,z6,z7,z8⟩:=BG.out
    obtain ⟨t0,t1,t2,t3,t4,t5,t6,t7,t8⟩:=PR.out
    have GR:=grown_sets V2 (w.heap.size+1) (.slice (some ⟨YC,0,none⟩) 1 1) (.slice (some ⟨YU,0,none⟩) 1 1) (.slice q3 LS n3) (.int .i32 EE)
    have hr:=PR.out.sets (.slice (some ⟨YC,0,none⟩) 1 1) (.slice (some ⟨YU,0,none⟩) 1 1) (.slice q3 LS n3) (.int .i32 EE)
    have hbf:=PB.out.grown GR PB.out.size (fun j hj=>by cases hj;omega)
    have rC:=PC.out.kept GR (.inr (owns_far PC.out (m:=w.heap.size+1) (.inl (by have:=HS.out;omega))))
    have rU:=PU.out.kept GR (.inr (owns_far PU.out (m:=w.heap.size+1) (.inl (by have:=HS.out;omega))))
    have rS:=PS.out.kept GR (.inr (owns_far PS.out (m:=w.heap.size+1) (.inl (by have:=HS.out;omega))))
    have HH:=Lib.hid (And.intro hbf (And.intro rC (And.intro rU rS)))
    have HRR:=Lib.hid hr
    clear GR hbf rC rU rS hr
    go_wp2_with fail
    obtain ⟨hbf,rC,rU,rS⟩:=HH.out
    obtain ⟨x0,x1,x2,x3,_,_,_,_,_⟩:=HRR.out
    refine bodyPost_ret (v:=.agg #[(.slice (some ⟨YC,0,none⟩) 1 1),(.slice (some ⟨YU,0,none⟩) 1 1),.slice q3 LS n3,.int .i32 EE]) (by simp [results,Tryz.results11,go_sem,x0,x1,x2,x3]) rfl ?_
    refine ⟨_,_,_,by rw [HE.out.1],?_,?_,?_,hbf⟩
    ·show World.ownsRow _ _ _ _ _ (frC x.chart).length ((frC x.chart).flatMap cc)
     unfold frC
     rw [if_pos (List.length_eq_zero_iff.1 HL.out.1)]
     exact owns_mono rC (by have:=HS.out;omega)
    ·show World.ownsRow _ _ _ _ _ (frU x.units).length ((frU x.units).flatMap uc)
     unfold frU
     rw [if_pos (List.length_eq_zero_iff.1 HL.out.2.1)]
     exact owns_mono rU (by have:=HS.out;omega)
    ·rw [HE.out.2,HL.out.2.2]
     exact owns_mono rS (by have:=HS.out;omega)
   ·skip
    have eU:((LU:Int) == 0)=false:=by simp;omega
    have eU2:¬ LU=0:=by omega
    go_upto_region 6 with fail
    obtain ⟨t0,t1,t2,t3,t4,t5,t6,t7,t8⟩:=PR.out
    have GR:=grown_sets V1 (w.heap.size+1) (.slice (some ⟨YC,0,none⟩) 1 1) (.slice q2 LU n2) (.slice q3 LS n3) (.int .i32 EE)
    have hr:=PR.out.sets (.slice (some ⟨YC,0,none⟩) 1 1) (.slice q2 LU n2) (.slice q3 LS n3) (.int .i32 EE)
    have hbf:=PB.out.grown GR PB.out.size (fun j hj=>by cases hj;omega)
    have rC:=PC.out.kept GR (.inr (owns_far PC.out (m:=w.heap.size+1) (.inl (by have:=HS.out;omega))))
    have rU:=PU.out.kept GR (.inr (owns_far PU.out (m:=w.heap.size+1) (.inl (by have:=HS.out;omega))))
    have rS:=PS.out.kept GR (.inr (owns_far PS.out (m:=w.heap.size+1) (.inl (by have:=HS.out;omega))))
    have HH:=Lib.hid (And.intro hbf (And.intro rC (And.intro rU rS)))
    have HRR:=Lib.hid hr
    clear GR hbf rC rU rS hr
    go_wp2_with fail
    obtain ⟨hbf,rC,rU,rS⟩:=HH.out
    obtain ⟨x0,x1,x2,x3,_,_,_,_,_⟩:=HRR.out
    refine bodyPost_ret (v:=.agg #[(.slice (some ⟨YC,0,none⟩) 1 1),(.slice q2 LU n2),.slice q3 LS n3,.int .i32 EE]) (by simp [results,Tryz.results11,go_sem,x0,x1,x2,x3]) rfl ?_
    refine ⟨_,_,_,by rw [HE.out.1],?_,?_,?_,hbf⟩
    ·show World.ownsRow _ _ _ _ _ (frC x.chart).length ((frC x.chart).flatMap cc)
     unfold frC
     rw [if_pos (List.length_eq_zero_iff.1 HL.out.1)]
     exact owns_mono rC (by have:=HS.out;omega)
    ·show World.ownsRow _ _ _ _ _ (frU x.units).length ((frU x.units).flatMap uc)
     unfold frU
     rw [if_neg (fun h=>eU2 (by rw [← HL.out.2.1,h];rfl)),HL.out.2.1]
     exact owns_mono rU (by have:=HS.out;omega)
    ·rw [HE.out.2,HL.out.2.2]
     exact owns_mono rS (by have:=HS.out;omega)
  ·skip
   have eC:((LC:Int) == 0)=false:=by simp;omega
   have eC2:¬ LC=0:=by omega
   go_upto_region 4 with fail
   rcases Nat.eq_zero_or_pos LU with hu0 | hu0
   ·subst hu0
    go_upto_region 6 with fail
    have GS:World.grownBy V0 (V0.setCell ⟨g,1,none⟩ (.slice (some ⟨V0.heap.size,0,none⟩) 1 1)) (some g):=grownBy_set V0 ⟨g,1,none⟩ (.slice (some ⟨V0.heap.size,0,none⟩) 1 1)
    have hz:(V0.setCell ⟨g,1,none⟩ (.slice (some ⟨V0.heap.size,0,none⟩) 1 1)).heap.size=V0.heap.size:=by simp
    have GB:=(Below.refl (V0.setCell ⟨g,1,none⟩ (.slice (some ⟨V0.heap.size,0,none⟩) 1 1)).heap.size (V0.setCell ⟨g,1,none⟩ (.slice (some ⟨V0.heap.size,0,none⟩) 1 1))).alloc (Nat.le_refl _) (.cells #[.int .u16 5] 77)
    have hgs:g<V0.heap.size:=BG.out.size
    have hlit:=World.ownsRow_lit (base:=W.heap.size) (e:=77) (size:=1) (V0.setCell ⟨g,1,none⟩ (.slice (some ⟨V0.heap.size,0,none⟩) 1 1)) #[.int .u16 5] 1 (by rw [hz];exact PZ.out) (by unfold maxLen;omega) rfl
    rw [hz] at hlit
    have N_BG:=Lib.hid ((BG.out.set1 (.slice (some ⟨V0.heap.size,0,none⟩) 1 1)).alloc (.cells #[.int .u16 5] 77))
    have N_PU:=Lib.hid hlit
    have N_PC:=Lib.hid (owns_below (PC.out.kept GS (.inr HFC.out)) GB)
    have N_PS:=Lib.hid (owns_below (PS.out.kept GS (.inr HFS.out)) GB)
    have N_PR:=Lib.hid ((PR.out.grown GS (by intro h;have:=Option.some.inj h;have:=HG.out;have:=HS.out;omega)).alloc (.cells #[.int .u16 5] 77))
    have hpb:=PB.out.grown GS PB.out.size (fun j hj=>by cases hj;have:=HG.out;have:=HS.out;omega)
    have N_PB:=Lib.hid (hpb.alloc hpb.size (.cells #[.int .u16 5] 77))
    have N_PZ:=Lib.hid (Nat.le_trans (Nat.le_trans PZ.out GS.size) GB.size)
    have N_HFU:=Lib.hid (show (Value.slice (some ⟨V0.heap.size,0,none⟩) 1 1).ownBlock≠some g by intro h;exact absurd (Option.some.inj h) (Nat.ne_of_gt hgs))
    clear BG PC PU PS PR PB PZ HFU
    clear GS GB hgs hz hpb hlit z0 z1 z2 z3 z4 z5 z6 z7 z8
    generalize hA:(V0.setCell ⟨g,1,none⟩ (.slice (some ⟨V0.heap.size,0,none⟩) 1 1)).alloc (.cells #[.int .u16 5] 77)=V2 at *
    clear hA
    generalize V0.heap.size=YU at *
    have BG:=N_BG
    have PC:=N_PC
    have PU:=N_PU
    have PS:=N_PS
    have PR:=N_PR
    have PB:=N_PB
    have PZ:=N_PZ
    have HFU:=N_HFU
    clear N_BG N_PC N_PU N_PS N_PR N_PB N_PZ N_HFU
    obtain ⟨z0,z1,z2,z3,z4,z5,z6,z7,z8⟩:=BG.out
    obtain ⟨t0,t1,t2,t3,t4,t5,t6,t7,t8⟩:=PR.out
    have GR:=grown_sets V2 (w.heap.size+1) (.slice q1 LC n1) (.slice (some ⟨YU,0,none⟩) 1 1) (.slice q3 LS n3) (.int .i32 EE)
    have hr:=PR.out.sets (.slice q1 LC n1) (.slice (some ⟨YU,0,none⟩) 1 1) (.slice q3 LS n3) (.int .i32 EE)
    have hbf:=PB.out.grown GR PB.out.size (fun j hj=>by cases hj;omega)
    have rC:=PC.out.kept GR (.inr (owns_far PC.out (m:=w.heap.size+1) (.inl (by have:=HS.out;omega))))
    have rU:=PU.out.kept GR (.inr (owns_far PU.out (m:=w.heap.size+1) (.inl (by have:=HS.out;omega))))
    have rS:=PS.out.kept GR (.inr (owns_far PS.out (m:=w.heap.size+1) (.inl (by have:=HS.out;omega))))
    have HH:=Lib.hid (And.intro hbf (And.intro rC (And.intro rU rS)))
    have HRR:=Lib.hid hr
    clear GR hbf rC rU rS hr
    go_wp2_with fail
    obtain ⟨hbf,rC,rU,rS⟩:=HH.out
    obtain ⟨x0,x1,x2,x3,_,_,_,_,_⟩:=HRR.out
    refine bodyPost_ret (v:=.agg #[(.slice q1 LC n1),(.slice (some ⟨YU,0,none⟩) 1 1),.slice q3 LS n3,.int .i32 EE]) (by simp [results,Tryz.results11,go_sem,x0,x1,x2,x3]) rfl ?_
    refine ⟨_,_,_,by rw [HE.out.1],?_,?_,?_,hbf⟩
    ·show World.ownsRow _ _ _ _ _ (frC x.chart).length ((frC x.chart).flatMap cc)
     unfold frC
     rw [if_neg (fun h=>eC2 (by rw [← HL.out.1,h];rfl)),HL.out.1]
     exact owns_mono rC (by have:=HS.out;omega)
    ·show World.ownsRow _ _ _ _ _ (frU x.units).length ((frU x.units).flatMap uc)
     unfold frU
     rw [if_pos (List.length_eq_zero_iff.1 HL.out.2.1)]
     exact owns_mono rU (by have:=HS.out;omega)
    ·rw [HE.out.2,HL.out.2.2]
     exact owns_mono rS (by have:=HS.out;omega)
   ·skip
    have eU:((LU:Int) == 0)=false:=by simp;omega
    have eU2:¬ LU=0:=by omega
    go_upto_region 6 with fail
    obtain ⟨t0,t1,t2,t3,t4,t5,t6,t7,t8⟩:=PR.out
    have GR:=grown_sets V0 (w.heap.size+1) (.slice q1 LC n1) (.slice q2 LU n2) (.slice q3 LS n3) (.int .i32 EE)
    have hr:=PR.out.sets (.slice q1 LC n1) (.slice q2 LU n2) (.slice q3 LS n3) (.int .i32 EE)
    have hbf:=PB.out.grown GR PB.out.size (fun j hj=>by cases hj;omega)
    have rC:=PC.out.kept GR (.inr (owns_far PC.out (m:=w.heap.size+1) (.inl (by have:=HS.out;omega))))
    have rU:=PU.out.kept GR (.inr (owns_far PU.out (m:=w.heap.size+1) (.inl (by have:=HS.out;omega))))
    have rS:=PS.out.kept GR (.inr (owns_far PS.out (m:=w.heap.size+1) (.inl (by have:=HS.out;omega))))
    have HH:=Lib.hid (And.intro hbf (And.intro rC (And.intro rU rS)))
    have HRR:=Lib.hid hr
    clear GR hbf rC rU rS hr
    go_wp2_with fail
    obtain ⟨hbf,rC,rU,rS⟩:=HH.out
    obtain ⟨x0,x1,x2,x3,_,_,_,_,_⟩:=HRR.out
    refine bodyPost_ret (v:=.agg #[(.slice q1 LC n1),(.slice q2 LU n2),.slice q3 LS n3,.int .i32 EE]) (by simp [results,Tryz.results11,go_sem,x0,x1,x2,x3]) rfl ?_
    refine ⟨_,_,_,by rw [HE.out.1],?_,?_,?_,hbf⟩
    ·show World.ownsRow _ _ _ _ _ (frC x.chart).length ((frC x.chart).flatMap cc)
     unfold frC
     rw [if_neg (fun h=>eC2 (by rw [← HL.out.1,h];rfl)),HL.out.1]
     exact owns_mono rC (by have:=HS.out;omega)
    ·show World.ownsRow _ _ _ _ _ (frU x.units).length ((frU x.units).flatMap uc)
     unfold frU
     rw [if_neg (fun h=>eU2 (by rw [← HL.out.2.1,h];rfl)),HL.out.2.1]
     exact owns_mono rU (by have:=HS.out;omega)
    ·rw [HE.out.2,HL.out.2.2]
     exact owns_mono rS (by have:=HS.out;omega)
structure JOwn (base:Nat) (w:World) (vJ:Value) (vs:List Jm):Prop where
 row:w.ownsRow base 73 2 vJ vs.length (vs.flatMap jc)
 lines:∀ p ∈ vs,w.ownsRow base 125 4 p.2.1 p.2.2.length (p.2.2.flatMap lc)
theorem JOwn.below {base:Nat} {w w':World} {vJ:Value} {vs:List Jm} (h:JOwn base w vJ vs) (hb:Below w.heap.size w w'):JOwn base w' vJ vs:=⟨owns_below h.row hb,fun p hp=>owns_below (h.lines p hp) hb⟩
theorem JOwn.far {base:Nat} {w w':World} {vJ:Value} {vs:List Jm} (h:JOwn base w vJ vs) {m:Nat} (hg:w.grownBy w' (some m)) (hm:m<base):JOwn base w' vJ vs :=
 ⟨h.row.kept hg (.inr fun e=>by have:=h.row.lt m e;omega),fun p hp=>(h.lines p hp).kept hg (.inr fun e=>by have:=(h.lines p hp).lt m e;omega)⟩
theorem JOwn.mono {base base':Nat} {w:World} {vJ:Value} {vs:List Jm} (h:JOwn base w vJ vs) (hb:base'≤base):JOwn base' w vJ vs:=⟨owns_mono h.row hb,fun p hp=>owns_mono (h.lines p hp) hb⟩
theorem JOwn.jrow {base:Nat} {w:World} {vJ:Value} {vs:List Jm} (h:JOwn base w vJ vs) (hl:vs.length≤1000) (hl2:∀ p ∈ vs,p.2.2.length≤1000):JRow w vJ vs :=
 ⟨recs_of_owns jc_len h.row rfl (by omega),fun p hp=>recs_of_owns lc_len (h.lines p hp) rfl (by have:=hl2 p hp;omega)⟩
abbrev Jp:=Jn × Value
def jnc (p:Jp):List Value:=[.int .u8 (p.1.later:Int),p.2]
theorem jnc_len (p:Jp):(jnc p).length=2:=rfl
structure BkM (x:Bk) (vCh vUn vLo vJs:Value) (js:List Jp) (w:World):Prop where
 ch:Recs qc 4 w vCh x.chart
 un:Recs uc 1 w vUn x.units
 lo:Recs u8c 1 w vLo x.long
 jr:Recs jnc 2 w vJs js
 jl:∀ p ∈ js,Recs smc 4 w p.2 p.1.lines
 je:x.journals=js.map (·.1)
theorem BkM.stay {x:Bk} {vCh vUn vLo vJs:Value} {js:List Jp} {w w':World} (h:BkM x vCh vUn vLo vJs js w) (hb:Below w.heap.size w w'):BkM x vCh vUn vLo vJs js w' :=
 ⟨h.ch.stay hb,h.un.stay hb,h.lo.stay hb,h.jr.stay hb,fun p hp=>(h.jl p hp).stay hb,h.je⟩
theorem JOwn.push {base:Nat} {w w':World} {vJ v':Value} {vs:List Jm} {d:Int} {vL:Value} {ls:List Ln} (h:JOwn base w vJ vs) (hL:w.ownsRow base 125 4 vL ls.length (ls.flatMap lc)) (hg:w.grownBy w' vJ.ownBlock)
 (ho:w'.ownsRow base 73 2 v' (vs.length+1) (vs.flatMap jc ++ [.int .i32 d,vL])):JOwn base w' v' (vs ++ [(d,vL,ls)]):=by
 refine ⟨?_,fun p hp=>?_⟩
 ·rw [List.length_append,flat_snoc]
  exact ho
 ·rcases List.mem_append.1 hp with h1 | h1
  ·exact (h.lines p h1).kept hg (owns_apart (h.lines p h1) h.row (by decide))
  ·simp at h1
   subst h1
   exact hL.kept hg (owns_apart hL h.row (by decide))
def lightB (x:Bk):Bool:=x.journals.all (fun j=>decide (j.lines.length≤8)) && (decide (x.chart.length≤20) && (decide (x.units.length≤8) && (decide (x.long.length≤8) && decide (x.journals.length≤12))))
theorem light_c (x:Bk) (vCh vUn vLo vJs:Value) (js:List Jp) (w:World) (hM:BkM x vCh vUn vLo vJs js w) :
 Calls Tryz.prog 10 #[bV vCh vUn x.first vLo vJs] w fun e w'=>e = .returned (.bool (lightB x))∧Below w.heap.size w w':=by
 have HM:=Lib.hid hM
 obtain ⟨r1,c1,rfl,m1⟩:=hM.ch.form
 obtain ⟨r2,c2,rfl,m2⟩:=hM.un.form
 obtain ⟨r3,c3,rfl,m3⟩:=hM.lo.form
 obtain ⟨rJ,cJ,rfl,mJ⟩:=hM.jr.form
 have hjl:x.journals.length=js.length:=by rw [hM.je,List.length_map]
 have hje:=Lib.hid hM.je
 obtain ⟨R,hR⟩:∃ R,lightB x=R:=⟨_,rfl⟩
 have HR:Hid (R=(x.journals.all (fun j=>decide (j.lines.length≤8)) && (decide (x.chart.length≤20) && (decide (x.units.length≤8) && (decide (x.long.length≤8) && decide (x.journals.length≤12)))))):=Lib.hid hR.symm
 rw [hR]
 unfold bV
 obtain ⟨L1,hL1⟩:∃ n,x.chart.length=n:=⟨_,rfl⟩
 obtain ⟨L2,hL2⟩:∃ n,x.units.length=n:=⟨_,rfl⟩
 obtain ⟨L3,hL3⟩:∃ n,x.long.length=n:=⟨_,rfl⟩
 obtain ⟨L,hL⟩:∃ n,js.length=n:=⟨_,rfl⟩
 have HL:=Lib.hid hL
 rw [hL1,hL2,hL3,hjl,hL] at HR
 rw [hL1] at HM m1 ⊢
 rw [hL2] at HM m2 ⊢
 rw [hL3] at HM m3 ⊢
 rw [hL] at HM mJ ⊢
 have hb:=(Below.refl w.heap.size w).alloc (Nat.le_refl _) (.cells #[.slice r1 L1 c1,.slice r2 L2 c2,.int .i16 x.first,.slice r3 L3 c3,.slice rJ L cJ] 28)
 have bx:=HBox.new w [.slice r1 L1 c1,.slice r2 L2 c2,.int .i16 x.first,.slice r3 L3 c3,.slice rJ L cJ] 28
 change HBox (w.alloc (.cells #[.slice r1 L1 c1,.slice r2 L2 c2,.int .i16 x.first,.slice r3 L3 c3,.slice rJ L cJ] 28)) _ _ _ at bx
 have HX:=Lib.hid bx
 have HB:=Lib.hid hb
 have x4:=bx.cell (j:=4) rfl
 clear hM hR hL hL1 hL2 hL3 hjl hb bx
 go_enter Tryz.func10,Tryz.ntmps10
 go_upto_region 1 with fail
 generalize w.alloc (.cells #[.slice r1 L1 c1,.slice r2 L2 c2,.int .i16 x.first,.slice r3 L3 c3,.slice rJ L cJ] 28)=W at *
 go_wp2_with fail
 clear x4
 go_loopw [8] (fun i wr=>∃ k:Nat,i = .int .i64 k∧k≤L∧Hid ((x.journals.take k).all (fun j=>decide (j.lines.length≤8))=true)∧Hid (Below w.heap.size w wr)∧Hid (HBox wr w.heap.size [.slice r1 L1 c1,.slice r2 L2 c2,.int .i16 x.first,.slice r3 L3 c3,.slice rJ L cJ] 28)) (fun i _=>L-(intOf i).toNat)
 case atStart=>exact ⟨0,rfl,Nat.zero_le _,Lib.hid rfl,HB,HX⟩
 case round =>
  clear HB HX
  obtain ⟨k,rfl,hk,HA,HB,HX⟩:=hrel
  rename World=>wr
  by_cases hlt:k<L
  ·obtain ⟨⟨j,vl⟩,hp⟩:∃ p,js[k]?=some p:=⟨js[k]'(by have:=HL.out;omega),List.getElem?_eq_getElem (by have:=HL.out;omega)⟩
   have hxj:x.journals[k]?=some j:=by rw [hje.out,List.getElem?_map,hp];rfl
   have hjl:=(HM.out.stay HB.out).jl _ (List.mem_of_getElem? hp)
   obtain ⟨rl,cl,e,hml⟩:=hjl.form
   simp only at e hjl hml
   subst e
   obtain ⟨gJ,oJ,rfl,hgJ,hcJ⟩:=(HM.out.stay HB.out).jr.at hp
   have y0:=hcJ 0 (.int .u8 (j.later:Int)) rfl
   have y1:=hcJ 1 (.slice rl j.lines.length cl) rfl
   simp only [Nat.add_zero] at y0
   have HXJ:=Lib.hid hxj
   obtain ⟨N,hN⟩:∃ N,j.lines.length=N:=⟨_,rfl⟩
   rw [hN] at y1 hml
   have HN:=Lib.hid hN
   have HX2:=Lib.hid (HX.out.alloc (.cells #[.int .u8 (j.later:Int),.slice rl N cl] 88))
   have HB2:=Lib.hid (HB.out.alloc HB.out.size (.cells #[.int .u8 (j.later:Int),.slice rl N cl] 88))
   clear hcJ hp hxj hjl hN
   by_cases h8:N≤8
   ·have e1:¬ (8:Int)<(N:Int):=by omega
    go_wp2
    go_roundw
    case rel=>exact ⟨k+1,by go_num,by omega,Lib.hid (by rw [List.take_add_one,HXJ.out];simp only [List.all_append,HA.out,Option.toList,List.all_cons,List.all_nil,HN.out,Bool.and_true,Bool.true_and];exact decide_eq_true h8),HB2,HX2⟩
    case measure=>simp [intOf];omega
   ·have e1:(8:Int)<(N:Int):=by omega
    have hr:R=false:=by
     rw [HR.out]
     have:x.journals.all (fun j=>decide (j.lines.length≤8))=false:=by
      rw [List.all_eq_false]
      exact ⟨j,List.mem_of_getElem? HXJ.out,by simp [HN.out];omega⟩
     rw [this];rfl
    subst hr
    go_wp2
    go_ret
    exact ⟨rfl,HB2.out⟩
  ·obtain rfl:k=L:=by omega
   have hall:x.journals.all (fun j=>decide (j.lines.length≤8))=true:=by
    have:=HA.out
    rwa [List.take_of_length_le (by rw [hje.out,List.length_map,HL.out];exact Nat.le_refl _)] at this
   have HR2:Hid (R=(decide (L1≤20) && (decide (L2≤8) && (decide (L3≤8) && decide (k≤12))))):=Lib.hid (by rw [HR.out,hall];rfl)
   have x0:=HX.out.cell (j:=0) rfl
   have x1:=HX.out.cell (j:=1) rfl
   have x3:=HX.out.cell (j:=3) rfl
   have x4:=HX.out.cell (j:=4) rfl
   clear hall HR HA
   by_cases d1:L1≤20
   ·have e1:decide ((L1:Int)≤20)=true:=decide_eq_true (by omega)
    by_cases d2:L2≤8
    ·have e2:decide ((L2:Int)≤8)=true:=decide_eq_true (by omega)
     by_cases d3:L3≤8
     ·have e3:decide ((L3:Int)≤8)=true:=decide_eq_true (by omega)
      by_cases d4:k≤12
      ·have e4:decide ((k:Int)≤12)=true:=decide_eq_true (by omega)
       obtain rfl:R=true:=by rw [HR2.out];simp [d1,d2,d3,d4]
       go_wp2
       go_ret
       exact ⟨by simp,HB.out⟩
      ·have e4:decide ((k:Int)≤12)=false:=decide_eq_false (by omega)
       obtain rfl:R=false:=by rw [HR2.out];simp [d4]
       go_wp2
       go_ret
       exact ⟨by simp,HB.out⟩
     ·have e3:decide ((L3:Int)≤8)=false:=decide_eq_false (by omega)
      obtain rfl:R=false:=by rw [HR2.out];simp [d3]
      go_wp2
      go_ret
      exact ⟨by simp,HB.out⟩
    ·have e2:decide ((L2:Int)≤8)=false:=decide_eq_false (by omega)
     obtain rfl:R=false:=by rw [HR2.out];simp [d2]
     go_wp2
     go_ret
     exact ⟨by simp,HB.out⟩
   ·have e1:decide ((L1:Int)≤20)=false:=decide_eq_false (by omega)
    obtain rfl:R=false:=by rw [HR2.out];simp [d1]
    go_wp2
    go_ret
    exact ⟨by simp,HB.out⟩
theorem frB_lens (x:Bk):(frB x).C.length≤40∧(frB x).U.length≤9∧(frB x).S.length≤13∧1≤(frB x).S.length:=⟨(frC_made x.chart).2.1,(frU_ok x.units).2.2.1,(mkS_lens x.first x.long).2,(mkS_lens x.first x.long).1⟩
theorem frM_owns {x:Bk} {base:Nat} {vC vU vS:Value} {w:World} (h1:w.ownsRow base 82 4 vC (frB x).C.length ((frB x).C.flatMap cc)) (h2:w.ownsRow base 77 1 vU (frB x).U.length ((frB x).U.flatMap uc)) (h3:w.ownsRow base 37 1 vS (frB x).S.length ((frB x).S.flatMap dcl)):FrM (frB x) vC vU vS w:=by
 obtain ⟨a,b,c,_⟩:=frB_lens x
 exact ⟨recs_of_owns cc_len h1 rfl (by omega),recs_of_owns uc_len h2 rfl (by omega),recs_of_owns dcl_len h3 rfl (by omega)⟩
structure MadeM (x:Bk) (w:World) (vC vU vS vJ:Value) (vs:List Jm):Prop where
 fr:FrM (frB x) vC vU vS w
 jr:JRow w vJ vs
 js:vs.map jOf=makeJ x
theorem MadeM.stay {x:Bk} {w w':World} {vC vU vS vJ:Value} {vs:List Jm} (h:MadeM x w vC vU vS vJ vs) (hb:Below w.heap.size w w'):MadeM x w' vC vU vS vJ vs:=⟨h.fr.stay hb,h.jr.stay hb,h.js⟩
theorem linesB_len {C:List Ac} {U:List Nat} {xs:List Sm}:(linesB C U xs).length≤xs.length+U.length:=by
 unfold linesB
 have:=pads_len C U (sumZ (xs.map (lnA C U))) U.length
 rw [List.length_append,List.length_map]
 omega
theorem stJ_lens (x:Bk) (h8:∀ j ∈ x.journals,j.lines.length≤8):∀ k,k≤x.journals.length → ∀ p ∈ (stJ x k).2,p.2.length≤17
 | 0,_,p,hp=>by simp [stJ] at hp
 | k+1,hk,p,hp=>by
  have hx:=List.getElem?_eq_getElem (l:=x.journals) (i:=k) (by omega)
  rw [stJ_step hx] at hp
  unfold stepJ at hp
  have hj8:=h8 _ (List.getElem_mem (by omega:k<x.journals.length))
  split at hp
  ·exact stJ_lens x h8 k (by omega) p hp
  ·rcases List.mem_append.1 hp with h | h
   ·exact stJ_lens x h8 k (by omega) p h
   ·simp at h
    subst h
    have:=linesB_len (C:=(frB x).C) (U:=(frB x).U) (xs:=(x.journals[k]'(by omega)).lines)
    have:=(frB_lens x).2.1
    show (linesB _ _ _).length≤17
    omega
theorem made_lens {x:Bk} {vs:List Jm} (h8:∀ j ∈ x.journals,j.lines.length≤8) (hl:x.journals.length≤100) (h:vs.map jOf=makeJ x):vs.length≤x.journals.length ∧ ∀ p ∈ vs,p.2.2.length≤17 ∧ -2147483648≤p.1∧p.1≤2147483647:=by
 obtain ⟨_,b,c,d⟩:=stJ_ok x h8 x.journals.length (Nat.le_refl _)
 have hE:=mkE_le x.first x.long
 have hf:=x.hf
 obtain ⟨a,_⟩:=stJ_ok x h8 x.journals.length (Nat.le_refl _)
 refine ⟨?_,fun p hp=>?_⟩
 ·have e:vs.length=(makeJ x).length:=by rw [← h,List.length_map]
  rw [e];exact d
 ·have hm:jOf p ∈ makeJ x:=by rw [← h];exact List.mem_map.2 ⟨p,hp,rfl⟩
  have h1:=b _ hm
  have h2:=stJ_lens x h8 x.journals.length (Nat.le_refl _) _ hm
  have hp1:=h1.1.per
  have h3:(jOf p).1=p.1:=rfl
  have h4:(jOf p).2.length=p.2.2.length:=rfl
  have h5:(frB x).E=mkE x.first x.long:=rfl
  rw [h3] at h1 hp1
  rw [h4] at h2
  refine ⟨h2,?_,?_⟩
  ·unfold perI at hp1
   split at hp1
   ·rename_i hc
    have hS0:0<cntD (frB x).S p.1:=hc.2
    obtain ⟨s0,hs0⟩:∃ s,(frB x).S[0]?=some s:=⟨_,mkS_head x.first x.long⟩
    have:=(cnt_iff (d:=p.1) (mkS_rise x.first x.long) hs0).2 hS0
    have:=mkS_mem (List.mem_of_getElem? hs0)
    omega
   ·omega
  ·omega
theorem JOwn.made {x:Bk} {base:Nat} {w:World} {vC vU vS vJ:Value} {vs:List Jm} (h8:∀ j ∈ x.journals,j.lines.length≤8) (hl:x.journals.length≤100) (h1:w.ownsRow base 82 4 vC (frB x).C.length ((frB x).C.flatMap cc)) (h2:w.ownsRow base 77 1 vU (frB x).U.length ((frB x).U.flatMap uc)) (h3:w.ownsRow base 37 1 vS (frB x).S.length ((frB x).S.flatMap dcl)) (hJ:JOwn base w vJ vs) (hm:vs.map jOf=makeJ x):MadeM x w vC vU vS vJ vs:=by
 obtain ⟨a,b⟩:=made_lens h8 hl hm
 exact ⟨frM_owns h1 h2 h3,hJ.jrow (by omega) (fun p hp=>by have:=b p hp;omega),hm⟩
theorem BookC.made {I:World→Prop} (B:BookC I) {x:Bk} {w:World} {vC vU vS vJ:Value} {vs:List Jm} (hI:I w) (hM:MadeM x w vC vU vS vJ vs) (h8:∀ j ∈ x.journals,j.lines.length≤8) (hl:x.journals.length≤100) :
 Calls Tryz.prog 215 #[bkV vC vU vS (frB x).E vJ] w fun e w'=>e = .returned (.int .i64 0)∧Below w.heap.size w w':=by
 obtain ⟨a,b⟩:=made_lens h8 hl hM.js
 have:=B.check vC vU vS vJ (frB x) vs w hI hM.fr (frB_in x) hM.jr (by omega) (fun p hp=>by have:=b p hp;omega)
 rw [hM.js,made_ok x h8 (by omega)] at this
 exact this
def MkB (x:Bk) (w:World) (v:Value):Prop:=∃ (vC vU vS vJ:Value) (vs:List Jm),v=bkV vC vU vS (frB x).E vJ∧MadeM x w vC vU vS vJ vs
theorem MkB.stay {x:Bk} {w w':World} {v:Value} (h:MkB x w v) (hb:Below w.heap.size w w'):MkB x w' v:=by
 obtain ⟨vC,vU,vS,vJ,vs,e,hM⟩:=h
 exact ⟨vC,vU,vS,vJ,vs,e,hM.stay hb⟩

/- The walk of law CodecApart. -/
import Derived.Test.YtmpefjnfelfnfaaGreatDoorChall
import Derived.Test.YtmpefjnfelfnfaaGreatDoorXvx
import Derived.Test.YtmpefjnfelfnfaaGreatDoorGall
import Derived.Test.YtmpefjnfelfnfaaGreatDoorNall
import Derived.Test.YtmpefjnfelfnfaaGreatDoorJall
import Derived.Test.YtmpefjnfelfnfaaGreatDoorIall
import Derived.Test.YtmpefjnfelfnfaaGreatDoorUall
import Derived.Test.YtmpefjnfelfnfaaGreatDoorVpk
import Derived.Test.YtmpefjnfelfnfaaGreatDoorKall
import Derived.Test.YtmpefjnfelfnfaaGreatDoorPall
namespace Go.Proofs.YtmpefjnfelfnfaaGreatDoor
open Go.RowKit
set_option linter.unusedVariables false
set_option linter.unusedSimpArgs false
/-- What holds of the values by which law CodecApart answers. -/
def R11a (EA EB : List Nat) (ba bb : Value) (AB : Bool) : Nat → Value → World → Prop
  | 0, v, _ => v = ba
  | 1, v, w => Recs byc 1 w v EA
  | 2, v, _ => v = bb
  | 3, v, w => Recs byc 1 w v EB
  | 4, v, _ => v = .bool AB
  | 5, v, _ => v = ba
  | 6, v, _ => v = bb
  | 7, v, _ => v = .bool AB
  | _, v, _ => v = .bool true
theorem R11a.stay {EA EB : List Nat} {ba bb : Value} {AB : Bool} {w w' : World} (hb : Below w.heap.size w w') : ∀ j u, R11a EA EB ba bb AB j u w → R11a EA EB ba bb AB j u w'
  | 0, _, h => h
  | 1, _, h => Recs.stay h hb
  | 2, _, h => h
  | 3, _, h => Recs.stay h hb
  | 4, _, h => h
  | 5, _, h => h
  | 6, _, h => h
  | 7, _, h => h
  | _ + 8, _, h => h
set_option maxHeartbeats 8000000 in
set_option maxRecDepth 100000 in
theorem codecapart_any {I : World → Prop} (C : AllotC) (D : DayC I) (K : KeyC I) (U : UnitC) (LC : CalC I) (EC : EntryC I) (B : BookC I) (CO : CodecC I) (x : Bk) (vCh vUn vLo vJs : Value) (js : List Jp) (y : Bk) (yCh yUn yLo yJs : Value) (jy : List Jp) (wh at_ : Nat) (by_ : Int) (own : Bool) (w : World) (hI : I w) (hM : BkM x vCh vUn vLo vJs js w) (hN : BkM y yCh yUn yLo yJs jy w) (hwh : wh < 256) (hat : at_ < 256) (hby : -9223372036854775808 ≤ by_ ∧ by_ ≤ 9223372036854775807) :
    Calls Tryz.prog 6 #[bV vCh vUn x.first vLo vJs, bV yCh yUn y.first yLo yJs, .int .u8 (wh : Int), .int .u8 (at_ : Int), .int .i64 by_, .bool own] w fun e w' => e = .returned (.bool true) ∧ Below w.heap.size w w' := by
  have hmix : Tryz.prog.follows .mixedOrders = true := by kernel_rfl
  obtain ⟨q1, d1, rfl, _⟩ := hM.ch.form
  obtain ⟨q2, d2, rfl, _⟩ := hM.un.form
  obtain ⟨q3, d3, rfl, _⟩ := hM.lo.form
  obtain ⟨q4, d4, rfl, _⟩ := hM.jr.form
  obtain ⟨vCh, hvCh⟩ : ∃ v, Value.slice q1 x.chart.length d1 = v := ⟨_, rfl⟩
  obtain ⟨vUn, hvUn⟩ : ∃ v, Value.slice q2 x.units.length d2 = v := ⟨_, rfl⟩
  obtain ⟨vLo, hvLo⟩ : ∃ v, Value.slice q3 x.long.length d3 = v := ⟨_, rfl⟩
  obtain ⟨vJs, hvJs⟩ : ∃ v, Value.slice q4 js.length d4 = v := ⟨_, rfl⟩
  rw [hvCh, hvUn, hvLo, hvJs] at hM ⊢
  clear hvCh hvUn hvLo hvJs
  obtain ⟨e1, f1, rfl, _⟩ := hN.ch.form
  obtain ⟨e2, f2, rfl, _⟩ := hN.un.form
  obtain ⟨e3, f3, rfl, _⟩ := hN.lo.form
  obtain ⟨e4, f4, rfl, _⟩ := hN.jr.form
  obtain ⟨yCh, hvCh⟩ : ∃ v, Value.slice e1 y.chart.length f1 = v := ⟨_, rfl⟩
  obtain ⟨yUn, hvUn⟩ : ∃ v, Value.slice e2 y.units.length f2 = v := ⟨_, rfl⟩
  obtain ⟨yLo, hvLo⟩ : ∃ v, Value.slice e3 y.long.length f3 = v := ⟨_, rfl⟩
  obtain ⟨yJs, hvJs⟩ : ∃ v, Value.slice e4 jy.length f4 = v := ⟨_, rfl⟩
  rw [hvCh, hvUn, hvLo, hvJs] at hN ⊢
  clear hvCh hvUn hvLo hvJs
  have HBC := Lib.hid B
  have HCO := Lib.hid CO
  have HDY := Lib.hid D
  have HI := Lib.hid hI
  have KA := Lib.hid (fun (w' : World) (h : Below w.heap.size w w') => awake11_any C D K U LC EC B CO w' (D.stay hI h))
  have KLX := Lib.hid (fun (w' : World) (h : Below w.heap.size w w') => light_c x vCh vUn vLo vJs js w' (hM.stay h))
  have KLY := Lib.hid (fun (w' : World) (h : Below w.heap.size w w') => light_c y yCh yUn yLo yJs jy w' (hN.stay h))
  have KM0 := Lib.hid (fun (hT : lightB x = true) (w' : World) (h : Below w.heap.size w w') => mkO_c x vCh vUn vLo vJs js w' (hM.stay h) hT)
  have KN0 := Lib.hid (fun (hT : lightB y = true) (w' : World) (h : Below w.heap.size w w') => mkO_c y yCh yUn yLo yJs jy w' (hN.stay h) hT)
  obtain ⟨LX, hLX⟩ : ∃ b, lightB x = b := ⟨_, rfl⟩
  obtain ⟨LY, hLY⟩ : ∃ b, lightB y = b := ⟨_, rfl⟩
  have HLX := Lib.hid hLX
  have HLY := Lib.hid hLY
  rw [hLX] at KLX
  rw [hLY] at KLY
  unfold bV at KLX KLY ⊢
  have hs : (w.alloc (.cells #[vCh, vUn, .int .i16 x.first, vLo, vJs] 28)).heap.size = w.heap.size + 1 := by simp
  have hb : Below w.heap.size w ((w.alloc (.cells #[vCh, vUn, .int .i16 x.first, vLo, vJs] 28)).alloc (.cells #[yCh, yUn, .int .i16 y.first, yLo, yJs] 28)) := ((Below.refl _ _).alloc (Nat.le_refl _) _).alloc (by simp) _
  have bx := (HBox.new w [vCh, vUn, .int .i16 x.first, vLo, vJs] 28).alloc (.cells #[yCh, yUn, .int .i16 y.first, yLo, yJs] 28)
  have hy := HBox.new (w.alloc (.cells #[vCh, vUn, .int .i16 x.first, vLo, vJs] 28)) [yCh, yUn, .int .i16 y.first, yLo, yJs] 28
  rw [hs] at hy
  change HBox ((w.alloc (.cells #[vCh, vUn, .int .i16 x.first, vLo, vJs] 28)).alloc (.cells #[yCh, yUn, .int .i16 y.first, yLo, yJs] 28)) _ _ _ at bx
  change HBox ((w.alloc (.cells #[vCh, vUn, .int .i16 x.first, vLo, vJs] 28)).alloc (.cells #[yCh, yUn, .int .i16 y.first, yLo, yJs] 28)) _ _ _ at hy
  clear C D K U LC EC B CO hI hM hN hLX hLY
  go_enter Tryz.func6, Tryz.ntmps6
  go_upto_region 1 with fail
  generalize (w.alloc (.cells #[vCh, vUn, .int .i16 x.first, vLo, vJs] 28)).alloc (.cells #[yCh, yUn, .int .i16 y.first, yLo, yJs] 28) = W at *
  generalize w.heap.size + 1 = Y at *
  generalize hX : w.heap.size = X at bx ⊢
  clear hX hs
  have HX := Lib.hid bx
  have HY := Lib.hid hy
  have HB := Lib.hid hb
  clear bx hy hb
  go_upto_region 3 with (go_at_call 9; refine (KA.out _ HB.out).mono ?_; rintro e w4 ⟨rfl, h4⟩; have HX4 := Lib.hid (HX.out.stay h4); have HY4 := Lib.hid (HY.out.stay h4); have HB4 := Lib.hid (HB.out.trans (h4.mono HB.out.size)); clear h4)
  have x0 := HX4.out.cell (j := 0) rfl
  have x1 := HX4.out.cell (j := 1) rfl
  have x2 := HX4.out.cell (j := 2) rfl
  have x3 := HX4.out.cell (j := 3) rfl
  have x4 := HX4.out.cell (j := 4) rfl
  clear HX HY HB
  cases LX with
  | false =>
    go_wp2_with (go_at_call 10; refine (KLX.out _ HB4.out).mono ?_; rintro e w5 ⟨rfl, h5⟩; have HB5 := Lib.hid (HB4.out.trans (h5.mono HB4.out.size)); clear h5)
    go_ret
    exact ⟨rfl, HB5.out⟩
  | true =>
   cases LY with
   | false =>
    go_wp2_with (first
      | (go_at_call 10; refine (KLY.out _ HB5.out).mono ?_; rintro e w6 ⟨rfl, h6⟩; have HB6 := Lib.hid (HB5.out.trans (h6.mono HB5.out.size)); clear h6)
      | (go_at_call 10; refine (KLX.out _ HB4.out).mono ?_; rintro e w5 ⟨rfl, h5⟩; have HY5 := Lib.hid (HY4.out.stay h5); have y0 := HY5.out.cell (j := 0) rfl; have y1 := HY5.out.cell (j := 1) rfl; have y2 := HY5.out.cell (j := 2) rfl; have y3 := HY5.out.cell (j := 3) rfl; have y4 := HY5.out.cell (j := 4) rfl; have HB5 := Lib.hid (HB4.out.trans (h5.mono HB4.out.size)); clear h5))
    go_ret
    exact ⟨rfl, HB6.out⟩
   | true =>
    have KMX := Lib.hid (KM0.out HLX.out)
    have KMY := Lib.hid (KN0.out HLY.out)
    have HLT := Lib.hid (And.intro HLX.out HLY.out)
    go_upto_region 5 with (first
      | (go_at_call 10; refine (KLY.out _ HB3.out).mono ?_; rintro e W5 ⟨rfl, h6⟩; have HX5 := Lib.hid (HX3.out.stay h6); have HY5 := Lib.hid (HY3.out.stay h6); have HB5 := Lib.hid (HB3.out.trans (h6.mono HB3.out.size)); clear h6)
      | (go_at_call 10; refine (KLX.out _ HB4.out).mono ?_; rintro e w3 ⟨rfl, h5⟩; have HX3 := Lib.hid (HX4.out.stay h5); have HY3 := Lib.hid (HY4.out.stay h5); have y0 := HY3.out.cell (j := 0) rfl; have y1 := HY3.out.cell (j := 1) rfl; have y2 := HY3.out.cell (j := 2) rfl; have y3 := HY3.out.cell (j := 3) rfl; have y4 := HY3.out.cell (j := 4) rfl; have HB3 := Lib.hid (HB4.out.trans (h5.mono HB4.out.size)); clear h5))
    clear x0 x1 x2 x3 x4 y0 y1 y2 y3 y4 HX4 HY4 HB4 HX3 HY3 HB3 KM0 KN0 KLX KLY KA
    refine wp_region_part2 6 (fun w' => Below W5.heap.size W5 w') (RK W5.heap.size x y (.agg #[vCh, vUn, .int .i16 x.first, vLo, vJs]) (.agg #[yCh, yUn, .int .i16 y.first, yLo, yJs])) P45 hmix (by decide) (by kernel_rfl) (by kernel_rfl) (by kernel_rfl) (Below.refl _ _).drew ?_ ?_
    · intro a w' i hi hC hfar hrd
      have hBw : Below w.heap.size w w' := HB5.out.trans (hC.mono HB5.out.size)
      rcases (by omega : i = 0 ∨ i = 1 ∨ i = 2 ∨ i = 3 ∨ i = 4 ∨ i = 5) with rfl | rfl | rfl | rfl | rfl | rfl
      · refine op_load 28 (.tmp 6) (some 25) (by unfold opIs; kernel_rfl) _ (.agg #[vCh, vUn, .int .i16 x.first, vLo, vJs]) ((hfar 6 (by kernel_rfl)).trans (show _ = Value.pointer (some ⟨X, 0, none⟩) by kernel_rfl)) (load_x (HX5.out.stay hC)) ?_
        exact ⟨_, congrArg (fun d => a.put d (.agg #[vCh, vUn, .int .i16 x.first, vLo, vJs])) (by kernel_rfl), hC, rfl, fun j u h => h, p45_no (by omega) _ _ _ _⟩
      · refine op_call (.call { callee := .value (.func 11), args := #[.tmp 25], argTypes := #[28] }) (some 26) (by unfold opIs; kernel_rfl) 11 #[.agg #[vCh, vUn, .int .i16 x.first, vLo, vJs]] (fun o ho => by unfold execOp; rw [ho]; simp only [resolve, List.map_toArray, List.map_cons, List.map_nil, show a.eval (.tmp 25) = _ from hrd 0 25 (by kernel_rfl) (by kernel_rfl)]; go_simp) (KMX.out w' hBw) ?_
        rintro e w'' ⟨v', rfl, hm, hb⟩
        exact ⟨_, rfl, _, congrArg (fun d => a.put d _) (by kernel_rfl), hC.trans (hb.mono hC.size), hm.mono hC.size, RK.stay hb, p45_no (by omega) _ _ _ _⟩
      · refine op_load 28 (.tmp 7) (some 27) (by unfold opIs; kernel_rfl) _ (.agg #[yCh, yUn, .int .i16 y.first, yLo, yJs]) ((hfar 7 (by kernel_rfl)).trans (show _ = Value.pointer (some ⟨Y, 0, none⟩) by kernel_rfl)) (load_x (HY5.out.stay hC)) ?_
        exact ⟨_, congrArg (fun d => a.put d (.agg #[yCh, yUn, .int .i16 y.first, yLo, yJs])) (by kernel_rfl), hC, rfl, fun j u h => h, p45_no (by omega) _ _ _ _⟩
      · refine op_call (.call { callee := .value (.func 11), args := #[.tmp 27], argTypes := #[28] }) (some 28) (by unfold opIs; kernel_rfl) 11 #[.agg #[yCh, yUn, .int .i16 y.first, yLo, yJs]] (fun o ho => by unfold execOp; rw [ho]; simp only [resolve, List.map_toArray, List.map_cons, List.map_nil, show a.eval (.tmp 27) = _ from hrd 2 27 (by kernel_rfl) (by kernel_rfl)]; go_simp) (KMY.out w' hBw) ?_
        rintro e w'' ⟨v', rfl, hm, hb⟩
        exact ⟨_, rfl, _, congrArg (fun d => a.put d _) (by kernel_rfl), hC.trans (hb.mono hC.size), hm.mono hC.size, RK.stay hb, p45_no (by omega) _ _ _ _⟩
      · refine op_run (.alloc 41) (some 13) (by unfold opIs; kernel_rfl) (.pointer (some ⟨w'.heap.size, 0, none⟩)) (w' := w'.alloc (.cells #[.slice none 0 0, .slice none 0 0, .slice none 0 0, .int .i32 0, .slice none 0 0] 41)) (fun o ho => by unfold execOp; rw [ho]; go_simp) ?_
        have hb := (Below.refl w'.heap.size w').alloc (Nat.le_refl _) (.cells #[.slice none 0 0, .slice none 0 0, .slice none 0 0, .int .i32 0, .slice none 0 0] 41)
        refine ⟨_, congrArg (fun d => a.put d (.pointer (some ⟨w'.heap.size, 0, none⟩))) (by kernel_rfl), hC.trans (hb.mono hC.size), ⟨_, rfl, hC.size, HBox.new w' [.slice none 0 0, .slice none 0 0, .slice none 0 0, .int .i32 0, .slice none 0 0] _⟩, RK.stay hb, fun j u hj hne hnd hR hval => ?_⟩
        by_cases e : j = 5
        · subst e
          obtain ⟨g, e1, _, e3⟩ := hR
          have hlt := e3.size
          have hn : u ≠ .pointer (some ⟨w'.heap.size, 0, none⟩) := fun h => by rw [e1] at h; injection h with h; injection h with h; injection h with h _ _; omega
          exact ⟨fun _ => hn, fun _ h => hn h.symm⟩
        · exact ⟨fun h => by omega, fun h => by omega⟩
      · refine op_run (.alloc 41) (some 14) (by unfold opIs; kernel_rfl) (.pointer (some ⟨w'.heap.size, 0, none⟩)) (w' := w'.alloc (.cells #[.slice none 0 0, .slice none 0 0, .slice none 0 0, .int .i32 0, .slice none 0 0] 41)) (fun o ho => by unfold execOp; rw [ho]; go_simp) ?_
        have hb := (Below.refl w'.heap.size w').alloc (Nat.le_refl _) (.cells #[.slice none 0 0, .slice none 0 0, .slice none 0 0, .int .i32 0, .slice none 0 0] 41)
        refine ⟨_, congrArg (fun d => a.put d (.pointer (some ⟨w'.heap.size, 0, none⟩))) (by kernel_rfl), hC.trans (hb.mono hC.size), ⟨_, rfl, hC.size, HBox.new w' [.slice none 0 0, .slice none 0 0, .slice none 0 0, .int .i32 0, .slice none 0 0] _⟩, RK.stay hb, fun j u hj hne hnd hR hval => ?_⟩
        by_cases e : j = 4
        · subst e
          obtain ⟨g, e1, _, e3⟩ := hR
          have hlt := e3.size
          have hn : u ≠ .pointer (some ⟨w'.heap.size, 0, none⟩) := fun h => by rw [e1] at h; injection h with h; injection h with h; injection h with h _ _; omega
          exact ⟨fun _ => hn, fun _ h => hn h.symm⟩
        · exact ⟨fun h => by omega, fun h => by omega⟩
    · intro b w' hC hR hP2
      obtain ⟨vC, vU, vS, vJ, vs, e1, hA, hvs⟩ : MkO W5.heap.size x w' (b 1) := hR 1 (by omega)
      obtain ⟨zC, zU, zS, zJ, zs, e3, hZ, hzs⟩ : MkO W5.heap.size y w' (b 3) := hR 3 (by omega)
      obtain ⟨g1, e4, hg1, hbox1⟩ := hR 4 (by omega)
      obtain ⟨g2, e5, hg2, hbox2⟩ := hR 5 (by omega)
      have hne : g1 ≠ g2 := fun h => hP2 4 5 (by omega) (by omega) (by omega) (.inl ⟨rfl, rfl⟩) (by rw [e4, e5, h])
      simp only [List.take_succ_cons, List.take_zero, List.drop_succ_cons, List.drop_zero, putL, if_true, Nat.reduceAdd, Act.put, List.getElem_toArray, List.getElem_cons_zero, List.getElem_cons_succ, List.setIfInBounds_toArray, List.set_cons_zero, List.set_cons_succ]
      rw [e1, e3, e4, e5]
      clear hP2 hR e1 e3 e4 e5
      obtain ⟨a1, b1, rfl⟩ := owns_form hA.c
      obtain ⟨a2, b2, rfl⟩ := owns_form hA.u
      obtain ⟨a3, b3, rfl⟩ := owns_form hA.s
      obtain ⟨a4, b4, rfl⟩ := owns_form hA.j.row
      obtain ⟨t1, l1, rfl⟩ := owns_form hZ.c
      obtain ⟨t2, l2, rfl⟩ := owns_form hZ.u
      obtain ⟨t3, l3, rfl⟩ := owns_form hZ.s
      obtain ⟨t4, l4, rfl⟩ := owns_form hZ.j.row
      unfold bkV
      have hG1 := grown_sets5 w' g1 (.slice a1 (frB x).C.length b1) (.slice a2 (frB x).U.length b2) (.slice a3 (frB x).S.length b3) (.int .i32 (frB x).E) (.slice a4 vs.length b4)
      have hS1 := hbox1.set5 (.slice a1 (frB x).C.length b1) (.slice a2 (frB x).U.length b2) (.slice a3 (frB x).S.length b3) (.int .i32 (frB x).E) (.slice a4 vs.length b4)
      have hA1 := hA.box hG1 hbox1
      have hZ1 := hZ.box hG1 hbox1
      have hO1 := hbox2.grownB hG1 (fun e => hne e.symm)
      have hW1 := (HB5.out.trans (hC.mono HB5.out.size)).grown hG1 (HB5.out.trans (hC.mono HB5.out.size)).size (fun j hj => by cases hj; exact Nat.le_trans HB5.out.size hg1)
      have hlX := HX5.out.size
      have hlY := HY5.out.size
      have hX1 := (HX5.out.stay hC).grownB hG1 (by omega)
      have hsz1 := Nat.le_trans hC.size hG1.size
      have c0 := hbox1.cell (j := 0) rfl
      have c1 := hbox1.cell (j := 1) rfl
      have c2 := hbox1.cell (j := 2) rfl
      have c3 := hbox1.cell (j := 3) rfl
      have c4 := hbox1.cell (j := 4) rfl
      have m0 := hbox1.frozen 0
      have m1 := hbox1.frozen 1
      have m2 := hbox1.frozen 2
      have m3 := hbox1.frozen 3
      have m4 := hbox1.frozen 4
      have hzg1 := hbox1.size
      have d0 := hbox2.cell (j := 0) rfl
      have d1 := hbox2.cell (j := 1) rfl
      have d2 := hbox2.cell (j := 2) rfl
      have d3 := hbox2.cell (j := 3) rfl
      have d4 := hbox2.cell (j := 4) rfl
      have n0 := hbox2.frozen 0
      have n1 := hbox2.frozen 1
      have n2 := hbox2.frozen 2
      have n3 := hbox2.frozen 3
      have n4 := hbox2.frozen 4
      have hzg2 := hbox2.size
      have hne' : ¬ g2 = g1 := fun e => hne e.symm
      go_upto_region 6 with fail
      clear c0 c1 c2 c3 c4 m0 m1 m2 m3 m4 d0 d1 d2 d3 d4 n0 n1 n2 n3 n4 hbox1 hbox2 hG1 hA hZ
      generalize (((((w'.setCell ⟨g1, 0, none⟩ (.slice a1 (frB x).C.length b1)).setCell ⟨g1, 1, none⟩ (.slice a2 (frB x).U.length b2)).setCell ⟨g1, 2, none⟩ (.slice a3 (frB x).S.length b3)).setCell ⟨g1, 3, none⟩ (.int .i32 (frB x).E)).setCell ⟨g1, 4, none⟩ (.slice a4 vs.length b4)) = W8 at *
      have hG2 := grown_sets5 W8 g2 (.slice t1 (frB y).C.length l1) (.slice t2 (frB y).U.length l2) (.slice t3 (frB y).S.length l3) (.int .i32 (frB y).E) (.slice t4 zs.length l4)
      have hS2 := hO1.set5 (.slice t1 (frB y).C.length l1) (.slice t2 (frB y).U.length l2) (.slice t3 (frB y).S.length l3) (.int .i32 (frB y).E) (.slice t4 zs.length l4)
      have HAM := Lib.hid (hA1.box hG2 hO1)
      have HZM := Lib.hid (hZ1.box hG2 hO1)
      have HA9 := Lib.hid (hS1.grownB hG2 hne)
      have HZ9 := Lib.hid hS2
      have HX9 := Lib.hid (hX1.grownB hG2 (by omega))
      have HW9 := Lib.hid (hW1.grown hG2 hW1.size (fun j hj => by cases hj; exact Nat.le_trans HB5.out.size hg2))
      have HVS := Lib.hid hvs
      have HG2 := Lib.hid (show w.heap.size ≤ g2 from Nat.le_trans HB5.out.size hg2)
      have hXg2 : X ≠ g2 := by omega
      clear hG2 hS2 hS1 hA1 hZ1 hO1 hW1 hX1 hsz1 hvs hzs hzg1 hzg2 hlX hlY hg1 hg2 hC
      generalize (((((W8.setCell ⟨g2, 0, none⟩ (.slice t1 (frB y).C.length l1)).setCell ⟨g2, 1, none⟩ (.slice t2 (frB y).U.length l2)).setCell ⟨g2, 2, none⟩ (.slice t3 (frB y).S.length l3)).setCell ⟨g2, 3, none⟩ (.int .i32 (frB y).E)).setCell ⟨g2, 4, none⟩ (.slice t4 zs.length l4)) = V at *
      have x0 := HX9.out.cell (j := 0) rfl
      have x1 := HX9.out.cell (j := 1) rfl
      have x2 := HX9.out.cell (j := 2) rfl
      have x3 := HX9.out.cell (j := 3) rfl
      have x4 := HX9.out.cell (j := 4) rfl
      cases own with
      | false =>
        clear x0 x1 x2 x3 x4
        obtain ⟨s1, hs1⟩ : ∃ z, z = t1 := ⟨_, rfl⟩
        subst hs1
        obtain ⟨s2, hs2⟩ : ∃ z, z = t2 := ⟨_, rfl⟩
        subst hs2
        obtain ⟨s3, hs3⟩ : ∃ z, z = t3 := ⟨_, rfl⟩
        subst hs3
        obtain ⟨s4, hs4⟩ : ∃ z, z = t4 := ⟨_, rfl⟩
        subst hs4
        obtain ⟨k1, hk1⟩ : ∃ z, z = l1 := ⟨_, rfl⟩
        subst hk1
        obtain ⟨k2, hk2⟩ : ∃ z, z = l2 := ⟨_, rfl⟩
        subst hk2
        obtain ⟨k3, hk3⟩ : ∃ z, z = l3 := ⟨_, rfl⟩
        subst hk3
        obtain ⟨k4, hk4⟩ : ∃ z, z = l4 := ⟨_, rfl⟩
        subst hk4
        obtain ⟨us, hus⟩ : ∃ z, z = zs := ⟨_, rfl⟩
        subst hus
        have HBM := HZM
        have HB9 := HZ9
        clear HZM HZ9
        obtain ⟨f, hf⟩ : ∃ f, frB y = f := ⟨_, rfl⟩
        rw [hf] at HBM HB9
        clear hf
        go_upto_region 8 with fail
        have HIV : Hid (I V) := Lib.hid (HDY.out.stay HI.out HW9.out)
        have KC := Lib.hid (HBC.out.check _ _ _ _ f us V HIV.out HBM.out.fr HBM.out.fi HBM.out.jr (Nat.le_trans HBM.out.jl.1 (by omega)) (fun p hp => HBM.out.jl.2 p hp))
        obtain ⟨c, hc⟩ : ∃ c, chkB f (us.map jOf) = c := ⟨_, rfl⟩
        rw [hc] at KC
        unfold bkV at KC
        have HCC := Lib.hid hc
        have p0 := HB9.out.cell (j := 0) rfl
        have p1 := HB9.out.cell (j := 1) rfl
        have p2 := HB9.out.cell (j := 2) rfl
        have p3 := HB9.out.cell (j := 3) rfl
        have p4 := HB9.out.cell (j := 4) rfl
        clear hc
        by_cases h0 : c = 0
        · subst h0
          have hbd := okBd_of HCC.out
          have hla := made_bd HLT.out.1
          go_upto_region 10 with (go_at_call 20; refine KC.out.mono ?_; rintro e w3 ⟨rfl, h3⟩; have H3 := Lib.hid h3; clear h3)
          have HA3 := Lib.hid (HA9.out.stay H3.out)
          have HB3 := Lib.hid (HB9.out.stay H3.out)
          have HAM3 := Lib.hid (HAM.out.below H3.out)
          have HBM3 := Lib.hid (HBM.out.below H3.out)
          have HW3 := Lib.hid (HW9.out.trans (H3.out.mono HW9.out.size))
          clear p0 p1 p2 p3 p4 HA9 HB9 HAM HBM HW9 H3 KC HIV
          have KE1 := Lib.hid (fun (w' : World) (h : Below w3.heap.size w3 w') => HCO.out.enc _ _ _ _ (frB x) vs w' (HAM3.out.below h).fr (HAM3.out.below h).jr (by rw [HVS.out]; exact hla.1.wide))
          have KE2 := Lib.hid (fun (w' : World) (h : Below w3.heap.size w3 w') => HCO.out.enc _ _ _ _ f us w' (HBM3.out.below h).fr (HBM3.out.below h).jr hbd.wide)
          have KSB := Lib.hid (fun (w' : World) (h : Below w3.heap.size w3 w') => HBC.out.same _ _ _ _ _ _ _ _ (frB x) f vs us w' (HAM3.out.below h).fr (HBM3.out.below h).fr HAM3.out.fi HBM3.out.fi (HAM3.out.below h).jr (HBM3.out.below h).jr (Nat.le_trans HAM3.out.jl.1 (by omega)) (Nat.le_trans HBM3.out.jl.1 (by omega)) (fun p hp => (HAM3.out.jl.2 p hp).1) (fun p hp => (HBM3.out.jl.2 p hp).1))
          obtain ⟨AB, hAB⟩ : ∃ b, (eqF (frB x) f && decide (vs.map jOf = us.map jOf)) = b := ⟨_, rfl⟩
          have hEQ : decide (encB (frB x) (vs.map jOf) = encB f (us.map jOf)) = AB := by
            rw [← hAB, Bool.eq_iff_iff]
            simp only [decide_eq_true_eq, Bool.and_eq_true, eqF]
            constructor
            · intro h
              obtain ⟨h1, h2⟩ := enc_inj (by rw [HVS.out]; exact hla.1) hbd h
              rw [← h1, h2]
              exact ⟨⟨rfl, rfl, rfl, rfl⟩, rfl⟩
            · rintro ⟨⟨e1, e2, e3, e4⟩, h2⟩
              have : frB x = f := by
                obtain ⟨_, _, _, _⟩ := f
                simp only at e1 e2 e3 e4
                subst e1 e2 e3 e4
                rfl
              rw [this, h2]
          rw [hAB] at KSB
          unfold bkV at KE1 KE2 KSB
          generalize encB (frB x) (vs.map jOf) = EA at KE1 hEQ
          generalize encB f (us.map jOf) = EB at KE2 hEQ
          have KQ := Lib.hid (fun (w' : World) (u v : Value) (hu : Recs byc 1 w' u EA) (hv : Recs byc 1 w' v EB) => show Calls Tryz.prog 14 #[u, v] w' fun e w'' => e = .returned (.bool AB) ∧ Below w'.heap.size w' w'' from (equal_8 u v _ _ w' hu hv).mono (by rintro e w'' ⟨rfl, hb⟩; exact ⟨by rw [hEQ], hb⟩))
          clear hAB hEQ hbd hla
          refine wp_region_say 10 (fun w' => Below w3.heap.size w3 w') (R11a EA EB (.agg #[.slice a1 (frB x).C.length b1, .slice a2 (frB x).U.length b2, .slice a3 (frB x).S.length b3, .int .i32 (frB x).E, .slice a4 vs.length b4]) (.agg #[.slice s1 f.C.length k1, .slice s2 f.U.length k2, .slice s3 f.S.length k3, .int .i32 f.E, .slice s4 us.length k4]) AB) hmix rfl (by kernel_rfl) (by kernel_rfl) (by kernel_rfl) (Below.refl _ _).drew ?_ ?_
          · intro s a w' i hi hC hdep hfar hrd
            have hBw : Below w.heap.size w w' := HW3.out.trans (hC.mono HW3.out.size)
            rcases (by omega : i = 0 ∨ i = 1 ∨ i = 2 ∨ i = 3 ∨ i = 4 ∨ i = 5 ∨ i = 6 ∨ i = 7 ∨ i = 8 ∨ i = 9) with rfl | rfl | rfl | rfl | rfl | rfl | rfl | rfl | rfl | rfl
            · refine loadG 41 (.tmp 13) (some 38) (gd := none) (by unfold opG; kernel_rfl) trivial _ (.agg #[.slice a1 (frB x).C.length b1, .slice a2 (frB x).U.length b2, .slice a3 (frB x).S.length b3, .int .i32 (frB x).E, .slice a4 vs.length b4]) ((hfar 13 (by kernel_rfl)).trans (show _ = Value.pointer (some ⟨g1, 0, none⟩) by kernel_rfl)) (load_bk (HA3.out.stay hC)) ?_
              exact ⟨_, congrArg (fun d => a.put d (.agg #[.slice a1 (frB x).C.length b1, .slice a2 (frB x).U.length b2, .slice a3 (frB x).S.length b3, .int .i32 (frB x).E, .slice a4 vs.length b4])) (by kernel_rfl), hC, rfl, fun j u h => h⟩
            · refine callG (.call { callee := .value (.func 13), args := #[.tmp 38], argTypes := #[41] }) (some 39) (gd := none) (by unfold opG; kernel_rfl) trivial 13 #[.agg #[.slice a1 (frB x).C.length b1, .slice a2 (frB x).U.length b2, .slice a3 (frB x).S.length b3, .int .i32 (frB x).E, .slice a4 vs.length b4]] (fun o ho => by unfold execOp; rw [ho]; simp only [resolve, List.map_toArray, List.map_cons, List.map_nil, show a.eval (.tmp 38) = (.agg #[.slice a1 (frB x).C.length b1, .slice a2 (frB x).U.length b2, .slice a3 (frB x).S.length b3, .int .i32 (frB x).E, .slice a4 vs.length b4]) from hrd 0 38 (hdep 0 (by kernel_rfl)) (by kernel_rfl)]; go_simp) (KE1.out w' hC) ?_
              rintro e w'' ⟨v', rfl, hm, hb⟩
              exact ⟨_, rfl, _, congrArg (fun d => a.put d _) (by kernel_rfl), hC.trans (hb.mono hC.size), hm, R11a.stay hb⟩
            · refine loadG 41 (.tmp 14) (some 40) (gd := none) (by unfold opG; kernel_rfl) trivial _ (.agg #[.slice s1 f.C.length k1, .slice s2 f.U.length k2, .slice s3 f.S.length k3, .int .i32 f.E, .slice s4 us.length k4]) ((hfar 14 (by kernel_rfl)).trans (show _ = Value.pointer (some ⟨g2, 0, none⟩) by kernel_rfl)) (load_bk (HB3.out.stay hC)) ?_
              exact ⟨_, congrArg (fun d => a.put d (.agg #[.slice s1 f.C.length k1, .slice s2 f.U.length k2, .slice s3 f.S.length k3, .int .i32 f.E, .slice s4 us.length k4])) (by kernel_rfl), hC, rfl, fun j u h => h⟩
            · refine callG (.call { callee := .value (.func 13), args := #[.tmp 40], argTypes := #[41] }) (some 41) (gd := none) (by unfold opG; kernel_rfl) trivial 13 #[.agg #[.slice s1 f.C.length k1, .slice s2 f.U.length k2, .slice s3 f.S.length k3, .int .i32 f.E, .slice s4 us.length k4]] (fun o ho => by unfold execOp; rw [ho]; simp only [resolve, List.map_toArray, List.map_cons, List.map_nil, show a.eval (.tmp 40) = (.agg #[.slice s1 f.C.length k1, .slice s2 f.U.length k2, .slice s3 f.S.length k3, .int .i32 f.E, .slice s4 us.length k4]) from hrd 2 40 (hdep 2 (by kernel_rfl)) (by kernel_rfl)]; go_simp) (KE2.out w' hC) ?_
              rintro e w'' ⟨v', rfl, hm, hb⟩
              exact ⟨_, rfl, _, congrArg (fun d => a.put d _) (by kernel_rfl), hC.trans (hb.mono hC.size), hm, R11a.stay hb⟩
            · have h20 : Recs byc 1 w' (a.eval (.tmp 39)) EA := hrd 1 39 (hdep 1 (by kernel_rfl)) (by kernel_rfl)
              have h22 : Recs byc 1 w' (a.eval (.tmp 41)) EB := hrd 3 41 (hdep 3 (by kernel_rfl)) (by kernel_rfl)
              obtain ⟨u1, e1⟩ : ∃ u, a.eval (.tmp 39) = u := ⟨_, rfl⟩
              obtain ⟨u2, e2⟩ : ∃ u, a.eval (.tmp 41) = u := ⟨_, rfl⟩
              rw [e1] at h20
              rw [e2] at h22
              refine callG (.call { callee := .value (.func 14), args := #[.tmp 39, .tmp 41], argTypes := #[25, 25] }) (some 42) (gd := none) (by unfold opG; kernel_rfl) trivial 14 #[u1, u2] (fun o ho => by unfold execOp; rw [ho]; simp only [resolve, List.map_toArray, List.map_cons, List.map_nil, e1, e2]; go_simp) (KQ.out w' u1 u2 h20 h22) ?_
              rintro e w'' ⟨rfl, hb⟩
              exact ⟨_, rfl, _, congrArg (fun d => a.put d _) (by kernel_rfl), hC.trans (hb.mono hC.size), rfl, R11a.stay hb⟩
            · refine loadG 41 (.tmp 13) (some 43) (gd := none) (by unfold opG; kernel_rfl) trivial _ (.agg #[.slice a1 (frB x).C.length b1, .slice a2 (frB x).U.length b2, .slice a3 (frB x).S.length b3, .int .i32 (frB x).E, .slice a4 vs.length b4]) ((hfar 13 (by kernel_rfl)).trans (show _ = Value.pointer (some ⟨g1, 0, none⟩) by kernel_rfl)) (load_bk (HA3.out.stay hC)) ?_
              exact ⟨_, congrArg (fun d => a.put d (.agg #[.slice a1 (frB x).C.length b1, .slice a2 (frB x).U.length b2, .slice a3 (frB x).S.length b3, .int .i32 (frB x).E, .slice a4 vs.length b4])) (by kernel_rfl), hC, rfl, fun j u h => h⟩
            · refine loadG 41 (.tmp 14) (some 44) (gd := none) (by unfold opG; kernel_rfl) trivial _ (.agg #[.slice s1 f.C.length k1, .slice s2 f.U.length k2, .slice s3 f.S.length k3, .int .i32 f.E, .slice s4 us.length k4]) ((hfar 14 (by kernel_rfl)).trans (show _ = Value.pointer (some ⟨g2, 0, none⟩) by kernel_rfl)) (load_bk (HB3.out.stay hC)) ?_
              exact ⟨_, congrArg (fun d => a.put d (.agg #[.slice s1 f.C.length k1, .slice s2 f.U.length k2, .slice s3 f.S.length k3, .int .i32 f.E, .slice s4 us.length k4])) (by kernel_rfl), hC, rfl, fun j u h => h⟩
            · refine callG (.call { callee := .value (.func 16), args := #[.tmp 43, .tmp 44], argTypes := #[41, 41] }) (some 45) (gd := none) (by unfold opG; kernel_rfl) trivial 16 #[.agg #[.slice a1 (frB x).C.length b1, .slice a2 (frB x).U.length b2, .slice a3 (frB x).S.length b3, .int .i32 (frB x).E, .slice a4 vs.length b4], .agg #[.slice s1 f.C.length k1, .slice s2 f.U.length k2, .slice s3 f.S.length k3, .int .i32 f.E, .slice s4 us.length k4]] (fun o ho => by unfold execOp; rw [ho]; simp only [resolve, List.map_toArray, List.map_cons, List.map_nil, show a.eval (.tmp 43) = (.agg #[.slice a1 (frB x).C.length b1, .slice a2 (frB x).U.length b2, .slice a3 (frB x).S.length b3, .int .i32 (frB x).E, .slice a4 vs.length b4]) from hrd 5 43 (hdep 5 (by kernel_rfl)) (by kernel_rfl), show a.eval (.tmp 44) = (.agg #[.slice s1 f.C.length k1, .slice s2 f.U.length k2, .slice s3 f.S.length k3, .int .i32 f.E, .slice s4 us.length k4]) from hrd 6 44 (hdep 6 (by kernel_rfl)) (by kernel_rfl)]; go_simp) (KSB.out w' hC) ?_
              rintro e w'' ⟨rfl, hb⟩
              exact ⟨_, rfl, _, congrArg (fun d => a.put d _) (by kernel_rfl), hC.trans (hb.mono hC.size), rfl, R11a.stay hb⟩
            · refine runG (.binOp .eql 4 (.tmp 42) (.tmp 45) 4) (some 46) (gd := none) (by unfold opG; kernel_rfl) trivial (.bool true) (w' := w') (fun o ho => by unfold execOp; rw [ho]; simp only [show a.eval (.tmp 42) = Value.bool AB from hrd 4 42 (hdep 4 (by kernel_rfl)) (by kernel_rfl), show a.eval (.tmp 45) = Value.bool AB from hrd 7 45 (hdep 7 (by kernel_rfl)) (by kernel_rfl)]; go_simp) ?_
              exact ⟨_, congrArg (fun d => a.put d (.bool true)) (by kernel_rfl), hC, rfl, fun j u h => h⟩
            · refine runG (.assign (.tmp 46)) (some 12) (gd := none) (by unfold opG; kernel_rfl) trivial (.bool true) (w' := w') (fun o ho => by unfold execOp; rw [ho]; simp only [show a.eval (.tmp 46) = Value.bool true from hrd 8 46 (hdep 8 (by kernel_rfl)) (by kernel_rfl)]; go_simp) ?_
              exact ⟨_, congrArg (fun d => a.put d (.bool true)) (by kernel_rfl), hC, rfl, fun j u h => h⟩
          · intro b w' hC hR
            have e9 := hR 9 (by omega)
            simp only [putL, if_true, Nat.reduceAdd, Act.put, List.getElem_toArray, List.getElem_cons_zero, List.getElem_cons_succ, List.setIfInBounds_toArray, List.set_cons_zero, List.set_cons_succ]
            rw [show b 9 = Value.bool true from e9]
            clear hR e9
            go_wp2_with fail
            go_ret
            exact ⟨rfl, HW3.out.trans (hC.mono HW3.out.size)⟩
        · have t1 : (c != 0) = true := by rw [bne_iff_ne]; exact h0
          go_wp2_with (go_at_call 20; refine KC.out.mono ?_; rintro e w3 ⟨rfl, h3⟩; have H3 := Lib.hid (HW9.out.trans (h3.mono HW9.out.size)); clear h3)
          go_ret
          exact ⟨rfl, H3.out⟩
      | true =>
        clear x0 x1 x2 x3 x4
        have q0 := HA9.out.cell (j := 0) rfl
        have q1 := HA9.out.cell (j := 1) rfl
        have q2 := HA9.out.cell (j := 2) rfl
        have q3 := HA9.out.cell (j := 3) rfl
        have q4 := HA9.out.cell (j := 4) rfl
        have KSP := Lib.hid (spoil_mk (x := x) (w := V) (v := (.agg #[.slice a1 (frB x).C.length b1, .slice a2 (frB x).U.length b2, .slice a3 (frB x).S.length b3, .int .i32 (frB x).E, .slice a4 vs.length b4])) ⟨_, _, _, _, _, rfl, ⟨HAM.out.fr, HAM.out.jr, HVS.out⟩⟩ HLT.out.1 wh at_ by_ hwh hat hby)
        go_upto_region 8 with (go_at_call 18; refine (KSP.out).mono ?_; rintro e w8 ⟨v8, rfl, hA, h8⟩; obtain ⟨vC, vU, vS, vJ, f, us, rfl, hAM⟩ := hA; obtain ⟨s1, k1, rfl⟩ := owns_form hAM.c; obtain ⟨s2, k2, rfl⟩ := owns_form hAM.u; obtain ⟨s3, k3, rfl⟩ := owns_form hAM.s; obtain ⟨s4, k4, rfl⟩ := owns_form hAM.j.row; have HN8 := Lib.hid hAM; have HAM8 := Lib.hid (HAM.out.below h8); have HA8 := Lib.hid (HA9.out.stay h8); have HZ8 := Lib.hid (HZ9.out.stay h8); have HX8 := Lib.hid (HX9.out.stay h8); have HW8 := Lib.hid (HW9.out.trans (h8.mono HW9.out.size)); unfold bkV; have d0 := HZ8.out.cell (j := 0) rfl; have d1 := HZ8.out.cell (j := 1) rfl; have d2 := HZ8.out.cell (j := 2) rfl; have d3 := HZ8.out.cell (j := 3) rfl; have d4 := HZ8.out.cell (j := 4) rfl; have n0 := HZ8.out.frozen 0; have n1 := HZ8.out.frozen 1; have n2 := HZ8.out.frozen 2; have n3 := HZ8.out.frozen 3; have n4 := HZ8.out.frozen 4; have hzg2 := HZ8.out.size; clear hAM h8)
        have hG3 := grown_sets5 w8 g2 (.slice s1 f.C.length k1) (.slice s2 f.U.length k2) (.slice s3 f.S.length k3) (.int .i32 f.E) (.slice s4 us.length k4)
        clear HAM HA9 HX9 HW9 HZ9 KSP q0 q1 q2 q3 q4 d0 d1 d2 d3 d4 n0 n1 n2 n3 n4 hzg2 HZM
        have HBM := Lib.hid (HN8.out.box hG3 HZ8.out)
        have HAM := Lib.hid (HAM8.out.box hG3 HZ8.out)
        have HA9 := Lib.hid (HA8.out.grownB hG3 hne)
        have HB9 := Lib.hid (HZ8.out.set5 (.slice s1 f.C.length k1) (.slice s2 f.U.length k2) (.slice s3 f.S.length k3) (.int .i32 f.E) (.slice s4 us.length k4))
        have HX9 := Lib.hid (HX8.out.grownB hG3 hXg2)
        have HW9 := Lib.hid (HW8.out.grown hG3 HW8.out.size (fun j hj => by cases hj; exact HG2.out))
        clear hG3 HN8 HAM8 HA8 HZ8 HX8 HW8
        generalize (((((w8.setCell ⟨g2, 0, none⟩ (.slice s1 f.C.length k1)).setCell ⟨g2, 1, none⟩ (.slice s2 f.U.length k2)).setCell ⟨g2, 2, none⟩ (.slice s3 f.S.length k3)).setCell ⟨g2, 3, none⟩ (.int .i32 f.E)).setCell ⟨g2, 4, none⟩ (.slice s4 us.length k4)) = V at *
        have HIV : Hid (I V) := Lib.hid (HDY.out.stay HI.out HW9.out)
        have KC := Lib.hid (HBC.out.check _ _ _ _ f us V HIV.out HBM.out.fr HBM.out.fi HBM.out.jr (Nat.le_trans HBM.out.jl.1 (by omega)) (fun p hp => HBM.out.jl.2 p hp))
        obtain ⟨c, hc⟩ : ∃ c, chkB f (us.map jOf) = c := ⟨_, rfl⟩
        rw [hc] at KC
        unfold bkV at KC
        have HCC := Lib.hid hc
        have p0 := HB9.out.cell (j := 0) rfl
        have p1 := HB9.out.cell (j := 1) rfl
        have p2 := HB9.out.cell (j := 2) rfl
        have p3 := HB9.out.cell (j := 3) rfl
        have p4 := HB9.out.cell (j := 4) rfl
        clear hc
        by_cases h0 : c = 0
        · subst h0
          have hbd := okBd_of HCC.out
          have hla := made_bd HLT.out.1
          go_upto_region 10 with (go_at_call 20; refine KC.out.mono ?_; rintro e w3 ⟨rfl, h3⟩; have H3 := Lib.hid h3; clear h3)
          have HA3 := Lib.hid (HA9.out.stay H3.out)
          have HB3 := Lib.hid (HB9.out.stay H3.out)
          have HAM3 := Lib.hid (HAM.out.below H3.out)
          have HBM3 := Lib.hid (HBM.out.below H3.out)
          have HW3 := Lib.hid (HW9.out.trans (H3.out.mono HW9.out.size))
          clear p0 p1 p2 p3 p4 HA9 HB9 HAM HBM HW9 H3 KC HIV
          have KE1 := Lib.hid (fun (w' : World) (h : Below w3.heap.size w3 w') => HCO.out.enc _ _ _ _ (frB x) vs w' (HAM3.out.below h).fr (HAM3.out.below h).jr (by rw [HVS.out]; exact hla.1.wide))
          have KE2 := Lib.hid (fun (w' : World) (h : Below w3.heap.size w3 w') => HCO.out.enc _ _ _ _ f us w' (HBM3.out.below h).fr (HBM3.out.below h).jr hbd.wide)
          have KSB := Lib.hid (fun (w' : World) (h : Below w3.heap.size w3 w') => HBC.out.same _ _ _ _ _ _ _ _ (frB x) f vs us w' (HAM3.out.below h).fr (HBM3.out.below h).fr HAM3.out.fi HBM3.out.fi (HAM3.out.below h).jr (HBM3.out.below h).jr (Nat.le_trans HAM3.out.jl.1 (by omega)) (Nat.le_trans HBM3.out.jl.1 (by omega)) (fun p hp => (HAM3.out.jl.2 p hp).1) (fun p hp => (HBM3.out.jl.2 p hp).1))
          obtain ⟨AB, hAB⟩ : ∃ b, (eqF (frB x) f && decide (vs.map jOf = us.map jOf)) = b := ⟨_, rfl⟩
          have hEQ : decide (encB (frB x) (vs.map jOf) = encB f (us.map jOf)) = AB := by
            rw [← hAB, Bool.eq_iff_iff]
            simp only [decide_eq_true_eq, Bool.and_eq_true, eqF]
            constructor
            · intro h
              obtain ⟨h1, h2⟩ := enc_inj (by rw [HVS.out]; exact hla.1) hbd h
              rw [← h1, h2]
              exact ⟨⟨rfl, rfl, rfl, rfl⟩, rfl⟩
            · rintro ⟨⟨e1, e2, e3, e4⟩, h2⟩
              have : frB x = f := by
                obtain ⟨_, _, _, _⟩ := f
                simp only at e1 e2 e3 e4
                subst e1 e2 e3 e4
                rfl
              rw [this, h2]
          rw [hAB] at KSB
          unfold bkV at KE1 KE2 KSB
          generalize encB (frB x) (vs.map jOf) = EA at KE1 hEQ
          generalize encB f (us.map jOf) = EB at KE2 hEQ
          have KQ := Lib.hid (fun (w' : World) (u v : Value) (hu : Recs byc 1 w' u EA) (hv : Recs byc 1 w' v EB) => show Calls Tryz.prog 14 #[u, v] w' fun e w'' => e = .returned (.bool AB) ∧ Below w'.heap.size w' w'' from (equal_8 u v _ _ w' hu hv).mono (by rintro e w'' ⟨rfl, hb⟩; exact ⟨by rw [hEQ], hb⟩))
          clear hAB hEQ hbd hla
          refine wp_region_say 10 (fun w' => Below w3.heap.size w3 w') (R11a EA EB (.agg #[.slice a1 (frB x).C.length b1, .slice a2 (frB x).U.length b2, .slice a3 (frB x).S.length b3, .int .i32 (frB x).E, .slice a4 vs.length b4]) (.agg #[.slice s1 f.C.length k1, .slice s2 f.U.length k2, .slice s3 f.S.length k3, .int .i32 f.E, .slice s4 us.length k4]) AB) hmix rfl (by kernel_rfl) (by kernel_rfl) (by kernel_rfl) (Below.refl _ _).drew ?_ ?_
          · intro s a w' i hi hC hdep hfar hrd
            have hBw : Below w.heap.size w w' := HW3.out.trans (hC.mono HW3.out.size)
            rcases (by omega : i = 0 ∨ i = 1 ∨ i = 2 ∨ i = 3 ∨ i = 4 ∨ i = 5 ∨ i = 6 ∨ i = 7 ∨ i = 8 ∨ i = 9) with rfl | rfl | rfl | rfl | rfl | rfl | rfl | rfl | rfl | rfl
            · refine loadG 41 (.tmp 13) (some 38) (gd := none) (by unfold opG; kernel_rfl) trivial _ (.agg #[.slice a1 (frB x).C.length b1, .slice a2 (frB x).U.length b2, .slice a3 (frB x).S.length b3, .int .i32 (frB x).E, .slice a4 vs.length b4]) ((hfar 13 (by kernel_rfl)).trans (show _ = Value.pointer (some ⟨g1, 0, none⟩) by kernel_rfl)) (load_bk (HA3.out.stay hC)) ?_
              exact ⟨_, congrArg (fun d => a.put d (.agg #[.slice a1 (frB x).C.length b1, .slice a2 (frB x).U.length b2, .slice a3 (frB x).S.length b3, .int .i32 (frB x).E, .slice a4 vs.length b4])) (by kernel_rfl), hC, rfl, fun j u h => h⟩
            · refine callG (.call { callee := .value (.func 13), args := #[.tmp 38], argTypes := #[41] }) (some 39) (gd := none) (by unfold opG; kernel_rfl) trivial 13 #[.agg #[.slice a1 (frB x).C.length b1, .slice a2 (frB x).U.length b2, .slice a3 (frB x).S.length b3, .int .i32 (frB x).E, .slice a4 vs.length b4]] (fun o ho => by unfold execOp; rw [ho]; simp only [resolve, List.map_toArray, List.map_cons, List.map_nil, show a.eval (.tmp 38) = (.agg #[.slice a1 (frB x).C.length b1, .slice a2 (frB x).U.length b2, .slice a3 (frB x).S.length b3, .int .i32 (frB x).E, .slice a4 vs.length b4]) from hrd 0 38 (hdep 0 (by kernel_rfl)) (by kernel_rfl)]; go_simp) (KE1.out w' hC) ?_
              rintro e w'' ⟨v', rfl, hm, hb⟩
              exact ⟨_, rfl, _, congrArg (fun d => a.put d _) (by kernel_rfl), hC.trans (hb.mono hC.size), hm, R11a.stay hb⟩
            · refine loadG 41 (.tmp 14) (some 40) (gd := none) (by unfold opG; kernel_rfl) trivial _ (.agg #[.slice s1 f.C.length k1, .slice s2 f.U.length k2, .slice s3 f.S.length k3, .int .i32 f.E, .slice s4 us.length k4]) ((hfar 14 (by kernel_rfl)).trans (show _ = Value.pointer (some ⟨g2, 0, none⟩) by kernel_rfl)) (load_bk (HB3.out.stay hC)) ?_
              exact ⟨_, congrArg (fun d => a.put d (.agg #[.slice s1 f.C.length k1, .slice s2 f.U.length k2, .slice s3 f.S.length k3, .int .i32 f.E, .slice s4 us.length k4])) (by kernel_rfl), hC, rfl, fun j u h => h⟩
            · refine callG (.call { callee := .value (.func 13), args := #[.tmp 40], argTypes := #[41] }) (some 41) (gd := none) (by unfold opG; kernel_rfl) trivial 13 #[.agg #[.slice s1 f.C.length k1, .slice s2 f.U.length k2, .slice s3 f.S.length k3, .int .i32 f.E, .slice s4 us.length k4]] (fun o ho => by unfold execOp; rw [ho]; simp only [resolve, List.map_toArray, List.map_cons, List.map_nil, show a.eval (.tmp 40) = (.agg #[.slice s1 f.C.length k1, .slice s2 f.U.length k2, .slice s3 f.S.length k3, .int .i32 f.E, .slice s4 us.length k4]) from hrd 2 40 (hdep 2 (by kernel_rfl)) (by kernel_rfl)]; go_simp) (KE2.out w' hC) ?_
              rintro e w'' ⟨v', rfl, hm, hb⟩
              exact ⟨_, rfl, _, congrArg (fun d => a.put d _) (by kernel_rfl), hC.trans (hb.mono hC.size), hm, R11a.stay hb⟩
            · have h20 : Recs byc 1 w' (a.eval (.tmp 39)) EA := hrd 1 39 (hdep 1 (by kernel_rfl)) (by kernel_rfl)
              have h22 : Recs byc 1 w' (a.eval (.tmp 41)) EB := hrd 3 41 (hdep 3 (by kernel_rfl)) (by kernel_rfl)
              obtain ⟨u1, e1⟩ : ∃ u, a.eval (.tmp 39) = u := ⟨_, rfl⟩
              obtain ⟨u2, e2⟩ : ∃ u, a.eval (.tmp 41) = u := ⟨_, rfl⟩
              rw [e1] at h20
              rw [e2] at h22
              refine callG (.call { callee := .value (.func 14), args := #[.tmp 39, .tmp 41], argTypes := #[25, 25] }) (some 42) (gd := none) (by unfold opG; kernel_rfl) trivial 14 #[u1, u2] (fun o ho => by unfold execOp; rw [ho]; simp only [resolve, List.map_toArray, List.map_cons, List.map_nil, e1, e2]; go_simp) (KQ.out w' u1 u2 h20 h22) ?_
              rintro e w'' ⟨rfl, hb⟩
              exact ⟨_, rfl, _, congrArg (fun d => a.put d _) (by kernel_rfl), hC.trans (hb.mono hC.size), rfl, R11a.stay hb⟩
            · refine loadG 41 (.tmp 13) (some 43) (gd := none) (by unfold opG; kernel_rfl) trivial _ (.agg #[.slice a1 (frB x).C.length b1, .slice a2 (frB x).U.length b2, .slice a3 (frB x).S.length b3, .int .i32 (frB x).E, .slice a4 vs.length b4]) ((hfar 13 (by kernel_rfl)).trans (show _ = Value.pointer (some ⟨g1, 0, none⟩) by kernel_rfl)) (load_bk (HA3.out.stay hC)) ?_
              exact ⟨_, congrArg (fun d => a.put d (.agg #[.slice a1 (frB x).C.length b1, .slice a2 (frB x).U.length b2, .slice a3 (frB x).S.length b3, .int .i32 (frB x).E, .slice a4 vs.length b4])) (by kernel_rfl), hC, rfl, fun j u h => h⟩
            · refine loadG 41 (.tmp 14) (some 44) (gd := none) (by unfold opG; kernel_rfl) trivial _ (.agg #[.slice s1 f.C.length k1, .slice s2 f.U.length k2, .slice s3 f.S.length k3, .int .i32 f.E, .slice s4 us.length k4]) ((hfar 14 (by kernel_rfl)).trans (show _ = Value.pointer (some ⟨g2, 0, none⟩) by kernel_rfl)) (load_bk (HB3.out.stay hC)) ?_
              exact ⟨_, congrArg (fun d => a.put d (.agg #[.slice s1 f.C.length k1, .slice s2 f.U.length k2, .slice s3 f.S.length k3, .int .i32 f.E, .slice s4 us.length k4])) (by kernel_rfl), hC, rfl, fun j u h => h⟩
            · refine callG (.call { callee := .value (.func 16), args := #[.tmp 43, .tmp 44], argTypes := #[41, 41] }) (some 45) (gd := none) (by unfold opG; kernel_rfl) trivial 16 #[.agg #[.slice a1 (frB x).C.length b1, .slice a2 (frB x).U.length b2, .slice a3 (frB x).S.length b3, .int .i32 (frB x).E, .slice a4 vs.length b4], .agg #[.slice s1 f.C.length k1, .slice s2 f.U.length k2, .slice s3 f.S.length k3, .int .i32 f.E, .slice s4 us.length k4]] (fun o ho => by unfold execOp; rw [ho]; simp only [resolve, List.map_toArray, List.map_cons, List.map_nil, show a.eval (.tmp 43) = (.agg #[.slice a1 (frB x).C.length b1, .slice a2 (frB x).U.length b2, .slice a3 (frB x).S.length b3, .int .i32 (frB x).E, .slice a4 vs.length b4]) from hrd 5 43 (hdep 5 (by kernel_rfl)) (by kernel_rfl), show a.eval (.tmp 44) = (.agg #[.slice s1 f.C.length k1, .slice s2 f.U.length k2, .slice s3 f.S.length k3, .int .i32 f.E, .slice s4 us.length k4]) from hrd 6 44 (hdep 6 (by kernel_rfl)) (by kernel_rfl)]; go_simp) (KSB.out w' hC) ?_
              rintro e w'' ⟨rfl, hb⟩
              exact ⟨_, rfl, _, congrArg (fun d => a.put d _) (by kernel_rfl), hC.trans (hb.mono hC.size), rfl, R11a.stay hb⟩
            · refine runG (.binOp .eql 4 (.tmp 42) (.tmp 45) 4) (some 46) (gd := none) (by unfold opG; kernel_rfl) trivial (.bool true) (w' := w') (fun o ho => by unfold execOp; rw [ho]; simp only [show a.eval (.tmp 42) = Value.bool AB from hrd 4 42 (hdep 4 (by kernel_rfl)) (by kernel_rfl), show a.eval (.tmp 45) = Value.bool AB from hrd 7 45 (hdep 7 (by kernel_rfl)) (by kernel_rfl)]; go_simp) ?_
              exact ⟨_, congrArg (fun d => a.put d (.bool true)) (by kernel_rfl), hC, rfl, fun j u h => h⟩
            · refine runG (.assign (.tmp 46)) (some 12) (gd := none) (by unfold opG; kernel_rfl) trivial (.bool true) (w' := w') (fun o ho => by unfold execOp; rw [ho]; simp only [show a.eval (.tmp 46) = Value.bool true from hrd 8 46 (hdep 8 (by kernel_rfl)) (by kernel_rfl)]; go_simp) ?_
              exact ⟨_, congrArg (fun d => a.put d (.bool true)) (by kernel_rfl), hC, rfl, fun j u h => h⟩
          · intro b w' hC hR
            have e9 := hR 9 (by omega)
            simp only [putL, if_true, Nat.reduceAdd, Act.put, List.getElem_toArray, List.getElem_cons_zero, List.getElem_cons_succ, List.setIfInBounds_toArray, List.set_cons_zero, List.set_cons_succ]
            rw [show b 9 = Value.bool true from e9]
            clear hR e9
            go_wp2_with fail
            go_ret
            exact ⟨rfl, HW3.out.trans (hC.mono HW3.out.size)⟩
        · have t1 : (c != 0) = true := by rw [bne_iff_ne]; exact h0
          go_wp2_with (go_at_call 20; refine KC.out.mono ?_; rintro e w3 ⟨rfl, h3⟩; have H3 := Lib.hid (HW9.out.trans (h3.mono HW9.out.size)); clear h3)
          go_ret
          exact ⟨rfl, H3.out⟩
end Go.Proofs.YtmpefjnfelfnfaaGreatDoor
/- Law 11's CodecApart in the row's order of arguments. -/
namespace Go.Proofs.YtmpefjnfelfnfaaGreatDoor
open Go.RowKit
set_option linter.unusedVariables false
theorem codecapart_row (x : Bk) (vCh vUn vLo vJs : Value) (js : List Jp) (y : Bk) (yCh yUn yLo yJs : Value) (jy : List Jp) (a b c : Int) (own : Bool) (w : World) (hI : InI w) (hM : BkM x vCh vUn vLo vJs js w) (hN : BkM y yCh yUn yLo yJs jy w) (ha : (Lit.int .u8 a).wf = true) (hb : (Lit.int .u8 b).wf = true) (hc : (Lit.int .i64 c).wf = true) :
    Calls Tryz.prog 6 #[bV vCh vUn x.first vLo vJs, bV yCh yUn y.first yLo yJs, .int .u8 a, .int .u8 b, .int .i64 c, .bool own] w fun e w' => e = .returned (.bool true) ∧ Below w.heap.size w w' := by
  obtain ⟨m, rfl, hm⟩ := u8_nat ha
  obtain ⟨n, rfl, hn⟩ := u8_nat hb
  exact codecapart_any allotC dayC keyC unitC calC entryC bookC codecC x vCh vUn vLo vJs js y yCh yUn yLo yJs jy m n c own w hI hM hN hm hn (i64_in hc)
end Go.Proofs.YtmpefjnfelfnfaaGreatDoor

/- The walk of law BookSames. -/
import Derived.Test.YtljjodahfomljaaGreatDoorXwa
import Derived.Test.YtljjodahfomljaaGreatDoorXv
namespace Go.Proofs.YtljjodahfomljaaGreatDoor
open Go.RowKit
set_option linter.unusedVariables false
set_option linter.unusedSimpArgs false
/-- A made book in rows of one's own. -/
def MkO (base : Nat) (x : Bk) (w : World) (v : Value) : Prop := ∃ (vC vU vS vJ : Value) (vs : List Jm), v = bkV vC vU vS (frB x).E vJ ∧ AnyM base w vC vU vS vJ (frB x) vs ∧ vs.map jOf = makeJ x
theorem MkO.stay {base : Nat} {x : Bk} {w w' : World} {v : Value} (h : MkO base x w v) (hb : Below w.heap.size w w') : MkO base x w' v := by
  obtain ⟨vC, vU, vS, vJ, vs, e, hM, hj⟩ := h
  exact ⟨vC, vU, vS, vJ, vs, e, hM.below hb, hj⟩
theorem MkO.mono {base base' : Nat} {x : Bk} {w : World} {v : Value} (h : MkO base x w v) (hb : base' ≤ base) : MkO base' x w v := by
  obtain ⟨vC, vU, vS, vJ, vs, e, hM, hj⟩ := h
  exact ⟨vC, vU, vS, vJ, vs, e, hM.mono hb, hj⟩
theorem MkO.mk {base : Nat} {x : Bk} {w : World} {v : Value} (h : MkO base x w v) : MkB x w v := by
  obtain ⟨vC, vU, vS, vJ, vs, e, hM, hj⟩ := h
  exact ⟨vC, vU, vS, vJ, vs, e, hM.fr, hM.jr, hj⟩
theorem mkO_c (x : Bk) (vCh vUn vLo vJs : Value) (js : List Jp) (w : World) (hM : BkM x vCh vUn vLo vJs js w) (hT : lightB x = true) :
    Calls Tryz.prog 12 #[.agg #[vCh, vUn, .int .i16 x.first, vLo, vJs]] w fun e w' => ∃ v, e = .returned v ∧ MkO w.heap.size x w' v ∧ Below w.heap.size w w' := by
  have hl := light_of hT
  refine (makeB_c x vCh vUn vLo vJs js w hM hl.1 (by have := hl.2.2.2.2; omega)).mono ?_
  rintro e w' ⟨vC, vU, vS, vJ, vs, rfl, oC, oU, oS, hJ, hm, hb⟩
  obtain ⟨a, b⟩ := made_lens hl.1 (by have := hl.2.2.2.2; omega) hm
  exact ⟨_, rfl, ⟨_, _, _, _, _, rfl, ⟨oC, oU, oS, hJ, frB_in x, by have := hl.2.2.2.2; omega, fun p hp => by have := b p hp; omega⟩, hm⟩, hb⟩
theorem same_made {I : World → Prop} (B : BookC I) {x : Bk} (hT : lightB x = true) {base : Nat} {w : World} {vC vU vS vJ : Value} {vs : List Jm} (hA : AnyM base w vC vU vS vJ (frB x) vs) (hv : vs.map jOf = makeJ x) {wC wU wS wJ : Value} {ws : List Jm} (hm : MadeM x w wC wU wS wJ ws) :
    Calls Tryz.prog 26 #[bkV vC vU vS (frB x).E vJ, bkV wC wU wS (frB x).E wJ] w fun e w' => e = .returned (.bool true) ∧ Below w.heap.size w w' := by
  obtain ⟨a, b⟩ := made_lens (light_of hT).1 (by have := (light_of hT).2.2.2.2; omega) hm.js
  have h5 := (light_of hT).2.2.2.2
  have h := B.same vC vU vS vJ wC wU wS wJ (frB x) (frB x) vs ws w hA.fr hm.fr (frB_in x) (frB_in x) hA.jr hm.jr hA.jl.1 (by omega) (fun p hp => (hA.jl.2 p hp).1) (fun p hp => by have := b p hp; omega)
  have e : (eqF (frB x) (frB x) && decide (vs.map jOf = ws.map jOf)) = true := by
    rw [hv, hm.js]; unfold eqF; simp
  rw [e] at h
  exact h
theorem load_fr {w : World} {b : Nat} {v0 v1 v2 v3 v4 : Value} (h : HBox w b [v0, v1, v2, v3, v4] 41) : (Instr.loadAt 38 (.pointer (some ⟨b, 0, none⟩))).run Tryz.prog w = .ok (.agg #[v0, v1, v2, v3]) w := by
  have x0 := h.cell (j := 0) rfl
  have x1 := h.cell (j := 1) rfl
  have x2 := h.cell (j := 2) rfl
  have x3 := h.cell (j := 3) rfl
  go_simp
def P45 (i : Nat) (u : Value) (j : Nat) (v : Value) : Prop := ((i = 4 ∧ j = 5) ∨ (i = 5 ∧ j = 4)) → u ≠ v
theorem p45_no {l : List Oper} {a : Act} {i : Nat} (h : i < 4) (n : Nat) (R : Nat → Value → World → Prop) (w : World) (v : Value) : ∀ j u, j < n → j ≠ i → depB l j i = false → R j u w → (∀ t, depB l i j = true → dstB l j = some t → a.eval (.tmp t) = u) → P45 j u i v ∧ P45 i v j u := fun j u _ _ _ _ _ => ⟨fun e => by omega, fun e => by omega⟩
/-- What holds of the values by which the two books are made. -/
def RK (B : Nat) (x y : Bk) (xv yv : Value) : Nat → Value → World → Prop
  | 0, v, _ => v = xv
  | 1, v, w => MkO B x w v
  | 2, v, _ => v = yv
  | 3, v, w => MkO B y w v
  | _, v, w => ∃ g, v = .pointer (some ⟨g, 0, none⟩) ∧ B ≤ g ∧ HBox w g [.slice none 0 0, .slice none 0 0, .slice none 0 0, .int .i32 0, .slice none 0 0] 41
theorem RK.stay {B : Nat} {x y : Bk} {xv yv : Value} {w w' : World} (hb : Below w.heap.size w w') : ∀ j u, RK B x y xv yv j u w → RK B x y xv yv j u w'
  | 0, _, h => h
  | 1, _, h => MkO.stay h hb
  | 2, _, h => h
  | 3, _, h => MkO.stay h hb
  | _ + 4, _, ⟨g, h1, h2, h3⟩ => ⟨g, h1, h2, h3.stay hb⟩
/-- What holds of the values by which law BookSames answers. -/
def R9 (x : Bk) (xv fa fb ba bb : Value) (g1 g2 : Nat) (FB AB : Bool) : Nat → Value → World → Prop
  | 0, v, _ => v = .pointer (some ⟨g1, 0, none⟩)
  | 1, v, _ => v = fa
  | 2, v, _ => v = .pointer (some ⟨g2, 0, none⟩)
  | 3, v, _ => v = fb
  | 4, v, _ => v = .bool FB
  | 5, v, _ => v = .bool FB
  | 6, v, _ => v = .bool true
  | 7, v, _ => v = .bool true
  | 8, v, _ => v = ba
  | 9, v, _ => v = bb
  | 10, v, _ => v = .bool AB
  | 11, v, _ => v = .bool AB
  | 12, v, _ => v = .bool true
  | 13, v, _ => v = .bool true
  | 14, v, _ => v = .bool true
  | 15, v, _ => v = ba
  | 16, v, _ => v = xv
  | 17, v, w => MkB x w v
  | _, v, _ => v = .bool true
theorem R9.stay {x : Bk} {xv fa fb ba bb : Value} {g1 g2 : Nat} {FB AB : Bool} {w w' : World} (hb : Below w.heap.size w w') : ∀ j u, R9 x xv fa fb ba bb g1 g2 FB AB j u w → R9 x xv fa fb ba bb g1 g2 FB AB j u w'
  | 0, _, h => h
  | 1, _, h => h
  | 2, _, h => h
  | 3, _, h => h
  | 4, _, h => h
  | 5, _, h => h
  | 6, _, h => h
  | 7, _, h => h
  | 8, _, h => h
  | 9, _, h => h
  | 10, _, h => h
  | 11, _, h => h
  | 12, _, h => h
  | 13, _, h => h
  | 14, _, h => h
  | 15, _, h => h
  | 16, _, h => h
  | 17, _, h => MkB.stay h hb
  | _ + 18, _, h => h
set_option maxHeartbeats 8000000 in
set_option maxRecDepth 100000 in
theorem booksames_any {I : World → Prop} (C : AllotC) (D : DayC I) (K : KeyC I) (U : UnitC) (LC : CalC I) (EC : EntryC I) (B : BookC I) (x : Bk) (vCh vUn vLo vJs : Value) (js : List Jp) (y : Bk) (yCh yUn yLo yJs : Value) (jy : List Jp) (wh at_ : Nat) (by_ : Int) (own : Bool) (w : World) (hI : I w) (hM : BkM x vCh vUn vLo vJs js w) (hN : BkM y yCh yUn yLo yJs jy w) (hwh : wh < 256) (hat : at_ < 256) (hby : -9223372036854775808 ≤ by_ ∧ by_ ≤ 9223372036854775807) :
    Calls Tryz.prog 7 #[bV vCh vUn x.first vLo vJs, bV yCh yUn y.first yLo yJs, .int .u8 (wh : Int), .int .u8 (at_ : Int), .int .i64 by_, .bool own] w fun e w' => e = .returned (.bool true) ∧ Below w.heap.size w w' := by
  have hmix : Tryz.prog.follows .mixedOrders = true := by kernel_rfl
  obtain ⟨q1, d1, rfl, _⟩ := hM.ch.form
  obtain ⟨q2, d2, rfl, _⟩ := hM.un.form
  obtain ⟨q3, d3, rfl, _⟩ := hM.lo.form
  obtain ⟨q4, d4, rfl, _⟩ := hM.jr.form
  obtain ⟨vCh, hvCh⟩ : ∃ v, Value.slice q1 x.chart.length d1 = v := ⟨_, rfl⟩
  obtain ⟨vUn, hvUn⟩ : ∃ v, Value.slice q2 x.units.length d2 = v := ⟨_, rfl⟩
  obtain ⟨vLo, hvLo⟩ : ∃ v, Value.slice q3 x.long.length d3 = v := ⟨_, rfl⟩
  obtain ⟨vJs, hvJs⟩ : ∃ v, Value.slice q4 js.length d4 = v := ⟨_, rfl⟩
  rw [hvCh, hvUn, hvLo, hvJs] at hM ⊢
  clear hvCh hvUn hvLo hvJs
  obtain ⟨e1, f1, rfl, _⟩ := hN.ch.form
  obtain ⟨e2, f2, rfl, _⟩ := hN.un.form
  obtain ⟨e3, f3, rfl, _⟩ := hN.lo.form
  obtain ⟨e4, f4, rfl, _⟩ := hN.jr.form
  obtain ⟨yCh, hvCh⟩ : ∃ v, Value.slice e1 y.chart.length f1 = v := ⟨_, rfl⟩
  obtain ⟨yUn, hvUn⟩ : ∃ v, Value.slice e2 y.units.length f2 = v := ⟨_, rfl⟩
  obtain ⟨yLo, hvLo⟩ : ∃ v, Value.slice e3 y.long.length f3 = v := ⟨_, rfl⟩
  obtain ⟨yJs, hvJs⟩ : ∃ v, Value.slice e4 jy.length f4 = v := ⟨_, rfl⟩
  rw [hvCh, hvUn, hvLo, hvJs] at hN ⊢
  clear hvCh hvUn hvLo hvJs
  have HBC := Lib.hid B
  have KA := Lib.hid (fun (w' : World) (h : Below w.heap.size w w') => awake10_any C D K U LC EC B w' (D.stay hI h))
  have KLX := Lib.hid (fun (w' : World) (h : Below w.heap.size w w') => light_c x vCh vUn vLo vJs js w' (hM.stay h))
  have KLY := Lib.hid (fun (w' : World) (h : Below w.heap.size w w') => light_c y yCh yUn yLo yJs jy w' (hN.stay h))
  have KM0 := Lib.hid (fun (hT : lightB x = true) (w' : World) (h : Below w.heap.size w w') => mkO_c x vCh vUn vLo vJs js w' (hM.stay h) hT)
  have KN0 := Lib.hid (fun (hT : lightB y = true) (w' : World) (h : Below w.heap.size w w') => mkO_c y yCh yUn yLo yJs jy w' (hN.stay h) hT)
  obtain ⟨LX, hLX⟩ : ∃ b, lightB x = b := ⟨_, rfl⟩
  obtain ⟨LY, hLY⟩ : ∃ b, lightB y = b := ⟨_, rfl⟩
  have HLX := Lib.hid hLX
  have HLY := Lib.hid hLY
  rw [hLX] at KLX
  rw [hLY] at KLY
  unfold bV at KLX KLY ⊢
  have hs : (w.alloc (.cells #[vCh, vUn, .int .i16 x.first, vLo, vJs] 28)).heap.size = w.heap.size + 1 := by simp
  have hb : Below w.heap.size w ((w.alloc (.cells #[vCh, vUn, .int .i16 x.first, vLo, vJs] 28)).alloc (.cells #[yCh, yUn, .int .i16 y.first, yLo, yJs] 28)) := ((Below.refl _ _).alloc (Nat.le_refl _) _).alloc (by simp) _
  have bx := (HBox.new w [vCh, vUn, .int .i16 x.first, vLo, vJs] 28).alloc (.cells #[yCh, yUn, .int .i16 y.first, yLo, yJs] 28)
  have hy := HBox.new (w.alloc (.cells #[vCh, vUn, .int .i16 x.first, vLo, vJs] 28)) [yCh, yUn, .int .i16 y.first, yLo, yJs] 28
  rw [hs] at hy
  change HBox ((w.alloc (.cells #[vCh, vUn, .int .i16 x.first, vLo, vJs] 28)).alloc (.cells #[yCh, yUn, .int .i16 y.first, yLo, yJs] 28)) _ _ _ at bx
  change HBox ((w.alloc (.cells #[vCh, vUn, .int .i16 x.first, vLo, vJs] 28)).alloc (.cells #[yCh, yUn, .int .i16 y.first, yLo, yJs] 28)) _ _ _ at hy
  clear C D K U LC EC B hI hM hN hLX hLY
  go_enter Tryz.func7, Tryz.ntmps7
  go_upto_region 1 with fail
  generalize (w.alloc (.cells #[vCh, vUn, .int .i16 x.first, vLo, vJs] 28)).alloc (.cells #[yCh, yUn, .int .i16 y.first, yLo, yJs] 28) = W at *
  generalize w.heap.size + 1 = Y at *
  generalize hX : w.heap.size = X at bx ⊢
  clear hX hs
  have HX := Lib.hid bx
  have HY := Lib.hid hy
  have HB := Lib.hid hb
  clear bx hy hb
  go_upto_region 3 with (go_at_call 9; refine (KA.out _ HB.out).mono ?_; rintro e w4 ⟨rfl, h4⟩; have HX4 := Lib.hid (HX.out.stay h4); have HY4 := Lib.hid (HY.out.stay h4); have HB4 := Lib.hid (HB.out.trans (h4.mono HB.out.size)); clear h4)
  have x0 := HX4.out.cell (j := 0) rfl
  have x1 := HX4.out.cell (j := 1) rfl
  have x2 := HX4.out.cell (j := 2) rfl
  have x3 := HX4.out.cell (j := 3) rfl
  have x4 := HX4.out.cell (j := 4) rfl
  clear HX HY HB
  cases LX with
  | false =>
    go_wp2_with (go_at_call 10; refine (KLX.out _ HB4.out).mono ?_; rintro e w5 ⟨rfl, h5⟩; have HB5 := Lib.hid (HB4.out.trans (h5.mono HB4.out.size)); clear h5)
    go_ret
    exact ⟨rfl, HB5.out⟩
  | true =>
   cases LY with
   | false =>
    go_wp2_with (first
      | (go_at_call 10; refine (KLY.out _ HB5.out).mono ?_; rintro e w6 ⟨rfl, h6⟩; have HB6 := Lib.hid (HB5.out.trans (h6.mono HB5.out.size)); clear h6)
      | (go_at_call 10; refine (KLX.out _ HB4.out).mono ?_; rintro e w5 ⟨rfl, h5⟩; have HY5 := Lib.hid (HY4.out.stay h5); have y0 := HY5.out.cell (j := 0) rfl; have y1 := HY5.out.cell (j := 1) rfl; have y2 := HY5.out.cell (j := 2) rfl; have y3 := HY5.out.cell (j := 3) rfl; have y4 := HY5.out.cell (j := 4) rfl; have HB5 := Lib.hid (HB4.out.trans (h5.mono HB4.out.size)); clear h5))
    go_ret
    exact ⟨rfl, HB6.out⟩
   | true =>
    have KMX := Lib.hid (KM0.out HLX.out)
    have KMY := Lib.hid (KN0.out HLY.out)
    have HLT := Lib.hid (And.intro HLX.out HLY.out)
    go_upto_region 5 with (first
      | (go_at_call 10; refine (KLY.out _ HB3.out).mono ?_; rintro e W5 ⟨rfl, h6⟩; have HX5 := Lib.hid (HX3.out.stay h6); have HY5 := Lib.hid (HY3.out.stay h6); have HB5 := Lib.hid (HB3.out.trans (h6.mono HB3.out.size)); clear h6)
      | (go_at_call 10; refine (KLX.out _ HB4.out).mono ?_; rintro e w3 ⟨rfl, h5⟩; have HX3 := Lib.hid (HX4.out.stay h5); have HY3 := Lib.hid (HY4.out.stay h5); have y0 := HY3.out.cell (j := 0) rfl; have y1 := HY3.out.cell (j := 1) rfl; have y2 := HY3.out.cell (j := 2) rfl; have y3 := HY3.out.cell (j := 3) rfl; have y4 := HY3.out.cell (j := 4) rfl; have HB3 := Lib.hid (HB4.out.trans (h5.mono HB4.out.size)); clear h5))
    clear x0 x1 x2 x3 x4 y0 y1 y2 y3 y4 HX4 HY4 HB4 HX3 HY3 HB3 KM0 KN0 KLX KLY KA
    refine wp_region_part2 6 (fun w' => Below W5.heap.size W5 w') (RK W5.heap.size x y (.agg #[vCh, vUn, .int .i16 x.first, vLo, vJs]) (.agg #[yCh, yUn, .int .i16 y.first, yLo, yJs])) P45 hmix (by decide) (by kernel_rfl) (by kernel_rfl) (by kernel_rfl) (Below.refl _ _).drew ?_ ?_
    · intro a w' i hi hC hfar hrd
      have hBw : Below w.heap.size w w' := HB5.out.trans (hC.mono HB5.out.size)
      rcases (by omega : i = 0 ∨ i = 1 ∨ i = 2 ∨ i = 3 ∨ i = 4 ∨ i = 5) with rfl | rfl | rfl | rfl | rfl | rfl
      · refine op_load 28 (.tmp 6) (some 27) (by unfold opIs; kernel_rfl) _ (.agg #[vCh, vUn, .int .i16 x.first, vLo, vJs]) ((hfar 6 (by kernel_rfl)).trans (show _ = Value.pointer (some ⟨X, 0, none⟩) by kernel_rfl)) (load_x (HX5.out.stay hC)) ?_
        exact ⟨_, congrArg (fun d => a.put d (.agg #[vCh, vUn, .int .i16 x.first, vLo, vJs])) (by kernel_rfl), hC, rfl, fun j u h => h, p45_no (by omega) _ _ _ _⟩
      · refine op_call (.call { callee := .value (.func 12), args := #[.tmp 27], argTypes := #[28] }) (some 28) (by unfold opIs; kernel_rfl) 12 #[.agg #[vCh, vUn, .int .i16 x.first, vLo, vJs]] (fun o ho => by unfold execOp; rw [ho]; simp only [resolve, List.map_toArray, List.map_cons, List.map_nil, show a.eval (.tmp 27) = _ from hrd 0 27 (by kernel_rfl) (by kernel_rfl)]; go_simp) (KMX.out w' hBw) ?_
        rintro e w'' ⟨v', rfl, hm, hb⟩
        exact ⟨_, rfl, _, congrArg (fun d => a.put d _) (by kernel_rfl), hC.trans (hb.mono hC.size), hm.mono hC.size, RK.stay hb, p45_no (by omega) _ _ _ _⟩
      · refine op_load 28 (.tmp 7) (some 29) (by unfold opIs; kernel_rfl) _ (.agg #[yCh, yUn, .int .i16 y.first, yLo, yJs]) ((hfar 7 (by kernel_rfl)).trans (show _ = Value.pointer (some ⟨Y, 0, none⟩) by kernel_rfl)) (load_x (HY5.out.stay hC)) ?_
        exact ⟨_, congrArg (fun d => a.put d (.agg #[yCh, yUn, .int .i16 y.first, yLo, yJs])) (by kernel_rfl), hC, rfl, fun j u h => h, p45_no (by omega) _ _ _ _⟩
      · refine op_call (.call { callee := .value (.func 12), args := #[.tmp 29], argTypes := #[28] }) (some 30) (by unfold opIs; kernel_rfl) 12 #[.agg #[yCh, yUn, .int .i16 y.first, yLo, yJs]] (fun o ho => by unfold execOp; rw [ho]; simp only [resolve, List.map_toArray, List.map_cons, List.map_nil, show a.eval (.tmp 29) = _ from hrd 2 29 (by kernel_rfl) (by kernel_rfl)]; go_simp) (KMY.out w' hBw) ?_
        rintro e w'' ⟨v', rfl, hm, hb⟩
        exact ⟨_, rfl, _, congrArg (fun d => a.put d _) (by kernel_rfl), hC.trans (hb.mono hC.size), hm.mono hC.size, RK.stay hb, p45_no (by omega) _ _ _ _⟩
      · refine op_run (.alloc 41) (some 13) (by unfold opIs; kernel_rfl) (.pointer (some ⟨w'.heap.size, 0, none⟩)) (w' := w'.alloc (.cells #[.slice none 0 0, .slice none 0 0, .slice none 0 0, .int .i32 0, .slice none 0 0] 41)) (fun o ho => by unfold execOp; rw [ho]; go_simp) ?_
        have hb := (Below.refl w'.heap.size w').alloc (Nat.le_refl _) (.cells #[.slice none 0 0, .slice none 0 0, .slice none 0 0, .int .i32 0, .slice none 0 0] 41)
        refine ⟨_, congrArg (fun d => a.put d (.pointer (some ⟨w'.heap.size, 0, none⟩))) (by kernel_rfl), hC.trans (hb.mono hC.size), ⟨_, rfl, hC.size, HBox.new w' [.slice none 0 0, .slice none 0 0, .slice none 0 0, .int .i32 0, .slice none 0 0] _⟩, RK.stay hb, fun j u hj hne hnd hR hval => ?_⟩
        by_cases e : j = 5
        · subst e
          obtain ⟨g, e1, _, e3⟩ := hR
          have hlt := e3.size
          have hn : u ≠ .pointer (some ⟨w'.heap.size, 0, none⟩) := fun h => by rw [e1] at h; injection h with h; injection h with h; injection h with h _ _; omega
          exact ⟨fun _ => hn, fun _ h => hn h.symm⟩
        · exact ⟨fun h => by omega, fun h => by omega⟩
      · refine op_run (.alloc 41) (some 14) (by unfold opIs; kernel_rfl) (.pointer (some ⟨w'.heap.size, 0, none⟩)) (w' := w'.alloc (.cells #[.slice none 0 0, .slice none 0 0, .slice none 0 0, .int .i32 0, .slice none 0 0] 41)) (fun o ho => by unfold execOp; rw [ho]; go_simp) ?_
        have hb := (Below.refl w'.heap.size w').alloc (Nat.le_refl _) (.cells #[.slice none 0 0, .slice none 0 0, .slice none 0 0, .int .i32 0, .slice none 0 0] 41)
        refine ⟨_, congrArg (fun d => a.put d (.pointer (some ⟨w'.heap.size, 0, none⟩))) (by kernel_rfl), hC.trans (hb.mono hC.size), ⟨_, rfl, hC.size, HBox.new w' [.slice none 0 0, .slice none 0 0, .slice none 0 0, .int .i32 0, .slice none 0 0] _⟩, RK.stay hb, fun j u hj hne hnd hR hval => ?_⟩
        by_cases e : j = 4
        · subst e
          obtain ⟨g, e1, _, e3⟩ := hR
          have hlt := e3.size
          have hn : u ≠ .pointer (some ⟨w'.heap.size, 0, none⟩) := fun h => by rw [e1] at h; injection h with h; injection h with h; injection h with h _ _; omega
          exact ⟨fun _ => hn, fun _ h => hn h.symm⟩
        · exact ⟨fun h => by omega, fun h => by omega⟩
    · intro b w' hC hR hP2
      obtain ⟨vC, vU, vS, vJ, vs, e1, hA, hvs⟩ : MkO W5.heap.size x w' (b 1) := hR 1 (by omega)
      obtain ⟨zC, zU, zS, zJ, zs, e3, hZ, hzs⟩ : MkO W5.heap.size y w' (b 3) := hR 3 (by omega)
      obtain ⟨g1, e4, hg1, hbox1⟩ := hR 4 (by omega)
      obtain ⟨g2, e5, hg2, hbox2⟩ := hR 5 (by omega)
      have hne : g1 ≠ g2 := fun h => hP2 4 5 (by omega) (by omega) (by omega) (.inl ⟨rfl, rfl⟩) (by rw [e4, e5, h])
      simp only [List.take_succ_cons, List.take_zero, List.drop_succ_cons, List.drop_zero, putL, if_true, Nat.reduceAdd, Act.put, List.getElem_toArray, List.getElem_cons_zero, List.getElem_cons_succ, List.setIfInBounds_toArray, List.set_cons_zero, List.set_cons_succ]
      rw [e1, e3, e4, e5]
      clear hP2 hR e1 e3 e4 e5
      obtain ⟨a1, b1, rfl⟩ := owns_form hA.c
      obtain ⟨a2, b2, rfl⟩ := owns_form hA.u
      obtain ⟨a3, b3, rfl⟩ := owns_form hA.s
      obtain ⟨a4, b4, rfl⟩ := owns_form hA.j.row
      obtain ⟨t1, l1, rfl⟩ := owns_form hZ.c
      obtain ⟨t2, l2, rfl⟩ := owns_form hZ.u
      obtain ⟨t3, l3, rfl⟩ := owns_form hZ.s
      obtain ⟨t4, l4, rfl⟩ := owns_form hZ.j.row
      unfold bkV
      have hG1 := grown_sets5 w' g1 (.slice a1 (frB x).C.length b1) (.slice a2 (frB x).U.length b2) (.slice a3 (frB x).S.length b3) (.int .i32 (frB x).E) (.slice a4 vs.length b4)
      have hS1 := hbox1.set5 (.slice a1 (frB x).C.length b1) (.slice a2 (frB x).U.length b2) (.slice a3 (frB x).S.length b3) (.int .i32 (frB x).E) (.slice a4 vs.length b4)
      have hA1 := hA.box hG1 hbox1
      have hZ1 := hZ.box hG1 hbox1
      have hO1 := hbox2.grownB hG1 (fun e => hne e.symm)
      have hW1 := (HB5.out.trans (hC.mono HB5.out.size)).grown hG1 (HB5.out.trans (hC.mono HB5.out.size)).size (fun j hj => by cases hj; exact Nat.le_trans HB5.out.size hg1)
      have hlX := HX5.out.size
      have hlY := HY5.out.size
      have hX1 := (HX5.out.stay hC).grownB hG1 (by omega)
      have hsz1 := Nat.le_trans hC.size hG1.size
      have c0 := hbox1.cell (j := 0) rfl
      have c1 := hbox1.cell (j := 1) rfl
      have c2 := hbox1.cell (j := 2) rfl
      have c3 := hbox1.cell (j := 3) rfl
      have c4 := hbox1.cell (j := 4) rfl
      have m0 := hbox1.frozen 0
      have m1 := hbox1.frozen 1
      have m2 := hbox1.frozen 2
      have m3 := hbox1.frozen 3
      have m4 := hbox1.frozen 4
      have hzg1 := hbox1.size
      have d0 := hbox2.cell (j := 0) rfl
      have d1 := hbox2.cell (j := 1) rfl
      have d2 := hbox2.cell (j := 2) rfl
      have d3 := hbox2.cell (j := 3) rfl
      have d4 := hbox2.cell (j := 4) rfl
      have n0 := hbox2.frozen 0
      have n1 := hbox2.frozen 1
      have n2 := hbox2.frozen 2
      have n3 := hbox2.frozen 3
      have n4 := hbox2.frozen 4
      have hzg2 := hbox2.size
      have hne' : ¬ g2 = g1 := fun e => hne e.symm
      go_upto_region 6 with fail
      clear c0 c1 c2 c3 c4 m0 m1 m2 m3 m4 d0 d1 d2 d3 d4 n0 n1 n2 n3 n4 hbox1 hbox2 hG1 hA hZ
      generalize (((((w'.setCell ⟨g1, 0, none⟩ (.slice a1 (frB x).C.length b1)).setCell ⟨g1, 1, none⟩ (.slice a2 (frB x).U.length b2)).setCell ⟨g1, 2, none⟩ (.slice a3 (frB x).S.length b3)).setCell ⟨g1, 3, none⟩ (.int .i32 (frB x).E)).setCell ⟨g1, 4, none⟩ (.slice a4 vs.length b4)) = W8 at *
      have hG2 := grown_sets5 W8 g2 (.slice t1 (frB y).C.length l1) (.slice t2 (frB y).U.length l2) (.slice t3 (frB y).S.length l3) (.int .i32 (frB y).E) (.slice t4 zs.length l4)
      have hS2 := hO1.set5 (.slice t1 (frB y).C.length l1) (.slice t2 (frB y).U.length l2) (.slice t3 (frB y).S.length l3) (.int .i32 (frB y).E) (.slice t4 zs.length l4)
      have HAM := Lib.hid (hA1.box hG2 hO1)
      have HZM := Lib.hid (hZ1.box hG2 hO1)
      have HA9 := Lib.hid (hS1.grownB hG2 hne)
      have HZ9 := Lib.hid hS2
      have HX9 := Lib.hid (hX1.grownB hG2 (by omega))
      have HW9 := Lib.hid (hW1.grown hG2 hW1.size (fun j hj => by cases hj; exact Nat.le_trans HB5.out.size hg2))
      have HVS := Lib.hid hvs
      have HG2 := Lib.hid (show w.heap.size ≤ g2 from Nat.le_trans HB5.out.size hg2)
      have hXg2 : X ≠ g2 := by omega
      clear hG2 hS2 hS1 hA1 hZ1 hO1 hW1 hX1 hsz1 hvs hzs hzg1 hzg2 hlX hlY hg1 hg2 hC
      generalize (((((W8.setCell ⟨g2, 0, none⟩ (.slice t1 (frB y).C.length l1)).setCell ⟨g2, 1, none⟩ (.slice t2 (frB y).U.length l2)).setCell ⟨g2, 2, none⟩ (.slice t3 (frB y).S.length l3)).setCell ⟨g2, 3, none⟩ (.int .i32 (frB y).E)).setCell ⟨g2, 4, none⟩ (.slice t4 zs.length l4)) = V at *
      have x0 := HX9.out.cell (j := 0) rfl
      have x1 := HX9.out.cell (j := 1) rfl
      have x2 := HX9.out.cell (j := 2) rfl
      have x3 := HX9.out.cell (j := 3) rfl
      have x4 := HX9.out.cell (j := 4) rfl
      cases own with
      | false =>
        clear x0 x1 x2 x3 x4
        obtain ⟨s1, hs1⟩ : ∃ z, z = t1 := ⟨_, rfl⟩
        subst hs1
        obtain ⟨s2, hs2⟩ : ∃ z, z = t2 := ⟨_, rfl⟩
        subst hs2
        obtain ⟨s3, hs3⟩ : ∃ z, z = t3 := ⟨_, rfl⟩
        subst hs3
        obtain ⟨s4, hs4⟩ : ∃ z, z = t4 := ⟨_, rfl⟩
        subst hs4
        obtain ⟨k1, hk1⟩ : ∃ z, z = l1 := ⟨_, rfl⟩
        subst hk1
        obtain ⟨k2, hk2⟩ : ∃ z, z = l2 := ⟨_, rfl⟩
        subst hk2
        obtain ⟨k3, hk3⟩ : ∃ z, z = l3 := ⟨_, rfl⟩
        subst hk3
        obtain ⟨k4, hk4⟩ : ∃ z, z = l4 := ⟨_, rfl⟩
        subst hk4
        obtain ⟨us, hus⟩ : ∃ z, z = zs := ⟨_, rfl⟩
        subst hus
        have HBM := HZM
        have HB9 := HZ9
        clear HZM HZ9
        obtain ⟨f, hf⟩ : ∃ f, frB y = f := ⟨_, rfl⟩
        rw [hf] at HBM HB9
        clear hf
        go_upto_region 8 with fail
        have K8 := Lib.hid (same10_c _ _ _ _ _ _ _ _ (frB x) f vs us V HAM.out.fr HBM.out.fr HAM.out.jr HBM.out.jr HAM.out.jl.1 HBM.out.jl.1)
        obtain ⟨FB, hFB⟩ : ∃ b, eqF (frB x) f = b := ⟨_, rfl⟩
        obtain ⟨AB, hAB⟩ : ∃ b, (eqF (frB x) f && decide (vs.map jOf = us.map jOf)) = b := ⟨_, rfl⟩
        have K9 := K8.out
        rw [hAB, hFB] at K9
        unfold bkV at K9
        have p0 := HA9.out.cell (j := 0) rfl
        have p1 := HA9.out.cell (j := 1) rfl
        have p2 := HA9.out.cell (j := 2) rfl
        have p3 := HA9.out.cell (j := 3) rfl
        have p4 := HA9.out.cell (j := 4) rfl
        have r0 := HB9.out.cell (j := 0) rfl
        have r1 := HB9.out.cell (j := 1) rfl
        have r2 := HB9.out.cell (j := 2) rfl
        have r3 := HB9.out.cell (j := 3) rfl
        have r4 := HB9.out.cell (j := 4) rfl
        have K10 := Lib.hid K9
        have HFB := Lib.hid hFB
        have HAB := Lib.hid hAB
        clear K8 K9 hFB hAB
        go_upto_region 9 with (go_at_call 24; refine K10.out.mono ?_; rintro e w8 ⟨rfl, h8⟩; have HA8 := Lib.hid (HA9.out.stay h8); have HB8 := Lib.hid (HB9.out.stay h8); have HX8 := Lib.hid (HX9.out.stay h8); have HW8 := Lib.hid (HW9.out.trans (h8.mono HW9.out.size)); have HAM8 := Lib.hid (HAM.out.below h8); have HBM8 := Lib.hid (HBM.out.below h8); clear h8)
        clear p0 p1 p2 p3 p4 r0 r1 r2 r3 r4 K10 HA9 HB9 HX9 HW9 HAM HBM
        have HA9 := HA8
        have HB9 := HB8
        have HX9 := HX8
        have HW9 := HW8
        have HAM := HAM8
        have HBM := HBM8
        clear HA8 HB8 HX8 HW8 HAM8 HBM8
        generalize w8 = V at *
        have KSF := Lib.hid (fun (w' : World) (h : Below V.heap.size V w') => HBC.out.sframe _ _ _ _ _ _ (frB x) f w' (HAM.out.below h).fr (HBM.out.below h).fr HAM.out.fi HBM.out.fi)
        have KSB := Lib.hid (fun (w' : World) (h : Below V.heap.size V w') => HBC.out.same _ _ _ _ _ _ _ _ (frB x) f vs us w' (HAM.out.below h).fr (HBM.out.below h).fr HAM.out.fi HBM.out.fi (HAM.out.below h).jr (HBM.out.below h).jr HAM.out.jl.1 HBM.out.jl.1 (fun p hp => (HAM.out.jl.2 p hp).1) (fun p hp => (HBM.out.jl.2 p hp).1))
        have KSX := Lib.hid (fun (w' : World) (h : Below V.heap.size V w') (wC wU wS wJ : Value) (ws : List Jm) (hm : MadeM x w' wC wU wS wJ ws) => same_made HBC.out HLT.out.1 (HAM.out.below h) HVS.out hm)
        rw [HFB.out] at KSF
        rw [HAB.out] at KSB
        unfold frV at KSF
        unfold bkV at KSB KSX
        clear HFB HAB
        refine wp_region_say 21 (fun w' => Below V.heap.size V w') (R9 x (.agg #[vCh, vUn, .int .i16 x.first, vLo, vJs]) (.agg #[.slice a1 (frB x).C.length b1, .slice a2 (frB x).U.length b2, .slice a3 (frB x).S.length b3, .int .i32 (frB x).E]) (.agg #[.slice s1 f.C.length k1, .slice s2 f.U.length k2, .slice s3 f.S.length k3, .int .i32 f.E]) (.agg #[.slice a1 (frB x).C.length b1, .slice a2 (frB x).U.length b2, .slice a3 (frB x).S.length b3, .int .i32 (frB x).E, .slice a4 vs.length b4]) (.agg #[.slice s1 f.C.length k1, .slice s2 f.U.length k2, .slice s3 f.S.length k3, .int .i32 f.E, .slice s4 us.length k4]) g1 g2 FB AB) hmix rfl (by kernel_rfl) (by kernel_rfl) (by kernel_rfl) (Below.refl _ _).drew ?_ ?_
        · intro s a w' i hi hC hdep hfar hrd
          have hBw : Below w.heap.size w w' := HW9.out.trans (hC.mono HW9.out.size)
          rcases (by omega : i = 0 ∨ i = 1 ∨ i = 2 ∨ i = 3 ∨ i = 4 ∨ i = 5 ∨ i = 6 ∨ i = 7 ∨ i = 8 ∨ i = 9 ∨ i = 10 ∨ i = 11 ∨ i = 12 ∨ i = 13 ∨ i = 14 ∨ i = 15 ∨ i = 16 ∨ i = 17 ∨ i = 18 ∨ i = 19 ∨ i = 20) with rfl | rfl | rfl | rfl | rfl | rfl | rfl | rfl | rfl | rfl | rfl | rfl | rfl | rfl | rfl | rfl | rfl | rfl | rfl | rfl | rfl
          · refine runG (.fieldAddr 41 (.tmp 13) 0) (some 44) (gd := none) (by unfold opG; kernel_rfl) trivial (.pointer (some ⟨g1, 0, none⟩)) (w' := w') (fun o ho => by unfold execOp; rw [ho]; simp only [(hfar 13 (by kernel_rfl)).trans (show _ = Value.pointer (some ⟨g1, 0, none⟩) by kernel_rfl)]; go_simp) ?_
            exact ⟨_, congrArg (fun d => a.put d (.pointer (some ⟨g1, 0, none⟩))) (by kernel_rfl), hC, rfl, fun j u h => h⟩
          · refine loadG 38 (.tmp 44) (some 45) (gd := none) (by unfold opG; kernel_rfl) trivial _ (.agg #[.slice a1 (frB x).C.length b1, .slice a2 (frB x).U.length b2, .slice a3 (frB x).S.length b3, .int .i32 (frB x).E]) (show _ = Value.pointer (some ⟨g1, 0, none⟩) from hrd 0 44 (hdep 0 (by kernel_rfl)) (by kernel_rfl)) (load_fr (HA9.out.stay hC)) ?_
            exact ⟨_, congrArg (fun d => a.put d (.agg #[.slice a1 (frB x).C.length b1, .slice a2 (frB x).U.length b2, .slice a3 (frB x).S.length b3, .int .i32 (frB x).E])) (by kernel_rfl), hC, rfl, fun j u h => h⟩
          · refine runG (.fieldAddr 41 (.tmp 14) 0) (some 46) (gd := none) (by unfold opG; kernel_rfl) trivial (.pointer (some ⟨g2, 0, none⟩)) (w' := w') (fun o ho => by unfold execOp; rw [ho]; simp only [(hfar 14 (by kernel_rfl)).trans (show _ = Value.pointer (some ⟨g2, 0, none⟩) by kernel_rfl)]; go_simp) ?_
            exact ⟨_, congrArg (fun d => a.put d (.pointer (some ⟨g2, 0, none⟩))) (by kernel_rfl), hC, rfl, fun j u h => h⟩
          · refine loadG 38 (.tmp 46) (some 47) (gd := none) (by unfold opG; kernel_rfl) trivial _ (.agg #[.slice s1 f.C.length k1, .slice s2 f.U.length k2, .slice s3 f.S.length k3, .int .i32 f.E]) (show _ = Value.pointer (some ⟨g2, 0, none⟩) from hrd 2 46 (hdep 2 (by kernel_rfl)) (by kernel_rfl)) (load_fr (HB9.out.stay hC)) ?_
            exact ⟨_, congrArg (fun d => a.put d (.agg #[.slice s1 f.C.length k1, .slice s2 f.U.length k2, .slice s3 f.S.length k3, .int .i32 f.E])) (by kernel_rfl), hC, rfl, fun j u h => h⟩
          · refine callG (.call { callee := .value (.func 25), args := #[.tmp 45, .tmp 47], argTypes := #[38, 38] }) (some 48) (gd := none) (by unfold opG; kernel_rfl) trivial 25 #[.agg #[.slice a1 (frB x).C.length b1, .slice a2 (frB x).U.length b2, .slice a3 (frB x).S.length b3, .int .i32 (frB x).E], .agg #[.slice s1 f.C.length k1, .slice s2 f.U.length k2, .slice s3 f.S.length k3, .int .i32 f.E]] (fun o ho => by unfold execOp; rw [ho]; simp only [resolve, List.map_toArray, List.map_cons, List.map_nil, show a.eval (.tmp 45) = _ from hrd 1 45 (hdep 1 (by kernel_rfl)) (by kernel_rfl), show a.eval (.tmp 47) = _ from hrd 3 47 (hdep 3 (by kernel_rfl)) (by kernel_rfl)]; go_simp) (KSF.out w' hC) ?_
            rintro e w'' ⟨rfl, hb⟩
            exact ⟨_, rfl, _, congrArg (fun d => a.put d _) (by kernel_rfl), hC.trans (hb.mono hC.size), rfl, R9.stay hb⟩
          · refine runG (.move (.tmp 15)) (some 49) (gd := none) (by unfold opG; kernel_rfl) trivial (.bool FB) (w' := w') (fun o ho => by unfold execOp; rw [ho]; simp only [(hfar 15 (by kernel_rfl)).trans (show _ = Value.bool FB by kernel_rfl)]; go_simp) ?_
            exact ⟨_, congrArg (fun d => a.put d (.bool FB)) (by kernel_rfl), hC, rfl, fun j u h => h⟩
          · refine runG (.binOp .eql 4 (.tmp 48) (.tmp 49) 4) (some 50) (gd := none) (by unfold opG; kernel_rfl) trivial (.bool true) (w' := w') (fun o ho => by unfold execOp; rw [ho]; simp only [show a.eval (.tmp 48) = Value.bool FB from hrd 4 48 (hdep 4 (by kernel_rfl)) (by kernel_rfl), show a.eval (.tmp 49) = Value.bool FB from hrd 5 49 (hdep 5 (by kernel_rfl)) (by kernel_rfl)]; go_simp) ?_
            exact ⟨_, congrArg (fun d => a.put d (.bool true)) (by kernel_rfl), hC, rfl, fun j u h => h⟩
          · refine runG (.move (.tmp 50)) (some 51) (gd := none) (by unfold opG; kernel_rfl) trivial (.bool true) (w' := w') (fun o ho => by unfold execOp; rw [ho]; simp only [show a.eval (.tmp 50) = Value.bool true from hrd 6 50 (hdep 6 (by kernel_rfl)) (by kernel_rfl)]; go_simp) ?_
            exact ⟨_, congrArg (fun d => a.put d (.bool true)) (by kernel_rfl), hC, rfl, fun j u h => h⟩
          · refine loadG 41 (.tmp 13) (some 52) (gd := (some (7, true))) (by unfold opG; kernel_rfl) (yields (by kernel_rfl) (hrd 7 51 (hdep 7 (by kernel_rfl)) (by kernel_rfl))) _ (.agg #[.slice a1 (frB x).C.length b1, .slice a2 (frB x).U.length b2, .slice a3 (frB x).S.length b3, .int .i32 (frB x).E, .slice a4 vs.length b4]) ((hfar 13 (by kernel_rfl)).trans (show _ = Value.pointer (some ⟨g1, 0, none⟩) by kernel_rfl)) (load_bk (HA9.out.stay hC)) ?_
            exact ⟨_, congrArg (fun d => a.put d (.agg #[.slice a1 (frB x).C.length b1, .slice a2 (frB x).U.length b2, .slice a3 (frB x).S.length b3, .int .i32 (frB x).E, .slice a4 vs.length b4])) (by kernel_rfl), hC, rfl, fun j u h => h⟩
          · refine loadG 41 (.tmp 14) (some 53) (gd := (some (7, true))) (by unfold opG; kernel_rfl) (yields (by kernel_rfl) (hrd 7 51 (hdep 7 (by kernel_rfl)) (by kernel_rfl))) _ (.agg #[.slice s1 f.C.length k1, .slice s2 f.U.length k2, .slice s3 f.S.length k3, .int .i32 f.E, .slice s4 us.length k4]) ((hfar 14 (by kernel_rfl)).trans (show _ = Value.pointer (some ⟨g2, 0, none⟩) by kernel_rfl)) (load_bk (HB9.out.stay hC)) ?_
            exact ⟨_, congrArg (fun d => a.put d (.agg #[.slice s1 f.C.length k1, .slice s2 f.U.length k2, .slice s3 f.S.length k3, .int .i32 f.E, .slice s4 us.length k4])) (by kernel_rfl), hC, rfl, fun j u h => h⟩
          · refine callG (.call { callee := .value (.func 26), args := #[.tmp 52, .tmp 53], argTypes := #[41, 41] }) (some 54) (gd := (some (7, true))) (by unfold opG; kernel_rfl) (yields (by kernel_rfl) (hrd 7 51 (hdep 7 (by kernel_rfl)) (by kernel_rfl))) 26 #[.agg #[.slice a1 (frB x).C.length b1, .slice a2 (frB x).U.length b2, .slice a3 (frB x).S.length b3, .int .i32 (frB x).E, .slice a4 vs.length b4], .agg #[.slice s1 f.C.length k1, .slice s2 f.U.length k2, .slice s3 f.S.length k3, .int .i32 f.E, .slice s4 us.length k4]] (fun o ho => by unfold execOp; rw [ho]; simp only [resolve, List.map_toArray, List.map_cons, List.map_nil, show a.eval (.tmp 52) = _ from hrd 8 52 (hdep 8 (by kernel_rfl)) (by kernel_rfl), show a.eval (.tmp 53) = _ from hrd 9 53 (hdep 9 (by kernel_rfl)) (by kernel_rfl)]; go_simp) (KSB.out w' hC) ?_
            rintro e w'' ⟨rfl, hb⟩
            exact ⟨_, rfl, _, congrArg (fun d => a.put d _) (by kernel_rfl), hC.trans (hb.mono hC.size), rfl, R9.stay hb⟩
          · refine runG (.move (.tmp 16)) (some 55) (gd := (some (7, true))) (by unfold opG; kernel_rfl) (yields (by kernel_rfl) (hrd 7 51 (hdep 7 (by kernel_rfl)) (by kernel_rfl))) (.bool AB) (w' := w') (fun o ho => by unfold execOp; rw [ho]; simp only [(hfar 16 (by kernel_rfl)).trans (show _ = Value.bool AB by kernel_rfl)]; go_simp) ?_
            exact ⟨_, congrArg (fun d => a.put d (.bool AB)) (by kernel_rfl), hC, rfl, fun j u h => h⟩
          · refine runG (.binOp .eql 4 (.tmp 54) (.tmp 55) 4) (some 56) (gd := (some (7, true))) (by unfold opG; kernel_rfl) (yields (by kernel_rfl) (hrd 7 51 (hdep 7 (by kernel_rfl)) (by kernel_rfl))) (.bool true) (w' := w') (fun o ho => by unfold execOp; rw [ho]; simp only [show a.eval (.tmp 54) = Value.bool AB from hrd 10 54 (hdep 10 (by kernel_rfl)) (by kernel_rfl), show a.eval (.tmp 55) = Value.bool AB from hrd 11 55 (hdep 11 (by kernel_rfl)) (by kernel_rfl)]; go_simp) ?_
            exact ⟨_, congrArg (fun d => a.put d (.bool true)) (by kernel_rfl), hC, rfl, fun j u h => h⟩
          · refine runG (.pick (.tmp 51) (.tmp 56) (.const (.bool false))) (some 57) (gd := none) (by unfold opG; kernel_rfl) trivial (.bool true) (w' := w') (fun o ho => by unfold execOp; rw [ho]; simp only [show a.eval (.tmp 51) = Value.bool true from hrd 7 51 (hdep 7 (by kernel_rfl)) (by kernel_rfl), show a.eval (.tmp 56) = Value.bool true from hrd 12 56 (hdep 12 (by kernel_rfl)) (by kernel_rfl)]; go_simp) ?_
            exact ⟨_, congrArg (fun d => a.put d (.bool true)) (by kernel_rfl), hC, rfl, fun j u h => h⟩
          · refine runG (.move (.tmp 57)) (some 58) (gd := none) (by unfold opG; kernel_rfl) trivial (.bool true) (w' := w') (fun o ho => by unfold execOp; rw [ho]; simp only [show a.eval (.tmp 57) = Value.bool true from hrd 13 57 (hdep 13 (by kernel_rfl)) (by kernel_rfl)]; go_simp) ?_
            exact ⟨_, congrArg (fun d => a.put d (.bool true)) (by kernel_rfl), hC, rfl, fun j u h => h⟩
          · refine loadG 41 (.tmp 13) (some 59) (gd := (some (14, true))) (by unfold opG; kernel_rfl) (yields (by kernel_rfl) (hrd 14 58 (hdep 14 (by kernel_rfl)) (by kernel_rfl))) _ (.agg #[.slice a1 (frB x).C.length b1, .slice a2 (frB x).U.length b2, .slice a3 (frB x).S.length b3, .int .i32 (frB x).E, .slice a4 vs.length b4]) ((hfar 13 (by kernel_rfl)).trans (show _ = Value.pointer (some ⟨g1, 0, none⟩) by kernel_rfl)) (load_bk (HA9.out.stay hC)) ?_
            exact ⟨_, congrArg (fun d => a.put d (.agg #[.slice a1 (frB x).C.length b1, .slice a2 (frB x).U.length b2, .slice a3 (frB x).S.length b3, .int .i32 (frB x).E, .slice a4 vs.length b4])) (by kernel_rfl), hC, rfl, fun j u h => h⟩
          · refine loadG 28 (.tmp 6) (some 60) (gd := (some (14, true))) (by unfold opG; kernel_rfl) (yields (by kernel_rfl) (hrd 14 58 (hdep 14 (by kernel_rfl)) (by kernel_rfl))) _ (.agg #[vCh, vUn, .int .i16 x.first, vLo, vJs]) ((hfar 6 (by kernel_rfl)).trans (show _ = Value.pointer (some ⟨X, 0, none⟩) by kernel_rfl)) (load_x (HX9.out.stay hC)) ?_
            exact ⟨_, congrArg (fun d => a.put d (.agg #[vCh, vUn, .int .i16 x.first, vLo, vJs])) (by kernel_rfl), hC, rfl, fun j u h => h⟩
          · refine callG (.call { callee := .value (.func 12), args := #[.tmp 60], argTypes := #[28] }) (some 61) (gd := (some (14, true))) (by unfold opG; kernel_rfl) (yields (by kernel_rfl) (hrd 14 58 (hdep 14 (by kernel_rfl)) (by kernel_rfl))) 12 #[.agg #[vCh, vUn, .int .i16 x.first, vLo, vJs]] (fun o ho => by unfold execOp; rw [ho]; simp only [resolve, List.map_toArray, List.map_cons, List.map_nil, show a.eval (.tmp 60) = _ from hrd 16 60 (hdep 16 (by kernel_rfl)) (by kernel_rfl)]; go_simp) (KMX.out w' hBw) ?_
            rintro e w'' ⟨v', rfl, hm, hb⟩
            exact ⟨_, rfl, _, congrArg (fun d => a.put d _) (by kernel_rfl), hC.trans (hb.mono hC.size), MkO.mk hm, R9.stay hb⟩
          · have hm := hrd 17 61 (hdep 17 (by kernel_rfl)) (by kernel_rfl)
            obtain ⟨wC, wU, wS, wJ, ws, he, hM⟩ : MkB x w' (a.eval (.tmp 61)) := hm
            refine callG (.call { callee := .value (.func 26), args := #[.tmp 59, .tmp 61], argTypes := #[41, 41] }) (some 62) (gd := (some (14, true))) (by unfold opG; kernel_rfl) (yields (by kernel_rfl) (hrd 14 58 (hdep 14 (by kernel_rfl)) (by kernel_rfl))) 26 #[.agg #[.slice a1 (frB x).C.length b1, .slice a2 (frB x).U.length b2, .slice a3 (frB x).S.length b3, .int .i32 (frB x).E, .slice a4 vs.length b4], bkV wC wU wS (frB x).E wJ] (fun o ho => by unfold execOp; rw [ho]; simp only [resolve, List.map_toArray, List.map_cons, List.map_nil, he, show a.eval (.tmp 59) = _ from hrd 15 59 (hdep 15 (by kernel_rfl)) (by kernel_rfl)]; go_simp) (KSX.out w' hC wC wU wS wJ ws hM) ?_
            rintro e w'' ⟨rfl, hb⟩
            exact ⟨_, rfl, _, congrArg (fun d => a.put d _) (by kernel_rfl), hC.trans (hb.mono hC.size), rfl, R9.stay hb⟩
          · refine runG (.pick (.tmp 58) (.tmp 62) (.const (.bool false))) (some 63) (gd := none) (by unfold opG; kernel_rfl) trivial (.bool true) (w' := w') (fun o ho => by unfold execOp; rw [ho]; simp only [show a.eval (.tmp 58) = Value.bool true from hrd 14 58 (hdep 14 (by kernel_rfl)) (by kernel_rfl), show a.eval (.tmp 62) = Value.bool true from hrd 18 62 (hdep 18 (by kernel_rfl)) (by kernel_rfl)]; go_simp) ?_
            exact ⟨_, congrArg (fun d => a.put d (.bool true)) (by kernel_rfl), hC, rfl, fun j u h => h⟩
          · refine runG (.assign (.tmp 63)) (some 12) (gd := none) (by unfold opG; kernel_rfl) trivial (.bool true) (w' := w') (fun o ho => by unfold execOp; rw [ho]; simp only [show a.eval (.tmp 63) = Value.bool true from hrd 19 63 (hdep 19 (by kernel_rfl)) (by kernel_rfl)]; go_simp) ?_
            exact ⟨_, congrArg (fun d => a.put d (.bool true)) (by kernel_rfl), hC, rfl, fun j u h => h⟩
        · intro b w' hC hR
          have e20 := hR 20 (by omega)
          simp only [putL, if_true, Nat.reduceAdd, Act.put, List.getElem_toArray, List.getElem_cons_zero, List.getElem_cons_succ, List.setIfInBounds_toArray, List.set_cons_zero, List.set_cons_succ]
          rw [show b 20 = Value.bool true from e20]
          clear hR e20
          go_wp2_with fail
          go_ret
          exact ⟨rfl, HW9.out.trans (hC.mono HW9.out.size)⟩
      | true =>
        go_upto_region 8 with (first
          | (go_at_call 11; refine (spoil_mk HK7.out.mk HLT.out.1 wh at_ by_ hwh hat hby).mono ?_; rintro e w8 ⟨v8, rfl, hA, h8⟩; obtain ⟨vC, vU, vS, vJ, f, us, rfl, hAM⟩ := hA; obtain ⟨s1, k1, rfl⟩ := owns_form hAM.c; obtain ⟨s2, k2, rfl⟩ := owns_form hAM.u; obtain ⟨s3, k3, rfl⟩ := owns_form hAM.s; obtain ⟨s4, k4, rfl⟩ := owns_form hAM.j.row; have HN8 := Lib.hid hAM; have HAM8 := Lib.hid (HAM7.out.below h8); have HA8 := Lib.hid (HA7.out.stay h8); have HZ8 := Lib.hid (HZ7.out.stay h8); have HX8 := Lib.hid (HX7.out.stay h8); have HW8 := Lib.hid (HW7.out.trans (h8.mono HW7.out.size)); unfold bkV; have d0 := HZ8.out.cell (j := 0) rfl; have d1 := HZ8.out.cell (j := 1) rfl; have d2 := HZ8.out.cell (j := 2) rfl; have d3 := HZ8.out.cell (j := 3) rfl; have d4 := HZ8.out.cell (j := 4) rfl; have n0 := HZ8.out.frozen 0; have n1 := HZ8.out.frozen 1; have n2 := HZ8.out.frozen 2; have n3 := HZ8.out.frozen 3; have n4 := HZ8.out.frozen 4; have hzg2 := HZ8.out.size; clear hAM h8)
          | (go_at_call 12; refine (KMX.out _ HW9.out).mono ?_; rintro e w7 ⟨v7, rfl, hm, h7⟩; have HK7 := Lib.hid hm; have HAM7 := Lib.hid (HAM.out.below h7); have HA7 := Lib.hid (HA9.out.stay h7); have HZ7 := Lib.hid (HZ9.out.stay h7); have HX7 := Lib.hid (HX9.out.stay h7); have HW7 := Lib.hid (HW9.out.trans (h7.mono HW9.out.size)); clear hm h7))
        have hG3 := grown_sets5 w8 g2 (.slice s1 f.C.length k1) (.slice s2 f.U.length k2) (.slice s3 f.S.length k3) (.int .i32 f.E) (.slice s4 us.length k4)
        clear HAM HA9 HX9 HW9 HZ9 x0 x1 x2 x3 x4 d0 d1 d2 d3 d4 n0 n1 n2 n3 n4 hzg2 HZM
        have HBM := Lib.hid (HN8.out.box hG3 HZ8.out)
        have HAM := Lib.hid (HAM8.out.box hG3 HZ8.out)
        have HA9 := Lib.hid (HA8.out.grownB hG3 hne)
        have HB9 := Lib.hid (HZ8.out.set5 (.slice s1 f.C.length k1) (.slice s2 f.U.length k2) (.slice s3 f.S.length k3) (.int .i32 f.E) (.slice s4 us.length k4))
        have HX9 := Lib.hid (HX8.out.grownB hG3 hXg2)
        have HW9 := Lib.hid (HW8.out.grown hG3 HW8.out.size (fun j hj => by cases hj; exact HG2.out))
        clear hG3 HN8 HAM8 HA8 HZ8 HX8 HW8 HAM7 HA7 HZ7 HX7 HW7 HK7
        generalize (((((w8.setCell ⟨g2, 0, none⟩ (.slice s1 f.C.length k1)).setCell ⟨g2, 1, none⟩ (.slice s2 f.U.length k2)).setCell ⟨g2, 2, none⟩ (.slice s3 f.S.length k3)).setCell ⟨g2, 3, none⟩ (.int .i32 f.E)).setCell ⟨g2, 4, none⟩ (.slice s4 us.length k4)) = V at *
        have K8 := Lib.hid (same10_c _ _ _ _ _ _ _ _ (frB x) f vs us V HAM.out.fr HBM.out.fr HAM.out.jr HBM.out.jr HAM.out.jl.1 HBM.out.jl.1)
        obtain ⟨FB, hFB⟩ : ∃ b, eqF (frB x) f = b := ⟨_, rfl⟩
        obtain ⟨AB, hAB⟩ : ∃ b, (eqF (frB x) f && decide (vs.map jOf = us.map jOf)) = b := ⟨_, rfl⟩
        have K9 := K8.out
        rw [hAB, hFB] at K9
        unfold bkV at K9
        have p0 := HA9.out.cell (j := 0) rfl
        have p1 := HA9.out.cell (j := 1) rfl
        have p2 := HA9.out.cell (j := 2) rfl
        have p3 := HA9.out.cell (j := 3) rfl
        have p4 := HA9.out.cell (j := 4) rfl
        have r0 := HB9.out.cell (j := 0) rfl
        have r1 := HB9.out.cell (j := 1) rfl
        have r2 := HB9.out.cell (j := 2) rfl
        have r3 := HB9.out.cell (j := 3) rfl
        have r4 := HB9.out.cell (j := 4) rfl
        have K10 := Lib.hid K9
        have HFB := Lib.hid hFB
        have HAB := Lib.hid hAB
        clear K8 K9 hFB hAB
        go_upto_region 9 with (go_at_call 24; refine K10.out.mono ?_; rintro e w8 ⟨rfl, h8⟩; have HA8 := Lib.hid (HA9.out.stay h8); have HB8 := Lib.hid (HB9.out.stay h8); have HX8 := Lib.hid (HX9.out.stay h8); have HW8 := Lib.hid (HW9.out.trans (h8.mono HW9.out.size)); have HAM8 := Lib.hid (HAM.out.below h8); have HBM8 := Lib.hid (HBM.out.below h8); clear h8)
        clear p0 p1 p2 p3 p4 r0 r1 r2 r3 r4 K10 HA9 HB9 HX9 HW9 HAM HBM
        have HA9 := HA8
        have HB9 := HB8
        have HX9 := HX8
        have HW9 := HW8
        have HAM := HAM8
        have HBM := HBM8
        clear HA8 HB8 HX8 HW8 HAM8 HBM8
        generalize w8 = V at *
        have KSF := Lib.hid (fun (w' : World) (h : Below V.heap.size V w') => HBC.out.sframe _ _ _ _ _ _ (frB x) f w' (HAM.out.below h).fr (HBM.out.below h).fr HAM.out.fi HBM.out.fi)
        have KSB := Lib.hid (fun (w' : World) (h : Below V.heap.size V w') => HBC.out.same _ _ _ _ _ _ _ _ (frB x) f vs us w' (HAM.out.below h).fr (HBM.out.below h).fr HAM.out.fi HBM.out.fi (HAM.out.below h).jr (HBM.out.below h).jr HAM.out.jl.1 HBM.out.jl.1 (fun p hp => (HAM.out.jl.2 p hp).1) (fun p hp => (HBM.out.jl.2 p hp).1))
        have KSX := Lib.hid (fun (w' : World) (h : Below V.heap.size V w') (wC wU wS wJ : Value) (ws : List Jm) (hm : MadeM x w' wC wU wS wJ ws) => same_made HBC.out HLT.out.1 (HAM.out.below h) HVS.out hm)
        rw [HFB.out] at KSF
        rw [HAB.out] at KSB
        unfold frV at KSF
        unfold bkV at KSB KSX
        clear HFB HAB
        refine wp_region_say 21 (fun w' => Below V.heap.size V w') (R9 x (.agg #[vCh, vUn, .int .i16 x.first, vLo, vJs]) (.agg #[.slice a1 (frB x).C.length b1, .slice a2 (frB x).U.length b2, .slice a3 (frB x).S.length b3, .int .i32 (frB x).E]) (.agg #[.slice s1 f.C.length k1, .slice s2 f.U.length k2, .slice s3 f.S.length k3, .int .i32 f.E]) (.agg #[.slice a1 (frB x).C.length b1, .slice a2 (frB x).U.length b2, .slice a3 (frB x).S.length b3, .int .i32 (frB x).E, .slice a4 vs.length b4]) (.agg #[.slice s1 f.C.length k1, .slice s2 f.U.length k2, .slice s3 f.S.length k3, .int .i32 f.E, .slice s4 us.length k4]) g1 g2 FB AB) hmix rfl (by kernel_rfl) (by kernel_rfl) (by kernel_rfl) (Below.refl _ _).drew ?_ ?_
        · intro s a w' i hi hC hdep hfar hrd
          have hBw : Below w.heap.size w w' := HW9.out.trans (hC.mono HW9.out.size)
          rcases (by omega : i = 0 ∨ i = 1 ∨ i = 2 ∨ i = 3 ∨ i = 4 ∨ i = 5 ∨ i = 6 ∨ i = 7 ∨ i = 8 ∨ i = 9 ∨ i = 10 ∨ i = 11 ∨ i = 12 ∨ i = 13 ∨ i = 14 ∨ i = 15 ∨ i = 16 ∨ i = 17 ∨ i = 18 ∨ i = 19 ∨ i = 20) with rfl | rfl | rfl | rfl | rfl | rfl | rfl | rfl | rfl | rfl | rfl | rfl | rfl | rfl | rfl | rfl | rfl | rfl | rfl | rfl | rfl
          · refine runG (.fieldAddr 41 (.tmp 13) 0) (some 44) (gd := none) (by unfold opG; kernel_rfl) trivial (.pointer (some ⟨g1, 0, none⟩)) (w' := w') (fun o ho => by unfold execOp; rw [ho]; simp only [(hfar 13 (by kernel_rfl)).trans (show _ = Value.pointer (some ⟨g1, 0, none⟩) by kernel_rfl)]; go_simp) ?_
            exact ⟨_, congrArg (fun d => a.put d (.pointer (some ⟨g1, 0, none⟩))) (by kernel_rfl), hC, rfl, fun j u h => h⟩
          · refine loadG 38 (.tmp 44) (some 45) (gd := none) (by unfold opG; kernel_rfl) trivial _ (.agg #[.slice a1 (frB x).C.length b1, .slice a2 (frB x).U.length b2, .slice a3 (frB x).S.length b3, .int .i32 (frB x).E]) (show _ = Value.pointer (some ⟨g1, 0, none⟩) from hrd 0 44 (hdep 0 (by kernel_rfl)) (by kernel_rfl)) (load_fr (HA9.out.stay hC)) ?_
            exact ⟨_, congrArg (fun d => a.put d (.agg #[.slice a1 (frB x).C.length b1, .slice a2 (frB x).U.length b2, .slice a3 (frB x).S.length b3, .int .i32 (frB x).E])) (by kernel_rfl), hC, rfl, fun j u h => h⟩
          · refine runG (.fieldAddr 41 (.tmp 14) 0) (some 46) (gd := none) (by unfold opG; kernel_rfl) trivial (.pointer (some ⟨g2, 0, none⟩)) (w' := w') (fun o ho => by unfold execOp; rw [ho]; simp only [(hfar 14 (by kernel_rfl)).trans (show _ = Value.pointer (some ⟨g2, 0, none⟩) by kernel_rfl)]; go_simp) ?_
            exact ⟨_, congrArg (fun d => a.put d (.pointer (some ⟨g2, 0, none⟩))) (by kernel_rfl), hC, rfl, fun j u h => h⟩
          · refine loadG 38 (.tmp 46) (some 47) (gd := none) (by unfold opG; kernel_rfl) trivial _ (.agg #[.slice s1 f.C.length k1, .slice s2 f.U.length k2, .slice s3 f.S.length k3, .int .i32 f.E]) (show _ = Value.pointer (some ⟨g2, 0, none⟩) from hrd 2 46 (hdep 2 (by kernel_rfl)) (by kernel_rfl)) (load_fr (HB9.out.stay hC)) ?_
            exact ⟨_, congrArg (fun d => a.put d (.agg #[.slice s1 f.C.length k1, .slice s2 f.U.length k2, .slice s3 f.S.length k3, .int .i32 f.E])) (by kernel_rfl), hC, rfl, fun j u h => h⟩
          · refine callG (.call { callee := .value (.func 25), args := #[.tmp 45, .tmp 47], argTypes := #[38, 38] }) (some 48) (gd := none) (by unfold opG; kernel_rfl) trivial 25 #[.agg #[.slice a1 (frB x).C.length b1, .slice a2 (frB x).U.length b2, .slice a3 (frB x).S.length b3, .int .i32 (frB x).E], .agg #[.slice s1 f.C.length k1, .slice s2 f.U.length k2, .slice s3 f.S.length k3, .int .i32 f.E]] (fun o ho => by unfold execOp; rw [ho]; simp only [resolve, List.map_toArray, List.map_cons, List.map_nil, show a.eval (.tmp 45) = _ from hrd 1 45 (hdep 1 (by kernel_rfl)) (by kernel_rfl), show a.eval (.tmp 47) = _ from hrd 3 47 (hdep 3 (by kernel_rfl)) (by kernel_rfl)]; go_simp) (KSF.out w' hC) ?_
            rintro e w'' ⟨rfl, hb⟩
            exact ⟨_, rfl, _, congrArg (fun d => a.put d _) (by kernel_rfl), hC.trans (hb.mono hC.size), rfl, R9.stay hb⟩
          · refine runG (.move (.tmp 15)) (some 49) (gd := none) (by unfold opG; kernel_rfl) trivial (.bool FB) (w' := w') (fun o ho => by unfold execOp; rw [ho]; simp only [(hfar 15 (by kernel_rfl)).trans (show _ = Value.bool FB by kernel_rfl)]; go_simp) ?_
            exact ⟨_, congrArg (fun d => a.put d (.bool FB)) (by kernel_rfl), hC, rfl, fun j u h => h⟩
          · refine runG (.binOp .eql 4 (.tmp 48) (.tmp 49) 4) (some 50) (gd := none) (by unfold opG; kernel_rfl) trivial (.bool true) (w' := w') (fun o ho => by unfold execOp; rw [ho]; simp only [show a.eval (.tmp 48) = Value.bool FB from hrd 4 48 (hdep 4 (by kernel_rfl)) (by kernel_rfl), show a.eval (.tmp 49) = Value.bool FB from hrd 5 49 (hdep 5 (by kernel_rfl)) (by kernel_rfl)]; go_simp) ?_
            exact ⟨_, congrArg (fun d => a.put d (.bool true)) (by kernel_rfl), hC, rfl, fun j u h => h⟩
          · refine runG (.move (.tmp 50)) (some 51) (gd := none) (by unfold opG; kernel_rfl) trivial (.bool true) (w' := w') (fun o ho => by unfold execOp; rw [ho]; simp only [show a.eval (.tmp 50) = Value.bool true from hrd 6 50 (hdep 6 (by kernel_rfl)) (by kernel_rfl)]; go_simp) ?_
            exact ⟨_, congrArg (fun d => a.put d (.bool true)) (by kernel_rfl), hC, rfl, fun j u h => h⟩
          · refine loadG 41 (.tmp 13) (some 52) (gd := (some (7, true))) (by unfold opG; kernel_rfl) (yields (by kernel_rfl) (hrd 7 51 (hdep 7 (by kernel_rfl)) (by kernel_rfl))) _ (.agg #[.slice a1 (frB x).C.length b1, .slice a2 (frB x).U.length b2, .slice a3 (frB x).S.length b3, .int .i32 (frB x).E, .slice a4 vs.length b4]) ((hfar 13 (by kernel_rfl)).trans (show _ = Value.pointer (some ⟨g1, 0, none⟩) by kernel_rfl)) (load_bk (HA9.out.stay hC)) ?_
            exact ⟨_, congrArg (fun d => a.put d (.agg #[.slice a1 (frB x).C.length b1, .slice a2 (frB x).U.length b2, .slice a3 (frB x).S.length b3, .int .i32 (frB x).E, .slice a4 vs.length b4])) (by kernel_rfl), hC, rfl, fun j u h => h⟩
          · refine loadG 41 (.tmp 14) (some 53) (gd := (some (7, true))) (by unfold opG; kernel_rfl) (yields (by kernel_rfl) (hrd 7 51 (hdep 7 (by kernel_rfl)) (by kernel_rfl))) _ (.agg #[.slice s1 f.C.length k1, .slice s2 f.U.length k2, .slice s3 f.S.length k3, .int .i32 f.E, .slice s4 us.length k4]) ((hfar 14 (by kernel_rfl)).trans (show _ = Value.pointer (some ⟨g2, 0, none⟩) by kernel_rfl)) (load_bk (HB9.out.stay hC)) ?_
            exact ⟨_, congrArg (fun d => a.put d (.agg #[.slice s1 f.C.length k1, .slice s2 f.U.length k2, .slice s3 f.S.length k3, .int .i32 f.E, .slice s4 us.length k4])) (by kernel_rfl), hC, rfl, fun j u h => h⟩
          · refine callG (.call { callee := .value (.func 26), args := #[.tmp 52, .tmp 53], argTypes := #[41, 41] }) (some 54) (gd := (some (7, true))) (by unfold opG; kernel_rfl) (yields (by kernel_rfl) (hrd 7 51 (hdep 7 (by kernel_rfl)) (by kernel_rfl))) 26 #[.agg #[.slice a1 (frB x).C.length b1, .slice a2 (frB x).U.length b2, .slice a3 (frB x).S.length b3, .int .i32 (frB x).E, .slice a4 vs.length b4], .agg #[.slice s1 f.C.length k1, .slice s2 f.U.length k2, .slice s3 f.S.length k3, .int .i32 f.E, .slice s4 us.length k4]] (fun o ho => by unfold execOp; rw [ho]; simp only [resolve, List.map_toArray, List.map_cons, List.map_nil, show a.eval (.tmp 52) = _ from hrd 8 52 (hdep 8 (by kernel_rfl)) (by kernel_rfl), show a.eval (.tmp 53) = _ from hrd 9 53 (hdep 9 (by kernel_rfl)) (by kernel_rfl)]; go_simp) (KSB.out w' hC) ?_
            rintro e w'' ⟨rfl, hb⟩
            exact ⟨_, rfl, _, congrArg (fun d => a.put d _) (by kernel_rfl), hC.trans (hb.mono hC.size), rfl, R9.stay hb⟩
          · refine runG (.move (.tmp 16)) (some 55) (gd := (some (7, true))) (by unfold opG; kernel_rfl) (yields (by kernel_rfl) (hrd 7 51 (hdep 7 (by kernel_rfl)) (by kernel_rfl))) (.bool AB) (w' := w') (fun o ho => by unfold execOp; rw [ho]; simp only [(hfar 16 (by kernel_rfl)).trans (show _ = Value.bool AB by kernel_rfl)]; go_simp) ?_
            exact ⟨_, congrArg (fun d => a.put d (.bool AB)) (by kernel_rfl), hC, rfl, fun j u h => h⟩
          · refine runG (.binOp .eql 4 (.tmp 54) (.tmp 55) 4) (some 56) (gd := (some (7, true))) (by unfold opG; kernel_rfl) (yields (by kernel_rfl) (hrd 7 51 (hdep 7 (by kernel_rfl)) (by kernel_rfl))) (.bool true) (w' := w') (fun o ho => by unfold execOp; rw [ho]; simp only [show a.eval (.tmp 54) = Value.bool AB from hrd 10 54 (hdep 10 (by kernel_rfl)) (by kernel_rfl), show a.eval (.tmp 55) = Value.bool AB from hrd 11 55 (hdep 11 (by kernel_rfl)) (by kernel_rfl)]; go_simp) ?_
            exact ⟨_, congrArg (fun d => a.put d (.bool true)) (by kernel_rfl), hC, rfl, fun j u h => h⟩
          · refine runG (.pick (.tmp 51) (.tmp 56) (.const (.bool false))) (some 57) (gd := none) (by unfold opG; kernel_rfl) trivial (.bool true) (w' := w') (fun o ho => by unfold execOp; rw [ho]; simp only [show a.eval (.tmp 51) = Value.bool true from hrd 7 51 (hdep 7 (by kernel_rfl)) (by kernel_rfl), show a.eval (.tmp 56) = Value.bool true from hrd 12 56 (hdep 12 (by kernel_rfl)) (by kernel_rfl)]; go_simp) ?_
            exact ⟨_, congrArg (fun d => a.put d (.bool true)) (by kernel_rfl), hC, rfl, fun j u h => h⟩
          · refine runG (.move (.tmp 57)) (some 58) (gd := none) (by unfold opG; kernel_rfl) trivial (.bool true) (w' := w') (fun o ho => by unfold execOp; rw [ho]; simp only [show a.eval (.tmp 57) = Value.bool true from hrd 13 57 (hdep 13 (by kernel_rfl)) (by kernel_rfl)]; go_simp) ?_
            exact ⟨_, congrArg (fun d => a.put d (.bool true)) (by kernel_rfl), hC, rfl, fun j u h => h⟩
          · refine loadG 41 (.tmp 13) (some 59) (gd := (some (14, true))) (by unfold opG; kernel_rfl) (yields (by kernel_rfl) (hrd 14 58 (hdep 14 (by kernel_rfl)) (by kernel_rfl))) _ (.agg #[.slice a1 (frB x).C.length b1, .slice a2 (frB x).U.length b2, .slice a3 (frB x).S.length b3, .int .i32 (frB x).E, .slice a4 vs.length b4]) ((hfar 13 (by kernel_rfl)).trans (show _ = Value.pointer (some ⟨g1, 0, none⟩) by kernel_rfl)) (load_bk (HA9.out.stay hC)) ?_
            exact ⟨_, congrArg (fun d => a.put d (.agg #[.slice a1 (frB x).C.length b1, .slice a2 (frB x).U.length b2, .slice a3 (frB x).S.length b3, .int .i32 (frB x).E, .slice a4 vs.length b4])) (by kernel_rfl), hC, rfl, fun j u h => h⟩
          · refine loadG 28 (.tmp 6) (some 60) (gd := (some (14, true))) (by unfold opG; kernel_rfl) (yields (by kernel_rfl) (hrd 14 58 (hdep 14 (by kernel_rfl)) (by kernel_rfl))) _ (.agg #[vCh, vUn, .int .i16 x.first, vLo, vJs]) ((hfar 6 (by kernel_rfl)).trans (show _ = Value.pointer (some ⟨X, 0, none⟩) by kernel_rfl)) (load_x (HX9.out.stay hC)) ?_
            exact ⟨_, congrArg (fun d => a.put d (.agg #[vCh, vUn, .int .i16 x.first, vLo, vJs])) (by kernel_rfl), hC, rfl, fun j u h => h⟩
          · refine callG (.call { callee := .value (.func 12), args := #[.tmp 60], argTypes := #[28] }) (some 61) (gd := (some (14, true))) (by unfold opG; kernel_rfl) (yields (by kernel_rfl) (hrd 14 58 (hdep 14 (by kernel_rfl)) (by kernel_rfl))) 12 #[.agg #[vCh, vUn, .int .i16 x.first, vLo, vJs]] (fun o ho => by unfold execOp; rw [ho]; simp only [resolve, List.map_toArray, List.map_cons, List.map_nil, show a.eval (.tmp 60) = _ from hrd 16 60 (hdep 16 (by kernel_rfl)) (by kernel_rfl)]; go_simp) (KMX.out w' hBw) ?_
            rintro e w'' ⟨v', rfl, hm, hb⟩
            exact ⟨_, rfl, _, congrArg (fun d => a.put d _) (by kernel_rfl), hC.trans (hb.mono hC.size), MkO.mk hm, R9.stay hb⟩
          · have hm := hrd 17 61 (hdep 17 (by kernel_rfl)) (by kernel_rfl)
            obtain ⟨wC, wU, wS, wJ, ws, he, hM⟩ : MkB x w' (a.eval (.tmp 61)) := hm
            refine callG (.call { callee := .value (.func 26), args := #[.tmp 59, .tmp 61], argTypes := #[41, 41] }) (some 62) (gd := (some (14, true))) (by unfold opG; kernel_rfl) (yields (by kernel_rfl) (hrd 14 58 (hdep 14 (by kernel_rfl)) (by kernel_rfl))) 26 #[.agg #[.slice a1 (frB x).C.length b1, .slice a2 (frB x).U.length b2, .slice a3 (frB x).S.length b3, .int .i32 (frB x).E, .slice a4 vs.length b4], bkV wC wU wS (frB x).E wJ] (fun o ho => by unfold execOp; rw [ho]; simp only [resolve, List.map_toArray, List.map_cons, List.map_nil, he, show a.eval (.tmp 59) = _ from hrd 15 59 (hdep 15 (by kernel_rfl)) (by kernel_rfl)]; go_simp) (KSX.out w' hC wC wU wS wJ ws hM) ?_
            rintro e w'' ⟨rfl, hb⟩
            exact ⟨_, rfl, _, congrArg (fun d => a.put d _) (by kernel_rfl), hC.trans (hb.mono hC.size), rfl, R9.stay hb⟩
          · refine runG (.pick (.tmp 58) (.tmp 62) (.const (.bool false))) (some 63) (gd := none) (by unfold opG; kernel_rfl) trivial (.bool true) (w' := w') (fun o ho => by unfold execOp; rw [ho]; simp only [show a.eval (.tmp 58) = Value.bool true from hrd 14 58 (hdep 14 (by kernel_rfl)) (by kernel_rfl), show a.eval (.tmp 62) = Value.bool true from hrd 18 62 (hdep 18 (by kernel_rfl)) (by kernel_rfl)]; go_simp) ?_
            exact ⟨_, congrArg (fun d => a.put d (.bool true)) (by kernel_rfl), hC, rfl, fun j u h => h⟩
          · refine runG (.assign (.tmp 63)) (some 12) (gd := none) (by unfold opG; kernel_rfl) trivial (.bool true) (w' := w') (fun o ho => by unfold execOp; rw [ho]; simp only [show a.eval (.tmp 63) = Value.bool true from hrd 19 63 (hdep 19 (by kernel_rfl)) (by kernel_rfl)]; go_simp) ?_
            exact ⟨_, congrArg (fun d => a.put d (.bool true)) (by kernel_rfl), hC, rfl, fun j u h => h⟩
        · intro b w' hC hR
          have e20 := hR 20 (by omega)
          simp only [putL, if_true, Nat.reduceAdd, Act.put, List.getElem_toArray, List.getElem_cons_zero, List.getElem_cons_succ, List.setIfInBounds_toArray, List.set_cons_zero, List.set_cons_succ]
          rw [show b 20 = Value.bool true from e20]
          clear hR e20
          go_wp2_with fail
          go_ret
          exact ⟨rfl, HW9.out.trans (hC.mono HW9.out.size)⟩
end Go.Proofs.YtljjodahfomljaaGreatDoor

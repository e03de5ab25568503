/- The walk of law BookChecks. -/
import Derived.Test.YtljjodahfomljaaGreatDoorXj
import Derived.Test.YtljjodahfomljaaGreatDoorXio
import Derived.Test.YtljjodahfomljaaGreatDoorSall
namespace Go.Proofs.YtljjodahfomljaaGreatDoor
open Go.RowKit
set_option linter.unusedVariables false
set_option linter.unusedSimpArgs false
/-- A made book as a value. -/
def MkB (x : Bk) (w : World) (v : Value) : Prop := ∃ (vC vU vS vJ : Value) (vs : List Jm), v = bkV vC vU vS (frB x).E vJ ∧ MadeM x w vC vU vS vJ vs
theorem MkB.stay {x : Bk} {w w' : World} {v : Value} (h : MkB x w v) (hb : Below w.heap.size w w') : MkB x w' v := by
  obtain ⟨vC, vU, vS, vJ, vs, e, hM⟩ := h
  exact ⟨vC, vU, vS, vJ, vs, e, hM.stay hb⟩
theorem made_ne {x : Bk} {vs : List Jm} (h8 : ∀ j ∈ x.journals, j.lines.length ≤ 8) (h : vs.map jOf = makeJ x) : ∀ p ∈ vs, p.2.2 ≠ [] := by
  intro p hp h0
  obtain ⟨_, b, _, _⟩ := stJ_ok x h8 x.journals.length (Nat.le_refl _)
  have hm : jOf p ∈ makeJ x := by rw [← h]; exact List.mem_map_of_mem hp
  have hk := (b (jOf p) hm).1.chk
  unfold jOf chkJ at hk
  rw [h0] at hk
  simp only [List.length_nil] at hk
  split at hk
  · omega
  · omega
theorem load_x {w : World} {b : Nat} {vCh vUn vLo vJs : Value} {n : Int} (h : HBox w b [vCh, vUn, .int .i16 n, vLo, vJs] 28) : (Instr.loadAt 28 (.pointer (some ⟨b, 0, none⟩))).run Tryz.prog w = .ok (.agg #[vCh, vUn, .int .i16 n, vLo, vJs]) w := by
  have x0 := h.cell (j := 0) rfl
  have x1 := h.cell (j := 1) rfl
  have x2 := h.cell (j := 2) rfl
  have x3 := h.cell (j := 3) rfl
  have x4 := h.cell (j := 4) rfl
  go_simp
theorem load_bk {w : World} {b : Nat} {v0 v1 v2 v3 v4 : Value} (h : HBox w b [v0, v1, v2, v3, v4] 41) : (Instr.loadAt 41 (.pointer (some ⟨b, 0, none⟩))).run Tryz.prog w = .ok (.agg #[v0, v1, v2, v3, v4]) w := by
  have x0 := h.cell (j := 0) rfl
  have x1 := h.cell (j := 1) rfl
  have x2 := h.cell (j := 2) rfl
  have x3 := h.cell (j := 3) rfl
  have x4 := h.cell (j := 4) rfl
  go_simp
/-- What holds of the values by which law BookChecks answers. -/
def RC (x : Bk) (xv bk : Value) (c : Int) : Nat → Value → World → Prop
  | 0, v, _ => v = xv
  | 1, v, w => MkB x w v
  | 2, v, _ => v = .int .i64 0
  | 3, v, _ => v = .bool true
  | 4, v, _ => v = .bool true
  | 5, v, _ => v = xv
  | 6, v, w => MkB x w v
  | 7, v, _ => v = .int .i64 0
  | 8, v, _ => v = .bool true
  | 9, v, _ => v = .bool true
  | 10, v, _ => v = .bool true
  | 11, v, _ => v = bk
  | 12, v, _ => v = .int .i64 c
  | 13, v, _ => v = bk
  | 14, v, _ => v = .int .i64 c
  | _, v, _ => v = .bool true
theorem RC.stay {x : Bk} {xv bk : Value} {c : Int} {w w' : World} (hb : Below w.heap.size w w') : ∀ j u, RC x xv bk c j u w → RC x xv bk c j u w'
  | 0, _, h => h
  | 1, _, h => MkB.stay h hb
  | 2, _, h => h
  | 3, _, h => h
  | 4, _, h => h
  | 5, _, h => h
  | 6, _, h => MkB.stay h hb
  | 7, _, h => h
  | 8, _, h => h
  | 9, _, h => h
  | 10, _, h => h
  | 11, _, h => h
  | 12, _, h => h
  | 13, _, h => h
  | 14, _, h => h
  | _ + 15, _, h => h
theorem mk_c (x : Bk) (vCh vUn vLo vJs : Value) (js : List Jp) (w : World) (hM : BkM x vCh vUn vLo vJs js w) (hT : lightB x = true) :
    Calls Tryz.prog 12 #[.agg #[vCh, vUn, .int .i16 x.first, vLo, vJs]] w fun e w' => ∃ v, e = .returned v ∧ MkB x w' v ∧ Below w.heap.size w w' := by
  have hl := light_of hT
  refine (makeB_c x vCh vUn vLo vJs js w hM hl.1 (by have := hl.2.2.2.2; omega)).mono ?_
  rintro e w' ⟨vC, vU, vS, vJ, vs, rfl, oC, oU, oS, hJ, hm, hb⟩
  exact ⟨_, rfl, ⟨_, _, _, _, _, rfl, JOwn.made hl.1 (by have := hl.2.2.2.2; omega) oC oU oS hJ hm⟩, hb⟩
theorem spoil_mk {x : Bk} {w : World} {v : Value} (h : MkB x w v) (hT : lightB x = true) (wh at_ : Nat) (by_ : Int) (hwh : wh < 256) (hat : at_ < 256) (hby : -9223372036854775808 ≤ by_ ∧ by_ ≤ 9223372036854775807) :
    Calls Tryz.prog 11 #[v, .int .u8 (wh : Int), .int .u8 (at_ : Int), .int .i64 by_] w fun e w' => ∃ v, e = .returned v ∧ AnyB w.heap.size w' v ∧ Below w.heap.size w w' := by
  obtain ⟨vC, vU, vS, vJ, vs, rfl, hM⟩ := h
  have hl := light_of hT
  obtain ⟨a, b⟩ := made_lens hl.1 (by have := hl.2.2.2.2; omega) hM.js
  exact spoil_c (frB x) vC vU vS vJ vs wh at_ by_ w hM.fr (frB_in x) (frC_made x.chart).2.2 (frU_ok x.units).2.2.2 (frC_made x.chart).1.rise hM.jr (by have := hl.2.2.2.2; omega) (fun p hp => by have := b p hp; omega) (made_ne hl.1 hM.js) hwh hat hby
set_option maxHeartbeats 8000000 in
set_option maxRecDepth 100000 in
theorem bookchecks_any {I : World → Prop} (C : AllotC) (D : DayC I) (K : KeyC I) (U : UnitC) (LC : CalC I) (EC : EntryC I) (B : BookC I) (x : Bk) (vCh vUn vLo vJs : Value) (js : List Jp) (wh at_ : Nat) (by_ : Int) (w : World) (hI : I w) (hM : BkM x vCh vUn vLo vJs js w) (hwh : wh < 256) (hat : at_ < 256) (hby : -9223372036854775808 ≤ by_ ∧ by_ ≤ 9223372036854775807) :
    Calls Tryz.prog 3 #[bV vCh vUn x.first vLo vJs, .int .u8 (wh : Int), .int .u8 (at_ : Int), .int .i64 by_] w fun e w' => e = .returned (.bool true) ∧ Below w.heap.size w w' := by
  have hmix : Tryz.prog.follows .mixedOrders = true := by kernel_rfl
  obtain ⟨q1, d1, rfl, _⟩ := hM.ch.form
  obtain ⟨q2, d2, rfl, _⟩ := hM.un.form
  obtain ⟨q3, d3, rfl, _⟩ := hM.lo.form
  obtain ⟨q4, d4, rfl, _⟩ := hM.jr.form
  obtain ⟨vCh, hvCh⟩ : ∃ v, Value.slice q1 x.chart.length d1 = v := ⟨_, rfl⟩
  obtain ⟨vUn, hvUn⟩ : ∃ v, Value.slice q2 x.units.length d2 = v := ⟨_, rfl⟩
  obtain ⟨vLo, hvLo⟩ : ∃ v, Value.slice q3 x.long.length d3 = v := ⟨_, rfl⟩
  obtain ⟨vJs, hvJs⟩ : ∃ v, Value.slice q4 js.length d4 = v := ⟨_, rfl⟩
  rw [hvCh, hvUn, hvLo, hvJs] at hM ⊢
  clear hvCh hvUn hvLo hvJs
  have HI := Lib.hid hI
  have HDY := Lib.hid D
  have HBC := Lib.hid B
  have KA := Lib.hid (fun (w' : World) (h : Below w.heap.size w w') => awake10_any C D K U LC EC B w' (D.stay hI h))
  have KL := Lib.hid (fun (w' : World) (h : Below w.heap.size w w') => light_c x vCh vUn vLo vJs js w' (hM.stay h))
  have KM0 := Lib.hid (fun (hT : lightB x = true) (w' : World) (h : Below w.heap.size w w') => mk_c x vCh vUn vLo vJs js w' (hM.stay h) hT)
  have KC0 := Lib.hid (fun (hT : lightB x = true) (w' : World) (h : Below w.heap.size w w') (vC vU vS vJ : Value) (vs : List Jm) (hm : MadeM x w' vC vU vS vJ vs) => B.made (D.stay hI h) hm (light_of hT).1 (by have := (light_of hT).2.2.2.2; omega))
  have KL0 := Lib.hid (fun (hT : lightB x = true) (w' : World) (h : Below w.heap.size w w') (vC vU vS vJ : Value) (vs : List Jm) (hm : MadeM x w' vC vU vS vJ vs) => show Calls Tryz.prog 14 #[bkV vC vU vS (frB x).E vJ] w' fun e w'' => e = .returned (.int .i64 0) ∧ Below w'.heap.size w' w'' from by
    obtain ⟨a, b⟩ := made_lens (light_of hT).1 (by have := (light_of hT).2.2.2.2; omega) hm.js
    have h5 := (light_of hT).2.2.2.2
    have h6 := check10_c D B (frB x) vC vU vS vJ vs w' (D.stay hI h) hm.fr (frB_in x) hm.jr (by omega) (fun p hp => by have := b p hp; omega)
    rw [hm.js, made_ok x (light_of hT).1 (by omega)] at h6
    exact h6)
  obtain ⟨LT, hLT⟩ : ∃ b, lightB x = b := ⟨_, rfl⟩
  have HLT := Lib.hid hLT
  rw [hLT] at KL
  unfold bV at KL ⊢
  have hb := (Below.refl w.heap.size w).alloc (Nat.le_refl _) (.cells #[vCh, vUn, .int .i16 x.first, vLo, vJs] 28)
  have bx := HBox.new w [vCh, vUn, .int .i16 x.first, vLo, vJs] 28
  change HBox (w.alloc (.cells #[vCh, vUn, .int .i16 x.first, vLo, vJs] 28)) _ _ _ at bx
  clear C D K U LC EC B hI hM hLT
  go_enter Tryz.func3, Tryz.ntmps3
  go_upto_region 1 with fail
  generalize w.alloc (.cells #[vCh, vUn, .int .i16 x.first, vLo, vJs] 28) = W at *
  generalize w.heap.size = X at bx ⊢
  have HX := Lib.hid bx
  have HB := Lib.hid hb
  clear bx hb
  go_upto_region 3 with (go_at_call 9; refine (KA.out _ HB.out).mono ?_; rintro e w4 ⟨rfl, h4⟩; have HX4 := Lib.hid (HX.out.stay h4); have HB4 := Lib.hid (HB.out.trans (h4.mono HB.out.size)); clear h4)
  have x0 := HX4.out.cell (j := 0) rfl
  have x1 := HX4.out.cell (j := 1) rfl
  have x2 := HX4.out.cell (j := 2) rfl
  have x3 := HX4.out.cell (j := 3) rfl
  have x4 := HX4.out.cell (j := 4) rfl
  clear HX HB
  cases LT with
  | false =>
    go_wp2_with (go_at_call 10; refine (KL.out _ HB4.out).mono ?_; rintro e w5 ⟨rfl, h5⟩; have HB5 := Lib.hid (HB4.out.trans (h5.mono HB4.out.size)); clear h5)
    go_ret
    exact ⟨rfl, HB5.out⟩
  | true =>
    have KM := Lib.hid (KM0.out HLT.out)
    have KC := Lib.hid (KC0.out HLT.out)
    have KL10 := Lib.hid (KL0.out HLT.out)
    go_upto_region 5 with (go_at_call 10; refine (KL.out _ HB4.out).mono ?_; rintro e w5 ⟨rfl, h5⟩; have HX5 := Lib.hid (HX4.out.stay h5); have HB5 := Lib.hid (HB4.out.trans (h5.mono HB4.out.size)); clear h5)
    clear x0 x1 x2 x3 x4 HX4 HB4 KM0 KC0 KL0
    have x0 := HX5.out.cell (j := 0) rfl
    have x1 := HX5.out.cell (j := 1) rfl
    have x2 := HX5.out.cell (j := 2) rfl
    have x3 := HX5.out.cell (j := 3) rfl
    have x4 := HX5.out.cell (j := 4) rfl
    go_upto_region 6 with (first
      | (go_at_call 11; refine (spoil_mk HK7.out HLT.out wh at_ by_ hwh hat hby).mono ?_; rintro e w8 ⟨v8, rfl, hA, h8⟩; obtain ⟨vC, vU, vS, vJ, f, us, rfl, hAM⟩ := hA; have hF := hAM.fr; have hi := hAM.fi; have hJ := hAM.jr; have hl := hAM.jl.1; have hp := hAM.jl.2; clear hAM; obtain ⟨s1, k1, rfl, _⟩ := hF.c.form; obtain ⟨s2, k2, rfl, _⟩ := hF.u.form; obtain ⟨s3, k3, rfl, _⟩ := hF.s.form; obtain ⟨s4, k4, rfl, _⟩ := hJ.1.form; have HF := Lib.hid hF; have HFI := Lib.hid hi; have HJ := Lib.hid hJ; have HP := Lib.hid (And.intro hl hp); have HX8 := Lib.hid (HX7.out.stay h8); have HB8 := Lib.hid (HB7.out.trans (h8.mono HB7.out.size)); unfold bkV; clear hF hi hJ hl hp h8)
      | (go_at_call 12; refine (KM.out _ HB5.out).mono ?_; rintro e w7 ⟨v7, rfl, hm, h7⟩; have HK7 := Lib.hid hm; have HX7 := Lib.hid (HX5.out.stay h7); have HB7 := Lib.hid (HB5.out.trans (h7.mono HB5.out.size)); clear hm h7))
    have hbw := (Below.refl w8.heap.size w8).alloc (Nat.le_refl _) (.cells #[.slice s1 (f.C).length k1, .slice s2 (f.U).length k2, .slice s3 (f.S).length k3, .int .i32 f.E, .slice s4 us.length k4] 41)
    have hfb := HBox.new w8 [.slice s1 (f.C).length k1, .slice s2 (f.U).length k2, .slice s3 (f.S).length k3, .int .i32 f.E, .slice s4 us.length k4] 41
    change HBox (w8.alloc (.cells #[.slice s1 (f.C).length k1, .slice s2 (f.U).length k2, .slice s3 (f.S).length k3, .int .i32 f.E, .slice s4 us.length k4] 41)) _ _ _ at hfb
    have HF6 := Lib.hid (HF.out.stay hbw)
    have HJ6 := Lib.hid (HJ.out.stay hbw)
    have HX6 := Lib.hid (HX8.out.stay hbw)
    have HB6 := Lib.hid (HB8.out.trans (hbw.mono HB8.out.size))
    have HK6 := Lib.hid hfb
    clear hbw hfb x0 x1 x2 x3 x4 HX5 HB5 HX7 HB7 HX8 HB8 HF HJ HK7
    generalize w8.alloc (.cells #[.slice s1 (f.C).length k1, .slice s2 (f.U).length k2, .slice s3 (f.S).length k3, .int .i32 f.E, .slice s4 us.length k4] 41) = V at *
    generalize w8.heap.size = Y at *
    obtain ⟨c, hc⟩ : ∃ c, chkB f (us.map jOf) = c := ⟨_, rfl⟩
    have KC2 := Lib.hid (fun (w' : World) (h : Below V.heap.size V w') => HBC.out.check _ _ _ _ f us w' (HDY.out.stay HI.out (HB6.out.trans (h.mono HB6.out.size))) (HF6.out.stay h) HFI.out (HJ6.out.stay h) HP.out.1 HP.out.2)
    have KL2 := Lib.hid (fun (w' : World) (h : Below V.heap.size V w') => check10_c HDY.out HBC.out f _ _ _ _ us w' (HDY.out.stay HI.out (HB6.out.trans (h.mono HB6.out.size))) (HF6.out.stay h) HFI.out (HJ6.out.stay h) HP.out.1 HP.out.2)
    rw [hc] at KC2 KL2
    unfold bkV at KC2 KL2
    clear hc
    refine wp_region_say 18 (fun w' => Below V.heap.size V w') (RC x (.agg #[vCh, vUn, .int .i16 x.first, vLo, vJs]) (.agg #[.slice s1 (f.C).length k1, .slice s2 (f.U).length k2, .slice s3 (f.S).length k3, .int .i32 f.E, .slice s4 us.length k4]) c) hmix rfl (by kernel_rfl) (by kernel_rfl) (by kernel_rfl) (Below.refl _ _).drew ?_ ?_
    · intro s a w' i hi hC hdep hfar hrd
      have hBw : Below w.heap.size w w' := HB6.out.trans (hC.mono HB6.out.size)
      rcases (by omega : i = 0 ∨ i = 1 ∨ i = 2 ∨ i = 3 ∨ i = 4 ∨ i = 5 ∨ i = 6 ∨ i = 7 ∨ i = 8 ∨ i = 9 ∨ i = 10 ∨ i = 11 ∨ i = 12 ∨ i = 13 ∨ i = 14 ∨ i = 15 ∨ i = 16 ∨ i = 17) with rfl | rfl | rfl | rfl | rfl | rfl | rfl | rfl | rfl | rfl | rfl | rfl | rfl | rfl | rfl | rfl | rfl | rfl
      · refine loadG 28 (.tmp 4) (some 21) (gd := none) (by unfold opG; kernel_rfl) trivial _ (.agg #[vCh, vUn, .int .i16 x.first, vLo, vJs]) ((hfar 4 (by kernel_rfl)).trans (show _ = Value.pointer (some ⟨X, 0, none⟩) by kernel_rfl)) (load_x (HX6.out.stay hC)) ?_
        exact ⟨_, congrArg (fun d => a.put d (.agg #[vCh, vUn, .int .i16 x.first, vLo, vJs])) (by kernel_rfl), hC, rfl, fun j u h => h⟩
      · refine callG (.call { callee := .value (.func 12), args := #[.tmp 21], argTypes := #[28] }) (some 22) (gd := none) (by unfold opG; kernel_rfl) trivial 12 #[.agg #[vCh, vUn, .int .i16 x.first, vLo, vJs]] (fun o ho => by unfold execOp; rw [ho]; simp only [resolve, List.map_toArray, List.map_cons, List.map_nil, show a.eval (.tmp 21) = _ from hrd 0 21 (hdep 0 (by kernel_rfl)) (by kernel_rfl)]; go_simp) (KM.out w' hBw) ?_
        rintro e w'' ⟨v', rfl, hm, hb⟩
        exact ⟨_, rfl, _, congrArg (fun d => a.put d _) (by kernel_rfl), hC.trans (hb.mono hC.size), hm, RC.stay hb⟩
      · have hm := hrd 1 22 (hdep 1 (by kernel_rfl)) (by kernel_rfl)
        obtain ⟨wC, wU, wS, wJ, ws, he, hM⟩ : MkB x w' (a.eval (.tmp 22)) := hm
        refine callG (.call { callee := .value (.func 13), args := #[.tmp 22], argTypes := #[41] }) (some 23) (gd := none) (by unfold opG; kernel_rfl) trivial 13 #[bkV wC wU wS (frB x).E wJ] (fun o ho => by unfold execOp; rw [ho]; simp only [resolve, List.map_toArray, List.map_cons, List.map_nil, he]; go_simp) (KC.out w' hBw wC wU wS wJ ws hM) ?_
        rintro e w'' ⟨rfl, hb⟩
        exact ⟨_, rfl, _, congrArg (fun d => a.put d _) (by kernel_rfl), hC.trans (hb.mono hC.size), rfl, RC.stay hb⟩
      · refine runG (.binOp .eql 44 (.tmp 23) (.const (.int .i64 0)) 44) (some 24) (gd := none) (by unfold opG; kernel_rfl) trivial (.bool true) (w' := w') (fun o ho => by unfold execOp; rw [ho]; simp only [show a.eval (.tmp 23) = Value.int .i64 0 from hrd 2 23 (hdep 2 (by kernel_rfl)) (by kernel_rfl)]; go_simp) ?_
        exact ⟨_, congrArg (fun d => a.put d (.bool true)) (by kernel_rfl), hC, rfl, fun j u h => h⟩
      · refine runG (.move (.tmp 24)) (some 25) (gd := none) (by unfold opG; kernel_rfl) trivial (.bool true) (w' := w') (fun o ho => by unfold execOp; rw [ho]; simp only [show a.eval (.tmp 24) = Value.bool true from hrd 3 24 (hdep 3 (by kernel_rfl)) (by kernel_rfl)]; go_simp) ?_
        exact ⟨_, congrArg (fun d => a.put d (.bool true)) (by kernel_rfl), hC, rfl, fun j u h => h⟩
      · refine loadG 28 (.tmp 4) (some 26) (gd := (some (4, true))) (by unfold opG; kernel_rfl) (yields (by kernel_rfl) (hrd 4 25 (hdep 4 (by kernel_rfl)) (by kernel_rfl))) _ (.agg #[vCh, vUn, .int .i16 x.first, vLo, vJs]) ((hfar 4 (by kernel_rfl)).trans (show _ = Value.pointer (some ⟨X, 0, none⟩) by kernel_rfl)) (load_x (HX6.out.stay hC)) ?_
        exact ⟨_, congrArg (fun d => a.put d (.agg #[vCh, vUn, .int .i16 x.first, vLo, vJs])) (by kernel_rfl), hC, rfl, fun j u h => h⟩
      · refine callG (.call { callee := .value (.func 12), args := #[.tmp 26], argTypes := #[28] }) (some 27) (gd := (some (4, true))) (by unfold opG; kernel_rfl) (yields (by kernel_rfl) (hrd 4 25 (hdep 4 (by kernel_rfl)) (by kernel_rfl))) 12 #[.agg #[vCh, vUn, .int .i16 x.first, vLo, vJs]] (fun o ho => by unfold execOp; rw [ho]; simp only [resolve, List.map_toArray, List.map_cons, List.map_nil, show a.eval (.tmp 26) = _ from hrd 5 26 (hdep 5 (by kernel_rfl)) (by kernel_rfl)]; go_simp) (KM.out w' hBw) ?_
        rintro e w'' ⟨v', rfl, hm, hb⟩
        exact ⟨_, rfl, _, congrArg (fun d => a.put d _) (by kernel_rfl), hC.trans (hb.mono hC.size), hm, RC.stay hb⟩
      · have hm := hrd 6 27 (hdep 6 (by kernel_rfl)) (by kernel_rfl)
        obtain ⟨wC, wU, wS, wJ, ws, he, hM⟩ : MkB x w' (a.eval (.tmp 27)) := hm
        refine callG (.call { callee := .value (.func 14), args := #[.tmp 27], argTypes := #[41] }) (some 28) (gd := (some (4, true))) (by unfold opG; kernel_rfl) (yields (by kernel_rfl) (hrd 4 25 (hdep 4 (by kernel_rfl)) (by kernel_rfl))) 14 #[bkV wC wU wS (frB x).E wJ] (fun o ho => by unfold execOp; rw [ho]; simp only [resolve, List.map_toArray, List.map_cons, List.map_nil, he]; go_simp) (KL10.out w' hBw wC wU wS wJ ws hM) ?_
        rintro e w'' ⟨rfl, hb⟩
        exact ⟨_, rfl, _, congrArg (fun d => a.put d _) (by kernel_rfl), hC.trans (hb.mono hC.size), rfl, RC.stay hb⟩
      · refine runG (.binOp .eql 44 (.tmp 28) (.const (.int .i64 0)) 44) (some 29) (gd := (some (4, true))) (by unfold opG; kernel_rfl) (yields (by kernel_rfl) (hrd 4 25 (hdep 4 (by kernel_rfl)) (by kernel_rfl))) (.bool true) (w' := w') (fun o ho => by unfold execOp; rw [ho]; simp only [show a.eval (.tmp 28) = Value.int .i64 0 from hrd 7 28 (hdep 7 (by kernel_rfl)) (by kernel_rfl)]; go_simp) ?_
        exact ⟨_, congrArg (fun d => a.put d (.bool true)) (by kernel_rfl), hC, rfl, fun j u h => h⟩
      · refine runG (.pick (.tmp 25) (.tmp 29) (.const (.bool false))) (some 30) (gd := none) (by unfold opG; kernel_rfl) trivial (.bool true) (w' := w') (fun o ho => by unfold execOp; rw [ho]; simp only [show a.eval (.tmp 25) = Value.bool true from hrd 4 25 (hdep 4 (by kernel_rfl)) (by kernel_rfl), show a.eval (.tmp 29) = Value.bool true from hrd 8 29 (hdep 8 (by kernel_rfl)) (by kernel_rfl)]; go_simp) ?_
        exact ⟨_, congrArg (fun d => a.put d (.bool true)) (by kernel_rfl), hC, rfl, fun j u h => h⟩
      · refine runG (.move (.tmp 30)) (some 31) (gd := none) (by unfold opG; kernel_rfl) trivial (.bool true) (w' := w') (fun o ho => by unfold execOp; rw [ho]; simp only [show a.eval (.tmp 30) = Value.bool true from hrd 9 30 (hdep 9 (by kernel_rfl)) (by kernel_rfl)]; go_simp) ?_
        exact ⟨_, congrArg (fun d => a.put d (.bool true)) (by kernel_rfl), hC, rfl, fun j u h => h⟩
      · refine loadG 41 (.tmp 9) (some 32) (gd := (some (10, true))) (by unfold opG; kernel_rfl) (yields (by kernel_rfl) (hrd 10 31 (hdep 10 (by kernel_rfl)) (by kernel_rfl))) _ (.agg #[.slice s1 (f.C).length k1, .slice s2 (f.U).length k2, .slice s3 (f.S).length k3, .int .i32 f.E, .slice s4 us.length k4]) ((hfar 9 (by kernel_rfl)).trans (show _ = Value.pointer (some ⟨Y, 0, none⟩) by kernel_rfl)) (load_bk (HK6.out.stay hC)) ?_
        exact ⟨_, congrArg (fun d => a.put d (.agg #[.slice s1 (f.C).length k1, .slice s2 (f.U).length k2, .slice s3 (f.S).length k3, .int .i32 f.E, .slice s4 us.length k4])) (by kernel_rfl), hC, rfl, fun j u h => h⟩
      · refine callG (.call { callee := .value (.func 13), args := #[.tmp 32], argTypes := #[41] }) (some 33) (gd := (some (10, true))) (by unfold opG; kernel_rfl) (yields (by kernel_rfl) (hrd 10 31 (hdep 10 (by kernel_rfl)) (by kernel_rfl))) 13 #[.agg #[.slice s1 (f.C).length k1, .slice s2 (f.U).length k2, .slice s3 (f.S).length k3, .int .i32 f.E, .slice s4 us.length k4]] (fun o ho => by unfold execOp; rw [ho]; simp only [resolve, List.map_toArray, List.map_cons, List.map_nil, show a.eval (.tmp 32) = _ from hrd 11 32 (hdep 11 (by kernel_rfl)) (by kernel_rfl)]; go_simp) (KC2.out w' hC) ?_
        rintro e w'' ⟨rfl, hb⟩
        exact ⟨_, rfl, _, congrArg (fun d => a.put d _) (by kernel_rfl), hC.trans (hb.mono hC.size), rfl, RC.stay hb⟩
      · refine loadG 41 (.tmp 9) (some 34) (gd := (some (10, true))) (by unfold opG; kernel_rfl) (yields (by kernel_rfl) (hrd 10 31 (hdep 10 (by kernel_rfl)) (by kernel_rfl))) _ (.agg #[.slice s1 (f.C).length k1, .slice s2 (f.U).length k2, .slice s3 (f.S).length k3, .int .i32 f.E, .slice s4 us.length k4]) ((hfar 9 (by kernel_rfl)).trans (show _ = Value.pointer (some ⟨Y, 0, none⟩) by kernel_rfl)) (load_bk (HK6.out.stay hC)) ?_
        exact ⟨_, congrArg (fun d => a.put d (.agg #[.slice s1 (f.C).length k1, .slice s2 (f.U).length k2, .slice s3 (f.S).length k3, .int .i32 f.E, .slice s4 us.length k4])) (by kernel_rfl), hC, rfl, fun j u h => h⟩
      · refine callG (.call { callee := .value (.func 14), args := #[.tmp 34], argTypes := #[41] }) (some 35) (gd := (some (10, true))) (by unfold opG; kernel_rfl) (yields (by kernel_rfl) (hrd 10 31 (hdep 10 (by kernel_rfl)) (by kernel_rfl))) 14 #[.agg #[.slice s1 (f.C).length k1, .slice s2 (f.U).length k2, .slice s3 (f.S).length k3, .int .i32 f.E, .slice s4 us.length k4]] (fun o ho => by unfold execOp; rw [ho]; simp only [resolve, List.map_toArray, List.map_cons, List.map_nil, show a.eval (.tmp 34) = _ from hrd 13 34 (hdep 13 (by kernel_rfl)) (by kernel_rfl)]; go_simp) (KL2.out w' hC) ?_
        rintro e w'' ⟨rfl, hb⟩
        exact ⟨_, rfl, _, congrArg (fun d => a.put d _) (by kernel_rfl), hC.trans (hb.mono hC.size), rfl, RC.stay hb⟩
      · refine runG (.binOp .eql 44 (.tmp 33) (.tmp 35) 44) (some 36) (gd := (some (10, true))) (by unfold opG; kernel_rfl) (yields (by kernel_rfl) (hrd 10 31 (hdep 10 (by kernel_rfl)) (by kernel_rfl))) (.bool true) (w' := w') (fun o ho => by unfold execOp; rw [ho]; simp only [show a.eval (.tmp 33) = Value.int .i64 c from hrd 12 33 (hdep 12 (by kernel_rfl)) (by kernel_rfl), show a.eval (.tmp 35) = Value.int .i64 c from hrd 14 35 (hdep 14 (by kernel_rfl)) (by kernel_rfl)]; go_simp) ?_
        exact ⟨_, congrArg (fun d => a.put d (.bool true)) (by kernel_rfl), hC, rfl, fun j u h => h⟩
      · refine runG (.pick (.tmp 31) (.tmp 36) (.const (.bool false))) (some 37) (gd := none) (by unfold opG; kernel_rfl) trivial (.bool true) (w' := w') (fun o ho => by unfold execOp; rw [ho]; simp only [show a.eval (.tmp 31) = Value.bool true from hrd 10 31 (hdep 10 (by kernel_rfl)) (by kernel_rfl), show a.eval (.tmp 36) = Value.bool true from hrd 15 36 (hdep 15 (by kernel_rfl)) (by kernel_rfl)]; go_simp) ?_
        exact ⟨_, congrArg (fun d => a.put d (.bool true)) (by kernel_rfl), hC, rfl, fun j u h => h⟩
      · refine runG (.assign (.tmp 37)) (some 8) (gd := none) (by unfold opG; kernel_rfl) trivial (.bool true) (w' := w') (fun o ho => by unfold execOp; rw [ho]; simp only [show a.eval (.tmp 37) = Value.bool true from hrd 16 37 (hdep 16 (by kernel_rfl)) (by kernel_rfl)]; go_simp) ?_
        exact ⟨_, congrArg (fun d => a.put d (.bool true)) (by kernel_rfl), hC, rfl, fun j u h => h⟩
    · intro b w' hC hR
      have e17 := hR 17 (by omega)
      simp only [putL, if_true, Nat.reduceAdd, Act.put, List.getElem_toArray, List.getElem_cons_zero, List.getElem_cons_succ, List.setIfInBounds_toArray, List.set_cons_zero, List.set_cons_succ]
      rw [show b 17 = Value.bool true from e17]
      clear hR e17
      go_wp2_with fail
      go_ret
      exact ⟨rfl, HB6.out.trans (hC.mono HB6.out.size)⟩
end Go.Proofs.YtljjodahfomljaaGreatDoor

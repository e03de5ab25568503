/- The walk of law CodecBack. -/
import Derived.Test.YtmpefjnfelfnfaaGreatDoorChall
import Derived.Test.YtmpefjnfelfnfaaGreatDoorChi
import Derived.Test.YtmpefjnfelfnfaaGreatDoorCeall
import Derived.Test.YtmpefjnfelfnfaaGreatDoorTo
namespace Go.Proofs.YtmpefjnfelfnfaaGreatDoor
open Go.RowKit
set_option linter.unusedVariables false
set_option linter.unusedSimpArgs false
theorem MkB.form {x : Bk} {w : World} {v : Value} (h : MkB x w v) : ∃ (s1 s2 s3 s4 : Option Addr) (n1 n2 n3 n4 k1 k2 k3 k4 : Nat) (E : Int), v = .agg #[.slice s1 n1 k1, .slice s2 n2 k2, .slice s3 n3 k3, .int .i32 E, .slice s4 n4 k4] := by
  obtain ⟨vC, vU, vS, vJ, vs, rfl, hM⟩ := h
  obtain ⟨s0, k0, rfl, _⟩ := hM.fr.c.form
  obtain ⟨s1, k1, rfl, _⟩ := hM.fr.u.form
  obtain ⟨s2, k2, rfl, _⟩ := hM.fr.s.form
  obtain ⟨s4, k4, rfl, _⟩ := hM.jr.1.form
  exact ⟨s0, s1, s2, s4, _, _, _, _, k0, k1, k2, k4, _, rfl⟩
/-- Decode of a made book's bytes. -/
theorem dec_mk {I : World → Prop} (CO : DecC I) {x : Bk} (hT : lightB x = true) {w : World} (hI : I w) {v : Value} (hR : Recs byc 1 w v (encB (frB x) (makeJ x))) :
    Calls Tryz.prog 12 #[v] w fun e w' => ∃ (s1 s2 s3 s4 : Option Addr) (n1 n2 n3 n4 k1 k2 k3 k4 : Nat) (E : Int), e = .returned (.tuple #[.agg #[.slice s1 n1 k1, .slice s2 n2 k2, .slice s3 n3 k3, .int .i32 E, .slice s4 n4 k4], .int .i64 0]) ∧ MkB x w' (.agg #[.slice s1 n1 k1, .slice s2 n2 k2, .slice s3 n3 k3, .int .i32 E, .slice s4 n4 k4]) ∧ Below w.heap.size w w' := by
  refine (CO.dec v _ w hI hR (encB_lt _ _)).mono ?_
  rintro e w' ⟨vC, vU, vS, vJ, vs, rfl, hF, hJ, hjs, h⟩
  rw [made_dec hT] at hF hjs ⊢
  have hm : MkB x w' (bkV vC vU vS (frB x).E vJ) := ⟨vC, vU, vS, vJ, vs, rfl, ⟨hF, hJ, hjs⟩⟩
  obtain ⟨s1, s2, s3, s4, n1, n2, n3, n4, k1, k2, k3, k4, E, hv⟩ := hm.form
  rw [hv] at hm
  exact ⟨s1, s2, s3, s4, n1, n2, n3, n4, k1, k2, k3, k4, E, by rw [hv], hm, h⟩
/-- Law 11's Encode of a made book. -/
theorem lenc_mk {x : Bk} (hT : lightB x = true) {w : World} {v : Value} (h : MkB x w v) :
    Calls Tryz.prog 15 #[v] w fun e w' => ∃ u, e = .returned u ∧ Recs byc 1 w' u (encB (frB x) (makeJ x)) ∧ Below w.heap.size w w' := by
  obtain ⟨vC, vU, vS, vJ, vs, rfl, hM⟩ := h
  have hok : OkBw (bdOf (frB x) (vs.map jOf)) := by rw [hM.js]; exact (made_bd hT).1.wide
  have hl := encBw_len hok
  have K := lencode_c vC vU vS vJ (frB x) vs w hM.fr hM.jr hok
  rw [hM.js] at K hl
  refine K.mono ?_
  rintro e w' ⟨v', rfl, ho, hb⟩
  exact ⟨v', rfl, recs_of_owns8 ho (by omega), hb⟩
/-- Two made books of one kind are the same. -/
theorem same_mk {I : World → Prop} (B : BookC I) {x : Bk} (hT : lightB x = true) {w : World} {u v : Value} (h : MkB x w u) (k : MkB x w v) :
    Calls Tryz.prog 16 #[u, v] w fun e w' => e = .returned (.bool true) ∧ Below w.heap.size w w' := by
  obtain ⟨vC, vU, vS, vJ, vs, rfl, hM⟩ := h
  obtain ⟨uC, uU, uS, uJ, us, rfl, hN⟩ := k
  have hl := light_of hT
  obtain ⟨a, b⟩ := made_lens hl.1 (by have := hl.2.2.2.2; omega) hM.js
  obtain ⟨c, d⟩ := made_lens hl.1 (by have := hl.2.2.2.2; omega) hN.js
  have K := B.same vC vU vS vJ uC uU uS uJ (frB x) (frB x) vs us w hM.fr hN.fr (frB_in x) (frB_in x) hM.jr hN.jr (by have := hl.2.2.2.2; omega) (by have := hl.2.2.2.2; omega) (fun p hp => by have := b p hp; omega) (fun p hp => by have := d p hp; omega)
  refine K.mono ?_
  rintro e w' ⟨rfl, hb⟩
  refine ⟨?_, hb⟩
  rw [hM.js, hN.js]
  simp [eqF]
/-- What holds of the values by which law CodecBack answers. -/
def RBk11 (EB : List Nat) (bv gv : Value) : Nat → Value → World → Prop
  | 0, v, _ => v = bv
  | 1, v, w => Recs byc 1 w v EB
  | 2, v, _ => v = bv
  | 3, v, w => Recs byc 1 w v EB
  | 4, v, _ => v = .bool true
  | 5, v, _ => v = .bool true
  | 6, v, _ => v = .int .i64 0
  | 7, v, _ => v = .bool true
  | 8, v, _ => v = .bool true
  | 9, v, _ => v = .bool true
  | 10, v, _ => v = gv
  | 11, v, _ => v = bv
  | _, v, _ => v = .bool true
theorem RBk11.stay {EB : List Nat} {bv gv : Value} {w w' : World} (hb : Below w.heap.size w w') : ∀ j u, RBk11 EB bv gv j u w → RBk11 EB bv gv j u w'
  | 0, _, h => h
  | 1, _, h => Recs.stay h hb
  | 2, _, h => h
  | 3, _, h => Recs.stay h hb
  | 4, _, h => h
  | 5, _, h => h
  | 6, _, h => h
  | 7, _, h => h
  | 8, _, h => h
  | 9, _, h => h
  | 10, _, h => h
  | 11, _, h => h
  | _ + 12, _, h => h
set_option maxHeartbeats 4000000 in
set_option maxRecDepth 100000 in
theorem codecback_any {I : World → Prop} (C : AllotC) (D : DayC I) (K : KeyC I) (U : UnitC) (LC : CalC I) (EC : EntryC I) (B : BookC I) (CO : CodecC I) (DE : DecC I) (x : Bk) (vCh vUn vLo vJs : Value) (js : List Jp) (w : World) (hI : I w) (hM : BkM x vCh vUn vLo vJs js w) :
    Calls Tryz.prog 3 #[bV vCh vUn x.first vLo vJs] w fun e w' => e = .returned (.bool true) ∧ Below w.heap.size w w' := by
  have hmix : Tryz.prog.follows .mixedOrders = true := by kernel_rfl
  obtain ⟨q1, d1, rfl, _⟩ := hM.ch.form
  obtain ⟨q2, d2, rfl, _⟩ := hM.un.form
  obtain ⟨q3, d3, rfl, _⟩ := hM.lo.form
  obtain ⟨q4, d4, rfl, _⟩ := hM.jr.form
  obtain ⟨vCh, hvCh⟩ : ∃ v, Value.slice q1 x.chart.length d1 = v := ⟨_, rfl⟩
  obtain ⟨vUn, hvUn⟩ : ∃ v, Value.slice q2 x.units.length d2 = v := ⟨_, rfl⟩
  obtain ⟨vLo, hvLo⟩ : ∃ v, Value.slice q3 x.long.length d3 = v := ⟨_, rfl⟩
  obtain ⟨vJs, hvJs⟩ : ∃ v, Value.slice q4 js.length d4 = v := ⟨_, rfl⟩
  rw [hvCh, hvUn, hvLo, hvJs] at hM ⊢
  clear hvCh hvUn hvLo hvJs
  have HI := Lib.hid hI
  have HDY := Lib.hid D
  have HBC := Lib.hid B
  have HCO := Lib.hid CO
  have KA := Lib.hid (fun (w' : World) (h : Below w.heap.size w w') => awake11_any C D K U LC EC B CO w' (D.stay hI h))
  have KL := Lib.hid (fun (w' : World) (h : Below w.heap.size w w') => light_c x vCh vUn vLo vJs js w' (hM.stay h))
  have KM0 := Lib.hid (fun (hT : lightB x = true) (w' : World) (h : Below w.heap.size w w') => mk_c x vCh vUn vLo vJs js w' (hM.stay h) hT)
  have KE0 := Lib.hid (fun (hT : lightB x = true) (w' : World) (v : Value) (h : MkB x w' v) => enc_mk CO hT h)
  obtain ⟨LT, hLT⟩ : ∃ b, lightB x = b := ⟨_, rfl⟩
  have HLT := Lib.hid hLT
  rw [hLT] at KL
  unfold bV at KL KM0 ⊢
  have HDE := Lib.hid DE
  clear DE
  have hb := (Below.refl w.heap.size w).alloc (Nat.le_refl _) (.cells #[vCh, vUn, .int .i16 x.first, vLo, vJs] 28)
  have bx := HBox.new w [vCh, vUn, .int .i16 x.first, vLo, vJs] 28
  change HBox (w.alloc (.cells #[vCh, vUn, .int .i16 x.first, vLo, vJs] 28)) _ _ _ at bx
  clear C D K U LC EC B CO hI hM hLT
  go_enter Tryz.func3, Tryz.ntmps3
  go_upto_region 1 with fail
  generalize w.alloc (.cells #[vCh, vUn, .int .i16 x.first, vLo, vJs] 28) = W at *
  generalize w.heap.size = X at bx ⊢
  have HX := Lib.hid bx
  have HB := Lib.hid hb
  clear bx hb
  go_upto_region 3 with (go_at_call 9; refine (KA.out _ HB.out).mono ?_; rintro e w4 ⟨rfl, h4⟩; have HX4 := Lib.hid (HX.out.stay h4); have HB4 := Lib.hid (HB.out.trans (h4.mono HB.out.size)); clear h4)
  have x0 := HX4.out.cell (j := 0) rfl
  have x1 := HX4.out.cell (j := 1) rfl
  have x2 := HX4.out.cell (j := 2) rfl
  have x3 := HX4.out.cell (j := 3) rfl
  have x4 := HX4.out.cell (j := 4) rfl
  clear HX HB
  cases LT with
  | false =>
    go_wp2_with (go_at_call 10; refine (KL.out _ HB4.out).mono ?_; rintro e w5 ⟨rfl, h5⟩; have HB5 := Lib.hid (HB4.out.trans (h5.mono HB4.out.size)); clear h5)
    go_ret
    exact ⟨rfl, HB5.out⟩
  | true =>
    have KM := Lib.hid (KM0.out HLT.out)
    have KE := Lib.hid (KE0.out HLT.out)
    clear KM0 KE0
    go_upto_region 5 with (go_at_call 10; refine (KL.out _ HB4.out).mono ?_; rintro e w5 ⟨rfl, h5⟩; have HX5 := Lib.hid (HX4.out.stay h5); have HB5 := Lib.hid (HB4.out.trans (h5.mono HB4.out.size)); clear h5)
    clear x0 x1 x2 x3 x4 HX4 HB4
    have x0 := HX5.out.cell (j := 0) rfl
    have x1 := HX5.out.cell (j := 1) rfl
    have x2 := HX5.out.cell (j := 2) rfl
    have x3 := HX5.out.cell (j := 3) rfl
    have x4 := HX5.out.cell (j := 4) rfl
    go_upto_region 6 with (go_at_call 11; refine (KM.out _ HB5.out).mono ?_; rintro e w6 ⟨v6, rfl, hK, h6⟩; obtain ⟨b1, b2, b3, b4, bn1, bn2, bn3, bn4, bk1, bk2, bk3, bk4, bE, rfl⟩ := hK.form; have HK6 := Lib.hid hK; have HB6 := Lib.hid (HB5.out.trans (h6.mono HB5.out.size)); clear hK h6)
    have hbw := (Below.refl w6.heap.size w6).alloc (Nat.le_refl _) (.cells #[.slice b1 bn1 bk1, .slice b2 bn2 bk2, .slice b3 bn3 bk3, .int .i32 bE, .slice b4 bn4 bk4] 41)
    have hfb : HBox (w6.alloc (.cells #[.slice b1 bn1 bk1, .slice b2 bn2 bk2, .slice b3 bn3 bk3, .int .i32 bE, .slice b4 bn4 bk4] 41)) w6.heap.size [.slice b1 bn1 bk1, .slice b2 bn2 bk2, .slice b3 bn3 bk3, .int .i32 bE, .slice b4 bn4 bk4] 41 := HBox.new w6 [.slice b1 bn1 bk1, .slice b2 bn2 bk2, .slice b3 bn3 bk3, .int .i32 bE, .slice b4 bn4 bk4] 41
    have HK7 := Lib.hid (HK6.out.stay hbw)
    have HB7 := Lib.hid (HB6.out.trans (hbw.mono HB6.out.size))
    have HY7 := Lib.hid hfb
    clear hbw hfb x0 x1 x2 x3 x4 HX5 HB5 HK6 HB6
    generalize w6.alloc (.cells #[.slice b1 bn1 bk1, .slice b2 bn2 bk2, .slice b3 bn3 bk3, .int .i32 bE, .slice b4 bn4 bk4] 41) = W7 at HK7 HB7 HY7 ⊢
    generalize w6.heap.size = Y at HY7 ⊢
    have y0 := HY7.out.cell (j := 0) rfl
    have y1 := HY7.out.cell (j := 1) rfl
    have y2 := HY7.out.cell (j := 2) rfl
    have y3 := HY7.out.cell (j := 3) rfl
    have y4 := HY7.out.cell (j := 4) rfl
    have KD := Lib.hid (fun (w' : World) (h : Below w.heap.size w w') (v : Value) (hR : Recs byc 1 w' v (encB (frB x) (makeJ x))) => dec_mk HDE.out HLT.out (HDY.out.stay HI.out h) hR)
    obtain ⟨L, hL⟩ : ∃ n, (encB (frB x) (makeJ x)).length = n := ⟨_, rfl⟩
    rw [hL] at KE
    clear hL
    go_upto_region 7 with (first
      | (go_at_call 13; refine (KE.out _ _ HK7.out).mono ?_; rintro e w8 ⟨r8, c8, rfl, o8, h8⟩; have HO8 := Lib.hid o8; have HB8 := Lib.hid (HB7.out.trans (h8.mono HB7.out.size)); have HK8 := Lib.hid (HK7.out.stay h8); have HY8 := Lib.hid (HY7.out.stay h8); clear o8 h8)
      | (go_at_call 12; refine (KD.out _ HB8.out _ HO8.out).mono ?_; rintro e w9 ⟨g1, g2, g3, g4, gn1, gn2, gn3, gn4, gk1, gk2, gk3, gk4, gE, rfl, hg, h9⟩; have HG9 := Lib.hid hg; have HB9 := Lib.hid (HB8.out.trans (h9.mono HB8.out.size)); have HK9 := Lib.hid (HK8.out.stay h9); have HY9 := Lib.hid (HY8.out.stay h9); clear hg h9))
    have hbw := (Below.refl w9.heap.size w9).alloc (Nat.le_refl _) (.cells #[.slice g1 gn1 gk1, .slice g2 gn2 gk2, .slice g3 gn3 gk3, .int .i32 gE, .slice g4 gn4 gk4] 41)
    have hfb : HBox (w9.alloc (.cells #[.slice g1 gn1 gk1, .slice g2 gn2 gk2, .slice g3 gn3 gk3, .int .i32 gE, .slice g4 gn4 gk4] 41)) w9.heap.size [.slice g1 gn1 gk1, .slice g2 gn2 gk2, .slice g3 gn3 gk3, .int .i32 gE, .slice g4 gn4 gk4] 41 := HBox.new w9 [.slice g1 gn1 gk1, .slice g2 gn2 gk2, .slice g3 gn3 gk3, .int .i32 gE, .slice g4 gn4 gk4] 41
    have HG := Lib.hid (HG9.out.stay hbw)
    have HK := Lib.hid (HK9.out.stay hbw)
    have HY := Lib.hid (HY9.out.stay hbw)
    have HBV := Lib.hid (HB9.out.trans (hbw.mono HB9.out.size))
    have HZ := Lib.hid hfb
    clear hbw hfb y0 y1 y2 y3 y4 HK7 HB7 HY7 HO8 HB8 HK8 HY8 HG9 HB9 HK9 HY9
    generalize w9.alloc (.cells #[.slice g1 gn1 gk1, .slice g2 gn2 gk2, .slice g3 gn3 gk3, .int .i32 gE, .slice g4 gn4 gk4] 41) = V at HG HK HY HBV HZ ⊢
    generalize w9.heap.size = Z at HZ ⊢
    have KEB := Lib.hid (fun (w' : World) (h : Below V.heap.size V w') => show Calls Tryz.prog 13 #[.agg #[.slice b1 bn1 bk1, .slice b2 bn2 bk2, .slice b3 bn3 bk3, .int .i32 bE, .slice b4 bn4 bk4]] w' fun e w'' => ∃ u, e = .returned u ∧ Recs byc 1 w'' u (encB (frB x) (makeJ x)) ∧ Below w'.heap.size w' w'' from (enc_mk HCO.out HLT.out (HK.out.stay h)).mono (by rintro e w'' ⟨r, c, rfl, o, hb⟩; exact ⟨_, rfl, o, hb⟩))
    have KLB := Lib.hid (fun (w' : World) (h : Below V.heap.size V w') => lenc_mk HLT.out (HK.out.stay h))
    have KQ := Lib.hid (fun (w' : World) (u v : Value) (hu : Recs byc 1 w' u (encB (frB x) (makeJ x))) (hv : Recs byc 1 w' v (encB (frB x) (makeJ x))) => show Calls Tryz.prog 14 #[u, v] w' fun e w'' => e = .returned (.bool true) ∧ Below w'.heap.size w' w'' from (equal_8 u v _ _ w' hu hv).mono (by rintro e w'' ⟨rfl, hb⟩; exact ⟨by simp, hb⟩))
    have KS := Lib.hid (fun (w' : World) (h : Below V.heap.size V w') => same_mk HBC.out HLT.out (HG.out.stay h) (HK.out.stay h))
    generalize encB (frB x) (makeJ x) = EB at KEB KLB KQ
    clear KD KE KM KL KA HK HG
    refine wp_region_say 15 (fun w' => Below V.heap.size V w') (RBk11 EB (.agg #[.slice b1 bn1 bk1, .slice b2 bn2 bk2, .slice b3 bn3 bk3, .int .i32 bE, .slice b4 bn4 bk4]) (.agg #[.slice g1 gn1 gk1, .slice g2 gn2 gk2, .slice g3 gn3 gk3, .int .i32 gE, .slice g4 gn4 gk4])) hmix rfl (by kernel_rfl) (by kernel_rfl) (by kernel_rfl) (Below.refl _ _).drew ?_ ?_
    · intro s a w' i hi hC hdep hfar hrd
      have hBw : Below w.heap.size w w' := HBV.out.trans (hC.mono HBV.out.size)
      rcases (by omega : i = 0 ∨ i = 1 ∨ i = 2 ∨ i = 3 ∨ i = 4 ∨ i = 5 ∨ i = 6 ∨ i = 7 ∨ i = 8 ∨ i = 9 ∨ i = 10 ∨ i = 11 ∨ i = 12 ∨ i = 13 ∨ i = 14) with rfl | rfl | rfl | rfl | rfl | rfl | rfl | rfl | rfl | rfl | rfl | rfl | rfl | rfl | rfl
      · refine loadG 41 (.tmp 3) (some 19) (gd := none) (by unfold opG; kernel_rfl) trivial _ (.agg #[.slice b1 bn1 bk1, .slice b2 bn2 bk2, .slice b3 bn3 bk3, .int .i32 bE, .slice b4 bn4 bk4]) ((hfar 3 (by kernel_rfl)).trans (show _ = Value.pointer (some ⟨Y, 0, none⟩) by kernel_rfl)) (load_bk (HY.out.stay hC)) ?_
        exact ⟨_, congrArg (fun d => a.put d (.agg #[.slice b1 bn1 bk1, .slice b2 bn2 bk2, .slice b3 bn3 bk3, .int .i32 bE, .slice b4 bn4 bk4])) (by kernel_rfl), hC, rfl, fun j u h => h⟩
      · refine callG (.call { callee := .value (.func 13), args := #[.tmp 19], argTypes := #[41] }) (some 20) (gd := none) (by unfold opG; kernel_rfl) trivial 13 #[.agg #[.slice b1 bn1 bk1, .slice b2 bn2 bk2, .slice b3 bn3 bk3, .int .i32 bE, .slice b4 bn4 bk4]] (fun o ho => by unfold execOp; rw [ho]; simp only [resolve, List.map_toArray, List.map_cons, List.map_nil, show a.eval (.tmp 19) = (.agg #[.slice b1 bn1 bk1, .slice b2 bn2 bk2, .slice b3 bn3 bk3, .int .i32 bE, .slice b4 bn4 bk4]) from hrd 0 19 (hdep 0 (by kernel_rfl)) (by kernel_rfl)]; go_simp) (KEB.out w' hC) ?_
        rintro e w'' ⟨v', rfl, hm, hb⟩
        exact ⟨_, rfl, _, congrArg (fun d => a.put d _) (by kernel_rfl), hC.trans (hb.mono hC.size), hm, RBk11.stay hb⟩
      · refine loadG 41 (.tmp 3) (some 21) (gd := none) (by unfold opG; kernel_rfl) trivial _ (.agg #[.slice b1 bn1 bk1, .slice b2 bn2 bk2, .slice b3 bn3 bk3, .int .i32 bE, .slice b4 bn4 bk4]) ((hfar 3 (by kernel_rfl)).trans (show _ = Value.pointer (some ⟨Y, 0, none⟩) by kernel_rfl)) (load_bk (HY.out.stay hC)) ?_
        exact ⟨_, congrArg (fun d => a.put d (.agg #[.slice b1 bn1 bk1, .slice b2 bn2 bk2, .slice b3 bn3 bk3, .int .i32 bE, .slice b4 bn4 bk4])) (by kernel_rfl), hC, rfl, fun j u h => h⟩
      · refine callG (.call { callee := .value (.func 15), args := #[.tmp 21], argTypes := #[41] }) (some 22) (gd := none) (by unfold opG; kernel_rfl) trivial 15 #[.agg #[.slice b1 bn1 bk1, .slice b2 bn2 bk2, .slice b3 bn3 bk3, .int .i32 bE, .slice b4 bn4 bk4]] (fun o ho => by unfold execOp; rw [ho]; simp only [resolve, List.map_toArray, List.map_cons, List.map_nil, show a.eval (.tmp 21) = (.agg #[.slice b1 bn1 bk1, .slice b2 bn2 bk2, .slice b3 bn3 bk3, .int .i32 bE, .slice b4 bn4 bk4]) from hrd 2 21 (hdep 2 (by kernel_rfl)) (by kernel_rfl)]; go_simp) (KLB.out w' hC) ?_
        rintro e w'' ⟨v', rfl, hm, hb⟩
        exact ⟨_, rfl, _, congrArg (fun d => a.put d _) (by kernel_rfl), hC.trans (hb.mono hC.size), hm, RBk11.stay hb⟩
      · have h20 : Recs byc 1 w' (a.eval (.tmp 20)) EB := hrd 1 20 (hdep 1 (by kernel_rfl)) (by kernel_rfl)
        have h22 : Recs byc 1 w' (a.eval (.tmp 22)) EB := hrd 3 22 (hdep 3 (by kernel_rfl)) (by kernel_rfl)
        obtain ⟨u1, e1⟩ : ∃ u, a.eval (.tmp 20) = u := ⟨_, rfl⟩
        obtain ⟨u2, e2⟩ : ∃ u, a.eval (.tmp 22) = u := ⟨_, rfl⟩
        rw [e1] at h20
        rw [e2] at h22
        refine callG (.call { callee := .value (.func 14), args := #[.tmp 20, .tmp 22], argTypes := #[25, 25] }) (some 23) (gd := none) (by unfold opG; kernel_rfl) trivial 14 #[u1, u2] (fun o ho => by unfold execOp; rw [ho]; simp only [resolve, List.map_toArray, List.map_cons, List.map_nil, e1, e2]; go_simp) (KQ.out w' u1 u2 h20 h22) ?_
        rintro e w'' ⟨rfl, hb⟩
        exact ⟨_, rfl, _, congrArg (fun d => a.put d _) (by kernel_rfl), hC.trans (hb.mono hC.size), rfl, RBk11.stay hb⟩
      · refine runG (.move (.tmp 23)) (some 24) (gd := none) (by unfold opG; kernel_rfl) trivial (.bool true) (w' := w') (fun o ho => by unfold execOp; rw [ho]; simp only [show a.eval (.tmp 23) = Value.bool true from hrd 4 23 (hdep 4 (by kernel_rfl)) (by kernel_rfl)]; go_simp) ?_
        exact ⟨_, congrArg (fun d => a.put d (.bool true)) (by kernel_rfl), hC, rfl, fun j u h => h⟩
      · refine runG (.move (.tmp 5)) (some 25) (gd := (some (5, true))) (by unfold opG; kernel_rfl) (yields (by kernel_rfl) (hrd 5 24 (hdep 5 (by kernel_rfl)) (by kernel_rfl))) (.int .i64 0) (w' := w') (fun o ho => by unfold execOp; rw [ho]; simp only [show a.eval (.tmp 5) = Value.int .i64 0 from (hfar 5 (by kernel_rfl)).trans (by kernel_rfl)]; go_simp) ?_
        exact ⟨_, congrArg (fun d => a.put d (.int .i64 0)) (by kernel_rfl), hC, rfl, fun j u h => h⟩
      · refine runG (.binOp .eql 43 (.tmp 25) (.const (.int .i64 0)) 43) (some 26) (gd := (some (5, true))) (by unfold opG; kernel_rfl) (yields (by kernel_rfl) (hrd 5 24 (hdep 5 (by kernel_rfl)) (by kernel_rfl))) (.bool true) (w' := w') (fun o ho => by unfold execOp; rw [ho]; simp only [show a.eval (.tmp 25) = Value.int .i64 0 from hrd 6 25 (hdep 6 (by kernel_rfl)) (by kernel_rfl)]; go_simp) ?_
        exact ⟨_, congrArg (fun d => a.put d (.bool true)) (by kernel_rfl), hC, rfl, fun j u h => h⟩
      · refine runG (.pick (.tmp 24) (.tmp 26) (.const (.bool false))) (some 27) (gd := none) (by unfold opG; kernel_rfl) trivial (.bool true) (w' := w') (fun o ho => by unfold execOp; rw [ho]; simp only [show a.eval (.tmp 24) = Value.bool true from hrd 5 24 (hdep 5 (by kernel_rfl)) (by kernel_rfl), show a.eval (.tmp 26) = Value.bool true from hrd 7 26 (hdep 7 (by kernel_rfl)) (by kernel_rfl)]; go_simp) ?_
        exact ⟨_, congrArg (fun d => a.put d (.bool true)) (by kernel_rfl), hC, rfl, fun j u h => h⟩
      · refine runG (.move (.tmp 27)) (some 28) (gd := none) (by unfold opG; kernel_rfl) trivial (.bool true) (w' := w') (fun o ho => by unfold execOp; rw [ho]; simp only [show a.eval (.tmp 27) = Value.bool true from hrd 8 27 (hdep 8 (by kernel_rfl)) (by kernel_rfl)]; go_simp) ?_
        exact ⟨_, congrArg (fun d => a.put d (.bool true)) (by kernel_rfl), hC, rfl, fun j u h => h⟩
      · refine loadG 41 (.tmp 4) (some 29) (gd := (some (9, true))) (by unfold opG; kernel_rfl) (yields (by kernel_rfl) (hrd 9 28 (hdep 9 (by kernel_rfl)) (by kernel_rfl))) _ (.agg #[.slice g1 gn1 gk1, .slice g2 gn2 gk2, .slice g3 gn3 gk3, .int .i32 gE, .slice g4 gn4 gk4]) ((hfar 4 (by kernel_rfl)).trans (show _ = Value.pointer (some ⟨Z, 0, none⟩) by kernel_rfl)) (load_bk (HZ.out.stay hC)) ?_
        exact ⟨_, congrArg (fun d => a.put d (.agg #[.slice g1 gn1 gk1, .slice g2 gn2 gk2, .slice g3 gn3 gk3, .int .i32 gE, .slice g4 gn4 gk4])) (by kernel_rfl), hC, rfl, fun j u h => h⟩
      · refine loadG 41 (.tmp 3) (some 30) (gd := (some (9, true))) (by unfold opG; kernel_rfl) (yields (by kernel_rfl) (hrd 9 28 (hdep 9 (by kernel_rfl)) (by kernel_rfl))) _ (.agg #[.slice b1 bn1 bk1, .slice b2 bn2 bk2, .slice b3 bn3 bk3, .int .i32 bE, .slice b4 bn4 bk4]) ((hfar 3 (by kernel_rfl)).trans (show _ = Value.pointer (some ⟨Y, 0, none⟩) by kernel_rfl)) (load_bk (HY.out.stay hC)) ?_
        exact ⟨_, congrArg (fun d => a.put d (.agg #[.slice b1 bn1 bk1, .slice b2 bn2 bk2, .slice b3 bn3 bk3, .int .i32 bE, .slice b4 bn4 bk4])) (by kernel_rfl), hC, rfl, fun j u h => h⟩
      · refine callG (.call { callee := .value (.func 16), args := #[.tmp 29, .tmp 30], argTypes := #[41, 41] }) (some 31) (gd := (some (9, true))) (by unfold opG; kernel_rfl) (yields (by kernel_rfl) (hrd 9 28 (hdep 9 (by kernel_rfl)) (by kernel_rfl))) 16 #[.agg #[.slice g1 gn1 gk1, .slice g2 gn2 gk2, .slice g3 gn3 gk3, .int .i32 gE, .slice g4 gn4 gk4], .agg #[.slice b1 bn1 bk1, .slice b2 bn2 bk2, .slice b3 bn3 bk3, .int .i32 bE, .slice b4 bn4 bk4]] (fun o ho => by unfold execOp; rw [ho]; simp only [resolve, List.map_toArray, List.map_cons, List.map_nil, show a.eval (.tmp 29) = (.agg #[.slice g1 gn1 gk1, .slice g2 gn2 gk2, .slice g3 gn3 gk3, .int .i32 gE, .slice g4 gn4 gk4]) from hrd 10 29 (hdep 10 (by kernel_rfl)) (by kernel_rfl), show a.eval (.tmp 30) = (.agg #[.slice b1 bn1 bk1, .slice b2 bn2 bk2, .slice b3 bn3 bk3, .int .i32 bE, .slice b4 bn4 bk4]) from hrd 11 30 (hdep 11 (by kernel_rfl)) (by kernel_rfl)]; go_simp) (KS.out w' hC) ?_
        rintro e w'' ⟨rfl, hb⟩
        exact ⟨_, rfl, _, congrArg (fun d => a.put d _) (by kernel_rfl), hC.trans (hb.mono hC.size), rfl, RBk11.stay hb⟩
      · refine runG (.pick (.tmp 28) (.tmp 31) (.const (.bool false))) (some 32) (gd := none) (by unfold opG; kernel_rfl) trivial (.bool true) (w' := w') (fun o ho => by unfold execOp; rw [ho]; simp only [show a.eval (.tmp 28) = Value.bool true from hrd 9 28 (hdep 9 (by kernel_rfl)) (by kernel_rfl), show a.eval (.tmp 31) = Value.bool true from hrd 12 31 (hdep 12 (by kernel_rfl)) (by kernel_rfl)]; go_simp) ?_
        exact ⟨_, congrArg (fun d => a.put d (.bool true)) (by kernel_rfl), hC, rfl, fun j u h => h⟩
      · refine runG (.assign (.tmp 32)) (some 2) (gd := none) (by unfold opG; kernel_rfl) trivial (.bool true) (w' := w') (fun o ho => by unfold execOp; rw [ho]; simp only [show a.eval (.tmp 32) = Value.bool true from hrd 13 32 (hdep 13 (by kernel_rfl)) (by kernel_rfl)]; go_simp) ?_
        exact ⟨_, congrArg (fun d => a.put d (.bool true)) (by kernel_rfl), hC, rfl, fun j u h => h⟩
    · intro b w' hC hR
      have e14 := hR 14 (by omega)
      simp only [putL, if_true, Nat.reduceAdd, Act.put, List.getElem_toArray, List.getElem_cons_zero, List.getElem_cons_succ, List.setIfInBounds_toArray, List.set_cons_zero, List.set_cons_succ]
      rw [show b 14 = Value.bool true from e14]
      clear hR e14
      go_wp2_with fail
      go_ret
      exact ⟨rfl, HBV.out.trans (hC.mono HBV.out.size)⟩
end Go.Proofs.YtmpefjnfelfnfaaGreatDoor

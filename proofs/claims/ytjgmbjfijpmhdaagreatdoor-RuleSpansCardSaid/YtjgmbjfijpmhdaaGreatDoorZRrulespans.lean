import Derived.Test.YtjgmbjfijpmhdaaGreatDoorZMtl
import Derived.Test.YtjgmbjfijpmhdaaGreatDoorZUall
import Derived.Test.YtjgmbjfijpmhdaaGreatDoorZXhl
import Derived.Test.YtjgmbjfijpmhdaaGreatDoorZXwb
import Derived.Test.YtjgmbjfijpmhdaaGreatDoorZEwx
import Derived.Deep.RegionWith
import Derived.Deep.DeepCutAuto
import Derived.BigRegion
import Derived.BigQuiet
import Derived.Deep.QuietTactic
import Derived.Test.YtjgmbjfijpmhdaaGreatDoorZGyy
/- Package rule: Of. -/
namespace Go.Proofs.YtjgmbjfijpmhdaaGreatDoor
open Go.RowKit Go.Lib
set_option linter.unusedVariables false
set_option linter.unusedSimpArgs false
set_option maxHeartbeats 2000000 in
set_option maxRecDepth 100000 in
theorem of_c (vC vU vS vJ : Value) (f : Fr) (vs : List Jm) (w : World) (hJ : JRow w vJ vs) (hl : vs.length ≤ 2000) :
    Calls Tryz.prog 13 #[bkV vC vU vS f.E vJ] w fun e w' => e = .returned (.agg #[.int .i32 ((vs.head?.map (·.1)).getD 0), .int .i32 ((vs.getLast?.map (·.1)).getD 0), .bool (decide (vs ≠ []))]) ∧ Below w.heap.size w w' := by
  have KD := Lib.hid (fun (W : World) (h : Below w.heap.size w W) => days_b vC vU vS vJ f vs W (hJ.stay h) hl)
  clear hJ hl
  generalize (vs.head?.map (·.1)).getD 0 = da at *
  generalize (vs.getLast?.map (·.1)).getD 0 = db at *
  generalize decide (vs ≠ []) = so at *
  unfold bkV at KD ⊢
  generalize f.E = E at *
  have hb := ((Below.refl w.heap.size w).alloc (Nat.le_refl _) (.cells #[vC, vU, vS, .int .i32 E, vJ] 54)).alloc (by simp) (.cells #[.int .i32 0, .int .i32 0, .bool false] 44)
  have hx := (HBox.new w [vC, vU, vS, .int .i32 E, vJ] 54).alloc (.cells #[.int .i32 0, .int .i32 0, .bool false] 44)
  have hy := HBox.new (w.alloc (.cells #[vC, vU, vS, .int .i32 E, vJ] 54)) [.int .i32 0, .int .i32 0, .bool false] 44
  rw [show (w.alloc (.cells #[vC, vU, vS, .int .i32 E, vJ] 54)).heap.size = w.heap.size + 1 by simp] at hy
  change HBox ((w.alloc (.cells #[vC, vU, vS, .int .i32 E, vJ] 54)).alloc (.cells #[.int .i32 0, .int .i32 0, .bool false] 44)) _ _ _ at hx hy
  go_enter Tryz.func13, Tryz.ntmps13
  go_upto_region 1 with fail
  generalize (w.alloc (.cells #[vC, vU, vS, .int .i32 E, vJ] 54)).alloc (.cells #[.int .i32 0, .int .i32 0, .bool false] 44) = W at *
  obtain ⟨G, hG⟩ : ∃ G, w.heap.size = G := ⟨_, rfl⟩
  rw [hG] at hx hy ⊢
  have HG := Lib.hid hG
  have HB := Lib.hid hb
  have HY := Lib.hid hy
  have x0 := hx.cell (j := 0) rfl
  have x1 := hx.cell (j := 1) rfl
  have x2 := hx.cell (j := 2) rfl
  have x3 := hx.cell (j := 3) rfl
  have x4 := hx.cell (j := 4) rfl
  clear hx hy hb hG
  go_wp2_with (go_at_call 33; refine (KD.out _ HB.out).mono ?_; rintro e w5 ⟨rfl, h5⟩; have HB5 := Lib.hid (HB.out.trans (h5.mono HB.out.size)); have HY5 := Lib.hid (HY.out.stay h5); have y0 := HY5.out.cell (j := 0) rfl; have y1 := HY5.out.cell (j := 1) rfl; have y2 := HY5.out.cell (j := 2) rfl; have f0 := HY5.out.frozen 0; have f1 := HY5.out.frozen 1; have f2 := HY5.out.frozen 2; have ys := HY5.out.size; clear h5)
  have hlt : w.heap.size ≤ G + 1 := by have := HG.out; omega
  have hb9 := ((HB5.out.setCell (p := ⟨G + 1, 0, none⟩) hlt (.int .i32 da)).setCell (p := ⟨G + 1, 1, none⟩) hlt (.int .i32 db)).setCell (p := ⟨G + 1, 2, none⟩) hlt (.bool so)
  have z9 := ((HY5.out.set 0 (.int .i32 da)).set 1 (.int .i32 db)).set 2 (.bool so)
  change HBox _ _ [.int .i32 da, .int .i32 db, .bool so] _ at z9
  generalize ((w5.setCell ⟨G + 1, 0, none⟩ (.int .i32 da)).setCell ⟨G + 1, 1, none⟩ (.int .i32 db)).setCell ⟨G + 1, 2, none⟩ (.bool so) = W9 at *
  have e0 := z9.cell (j := 0) rfl
  have e1 := z9.cell (j := 1) rfl
  have e2 := z9.cell (j := 2) rfl
  clear z9
  exact bodyPost_ret (v := .agg #[.int .i32 da, .int .i32 db, .bool so]) (by simp [results, Tryz.results13, go_sem, e0, e1, e2]) rfl ⟨rfl, hb9⟩
end Go.Proofs.YtjgmbjfijpmhdaaGreatDoor
/- The walk of law RuleSpans. -/
namespace Go.Proofs.YtjgmbjfijpmhdaaGreatDoor
open Go.RowKit
set_option linter.unusedVariables false
set_option linter.unusedSimpArgs false
set_option maxHeartbeats 4000000 in
set_option maxRecDepth 100000 in
theorem rulespans_c (x : Bk) (vCh vUn vLo vJs : Value) (js : List Jp) (w : World) (hI : InS w) (hM : BkM x vCh vUn vLo vJs js w) :
    Calls Tryz.prog 6 #[bV vCh vUn x.first vLo vJs] w fun e w' => e = .returned (.bool true) ∧ Below w.heap.size w w' := by
  obtain ⟨q1, d1, rfl, _⟩ := hM.ch.form
  obtain ⟨q2, d2, rfl, _⟩ := hM.un.form
  obtain ⟨q3, d3, rfl, _⟩ := hM.lo.form
  obtain ⟨q4, d4, rfl, _⟩ := hM.jr.form
  obtain ⟨vCh, hvCh⟩ : ∃ v, Value.slice q1 x.chart.length d1 = v := ⟨_, rfl⟩
  obtain ⟨vUn, hvUn⟩ : ∃ v, Value.slice q2 x.units.length d2 = v := ⟨_, rfl⟩
  obtain ⟨vLo, hvLo⟩ : ∃ v, Value.slice q3 x.long.length d3 = v := ⟨_, rfl⟩
  obtain ⟨vJs, hvJs⟩ : ∃ v, Value.slice q4 js.length d4 = v := ⟨_, rfl⟩
  rw [hvCh, hvUn, hvLo, hvJs] at hM ⊢
  clear hvCh hvUn hvLo hvJs
  have KA := Lib.hid (fun (w' : World) (h : Below w.heap.size w w') => awake15_ev w' (hI.stay h))
  have KL := Lib.hid (fun (w' : World) (h : Below w.heap.size w w') => light_c x vCh vUn vLo vJs js w' (hM.stay h))
  have KM := Lib.hid (fun (hT : lightB x = true) (w' : World) (h : Below w.heap.size w w') => makeB_c x vCh vUn vLo vJs js w' (hM.stay h) (light_of hT).1 (by have := (light_of hT).2.2.2.2; omega))
  have KD := Lib.hid (fun (w' : World) (vC vU vS vJ : Value) (vs : List Jm) (hl : vs.length ≤ 100) (hJ : JRow w' vJ vs) => of_c vC vU vS vJ (frB x) vs w' hJ (Nat.le_trans hl (by omega)))
  obtain ⟨EE, hEE⟩ : ∃ n, (frB x).E = n := ⟨_, rfl⟩
  obtain ⟨LT, hLT⟩ : ∃ b, lightB x = b := ⟨_, rfl⟩
  have HLT := Lib.hid hLT
  rw [hLT] at KL
  rw [hEE] at KM KD
  unfold bV at KL KM ⊢
  unfold bkV at KM KD
  have hb := (Below.refl w.heap.size w).alloc (Nat.le_refl _) (.cells #[vCh, vUn, .int .i16 x.first, vLo, vJs] 28)
  have bx := HBox.new w [vCh, vUn, .int .i16 x.first, vLo, vJs] 28
  change HBox (w.alloc (.cells #[vCh, vUn, .int .i16 x.first, vLo, vJs] 28)) _ _ _ at bx
  clear hI hM hEE hLT
  go_enter Tryz.func6, Tryz.ntmps6
  go_upto_region 1 with fail
  generalize w.alloc (.cells #[vCh, vUn, .int .i16 x.first, vLo, vJs] 28) = W at *
  have HX := Lib.hid bx
  have HB := Lib.hid hb
  clear bx hb
  go_upto_region 3 with (go_at_call 9; refine (KA.out _ HB.out).mono ?_; rintro e w4 ⟨rfl, h4⟩; have HX4 := Lib.hid (HX.out.stay h4); have HB4 := Lib.hid (HB.out.trans (h4.mono HB.out.size)); clear h4)
  have x0 := HX4.out.cell (j := 0) rfl
  have x1 := HX4.out.cell (j := 1) rfl
  have x2 := HX4.out.cell (j := 2) rfl
  have x3 := HX4.out.cell (j := 3) rfl
  have x4 := HX4.out.cell (j := 4) rfl
  clear HX HB
  cases LT with
  | false =>
    go_wp2_with (go_at_call 10; refine (KL.out _ HB4.out).mono ?_; rintro e w5 ⟨rfl, h5⟩; have HB5 := Lib.hid (HB4.out.trans (h5.mono HB4.out.size)); clear h5)
    go_ret
    exact ⟨rfl, HB5.out⟩
  | true =>
    go_upto_region 5 with (go_at_call 10; refine (KL.out _ HB4.out).mono ?_; rintro e w5 ⟨rfl, h5⟩; have HX5 := Lib.hid (HX4.out.stay h5); have HB5 := Lib.hid (HB4.out.trans (h5.mono HB4.out.size)); clear h5)
    clear x0 x1 x2 x3 x4
    have x0 := HX5.out.cell (j := 0) rfl
    have x1 := HX5.out.cell (j := 1) rfl
    have x2 := HX5.out.cell (j := 2) rfl
    have x3 := HX5.out.cell (j := 3) rfl
    have x4 := HX5.out.cell (j := 4) rfl
    clear HX4 HB4
    go_upto_region 6 with (go_at_call 14; refine (KM.out HLT.out _ HB5.out).mono ?_; rintro e w6 ⟨vC, vU, vS, vJ, vs, rfl, oC, oU, oS, hJ, hm, h6⟩; obtain ⟨hla, hlb⟩ := made_lens (light_of HLT.out).1 (by have := (light_of HLT.out).2.2.2.2; omega) hm; have hjr := hJ.jrow (by have := (light_of HLT.out).2.2.2.2; omega) (fun p hp => by have := hlb p hp; omega); obtain ⟨r1, c1, rfl⟩ := owns_form oC; obtain ⟨r2, c2, rfl⟩ := owns_form oU; obtain ⟨r3, c3, rfl⟩ := owns_form oS; obtain ⟨r4, c4, rfl⟩ := owns_form hJ.row; have HJ6 := Lib.hid hjr; have hvl : vs.length ≤ 12 := Nat.le_trans hla (light_of HLT.out).2.2.2.2; have HB6 := Lib.hid (HB5.out.trans (h6.mono HB5.out.size)); clear oC oU oS hJ hm h6 hla hlb hjr)
    have hbw := (Below.refl w6.heap.size w6).alloc (Nat.le_refl _) (.cells #[.slice r1 (frB x).C.length c1, .slice r2 (frB x).U.length c2, .slice r3 (frB x).S.length c3, .int .i32 EE, .slice r4 vs.length c4] 54)
    have hfb := HBox.new w6 [.slice r1 (frB x).C.length c1, .slice r2 (frB x).U.length c2, .slice r3 (frB x).S.length c3, .int .i32 EE, .slice r4 vs.length c4] 54
    change HBox (w6.alloc (.cells #[.slice r1 (frB x).C.length c1, .slice r2 (frB x).U.length c2, .slice r3 (frB x).S.length c3, .int .i32 EE, .slice r4 vs.length c4] 54)) _ _ _ at hfb
    have HJ7 := Lib.hid (HJ6.out.stay hbw)
    have HB7 := Lib.hid (HB6.out.trans (hbw.mono HB6.out.size))
    clear hbw x0 x1 x2 x3 x4 HX5 HB5 HB6 HJ6
    generalize w6.alloc (.cells #[.slice r1 (frB x).C.length c1, .slice r2 (frB x).U.length c2, .slice r3 (frB x).S.length c3, .int .i32 EE, .slice r4 vs.length c4] 54) = V at *
    generalize w6.heap.size = Y at *
    have hbv := (Below.refl V.heap.size V).alloc (Nat.le_refl _) (.cells #[.int .i32 0, .int .i32 0, .bool false] 44)
    have hw := HBox.new V [.int .i32 0, .int .i32 0, .bool false] 44
    change HBox (V.alloc (.cells #[.int .i32 0, .int .i32 0, .bool false] 44)) _ _ _ at hw
    have HF8 := Lib.hid (hfb.stay hbv)
    have HJ8 := Lib.hid (HJ7.out.stay hbv)
    have HB8 := Lib.hid (HB7.out.trans (hbv.mono HB7.out.size))
    have HV8 := Lib.hid hbv
    have HYZ := Lib.hid hfb.size
    have HZ8 := Lib.hid HB7.out.size
    have HKJ := Lib.hid (fun (W : World) (h : Below V.heap.size V W) => HJ7.out.stay h)
    clear hbv hfb HJ7 HB7
    go_upto_region 7 with fail
    generalize V.alloc (.cells #[.int .i32 0, .int .i32 0, .bool false] 44) = V8 at *
    generalize V.heap.size = Z at *
    have HW8 := Lib.hid hw
    clear hw
    cases vs with
    | nil =>
      have K8 := Lib.hid (fun (W : World) (h : Below Z V W) => KD.out W (.slice r1 (frB x).C.length c1) (.slice r2 (frB x).U.length c2) (.slice r3 (frB x).S.length c3) (.slice r4 (List.length ([] : List Jm)) c4) [] (by simp) (HKJ.out W h))
      simp only [List.length_nil, List.head?_nil, List.getLast?_nil, Option.map_none, Option.getD_none, ne_eq, not_true_eq_false, decide_false] at K8 HF8 ⊢
      have f0 := HF8.out.cell (j := 0) rfl
      have f1 := HF8.out.cell (j := 1) rfl
      have f2 := HF8.out.cell (j := 2) rfl
      have f3 := HF8.out.cell (j := 3) rfl
      have f4 := HF8.out.cell (j := 4) rfl
      have v0 := HW8.out.cell (j := 0) rfl
      have v1 := HW8.out.cell (j := 1) rfl
      have v2 := HW8.out.cell (j := 2) rfl
      go_upto_region 10 with fail
      go_region_with (go_at_call 13; refine (K8.out _ (HV8.out.drew)).mono ?_; rintro e w9 ⟨rfl, h9⟩; have hd9 := ((Below.refl V8.heap.size V8).drew).trans (h9.mono (by simp)); have HB9 := Lib.hid (HB8.out.trans (hd9.mono HB8.out.size)); have hw9 := HW8.out.stay hd9; have y0 := hw9.cell (j := 0) rfl; have y1 := hw9.cell (j := 1) rfl; have y2 := hw9.cell (j := 2) rfl; clear h9 hd9 hw9)
      all_goals
        go_wp2_with fail
        exact bodyPost_ret (v := .bool true) (by simp [results, Tryz.results6, go_sem]) rfl ⟨rfl, HB9.out⟩
    | cons p0 rest =>
      have K8 := Lib.hid (fun (W : World) (h : Below Z V W) => KD.out W (.slice r1 (frB x).C.length c1) (.slice r2 (frB x).U.length c2) (.slice r3 (frB x).S.length c3) (.slice r4 (p0 :: rest).length c4) (p0 :: rest) (by omega) (HKJ.out W h))
      obtain ⟨n, hn⟩ : ∃ n, rest.length = n := ⟨_, rfl⟩
      have h0 : (p0 :: rest)[0]? = some p0 := rfl
      obtain ⟨pl, hpl⟩ : ∃ q, (p0 :: rest)[n]? = some q := ⟨_, List.getElem?_eq_getElem (by simp; omega)⟩
      have hlast : (p0 :: rest).getLast? = some pl := by rw [List.getLast?_eq_getElem?, ← hpl]; simp [hn]
      obtain ⟨g, off, cp, hv, hg, hcp, c0, _, _⟩ := HJ8.out.at h0
      obtain ⟨hg', _, d0, _, _⟩ := (show JRow V8 (.slice (some ⟨g, off, none⟩) (p0 :: rest).length cp) (p0 :: rest) from hv ▸ HJ8.out).cells hpl
      cases hv
      rw [hlast] at K8
      have hne : decide (p0 :: rest ≠ []) = true := by simp
      rw [hne] at K8
      have hlen : (p0 :: rest).length = n + 1 := by simp [hn]
      rw [hlen] at hcp K8 HF8 hvl ⊢
      simp only [Nat.zero_mul, Nat.add_zero] at c0
      simp only [List.head?_cons, Option.map_some, Option.getD_some] at K8
      obtain ⟨da, hda⟩ : ∃ d, p0.1 = d := ⟨_, rfl⟩
      obtain ⟨db, hdb⟩ : ∃ d, pl.1 = d := ⟨_, rfl⟩
      rw [hda] at c0 K8
      rw [hdb] at d0 K8
      clear HJ8 hlast hne hlen hda hdb hpl h0 hn KD
      have f0 := HF8.out.cell (j := 0) rfl
      have f1 := HF8.out.cell (j := 1) rfl
      have f2 := HF8.out.cell (j := 2) rfl
      have f3 := HF8.out.cell (j := 3) rfl
      have f4 := HF8.out.cell (j := 4) rfl
      have z0 := HW8.out.cell (j := 0) rfl
      have z1 := HW8.out.cell (j := 1) rfl
      have z2 := HW8.out.cell (j := 2) rfl
      have zf0 := HW8.out.frozen 0
      have zf1 := HW8.out.frozen 1
      have zf2 := HW8.out.frozen 2
      have zs := HW8.out.size
      have k1 : decide (((n + 1 : Nat) : Int) > 0) = true := decide_eq_true (by omega)
      have k2 : (0 : Int) < ((n + 1 : Nat) : Int) := by omega
      have k3 : IntKind.i64.wrap (((n + 1 : Nat) : Int) - 1) = (n : Int) := by rw [IntKind.wrap_i64]; omega
      have k4 : n < n + 1 := Nat.lt_succ_self n
      have k5 : 0 < n + 1 := Nat.succ_pos n
      obtain ⟨m, hm⟩ : ∃ m, n + 1 = m := ⟨_, rfl⟩
      rw [hm] at hcp K8 HF8 hvl k1 k2 k3 k4 k5 f4 ⊢
      clear hm
      go_upto_region 9 with fail
      go_region
      have hw9 := ((HW8.out.set 0 (.int .i32 da)).set 1 (.int .i32 db)).set 2 (.bool true)
      change HBox (((V8.setCell ⟨Z, 0, none⟩ (.int .i32 da)).setCell ⟨Z, 1, none⟩ (.int .i32 db)).setCell ⟨Z, 2, none⟩ (.bool true)) _ [.int .i32 da, .int .i32 db, .bool true] _ at hw9
      have kk : ∀ (W : World) (i : Nat) (u : Value), HBox W Y [.slice r1 (frB x).C.length c1, .slice r2 (frB x).U.length c2, .slice r3 (frB x).S.length c3, .int .i32 EE, .slice (some ⟨g, off, none⟩) m c4] 54 → HBox (W.setCell ⟨Z, i, none⟩ u) Y [.slice r1 (frB x).C.length c1, .slice r2 (frB x).U.length c2, .slice r3 (frB x).S.length c3, .int .i32 EE, .slice (some ⟨g, off, none⟩) m c4] 54 := fun W i u hh => hh.grown (grownBy_set W ⟨Z, i, none⟩ u) (fun e => absurd (show Y = Z from Option.some.inj e) (Nat.ne_of_lt HYZ.out))
      have hf9 := kk _ 2 (.bool true) (kk _ 1 (.int .i32 db) (kk _ 0 (.int .i32 da) HF8.out))
      clear kk
      have hb9 := ((HB8.out.setCell (p := ⟨Z, 0, none⟩) HZ8.out (.int .i32 da)).setCell (p := ⟨Z, 1, none⟩) HZ8.out (.int .i32 db)).setCell (p := ⟨Z, 2, none⟩) HZ8.out (.bool true)
      have hv9 := ((HV8.out.setCell (p := ⟨Z, 0, none⟩) (Nat.le_refl _) (.int .i32 da)).setCell (p := ⟨Z, 1, none⟩) (Nat.le_refl _) (.int .i32 db)).setCell (p := ⟨Z, 2, none⟩) (Nat.le_refl _) (.bool true)
      have HW9 := Lib.hid (hw9.stay (Below.refl _ _).drew)
      have HF9 := Lib.hid (hf9.stay (Below.refl _ _).drew)
      have HB9 := Lib.hid hb9.drew
      have HV9 := Lib.hid hv9.drew
      clear hw9 hf9 hb9 hv9 z0 z1 z2 zf0 zf1 zf2 zs f0 f1 f2 f3 f4 c0 d0
      generalize (((V8.setCell ⟨Z, 0, none⟩ (.int .i32 da)).setCell ⟨Z, 1, none⟩ (.int .i32 db)).setCell ⟨Z, 2, none⟩ (.bool true)).drew = V9 at *
      have f0 := HF9.out.cell (j := 0) rfl
      have f1 := HF9.out.cell (j := 1) rfl
      have f2 := HF9.out.cell (j := 2) rfl
      have f3 := HF9.out.cell (j := 3) rfl
      have f4 := HF9.out.cell (j := 4) rfl
      have z0 := HW9.out.cell (j := 0) rfl
      have z1 := HW9.out.cell (j := 1) rfl
      have z2 := HW9.out.cell (j := 2) rfl
      go_upto_region 10 with fail
      go_region_with (go_at_call 13; refine (K8.out _ (HV9.out.drew)).mono ?_; rintro e w9 ⟨rfl, h9⟩; have hd9 := ((Below.refl V9.heap.size V9).drew).trans (h9.mono (by simp)); have HBA := Lib.hid (HB9.out.trans (hd9.mono HB9.out.size)); have hwa := HW9.out.stay hd9; have y0 := hwa.cell (j := 0) rfl; have y1 := hwa.cell (j := 1) rfl; have y2 := hwa.cell (j := 2) rfl; clear h9 hd9 hwa)
      all_goals
        go_wp2_with fail
        exact bodyPost_ret (v := .bool true) (by simp [results, Tryz.results6, go_sem]) rfl ⟨rfl, HBA.out⟩
end Go.Proofs.YtjgmbjfijpmhdaaGreatDoor
/- Law RuleSpans, for its row. -/
/- Law 15's RuleSpans: the first and the last journal's day, of any book. -/
namespace Go.Proofs.YtjgmbjfijpmhdaaGreatDoor.ruleSpans
open Go.ChangeShapes Go.WideShapes Go.ChangeAt Go.RowKit Go.Joins
set_option linter.unusedVariables false
set_option linter.unusedSimpArgs false
set_option maxRecDepth 100000 in
theorem lifted (os : Os) (started : os.Started) (H : Type) (enc : TypeId × Value → H) :
    ReturnsInHanded {} Tryz.checked os 6 .any (fun w args => (Rows.ruleSpansSpec.pre enc Tryz.prog Tryz.f6 [] false w args ∧ laidMetH Tryz.prog Rows.ruleSpansRow.laid w) ∧ sizedMet enc Tryz.prog Tryz.f6 (OpenSpec.ofChange Rows.ruleSpansSpec) false w args)
      (Rows.ruleSpansSpec.post enc Tryz.prog Tryz.f6 false true false false) := by
  refine returnsInHanded_of_change_and (C := Tryz.checked) (X := fun w _ => laidMetH Tryz.prog Rows.ruleSpansRow.laid w) (fun _ _ _ hh h => h.of_heap hh) own started (by kernel_rfl) Tryz.func6
    (ChangeSpec.witness_shaped (enc := enc) (C := Tryz.checked) (os := os) (X := fun w _ => laidMetH Tryz.prog Rows.ruleSpansRow.laid w) false (World.laidAll Tryz.prog os Rows.ruleSpansRow.laid) #[.agg #[.slice none 0 0, .slice none 0 0, .int .i16 0, .slice none 0 0, .slice none 0 0]] 8 (World.laidAll_os _ _ _)
      (World.shaped_of_ZipB (by kernel_rfl) (by kernel_rfl)) (by kernel_rfl) (by kernel_rfl) (by kernel_rfl)
      (by rw [MakeChecks.laidMetH_plain _ _ _ (by kernel_rfl)]; exact laidMet_laidAll _ (by kernel_rfl) (by kernel_rfl))) ?_
  intro W base args ds gs before hval0 hW _ hreach hL _
  have hval : ∀ (j : Nat) t v, Tryz.f6.params[j]? = some t → args[j]? = some v → Value.okWide Tryz.prog W .any base t v := hval0
  have hW' := hW
  obtain ⟨p, q, hA0, hV, rfl, hfz, hnd⟩ := hW
  have hA' := hA0
  have hA : DataW.TrodAll enc Tryz.prog W 0 (fun _ => true) true Tryz.f6.params.toList args.toList ds p := hA0
  obtain ⟨rfl, rfl⟩ := trodVars_none hV
  simp only [List.append_nil] at hW' hfz
  have hlt : ∀ x ∈ p, x.block < W.heap.size := fun x hx => hW'.lt x hx
  rw [Tryz.params6] at hA hval
  obtain ⟨v0, vs0, d0, ds0, p0, q0, hargs, rfl, rfl, h0, r0⟩ := trodAll_cons hA
  obtain ⟨rfl, rfl, rfl⟩ := trodAll_nil r0
  obtain rfl : args = #[v0] := by cases args; simp_all
  obtain ⟨x0, vc0, vu0, vl0, vj0, js0, rfl, w0⟩ := bk_open (hval 0 28 v0 rfl rfl) h0
  clear hA0 hval0
  have hP : InS W := ins_of (by kernel_rfl) hL 2 5 6 7 rfl rfl rfl rfl
  refine (rulespans_c x0 vc0 vu0 vl0 vj0 js0 W hP w0).mono fun e W' ⟨he, hb⟩ => ?_
  subst he
  exact ⟨_, rfl, law_end laidOut (by kernel_rfl) hW' hA' rfl rfl rfl (fun _ _ _ => (trodAll_cons_mk (shut_bool Tryz.underlying4 _) trodAll_mk0)) hb⟩

set_option maxHeartbeats 4000000 in
theorem closed : joinedFacts Tryz.pinned.checked.prog 6 Tryz.f6 Rows.ruleSpansSpec Rows.ruleSpansRow = true := by
  unfold joinedFacts
  simp only [Bool.and_eq_true]
  refine ⟨⟨⟨⟨⟨⟨⟨⟨⟨⟨⟨⟨⟨⟨⟨⟨⟨⟨⟨⟨⟨⟨⟨⟨⟨⟨⟨⟨⟨⟨⟨?_, ?_⟩, ?_⟩, ?_⟩, ?_⟩, ?_⟩, ?_⟩, ?_⟩, ?_⟩, ?_⟩, ?_⟩, ?_⟩, ?_⟩, ?_⟩, ?_⟩, ?_⟩, ?_⟩, ?_⟩, ?_⟩, ?_⟩, ?_⟩, ?_⟩, ?_⟩, ?_⟩, ?_⟩, ?_⟩, ?_⟩, ?_⟩, ?_⟩, ?_⟩, ?_⟩, ?_⟩
  all_goals as_aux_lemma => kernel_rfl
theorem over : Rows.ruleSpansRow.holds Tryz.pinned (OpenSpec.ofChange Rows.ruleSpansSpec) :=
  OpenClaim.holds_of_wide 6 Tryz.f6 rfl rfl rfl rfl rfl rfl rfl ⟨rfl, rfl, rfl, rfl, rfl⟩ rfl rfl rfl rfl rfl (by kernel_rfl) Tryz.func6 closed
    (of_decide_eq_true (by kernel_rfl)) (by unfold Func.isWrapper; first | (rw [if_pos (by decide +kernel)]; kernel_rfl) | (rw [if_neg (by decide +kernel)]; exact ⟨rfl, rfl⟩))
    (fun os started H enc _ => lifted os started H enc)

/-- The statement. -/
theorem proved : Rows.RuleSpansCardSaid :=
  Claim7.holds_tied_plain_at .later [] _ true _ true over (fun _ h => by cases h) (by kernel_rfl) (fun _ h => by cases h) ruleSpans_row_tie rfl ⟨rfl, rfl⟩ (by kernel_rfl) rfl
    (fun f fn hf hfn => by
      obtain rfl : f = 6 := Option.some.inj ((show Tryz.prog.funcNamed "transposal/transposallaw15.RuleSpans" = some 6 by kernel_rfl).symm.trans hf) |>.symm
      obtain rfl : fn = Tryz.f6 := (Option.some.inj (Tryz.func6.symm.trans hfn)).symm
      exact ⟨by kernel_rfl, fun j t ht => by
        rw [Tryz.params6] at ht
        have hm : t ∈ [28] := by simpa using Array.mem_of_getElem? ht
        have hall : ([28].all fun u => !Tryz.prog.wantsStandIn u) = true := by kernel_rfl
        exact (show Tryz.prog.wantsStandIn t = false by simpa using List.all_eq_true.1 hall t hm)⟩)
    (by kernel_rfl)
#print axioms proved
end Go.Proofs.YtjgmbjfijpmhdaaGreatDoor.ruleSpans

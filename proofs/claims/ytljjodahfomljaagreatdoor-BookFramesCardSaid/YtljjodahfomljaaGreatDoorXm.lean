/- The walk of law BookFrames. -/
import Derived.Test.YtljjodahfomljaaGreatDoorXj
import Derived.Test.YtljjodahfomljaaGreatDoorHc
namespace Go.Proofs.YtljjodahfomljaaGreatDoor
open Go.RowKit
set_option linter.unusedVariables false
set_option linter.unusedSimpArgs false
theorem chkF_one {f : Fr} (h : chkA f.C ≠ 0) : chkF f = chkA f.C := by unfold chkF; rw [if_pos h]
theorem chkF_two {f : Fr} (h : chkA f.C = 0) (h2 : chkU f.U ≠ 0) : chkF f = chkU f.U := by unfold chkF; rw [if_neg (fun e => e h), if_pos h2]
theorem chkF_three {f : Fr} (h : chkA f.C = 0) (h2 : chkU f.U = 0) : chkF f = chkD f.S f.E := by unfold chkF; rw [if_neg (fun e => e h), if_neg (fun e => e h2)]
set_option maxHeartbeats 8000000 in
set_option maxRecDepth 100000 in
theorem bookframes_any {I : World → Prop} (C : AllotC) (D : DayC I) (K : KeyC I) (U : UnitC) (LC : CalC I) (EC : EntryC I) (B : BookC I) (l : List Ac) (vl : Value) (u : List Nat) (vu : Value) (st : List Int) (vst : Value) (en : Int) (x : Bk) (vCh vUn vLo vJs : Value) (js : List Jp) (wh : Nat) (w : World) (hI : I w) (hl : Recs cc 4 w vl l) (hu : Recs uc 1 w vu u) (hu6 : ∀ z ∈ u, z < 65536) (hs : Recs dcl 1 w vst st) (hs32 : ∀ z ∈ st, I32 z) (hen : I32 en) (hM : BkM x vCh vUn vLo vJs js w) (hwh : wh < 256) :
    Calls Tryz.prog 4 #[vl, vu, vst, .int .i32 en, bV vCh vUn x.first vLo vJs, .int .u8 (wh : Int)] w fun e w' => e = .returned (.bool true) ∧ Below w.heap.size w w' := by
  obtain ⟨i0, hi, hz0, hz1, hz2⟩ := info_parts infoD
  obtain ⟨q1, d1, rfl, _⟩ := hM.ch.form
  obtain ⟨q2, d2, rfl, _⟩ := hM.un.form
  obtain ⟨q3, d3, rfl, _⟩ := hM.lo.form
  obtain ⟨q4, d4, rfl, _⟩ := hM.jr.form
  obtain ⟨vCh, hvCh⟩ : ∃ v, Value.slice q1 x.chart.length d1 = v := ⟨_, rfl⟩
  obtain ⟨vUn, hvUn⟩ : ∃ v, Value.slice q2 x.units.length d2 = v := ⟨_, rfl⟩
  obtain ⟨vLo, hvLo⟩ : ∃ v, Value.slice q3 x.long.length d3 = v := ⟨_, rfl⟩
  obtain ⟨vJs, hvJs⟩ : ∃ v, Value.slice q4 js.length d4 = v := ⟨_, rfl⟩
  rw [hvCh, hvUn, hvLo, hvJs] at hM ⊢
  clear hvCh hvUn hvLo hvJs
  obtain ⟨k1, m1, rfl, _⟩ := hl.form
  obtain ⟨k2, m2, rfl, _⟩ := hu.form
  obtain ⟨k3, m3, rfl, _⟩ := hs.form
  have HAL := Lib.hid hl
  have HAU := Lib.hid hu
  have HAS := Lib.hid hs
  have HU6 := Lib.hid hu6
  have HS32 := Lib.hid hs32
  have HEN := Lib.hid hen
  have KA := Lib.hid (fun (w' : World) (h : Below w.heap.size w w') => awake10_any C D K U LC EC B w' (D.stay hI h))
  have KL := Lib.hid (fun (w' : World) (h : Below w.heap.size w w') => light_c x vCh vUn vLo vJs js w' (hM.stay h))
  have KF := Lib.hid (fun (w' : World) (h : Below w.heap.size w w') => frame_c x vCh vUn vLo vJs w' (hM.stay h).ch (hM.stay h).un (hM.stay h).lo)
  have KC := Lib.hid (fun (f : Fr) (vC vU vS : Value) (w' : World) (hF : FrM f vC vU vS w') => lcheckA_c vC f.C w' hF.c)
  have KU := Lib.hid (fun (f : Fr) (vC vU vS : Value) (w' : World) (hF : FrM f vC vU vS w') (hi : FrIn f) => U.check vU f.U w' hF.u hi.u.1 hi.u.2)
  have KD := Lib.hid (fun (f : Fr) (vC vU vS : Value) (w' : World) (h : Below w.heap.size w w') (hF : FrM f vC vU vS w') (hi : FrIn f) => LC.check vS f.S f.E w' (D.stay hI h) hF.s hi.s.1 hi.s.2 hi.e)
  have KB := Lib.hid (fun (f : Fr) (vC vU vS : Value) (w' : World) (h : Below w.heap.size w w') (hF : FrM f vC vU vS w') (hi : FrIn f) => B.fcheck vC vU vS f w' (D.stay hI h) hF hi)
  obtain ⟨EE, hEE⟩ : ∃ n, (frB x).E = n := ⟨_, rfl⟩
  have HEE := Lib.hid hEE
  obtain ⟨LT, hLT⟩ : ∃ b, lightB x = b := ⟨_, rfl⟩
  rw [hLT] at KL
  rw [hEE] at KF
  unfold bV at KL KF ⊢
  unfold frV at KF KB
  obtain ⟨L1, hL1⟩ : ∃ n, l.length = n := ⟨_, rfl⟩
  obtain ⟨L2, hL2⟩ : ∃ n, u.length = n := ⟨_, rfl⟩
  obtain ⟨L3, hL3⟩ : ∃ n, st.length = n := ⟨_, rfl⟩
  have HL := Lib.hid (And.intro hL1 (And.intro hL2 hL3))
  rw [hL1] at HAL ⊢
  rw [hL2] at HAU ⊢
  rw [hL3] at HAS ⊢
  have hb := (Below.refl w.heap.size w).alloc (Nat.le_refl _) (.cells #[vCh, vUn, .int .i16 x.first, vLo, vJs] 28)
  have bx := HBox.new w [vCh, vUn, .int .i16 x.first, vLo, vJs] 28
  change HBox (w.alloc (.cells #[vCh, vUn, .int .i16 x.first, vLo, vJs] 28)) _ _ _ at bx
  clear C D K U LC EC B hI hM hEE hLT hl hu hs hu6 hs32 hen hL1 hL2 hL3
  obtain ⟨n2, hn2⟩ : ∃ n, wh / 2 = n := ⟨_, rfl⟩
  obtain ⟨n4, hn4⟩ : ∃ n, wh / 4 = n := ⟨_, rfl⟩
  have t2 : (wh : Int).tdiv 2 = (n2 : Int) := by rw [Int.tdiv_eq_ediv_of_nonneg (by omega)]; omega
  have t3 : (wh : Int) / 2 = (n2 : Int) := by omega
  have t4 : (wh : Int).tdiv 4 = (n4 : Int) := by rw [Int.tdiv_eq_ediv_of_nonneg (by omega)]; omega
  have t5 : (wh : Int) / 4 = (n4 : Int) := by omega
  have t6 : IntKind.u8.wrap (n2 : Int) = (n2 : Int) := by rw [IntKind.wrap_u8]; omega
  have t7 : IntKind.u8.wrap (n4 : Int) = (n4 : Int) := by rw [IntKind.wrap_u8]; omega
  clear hn2 hn4
  go_enter Tryz.func4, Tryz.ntmps4
  go_upto_region 1 with fail
  generalize w.alloc (.cells #[vCh, vUn, .int .i16 x.first, vLo, vJs] 28) = W at *
  have HX := Lib.hid bx
  have HB := Lib.hid hb
  clear bx hb
  go_upto_region 3 with (go_at_call 9; refine (KA.out _ HB.out).mono ?_; rintro e w4 ⟨rfl, h4⟩; have HX4 := Lib.hid (HX.out.stay h4); have HB4 := Lib.hid (HB.out.trans (h4.mono HB.out.size)); clear h4)
  have x0 := HX4.out.cell (j := 0) rfl
  have x1 := HX4.out.cell (j := 1) rfl
  have x2 := HX4.out.cell (j := 2) rfl
  have x3 := HX4.out.cell (j := 3) rfl
  have x4 := HX4.out.cell (j := 4) rfl
  clear HX HB
  cases LT with
  | false =>
    go_wp2_with (go_at_call 10; refine (KL.out _ HB4.out).mono ?_; rintro e w5 ⟨rfl, h5⟩; have HX5 := Lib.hid (HX4.out.stay h5); have HB5 := Lib.hid (HB4.out.trans (h5.mono HB4.out.size)); clear h5)
    go_ret
    exact ⟨by simp, HB5.out⟩
  | true =>
    by_cases h1 : 30 < L1
    · have e1 : decide ((30 : Int) < (L1 : Int)) = true := decide_eq_true (by omega)
      go_wp2_with (go_at_call 10; refine (KL.out _ HB4.out).mono ?_; rintro e w5 ⟨rfl, h5⟩; have HX5 := Lib.hid (HX4.out.stay h5); have HB5 := Lib.hid (HB4.out.trans (h5.mono HB4.out.size)); clear h5)
      go_ret
      exact ⟨by simp, HB5.out⟩
    have e1 : decide ((30 : Int) < (L1 : Int)) = false := decide_eq_false (by omega)
    by_cases h2 : 50 < L2
    · have e2 : decide ((50 : Int) < (L2 : Int)) = true := decide_eq_true (by omega)
      go_wp2_with (go_at_call 10; refine (KL.out _ HB4.out).mono ?_; rintro e w5 ⟨rfl, h5⟩; have HX5 := Lib.hid (HX4.out.stay h5); have HB5 := Lib.hid (HB4.out.trans (h5.mono HB4.out.size)); clear h5)
      go_ret
      exact ⟨by simp, HB5.out⟩
    have e2 : decide ((50 : Int) < (L2 : Int)) = false := decide_eq_false (by omega)
    by_cases h3 : 70 < L3
    · have e3 : decide ((70 : Int) < (L3 : Int)) = true := decide_eq_true (by omega)
      go_wp2_with (go_at_call 10; refine (KL.out _ HB4.out).mono ?_; rintro e w5 ⟨rfl, h5⟩; have HX5 := Lib.hid (HX4.out.stay h5); have HB5 := Lib.hid (HB4.out.trans (h5.mono HB4.out.size)); clear h5)
      go_ret
      exact ⟨by simp, HB5.out⟩
    have e3 : decide ((70 : Int) < (L3 : Int)) = false := decide_eq_false (by omega)
    go_upto_region 5 with (go_at_call 10; refine (KL.out _ HB4.out).mono ?_; rintro e w5 ⟨rfl, h5⟩; have HX5 := Lib.hid (HX4.out.stay h5); have HB5 := Lib.hid (HB4.out.trans (h5.mono HB4.out.size)); clear h5)
    clear x0 x1 x2 x3 x4
    have x0 := HX5.out.cell (j := 0) rfl
    have x1 := HX5.out.cell (j := 1) rfl
    have x2 := HX5.out.cell (j := 2) rfl
    have x3 := HX5.out.cell (j := 3) rfl
    have x4 := HX5.out.cell (j := 4) rfl
    clear HX4 HB4 e1 e2 e3
    go_upto_region 6 with (go_at_call 15; refine (KF.out _ HB5.out).mono ?_; rintro e w6 ⟨vC, vU, vS, rfl, oC, oU, oS, h6⟩; have HFM := Lib.hid (frM_owns oC oU oS); obtain ⟨r1, c1, rfl⟩ := owns_form oC; obtain ⟨r2, c2, rfl⟩ := owns_form oU; obtain ⟨r3, c3, rfl⟩ := owns_form oS; have HB6 := Lib.hid (HB5.out.trans (h6.mono HB5.out.size)); clear oC oU oS h6)
    have hfb := HBox.new w6 [.slice r1 (frB x).C.length c1, .slice r2 (frB x).U.length c2, .slice r3 (frB x).S.length c3, .int .i32 EE] 38
    change HBox (w6.alloc (.cells #[.slice r1 (frB x).C.length c1, .slice r2 (frB x).U.length c2, .slice r3 (frB x).S.length c3, .int .i32 EE] 38)) _ _ _ at hfb
    have hbw := (Below.refl w6.heap.size w6).alloc (Nat.le_refl _) (.cells #[.slice r1 (frB x).C.length c1, .slice r2 (frB x).U.length c2, .slice r3 (frB x).S.length c3, .int .i32 EE] 38)
    have HFB := Lib.hid hfb
    have HV := Lib.hid hbw
    have HZ : Hid (w6.heap.size + 1 ≤ (w6.alloc (.cells #[.slice r1 (frB x).C.length c1, .slice r2 (frB x).U.length c2, .slice r3 (frB x).S.length c3, .int .i32 EE] 38)).heap.size) := Lib.hid (by simp)
    have HGL := Lib.hid (HAL.out.stay HB6.out)
    have HGU := Lib.hid (HAU.out.stay HB6.out)
    have HGS := Lib.hid (HAS.out.stay HB6.out)
    clear x0 x1 x2 x3 x4 HX5 HB5 hfb hbw HAL HAU HAS
    generalize w6.alloc (.cells #[.slice r1 (frB x).C.length c1, .slice r2 (frB x).U.length c2, .slice r3 (frB x).S.length c3, .int .i32 EE] 38) = V at *
    by_cases hc : wh % 2 = 1
    · skip
      have bwh0 : (wh : Int).tmod 2 = 1 := by rw [Int.tmod_eq_emod_of_nonneg (by omega)]; omega
      have bwh1 : (wh : Int) % 2 = 1 := by omega
      have f0 := HFB.out.cell (j := 0) rfl
      have f1 := HFB.out.frozen 0
      have N1 := Lib.hid (HFB.out.set 0 (.slice k1 L1 m1))
      have N2 := Lib.hid (HV.out.setCell (p := ⟨w6.heap.size, 0, none⟩) (Nat.le_refl _) (.slice k1 L1 m1))
      have N3 : Hid (w6.heap.size + 1 ≤ (V.setCell ⟨w6.heap.size, 0, none⟩ (.slice k1 L1 m1)).heap.size) := Lib.hid (by have := HZ.out; simpa using this)
      go_upto_region 8 with fail
      clear f0 f1 HFB HV HZ
      generalize (V.setCell ⟨w6.heap.size, 0, none⟩ (.slice k1 L1 m1)) = V1 at *
      have HFB := N1
      have HV := N2
      have HZ := N3
      clear N1 N2 N3
      by_cases hc2 : n2 % 2 = 1
      · skip
        have bn20 : (n2 : Int).tmod 2 = 1 := by rw [Int.tmod_eq_emod_of_nonneg (by omega)]; omega
        have bn21 : (n2 : Int) % 2 = 1 := by omega
        have f0 := HFB.out.cell (j := 1) rfl
        have f1 := HFB.out.frozen 1
        have N1 := Lib.hid (HFB.out.set 1 (.slice k2 L2 m2))
        have N2 := Lib.hid (HV.out.setCell (p := ⟨w6.heap.size, 1, none⟩) (Nat.le_refl _) (.slice k2 L2 m2))
        have N3 : Hid (w6.heap.size + 1 ≤ (V1.setCell ⟨w6.heap.size, 1, none⟩ (.slice k2 L2 m2)).heap.size) := Lib.hid (by have := HZ.out; simpa using this)
        go_upto_region 10 with fail
        clear f0 f1 HFB HV HZ
        generalize (V1.setCell ⟨w6.heap.size, 1, none⟩ (.slice k2 L2 m2)) = V2 at *
        have HFB := N1
        have HV := N2
        have HZ := N3
        clear N1 N2 N3
        by_cases hc4 : n4 % 2 = 1
        · skip
          have bn40 : (n4 : Int).tmod 2 = 1 := by rw [Int.tmod_eq_emod_of_nonneg (by omega)]; omega
          have bn41 : (n4 : Int) % 2 = 1 := by omega
          have f0 := HFB.out.cell (j := 2) rfl
          have f1 := HFB.out.frozen 2
          have f2 := HFB.out.cell (j := 3) rfl
          have f3 := HFB.out.frozen 3
          have N1 := Lib.hid ((HFB.out.set 2 (.slice none 0 0)).set 3 (.int .i32 en))
          have N2 := Lib.hid ((HV.out.setCell (p := ⟨w6.heap.size, 2, none⟩) (Nat.le_refl _) (.slice none 0 0)).setCell (p := ⟨w6.heap.size, 3, none⟩) (Nat.le_refl _) (.int .i32 en))
          have N3 : Hid (w6.heap.size + 1 ≤ ((V2.setCell ⟨w6.heap.size, 2, none⟩ (.slice none 0 0)).setCell ⟨w6.heap.size, 3, none⟩ (.int .i32 en)).heap.size) := Lib.hid (by have := HZ.out; simpa using this)
          go_upto_region 12 with fail
          clear f0 f1 f2 f3 HFB HV HZ
          generalize ((V2.setCell ⟨w6.heap.size, 2, none⟩ (.slice none 0 0)).setCell ⟨w6.heap.size, 3, none⟩ (.int .i32 en)) = V3 at *
          go_wp2_with fail
          go_loopw [59] (fun i wr => ∃ (k : Nat) (r : Option Addr) (cap : Nat), i = .int .i64 k ∧ k ≤ L3 ∧ Hid (HBox wr w6.heap.size [.slice k1 L1 m1, .slice k2 L2 m2, .slice r k cap, .int .i32 en] 38) ∧ Hid (wr.ownsRow (w6.heap.size + 1) 34 1 (.slice r k cap) k ((st.take k).flatMap dcl)) ∧ Hid (Below w6.heap.size w6 wr) ∧ Hid (w6.heap.size + 1 ≤ wr.heap.size)) (fun i _ => L3 - (intOf i).toNat)
          case atStart => exact ⟨0, none, 0, rfl, Nat.zero_le _, N1, Lib.hid (World.ownsRow_nil _ _ _ _), N2, N3⟩
          case round =>
            clear N1 N2 N3
            obtain ⟨k, r, cap, rfl, hk, HFB, HO, HV, HZ⟩ := hrel
            rename World => wr
            by_cases hlt : k < L3
            · obtain ⟨d, hd⟩ : ∃ d, st[k]? = some d := ⟨st[k]'(by have := HL.out.2.2; omega), List.getElem?_eq_getElem (by have := HL.out.2.2; omega)⟩
              obtain ⟨g, off, rfl, hg, hcd⟩ := (HGS.out.stay HV.out).at hd
              have d0 := hcd 0 (.int .i32 d) rfl
              simp only [Nat.mul_one, Nat.add_zero] at d0
              have f0 := HFB.out.cell (j := 2) rfl
              have f1 := HFB.out.frozen 2
              have HD := Lib.hid hd
              clear hcd hd
              go_wp2_with (at_builtin; refine wpList_append_own_at _ rfl (.tmp 65) (.tmp 67) 33 rfl (w6.heap.size + 1) 34 i0 (.int .i32 0) 1 4 Tryz.underlying33 hi hz0 hz1 hz2 rfl (by decide) _ k _ rfl (HO.out.alloc _) ⟨_, 0, none⟩ 1 1 (dcl d) rfl rfl (cells_new _ (dcl d) _) (dcl_one d) (by unfold maxLen; omega) (by omega) (by simp; have := HZ.out; omega) ?_; intro v2 w3 hown3 hgrow3 _ hat3; have hs4 : (wr.alloc (.cells #[.int .i32 d] 34)).heap.size = wr.heap.size + 1 := by simp
                           have hbw := (Below.refl wr.heap.size wr).alloc (Nat.le_refl _) (.cells #[.int .i32 d] 34)
                           have hb3 := (HFB.out.stay hbw).grown hgrow3 (fun h => owns_far HO.out (m := w6.heap.size) (.inl (by omega)) h.symm)
                           have HV3 := Lib.hid ((HV.out.trans (hbw.mono HV.out.size)).grown hgrow3 (by have := HV.out.size; omega) (fun j hj => by have := HO.out.lt j hj; omega))
                           have HZ3 := Lib.hid (Nat.le_trans (Nat.le_trans HZ.out hbw.size) hgrow3.size)
                           have HO3 := Lib.hid hown3
                           obtain ⟨r2', cap2, rfl⟩ := owns_form hown3
                           have p0 := hb3.cell (j := 2) rfl
                           have p1 := hb3.frozen 2
                           have HB3 := Lib.hid hb3
                           clear hgrow3 hown3 hat3 hs4 hbw hb3)
              go_roundw
              case rel =>
                have hg' : w3.grownBy (w3.setCell ⟨w6.heap.size, 2, none⟩ (.slice r2' (k + 1) cap2)) (some w6.heap.size) := grownBy_set w3 ⟨w6.heap.size, 2, none⟩ _
                exact ⟨k + 1, r2', cap2, by go_num, by omega, Lib.hid (HB3.out.set 2 _), Lib.hid (by rw [List.take_add_one, HD.out]; have := HO3.out.kept hg' (.inr (owns_far HO3.out (m := w6.heap.size) (.inl (by omega)))); simpa [dcl] using this), Lib.hid (HV3.out.setCell (p := ⟨w6.heap.size, 2, none⟩) (Nat.le_refl _) _), Lib.hid (Nat.le_trans HZ3.out hg'.size)⟩
              case measure => simp [intOf]; omega
            · obtain rfl : k = L3 := by omega
              have hrs : Recs dcl 1 wr (.slice r k cap) st := by
                have h1 := HO.out
                rw [List.take_of_length_le (by rw [HL.out.2.2]; exact Nat.le_refl _)] at h1
                exact recs_of_owns dcl_len h1 HL.out.2.2.symm (by omega)
              have HRS := Lib.hid hrs
              clear hrs
              go_upto_region 17 with fail
              obtain ⟨f, hf⟩ : ∃ f : Fr, f = ⟨l, u, st, en⟩ := ⟨_, rfl⟩
              have hfm : FrM f (.slice k1 L1 m1) (.slice k2 L2 m2) (.slice r k cap) wr := by subst hf; exact ⟨HGL.out.stay HV.out, HGU.out.stay HV.out, HRS.out⟩
              have hfi : FrIn f := by subst hf; exact ⟨by have := HL.out.1; show l.length ≤ 300; omega, ⟨by have := HL.out.2.1; show u.length ≤ 100; omega, HU6.out⟩, ⟨by have := HL.out.2.2; show st.length ≤ 100; omega, HS32.out⟩, HEN.out⟩
              have hfe : f.E = en := by subst hf; rfl
              have HFM2 := Lib.hid hfm
              have HFI := Lib.hid hfi
              have HBW := Lib.hid (HB6.out.trans (HV.out.mono HB6.out.size))
              have K1 := KC.out f (.slice k1 L1 m1) (.slice k2 L2 m2) (.slice r k cap) wr hfm
              have K2 := fun (w' : World) (h : Below wr.heap.size wr w') => KU.out f (.slice k1 L1 m1) (.slice k2 L2 m2) (.slice r k cap) w' (HFM2.out.stay h) hfi
              have K3 := fun (w' : World) (h : Below wr.heap.size wr w') => KD.out f (.slice k1 L1 m1) (.slice k2 L2 m2) (.slice r k cap) w' (HBW.out.trans (h.mono HBW.out.size)) (HFM2.out.stay h) hfi
              have K4 := fun (w' : World) (h : Below wr.heap.size wr w') => KB.out f (.slice k1 L1 m1) (.slice k2 L2 m2) (.slice r k cap) w' (HBW.out.trans (h.mono HBW.out.size)) (HFM2.out.stay h) hfi
              rw [hfe] at K3 K4
              have HCA := Lib.hid (fun h => chkF_one (f := f) h)
              have HCU := Lib.hid (fun h h2 => chkF_two (f := f) h h2)
              have HCD := Lib.hid (fun h h2 => chkF_three (f := f) h h2)
              rw [hfe] at HCD
              obtain ⟨RA, hRA⟩ : ∃ r, chkA f.C = r := ⟨_, rfl⟩
              obtain ⟨RU, hRU⟩ : ∃ r, chkU f.U = r := ⟨_, rfl⟩
              obtain ⟨RD, hRD⟩ : ∃ r, chkD f.S en = r := ⟨_, rfl⟩
              obtain ⟨RF, hRF⟩ : ∃ r, chkF f = r := ⟨_, rfl⟩
              rw [hRA] at K1 HCA HCU HCD
              rw [hRU] at K2 HCU HCD
              rw [hRD] at K3 HCD
              rw [hRF] at K4 HCA HCU HCD
              have K1 := Lib.hid K1
              have K2 := Lib.hid K2
              have K3 := Lib.hid K3
              have K4 := Lib.hid K4
              have b0 := HFB.out.cell (j := 0) rfl
              have b1 := HFB.out.cell (j := 1) rfl
              have b2 := HFB.out.cell (j := 2) rfl
              have b3 := HFB.out.cell (j := 3) rfl
              clear hf hfm hfi hfe hRA hRU hRD hRF
              by_cases g1 : RA = 0
              · subst g1
                by_cases g2 : RU = 0
                · subst g2
                  obtain rfl := HCD.out rfl rfl
                  go_wp2_with (first
                    | (go_at_call 19; refine (K4.out _ HT3.out).mono ?_; rintro e wd ⟨rfl, hd⟩; have HT4 := Lib.hid (HT3.out.trans (hd.mono HT3.out.size)); clear hd)
                    | (go_at_call 18; refine (K3.out _ HT2.out).mono ?_; rintro e wc ⟨rfl, hd⟩; have HT3 := Lib.hid (HT2.out.trans (hd.mono HT2.out.size)); have hf3 := HFB.out.stay HT3.out; have y0 := hf3.cell (j := 0) rfl; have y1 := hf3.cell (j := 1) rfl; have y2 := hf3.cell (j := 2) rfl; have y3 := hf3.cell (j := 3) rfl; clear hd hf3)
                    | (go_at_call 17; refine (K2.out _ HT1.out).mono ?_; rintro e wb ⟨rfl, hd⟩; have HT2 := Lib.hid (HT1.out.trans (hd.mono HT1.out.size)); have hf2 := HFB.out.stay HT2.out; have z2 := hf2.cell (j := 2) rfl; have z3 := hf2.cell (j := 3) rfl; clear hd hf2)
                    | (go_at_call 16; refine K1.out.mono ?_; rintro e wa ⟨rfl, hd⟩; have HT1 := Lib.hid hd; have hf1 := HFB.out.stay hd; have u1 := hf1.cell (j := 1) rfl; clear hd hf1))
                  go_ret
                  exact ⟨by simp, HBW.out.trans (HT4.out.mono HBW.out.size)⟩
                · obtain rfl := HCU.out rfl g2
                  have g2' : ¬ RF = 0 := g2
                  go_wp2_with (first
                    | (go_at_call 19; refine (K4.out _ HT2.out).mono ?_; rintro e wd ⟨rfl, hd⟩; have HT4 := Lib.hid (HT2.out.trans (hd.mono HT2.out.size)); clear hd)
                    | (go_at_call 17; refine (K2.out _ HT1.out).mono ?_; rintro e wb ⟨rfl, hd⟩; have HT2 := Lib.hid (HT1.out.trans (hd.mono HT1.out.size)); have hf2 := HFB.out.stay HT2.out; have y0 := hf2.cell (j := 0) rfl; have y1 := hf2.cell (j := 1) rfl; have y2 := hf2.cell (j := 2) rfl; have y3 := hf2.cell (j := 3) rfl; clear hd hf2)
                    | (go_at_call 16; refine K1.out.mono ?_; rintro e wa ⟨rfl, hd⟩; have HT1 := Lib.hid hd; have hf1 := HFB.out.stay hd; have u1 := hf1.cell (j := 1) rfl; clear hd hf1))
                  go_ret
                  exact ⟨by simp, HBW.out.trans (HT4.out.mono HBW.out.size)⟩
              · obtain rfl := HCA.out g1
                have g1' : ¬ RF = 0 := g1
                go_wp2_with (first
                  | (go_at_call 19; refine (K4.out _ HT1.out).mono ?_; rintro e wd ⟨rfl, hd⟩; have HT4 := Lib.hid (HT1.out.trans (hd.mono HT1.out.size)); clear hd)
                  | (go_at_call 16; refine K1.out.mono ?_; rintro e wa ⟨rfl, hd⟩; have HT1 := Lib.hid hd; have hf1 := HFB.out.stay hd; have y0 := hf1.cell (j := 0) rfl; have y1 := hf1.cell (j := 1) rfl; have y2 := hf1.cell (j := 2) rfl; have y3 := hf1.cell (j := 3) rfl; clear hd hf1))
                go_ret
                exact ⟨by simp, HBW.out.trans (HT4.out.mono HBW.out.size)⟩
        · skip
          have bn40 : (n4 : Int).tmod 2 = 0 := by rw [Int.tmod_eq_emod_of_nonneg (by omega)]; omega
          have bn41 : (n4 : Int) % 2 = 0 := by omega
          go_upto_region 17 with fail
          obtain ⟨f, hf⟩ : ∃ f : Fr, f = ⟨l, u, (frB x).S, EE⟩ := ⟨_, rfl⟩
          have hfm : FrM f (.slice k1 L1 m1) (.slice k2 L2 m2) (.slice r3 (frB x).S.length c3) V2 := by subst hf; exact ⟨HGL.out.stay HV.out, HGU.out.stay HV.out, HFM.out.s.stay HV.out⟩
          have hfi : FrIn f := by subst hf; exact ⟨by have := HL.out.1; show l.length ≤ 300; omega, ⟨by have := HL.out.2.1; show u.length ≤ 100; omega, HU6.out⟩, (frB_in x).s, by rw [← HEE.out]; exact (frB_in x).e⟩
          have hfe : f.E = EE := by subst hf; rfl
          have HFM2 := Lib.hid hfm
          have HFI := Lib.hid hfi
          have HBW := Lib.hid (HB6.out.trans (HV.out.mono HB6.out.size))
          have K1 := KC.out f (.slice k1 L1 m1) (.slice k2 L2 m2) (.slice r3 (frB x).S.length c3) V2 hfm
          have K2 := fun (w' : World) (h : Below V2.heap.size V2 w') => KU.out f (.slice k1 L1 m1) (.slice k2 L2 m2) (.slice r3 (frB x).S.length c3) w' (HFM2.out.stay h) hfi
          have K3 := fun (w' : World) (h : Below V2.heap.size V2 w') => KD.out f (.slice k1 L1 m1) (.slice k2 L2 m2) (.slice r3 (frB x).S.length c3) w' (HBW.out.trans (h.mono HBW.out.size)) (HFM2.out.stay h) hfi
          have K4 := fun (w' : World) (h : Below V2.heap.size V2 w') => KB.out f (.slice k1 L1 m1) (.slice k2 L2 m2) (.slice r3 (frB x).S.length c3) w' (HBW.out.trans (h.mono HBW.out.size)) (HFM2.out.stay h) hfi
          rw [hfe] at K3 K4
          have HCA := Lib.hid (fun h => chkF_one (f := f) h)
          have HCU := Lib.hid (fun h h2 => chkF_two (f := f) h h2)
          have HCD := Lib.hid (fun h h2 => chkF_three (f := f) h h2)
          rw [hfe] at HCD
          obtain ⟨RA, hRA⟩ : ∃ r, chkA f.C = r := ⟨_, rfl⟩
          obtain ⟨RU, hRU⟩ : ∃ r, chkU f.U = r := ⟨_, rfl⟩
          obtain ⟨RD, hRD⟩ : ∃ r, chkD f.S EE = r := ⟨_, rfl⟩
          obtain ⟨RF, hRF⟩ : ∃ r, chkF f = r := ⟨_, rfl⟩
          rw [hRA] at K1 HCA HCU HCD
          rw [hRU] at K2 HCU HCD
          rw [hRD] at K3 HCD
          rw [hRF] at K4 HCA HCU HCD
          have K1 := Lib.hid K1
          have K2 := Lib.hid K2
          have K3 := Lib.hid K3
          have K4 := Lib.hid K4
          have b0 := HFB.out.cell (j := 0) rfl
          have b1 := HFB.out.cell (j := 1) rfl
          have b2 := HFB.out.cell (j := 2) rfl
          have b3 := HFB.out.cell (j := 3) rfl
          clear hf hfm hfi hfe hRA hRU hRD hRF
          by_cases g1 : RA = 0
          · subst g1
            by_cases g2 : RU = 0
            · subst g2
              obtain rfl := HCD.out rfl rfl
              go_wp2_with (first
                | (go_at_call 19; refine (K4.out _ HT3.out).mono ?_; rintro e wd ⟨rfl, hd⟩; have HT4 := Lib.hid (HT3.out.trans (hd.mono HT3.out.size)); clear hd)
                | (go_at_call 18; refine (K3.out _ HT2.out).mono ?_; rintro e wc ⟨rfl, hd⟩; have HT3 := Lib.hid (HT2.out.trans (hd.mono HT2.out.size)); have hf3 := HFB.out.stay HT3.out; have y0 := hf3.cell (j := 0) rfl; have y1 := hf3.cell (j := 1) rfl; have y2 := hf3.cell (j := 2) rfl; have y3 := hf3.cell (j := 3) rfl; clear hd hf3)
                | (go_at_call 17; refine (K2.out _ HT1.out).mono ?_; rintro e wb ⟨rfl, hd⟩; have HT2 := Lib.hid (HT1.out.trans (hd.mono HT1.out.size)); have hf2 := HFB.out.stay HT2.out; have z2 := hf2.cell (j := 2) rfl; have z3 := hf2.cell (j := 3) rfl; clear hd hf2)
                | (go_at_call 16; refine K1.out.mono ?_; rintro e wa ⟨rfl, hd⟩; have HT1 := Lib.hid hd; have hf1 := HFB.out.stay hd; have u1 := hf1.cell (j := 1) rfl; clear hd hf1))
              go_ret
              exact ⟨by simp, HBW.out.trans (HT4.out.mono HBW.out.size)⟩
            · obtain rfl := HCU.out rfl g2
              have g2' : ¬ RF = 0 := g2
              go_wp2_with (first
                | (go_at_call 19; refine (K4.out _ HT2.out).mono ?_; rintro e wd ⟨rfl, hd⟩; have HT4 := Lib.hid (HT2.out.trans (hd.mono HT2.out.size)); clear hd)
                | (go_at_call 17; refine (K2.out _ HT1.out).mono ?_; rintro e wb ⟨rfl, hd⟩; have HT2 := Lib.hid (HT1.out.trans (hd.mono HT1.out.size)); have hf2 := HFB.out.stay HT2.out; have y0 := hf2.cell (j := 0) rfl; have y1 := hf2.cell (j := 1) rfl; have y2 := hf2.cell (j := 2) rfl; have y3 := hf2.cell (j := 3) rfl; clear hd hf2)
                | (go_at_call 16; refine K1.out.mono ?_; rintro e wa ⟨rfl, hd⟩; have HT1 := Lib.hid hd; have hf1 := HFB.out.stay hd; have u1 := hf1.cell (j := 1) rfl; clear hd hf1))
              go_ret
              exact ⟨by simp, HBW.out.trans (HT4.out.mono HBW.out.size)⟩
          · obtain rfl := HCA.out g1
            have g1' : ¬ RF = 0 := g1
            go_wp2_with (first
              | (go_at_call 19; refine (K4.out _ HT1.out).mono ?_; rintro e wd ⟨rfl, hd⟩; have HT4 := Lib.hid (HT1.out.trans (hd.mono HT1.out.size)); clear hd)
              | (go_at_call 16; refine K1.out.mono ?_; rintro e wa ⟨rfl, hd⟩; have HT1 := Lib.hid hd; have hf1 := HFB.out.stay hd; have y0 := hf1.cell (j := 0) rfl; have y1 := hf1.cell (j := 1) rfl; have y2 := hf1.cell (j := 2) rfl; have y3 := hf1.cell (j := 3) rfl; clear hd hf1))
            go_ret
            exact ⟨by simp, HBW.out.trans (HT4.out.mono HBW.out.size)⟩
      · skip
        have bn20 : (n2 : Int).tmod 2 = 0 := by rw [Int.tmod_eq_emod_of_nonneg (by omega)]; omega
        have bn21 : (n2 : Int) % 2 = 0 := by omega
        go_upto_region 10 with fail
        by_cases hc4 : n4 % 2 = 1
        · skip
          have bn40 : (n4 : Int).tmod 2 = 1 := by rw [Int.tmod_eq_emod_of_nonneg (by omega)]; omega
          have bn41 : (n4 : Int) % 2 = 1 := by omega
          have f0 := HFB.out.cell (j := 2) rfl
          have f1 := HFB.out.frozen 2
          have f2 := HFB.out.cell (j := 3) rfl
          have f3 := HFB.out.frozen 3
          have N1 := Lib.hid ((HFB.out.set 2 (.slice none 0 0)).set 3 (.int .i32 en))
          have N2 := Lib.hid ((HV.out.setCell (p := ⟨w6.heap.size, 2, none⟩) (Nat.le_refl _) (.slice none 0 0)).setCell (p := ⟨w6.heap.size, 3, none⟩) (Nat.le_refl _) (.int .i32 en))
          have N3 : Hid (w6.heap.size + 1 ≤ ((V1.setCell ⟨w6.heap.size, 2, none⟩ (.slice none 0 0)).setCell ⟨w6.heap.size, 3, none⟩ (.int .i32 en)).heap.size) := Lib.hid (by have := HZ.out; simpa using this)
          go_upto_region 12 with fail
          clear f0 f1 f2 f3 HFB HV HZ
          generalize ((V1.setCell ⟨w6.heap.size, 2, none⟩ (.slice none 0 0)).setCell ⟨w6.heap.size, 3, none⟩ (.int .i32 en)) = V3 at *
          go_wp2_with fail
          go_loopw [59] (fun i wr => ∃ (k : Nat) (r : Option Addr) (cap : Nat), i = .int .i64 k ∧ k ≤ L3 ∧ Hid (HBox wr w6.heap.size [.slice k1 L1 m1, .slice r2 (frB x).U.length c2, .slice r k cap, .int .i32 en] 38) ∧ Hid (wr.ownsRow (w6.heap.size + 1) 34 1 (.slice r k cap) k ((st.take k).flatMap dcl)) ∧ Hid (Below w6.heap.size w6 wr) ∧ Hid (w6.heap.size + 1 ≤ wr.heap.size)) (fun i _ => L3 - (intOf i).toNat)
          case atStart => exact ⟨0, none, 0, rfl, Nat.zero_le _, N1, Lib.hid (World.ownsRow_nil _ _ _ _), N2, N3⟩
          case round =>
            clear N1 N2 N3
            obtain ⟨k, r, cap, rfl, hk, HFB, HO, HV, HZ⟩ := hrel
            rename World => wr
            by_cases hlt : k < L3
            · obtain ⟨d, hd⟩ : ∃ d, st[k]? = some d := ⟨st[k]'(by have := HL.out.2.2; omega), List.getElem?_eq_getElem (by have := HL.out.2.2; omega)⟩
              obtain ⟨g, off, rfl, hg, hcd⟩ := (HGS.out.stay HV.out).at hd
              have d0 := hcd 0 (.int .i32 d) rfl
              simp only [Nat.mul_one, Nat.add_zero] at d0
              have f0 := HFB.out.cell (j := 2) rfl
              have f1 := HFB.out.frozen 2
              have HD := Lib.hid hd
              clear hcd hd
              go_wp2_with (at_builtin; refine wpList_append_own_at _ rfl (.tmp 65) (.tmp 67) 33 rfl (w6.heap.size + 1) 34 i0 (.int .i32 0) 1 4 Tryz.underlying33 hi hz0 hz1 hz2 rfl (by decide) _ k _ rfl (HO.out.alloc _) ⟨_, 0, none⟩ 1 1 (dcl d) rfl rfl (cells_new _ (dcl d) _) (dcl_one d) (by unfold maxLen; omega) (by omega) (by simp; have := HZ.out; omega) ?_; intro v2 w3 hown3 hgrow3 _ hat3; have hs4 : (wr.alloc (.cells #[.int .i32 d] 34)).heap.size = wr.heap.size + 1 := by simp
                           have hbw := (Below.refl wr.heap.size wr).alloc (Nat.le_refl _) (.cells #[.int .i32 d] 34)
                           have hb3 := (HFB.out.stay hbw).grown hgrow3 (fun h => owns_far HO.out (m := w6.heap.size) (.inl (by omega)) h.symm)
                           have HV3 := Lib.hid ((HV.out.trans (hbw.mono HV.out.size)).grown hgrow3 (by have := HV.out.size; omega) (fun j hj => by have := HO.out.lt j hj; omega))
                           have HZ3 := Lib.hid (Nat.le_trans (Nat.le_trans HZ.out hbw.size) hgrow3.size)
                           have HO3 := Lib.hid hown3
                           obtain ⟨r2', cap2, rfl⟩ := owns_form hown3
                           have p0 := hb3.cell (j := 2) rfl
                           have p1 := hb3.frozen 2
                           have HB3 := Lib.hid hb3
                           clear hgrow3 hown3 hat3 hs4 hbw hb3)
              go_roundw
              case rel =>
                have hg' : w3.grownBy (w3.setCell ⟨w6.heap.size, 2, none⟩ (.slice r2' (k + 1) cap2)) (some w6.heap.size) := grownBy_set w3 ⟨w6.heap.size, 2, none⟩ _
                exact ⟨k + 1, r2', cap2, by go_num, by omega, Lib.hid (HB3.out.set 2 _), Lib.hid (by rw [List.take_add_one, HD.out]; have := HO3.out.kept hg' (.inr (owns_far HO3.out (m := w6.heap.size) (.inl (by omega)))); simpa [dcl] using this), Lib.hid (HV3.out.setCell (p := ⟨w6.heap.size, 2, none⟩) (Nat.le_refl _) _), Lib.hid (Nat.le_trans HZ3.out hg'.size)⟩
              case measure => simp [intOf]; omega
            · obtain rfl : k = L3 := by omega
              have hrs : Recs dcl 1 wr (.slice r k cap) st := by
                have h1 := HO.out
                rw [List.take_of_length_le (by rw [HL.out.2.2]; exact Nat.le_refl _)] at h1
                exact recs_of_owns dcl_len h1 HL.out.2.2.symm (by omega)
              have HRS := Lib.hid hrs
              clear hrs
              go_upto_region 17 with fail
              obtain ⟨f, hf⟩ : ∃ f : Fr, f = ⟨l, (frB x).U, st, en⟩ := ⟨_, rfl⟩
              have hfm : FrM f (.slice k1 L1 m1) (.slice r2 (frB x).U.length c2) (.slice r k cap) wr := by subst hf; exact ⟨HGL.out.stay HV.out, HFM.out.u.stay HV.out, HRS.out⟩
              have hfi : FrIn f := by subst hf; exact ⟨by have := HL.out.1; show l.length ≤ 300; omega, (frB_in x).u, ⟨by have := HL.out.2.2; show st.length ≤ 100; omega, HS32.out⟩, HEN.out⟩
              have hfe : f.E = en := by subst hf; rfl
              have HFM2 := Lib.hid hfm
              have HFI := Lib.hid hfi
              have HBW := Lib.hid (HB6.out.trans (HV.out.mono HB6.out.size))
              have K1 := KC.out f (.slice k1 L1 m1) (.slice r2 (frB x).U.length c2) (.slice r k cap) wr hfm
              have K2 := fun (w' : World) (h : Below wr.heap.size wr w') => KU.out f (.slice k1 L1 m1) (.slice r2 (frB x).U.length c2) (.slice r k cap) w' (HFM2.out.stay h) hfi
              have K3 := fun (w' : World) (h : Below wr.heap.size wr w') => KD.out f (.slice k1 L1 m1) (.slice r2 (frB x).U.length c2) (.slice r k cap) w' (HBW.out.trans (h.mono HBW.out.size)) (HFM2.out.stay h) hfi
              have K4 := fun (w' : World) (h : Below wr.heap.size wr w') => KB.out f (.slice k1 L1 m1) (.slice r2 (frB x).U.length c2) (.slice r k cap) w' (HBW.out.trans (h.mono HBW.out.size)) (HFM2.out.stay h) hfi
              rw [hfe] at K3 K4
              have HCA := Lib.hid (fun h => chkF_one (f := f) h)
              have HCU := Lib.hid (fun h h2 => chkF_two (f := f) h h2)
              have HCD := Lib.hid (fun h h2 => chkF_three (f := f) h h2)
              rw [hfe] at HCD
              obtain ⟨RA, hRA⟩ : ∃ r, chkA f.C = r := ⟨_, rfl⟩
              obtain ⟨RU, hRU⟩ : ∃ r, chkU f.U = r := ⟨_, rfl⟩
              obtain ⟨RD, hRD⟩ : ∃ r, chkD f.S en = r := ⟨_, rfl⟩
              obtain ⟨RF, hRF⟩ : ∃ r, chkF f = r := ⟨_, rfl⟩
              rw [hRA] at K1 HCA HCU HCD
              rw [hRU] at K2 HCU HCD
              rw [hRD] at K3 HCD
              rw [hRF] at K4 HCA HCU HCD
              have K1 := Lib.hid K1
              have K2 := Lib.hid K2
              have K3 := Lib.hid K3
              have K4 := Lib.hid K4
              have b0 := HFB.out.cell (j := 0) rfl
              have b1 := HFB.out.cell (j := 1) rfl
              have b2 := HFB.out.cell (j := 2) rfl
              have b3 := HFB.out.cell (j := 3) rfl
              clear hf hfm hfi hfe hRA hRU hRD hRF
              by_cases g1 : RA = 0
              · subst g1
                by_cases g2 : RU = 0
                · subst g2
                  obtain rfl := HCD.out rfl rfl
                  go_wp2_with (first
                    | (go_at_call 19; refine (K4.out _ HT3.out).mono ?_; rintro e wd ⟨rfl, hd⟩; have HT4 := Lib.hid (HT3.out.trans (hd.mono HT3.out.size)); clear hd)
                    | (go_at_call 18; refine (K3.out _ HT2.out).mono ?_; rintro e wc ⟨rfl, hd⟩; have HT3 := Lib.hid (HT2.out.trans (hd.mono HT2.out.size)); have hf3 := HFB.out.stay HT3.out; have y0 := hf3.cell (j := 0) rfl; have y1 := hf3.cell (j := 1) rfl; have y2 := hf3.cell (j := 2) rfl; have y3 := hf3.cell (j := 3) rfl; clear hd hf3)
                    | (go_at_call 17; refine (K2.out _ HT1.out).mono ?_; rintro e wb ⟨rfl, hd⟩; have HT2 := Lib.hid (HT1.out.trans (hd.mono HT1.out.size)); have hf2 := HFB.out.stay HT2.out; have z2 := hf2.cell (j := 2) rfl; have z3 := hf2.cell (j := 3) rfl; clear hd hf2)
                    | (go_at_call 16; refine K1.out.mono ?_; rintro e wa ⟨rfl, hd⟩; have HT1 := Lib.hid hd; have hf1 := HFB.out.stay hd; have u1 := hf1.cell (j := 1) rfl; clear hd hf1))
                  go_ret
                  exact ⟨by simp, HBW.out.trans (HT4.out.mono HBW.out.size)⟩
                · obtain rfl := HCU.out rfl g2
                  have g2' : ¬ RF = 0 := g2
                  go_wp2_with (first
                    | (go_at_call 19; refine (K4.out _ HT2.out).mono ?_; rintro e wd ⟨rfl, hd⟩; have HT4 := Lib.hid (HT2.out.trans (hd.mono HT2.out.size)); clear hd)
                    | (go_at_call 17; refine (K2.out _ HT1.out).mono ?_; rintro e wb ⟨rfl, hd⟩; have HT2 := Lib.hid (HT1.out.trans (hd.mono HT1.out.size)); have hf2 := HFB.out.stay HT2.out; have y0 := hf2.cell (j := 0) rfl; have y1 := hf2.cell (j := 1) rfl; have y2 := hf2.cell (j := 2) rfl; have y3 := hf2.cell (j := 3) rfl; clear hd hf2)
                    | (go_at_call 16; refine K1.out.mono ?_; rintro e wa ⟨rfl, hd⟩; have HT1 := Lib.hid hd; have hf1 := HFB.out.stay hd; have u1 := hf1.cell (j := 1) rfl; clear hd hf1))
                  go_ret
                  exact ⟨by simp, HBW.out.trans (HT4.out.mono HBW.out.size)⟩
              · obtain rfl := HCA.out g1
                have g1' : ¬ RF = 0 := g1
                go_wp2_with (first
                  | (go_at_call 19; refine (K4.out _ HT1.out).mono ?_; rintro e wd ⟨rfl, hd⟩; have HT4 := Lib.hid (HT1.out.trans (hd.mono HT1.out.size)); clear hd)
                  | (go_at_call 16; refine K1.out.mono ?_; rintro e wa ⟨rfl, hd⟩; have HT1 := Lib.hid hd; have hf1 := HFB.out.stay hd; have y0 := hf1.cell (j := 0) rfl; have y1 := hf1.cell (j := 1) rfl; have y2 := hf1.cell (j := 2) rfl; have y3 := hf1.cell (j := 3) rfl; clear hd hf1))
                go_ret
                exact ⟨by simp, HBW.out.trans (HT4.out.mono HBW.out.size)⟩
        · skip
          have bn40 : (n4 : Int).tmod 2 = 0 := by rw [Int.tmod_eq_emod_of_nonneg (by omega)]; omega
          have bn41 : (n4 : Int) % 2 = 0 := by omega
          go_upto_region 17 with fail
          obtain ⟨f, hf⟩ : ∃ f : Fr, f = ⟨l, (frB x).U, (frB x).S, EE⟩ := ⟨_, rfl⟩
          have hfm : FrM f (.slice k1 L1 m1) (.slice r2 (frB x).U.length c2) (.slice r3 (frB x).S.length c3) V1 := by subst hf; exact ⟨HGL.out.stay HV.out, HFM.out.u.stay HV.out, HFM.out.s.stay HV.out⟩
          have hfi : FrIn f := by subst hf; exact ⟨by have := HL.out.1; show l.length ≤ 300; omega, (frB_in x).u, (frB_in x).s, by rw [← HEE.out]; exact (frB_in x).e⟩
          have hfe : f.E = EE := by subst hf; rfl
          have HFM2 := Lib.hid hfm
          have HFI := Lib.hid hfi
          have HBW := Lib.hid (HB6.out.trans (HV.out.mono HB6.out.size))
          have K1 := KC.out f (.slice k1 L1 m1) (.slice r2 (frB x).U.length c2) (.slice r3 (frB x).S.length c3) V1 hfm
          have K2 := fun (w' : World) (h : Below V1.heap.size V1 w') => KU.out f (.slice k1 L1 m1) (.slice r2 (frB x).U.length c2) (.slice r3 (frB x).S.length c3) w' (HFM2.out.stay h) hfi
          have K3 := fun (w' : World) (h : Below V1.heap.size V1 w') => KD.out f (.slice k1 L1 m1) (.slice r2 (frB x).U.length c2) (.slice r3 (frB x).S.length c3) w' (HBW.out.trans (h.mono HBW.out.size)) (HFM2.out.stay h) hfi
          have K4 := fun (w' : World) (h : Below V1.heap.size V1 w') => KB.out f (.slice k1 L1 m1) (.slice r2 (frB x).U.length c2) (.slice r3 (frB x).S.length c3) w' (HBW.out.trans (h.mono HBW.out.size)) (HFM2.out.stay h) hfi
          rw [hfe] at K3 K4
          have HCA := Lib.hid (fun h => chkF_one (f := f) h)
          have HCU := Lib.hid (fun h h2 => chkF_two (f := f) h h2)
          have HCD := Lib.hid (fun h h2 => chkF_three (f := f) h h2)
          rw [hfe] at HCD
          obtain ⟨RA, hRA⟩ : ∃ r, chkA f.C = r := ⟨_, rfl⟩
          obtain ⟨RU, hRU⟩ : ∃ r, chkU f.U = r := ⟨_, rfl⟩
          obtain ⟨RD, hRD⟩ : ∃ r, chkD f.S EE = r := ⟨_, rfl⟩
          obtain ⟨RF, hRF⟩ : ∃ r, chkF f = r := ⟨_, rfl⟩
          rw [hRA] at K1 HCA HCU HCD
          rw [hRU] at K2 HCU HCD
          rw [hRD] at K3 HCD
          rw [hRF] at K4 HCA HCU HCD
          have K1 := Lib.hid K1
          have K2 := Lib.hid K2
          have K3 := Lib.hid K3
          have K4 := Lib.hid K4
          have b0 := HFB.out.cell (j := 0) rfl
          have b1 := HFB.out.cell (j := 1) rfl
          have b2 := HFB.out.cell (j := 2) rfl
          have b3 := HFB.out.cell (j := 3) rfl
          clear hf hfm hfi hfe hRA hRU hRD hRF
          by_cases g1 : RA = 0
          · subst g1
            by_cases g2 : RU = 0
            · subst g2
              obtain rfl := HCD.out rfl rfl
              go_wp2_with (first
                | (go_at_call 19; refine (K4.out _ HT3.out).mono ?_; rintro e wd ⟨rfl, hd⟩; have HT4 := Lib.hid (HT3.out.trans (hd.mono HT3.out.size)); clear hd)
                | (go_at_call 18; refine (K3.out _ HT2.out).mono ?_; rintro e wc ⟨rfl, hd⟩; have HT3 := Lib.hid (HT2.out.trans (hd.mono HT2.out.size)); have hf3 := HFB.out.stay HT3.out; have y0 := hf3.cell (j := 0) rfl; have y1 := hf3.cell (j := 1) rfl; have y2 := hf3.cell (j := 2) rfl; have y3 := hf3.cell (j := 3) rfl; clear hd hf3)
                | (go_at_call 17; refine (K2.out _ HT1.out).mono ?_; rintro e wb ⟨rfl, hd⟩; have HT2 := Lib.hid (HT1.out.trans (hd.mono HT1.out.size)); have hf2 := HFB.out.stay HT2.out; have z2 := hf2.cell (j := 2) rfl; have z3 := hf2.cell (j := 3) rfl; clear hd hf2)
                | (go_at_call 16; refine K1.out.mono ?_; rintro e wa ⟨rfl, hd⟩; have HT1 := Lib.hid hd; have hf1 := HFB.out.stay hd; have u1 := hf1.cell (j := 1) rfl; clear hd hf1))
              go_ret
              exact ⟨by simp, HBW.out.trans (HT4.out.mono HBW.out.size)⟩
            · obtain rfl := HCU.out rfl g2
              have g2' : ¬ RF = 0 := g2
              go_wp2_with (first
                | (go_at_call 19; refine (K4.out _ HT2.out).mono ?_; rintro e wd ⟨rfl, hd⟩; have HT4 := Lib.hid (HT2.out.trans (hd.mono HT2.out.size)); clear hd)
                | (go_at_call 17; refine (K2.out _ HT1.out).mono ?_; rintro e wb ⟨rfl, hd⟩; have HT2 := Lib.hid (HT1.out.trans (hd.mono HT1.out.size)); have hf2 := HFB.out.stay HT2.out; have y0 := hf2.cell (j := 0) rfl; have y1 := hf2.cell (j := 1) rfl; have y2 := hf2.cell (j := 2) rfl; have y3 := hf2.cell (j := 3) rfl; clear hd hf2)
                | (go_at_call 16; refine K1.out.mono ?_; rintro e wa ⟨rfl, hd⟩; have HT1 := Lib.hid hd; have hf1 := HFB.out.stay hd; have u1 := hf1.cell (j := 1) rfl; clear hd hf1))
              go_ret
              exact ⟨by simp, HBW.out.trans (HT4.out.mono HBW.out.size)⟩
          · obtain rfl := HCA.out g1
            have g1' : ¬ RF = 0 := g1
            go_wp2_with (first
              | (go_at_call 19; refine (K4.out _ HT1.out).mono ?_; rintro e wd ⟨rfl, hd⟩; have HT4 := Lib.hid (HT1.out.trans (hd.mono HT1.out.size)); clear hd)
              | (go_at_call 16; refine K1.out.mono ?_; rintro e wa ⟨rfl, hd⟩; have HT1 := Lib.hid hd; have hf1 := HFB.out.stay hd; have y0 := hf1.cell (j := 0) rfl; have y1 := hf1.cell (j := 1) rfl; have y2 := hf1.cell (j := 2) rfl; have y3 := hf1.cell (j := 3) rfl; clear hd hf1))
            go_ret
            exact ⟨by simp, HBW.out.trans (HT4.out.mono HBW.out.size)⟩
    · skip
      have bwh0 : (wh : Int).tmod 2 = 0 := by rw [Int.tmod_eq_emod_of_nonneg (by omega)]; omega
      have bwh1 : (wh : Int) % 2 = 0 := by omega
      go_upto_region 8 with fail
      by_cases hc2 : n2 % 2 = 1
      · skip
        have bn20 : (n2 : Int).tmod 2 = 1 := by rw [Int.tmod_eq_emod_of_nonneg (by omega)]; omega
        have bn21 : (n2 : Int) % 2 = 1 := by omega
        have f0 := HFB.out.cell (j := 1) rfl
        have f1 := HFB.out.frozen 1
        have N1 := Lib.hid (HFB.out.set 1 (.slice k2 L2 m2))
        have N2 := Lib.hid (HV.out.setCell (p := ⟨w6.heap.size, 1, none⟩) (Nat.le_refl _) (.slice k2 L2 m2))
        have N3 : Hid (w6.heap.size + 1 ≤ (V.setCell ⟨w6.heap.size, 1, none⟩ (.slice k2 L2 m2)).heap.size) := Lib.hid (by have := HZ.out; simpa using this)
        go_upto_region 10 with fail
        clear f0 f1 HFB HV HZ
        generalize (V.setCell ⟨w6.heap.size, 1, none⟩ (.slice k2 L2 m2)) = V2 at *
        have HFB := N1
        have HV := N2
        have HZ := N3
        clear N1 N2 N3
        by_cases hc4 : n4 % 2 = 1
        · skip
          have bn40 : (n4 : Int).tmod 2 = 1 := by rw [Int.tmod_eq_emod_of_nonneg (by omega)]; omega
          have bn41 : (n4 : Int) % 2 = 1 := by omega
          have f0 := HFB.out.cell (j := 2) rfl
          have f1 := HFB.out.frozen 2
          have f2 := HFB.out.cell (j := 3) rfl
          have f3 := HFB.out.frozen 3
          have N1 := Lib.hid ((HFB.out.set 2 (.slice none 0 0)).set 3 (.int .i32 en))
          have N2 := Lib.hid ((HV.out.setCell (p := ⟨w6.heap.size, 2, none⟩) (Nat.le_refl _) (.slice none 0 0)).setCell (p := ⟨w6.heap.size, 3, none⟩) (Nat.le_refl _) (.int .i32 en))
          have N3 : Hid (w6.heap.size + 1 ≤ ((V2.setCell ⟨w6.heap.size, 2, none⟩ (.slice none 0 0)).setCell ⟨w6.heap.size, 3, none⟩ (.int .i32 en)).heap.size) := Lib.hid (by have := HZ.out; simpa using this)
          go_upto_region 12 with fail
          clear f0 f1 f2 f3 HFB HV HZ
          generalize ((V2.setCell ⟨w6.heap.size, 2, none⟩ (.slice none 0 0)).setCell ⟨w6.heap.size, 3, none⟩ (.int .i32 en)) = V3 at *
          go_wp2_with fail
          go_loopw [59] (fun i wr => ∃ (k : Nat) (r : Option Addr) (cap : Nat), i = .int .i64 k ∧ k ≤ L3 ∧ Hid (HBox wr w6.heap.size [.slice r1 (frB x).C.length c1, .slice k2 L2 m2, .slice r k cap, .int .i32 en] 38) ∧ Hid (wr.ownsRow (w6.heap.size + 1) 34 1 (.slice r k cap) k ((st.take k).flatMap dcl)) ∧ Hid (Below w6.heap.size w6 wr) ∧ Hid (w6.heap.size + 1 ≤ wr.heap.size)) (fun i _ => L3 - (intOf i).toNat)
          case atStart => exact ⟨0, none, 0, rfl, Nat.zero_le _, N1, Lib.hid (World.ownsRow_nil _ _ _ _), N2, N3⟩
          case round =>
            clear N1 N2 N3
            obtain ⟨k, r, cap, rfl, hk, HFB, HO, HV, HZ⟩ := hrel
            rename World => wr
            by_cases hlt : k < L3
            · obtain ⟨d, hd⟩ : ∃ d, st[k]? = some d := ⟨st[k]'(by have := HL.out.2.2; omega), List.getElem?_eq_getElem (by have := HL.out.2.2; omega)⟩
              obtain ⟨g, off, rfl, hg, hcd⟩ := (HGS.out.stay HV.out).at hd
              have d0 := hcd 0 (.int .i32 d) rfl
              simp only [Nat.mul_one, Nat.add_zero] at d0
              have f0 := HFB.out.cell (j := 2) rfl
              have f1 := HFB.out.frozen 2
              have HD := Lib.hid hd
              clear hcd hd
              go_wp2_with (at_builtin; refine wpList_append_own_at _ rfl (.tmp 65) (.tmp 67) 33 rfl (w6.heap.size + 1) 34 i0 (.int .i32 0) 1 4 Tryz.underlying33 hi hz0 hz1 hz2 rfl (by decide) _ k _ rfl (HO.out.alloc _) ⟨_, 0, none⟩ 1 1 (dcl d) rfl rfl (cells_new _ (dcl d) _) (dcl_one d) (by unfold maxLen; omega) (by omega) (by simp; have := HZ.out; omega) ?_; intro v2 w3 hown3 hgrow3 _ hat3; have hs4 : (wr.alloc (.cells #[.int .i32 d] 34)).heap.size = wr.heap.size + 1 := by simp
                           have hbw := (Below.refl wr.heap.size wr).alloc (Nat.le_refl _) (.cells #[.int .i32 d] 34)
                           have hb3 := (HFB.out.stay hbw).grown hgrow3 (fun h => owns_far HO.out (m := w6.heap.size) (.inl (by omega)) h.symm)
                           have HV3 := Lib.hid ((HV.out.trans (hbw.mono HV.out.size)).grown hgrow3 (by have := HV.out.size; omega) (fun j hj => by have := HO.out.lt j hj; omega))
                           have HZ3 := Lib.hid (Nat.le_trans (Nat.le_trans HZ.out hbw.size) hgrow3.size)
                           have HO3 := Lib.hid hown3
                           obtain ⟨r2', cap2, rfl⟩ := owns_form hown3
                           have p0 := hb3.cell (j := 2) rfl
                           have p1 := hb3.frozen 2
                           have HB3 := Lib.hid hb3
                           clear hgrow3 hown3 hat3 hs4 hbw hb3)
              go_roundw
              case rel =>
                have hg' : w3.grownBy (w3.setCell ⟨w6.heap.size, 2, none⟩ (.slice r2' (k + 1) cap2)) (some w6.heap.size) := grownBy_set w3 ⟨w6.heap.size, 2, none⟩ _
                exact ⟨k + 1, r2', cap2, by go_num, by omega, Lib.hid (HB3.out.set 2 _), Lib.hid (by rw [List.take_add_one, HD.out]; have := HO3.out.kept hg' (.inr (owns_far HO3.out (m := w6.heap.size) (.inl (by omega)))); simpa [dcl] using this), Lib.hid (HV3.out.setCell (p := ⟨w6.heap.size, 2, none⟩) (Nat.le_refl _) _), Lib.hid (Nat.le_trans HZ3.out hg'.size)⟩
              case measure => simp [intOf]; omega
            · obtain rfl : k = L3 := by omega
              have hrs : Recs dcl 1 wr (.slice r k cap) st := by
                have h1 := HO.out
                rw [List.take_of_length_le (by rw [HL.out.2.2]; exact Nat.le_refl _)] at h1
                exact recs_of_owns dcl_len h1 HL.out.2.2.symm (by omega)
              have HRS := Lib.hid hrs
              clear hrs
              go_upto_region 17 with fail
              obtain ⟨f, hf⟩ : ∃ f : Fr, f = ⟨(frB x).C, u, st, en⟩ := ⟨_, rfl⟩
              have hfm : FrM f (.slice r1 (frB x).C.length c1) (.slice k2 L2 m2) (.slice r k cap) wr := by subst hf; exact ⟨HFM.out.c.stay HV.out, HGU.out.stay HV.out, HRS.out⟩
              have hfi : FrIn f := by subst hf; exact ⟨(frB_in x).c, ⟨by have := HL.out.2.1; show u.length ≤ 100; omega, HU6.out⟩, ⟨by have := HL.out.2.2; show st.length ≤ 100; omega, HS32.out⟩, HEN.out⟩
              have hfe : f.E = en := by subst hf; rfl
              have HFM2 := Lib.hid hfm
              have HFI := Lib.hid hfi
              have HBW := Lib.hid (HB6.out.trans (HV.out.mono HB6.out.size))
              have K1 := KC.out f (.slice r1 (frB x).C.length c1) (.slice k2 L2 m2) (.slice r k cap) wr hfm
              have K2 := fun (w' : World) (h : Below wr.heap.size wr w') => KU.out f (.slice r1 (frB x).C.length c1) (.slice k2 L2 m2) (.slice r k cap) w' (HFM2.out.stay h) hfi
              have K3 := fun (w' : World) (h : Below wr.heap.size wr w') => KD.out f (.slice r1 (frB x).C.length c1) (.slice k2 L2 m2) (.slice r k cap) w' (HBW.out.trans (h.mono HBW.out.size)) (HFM2.out.stay h) hfi
              have K4 := fun (w' : World) (h : Below wr.heap.size wr w') => KB.out f (.slice r1 (frB x).C.length c1) (.slice k2 L2 m2) (.slice r k cap) w' (HBW.out.trans (h.mono HBW.out.size)) (HFM2.out.stay h) hfi
              rw [hfe] at K3 K4
              have HCA := Lib.hid (fun h => chkF_one (f := f) h)
              have HCU := Lib.hid (fun h h2 => chkF_two (f := f) h h2)
              have HCD := Lib.hid (fun h h2 => chkF_three (f := f) h h2)
              rw [hfe] at HCD
              obtain ⟨RA, hRA⟩ : ∃ r, chkA f.C = r := ⟨_, rfl⟩
              obtain ⟨RU, hRU⟩ : ∃ r, chkU f.U = r := ⟨_, rfl⟩
              obtain ⟨RD, hRD⟩ : ∃ r, chkD f.S en = r := ⟨_, rfl⟩
              obtain ⟨RF, hRF⟩ : ∃ r, chkF f = r := ⟨_, rfl⟩
              rw [hRA] at K1 HCA HCU HCD
              rw [hRU] at K2 HCU HCD
              rw [hRD] at K3 HCD
              rw [hRF] at K4 HCA HCU HCD
              have K1 := Lib.hid K1
              have K2 := Lib.hid K2
              have K3 := Lib.hid K3
              have K4 := Lib.hid K4
              have b0 := HFB.out.cell (j := 0) rfl
              have b1 := HFB.out.cell (j := 1) rfl
              have b2 := HFB.out.cell (j := 2) rfl
              have b3 := HFB.out.cell (j := 3) rfl
              clear hf hfm hfi hfe hRA hRU hRD hRF
              by_cases g1 : RA = 0
              · subst g1
                by_cases g2 : RU = 0
                · subst g2
                  obtain rfl := HCD.out rfl rfl
                  go_wp2_with (first
                    | (go_at_call 19; refine (K4.out _ HT3.out).mono ?_; rintro e wd ⟨rfl, hd⟩; have HT4 := Lib.hid (HT3.out.trans (hd.mono HT3.out.size)); clear hd)
                    | (go_at_call 18; refine (K3.out _ HT2.out).mono ?_; rintro e wc ⟨rfl, hd⟩; have HT3 := Lib.hid (HT2.out.trans (hd.mono HT2.out.size)); have hf3 := HFB.out.stay HT3.out; have y0 := hf3.cell (j := 0) rfl; have y1 := hf3.cell (j := 1) rfl; have y2 := hf3.cell (j := 2) rfl; have y3 := hf3.cell (j := 3) rfl; clear hd hf3)
                    | (go_at_call 17; refine (K2.out _ HT1.out).mono ?_; rintro e wb ⟨rfl, hd⟩; have HT2 := Lib.hid (HT1.out.trans (hd.mono HT1.out.size)); have hf2 := HFB.out.stay HT2.out; have z2 := hf2.cell (j := 2) rfl; have z3 := hf2.cell (j := 3) rfl; clear hd hf2)
                    | (go_at_call 16; refine K1.out.mono ?_; rintro e wa ⟨rfl, hd⟩; have HT1 := Lib.hid hd; have hf1 := HFB.out.stay hd; have u1 := hf1.cell (j := 1) rfl; clear hd hf1))
                  go_ret
                  exact ⟨by simp, HBW.out.trans (HT4.out.mono HBW.out.size)⟩
                · obtain rfl := HCU.out rfl g2
                  have g2' : ¬ RF = 0 := g2
                  go_wp2_with (first
                    | (go_at_call 19; refine (K4.out _ HT2.out).mono ?_; rintro e wd ⟨rfl, hd⟩; have HT4 := Lib.hid (HT2.out.trans (hd.mono HT2.out.size)); clear hd)
                    | (go_at_call 17; refine (K2.out _ HT1.out).mono ?_; rintro e wb ⟨rfl, hd⟩; have HT2 := Lib.hid (HT1.out.trans (hd.mono HT1.out.size)); have hf2 := HFB.out.stay HT2.out; have y0 := hf2.cell (j := 0) rfl; have y1 := hf2.cell (j := 1) rfl; have y2 := hf2.cell (j := 2) rfl; have y3 := hf2.cell (j := 3) rfl; clear hd hf2)
                    | (go_at_call 16; refine K1.out.mono ?_; rintro e wa ⟨rfl, hd⟩; have HT1 := Lib.hid hd; have hf1 := HFB.out.stay hd; have u1 := hf1.cell (j := 1) rfl; clear hd hf1))
                  go_ret
                  exact ⟨by simp, HBW.out.trans (HT4.out.mono HBW.out.size)⟩
              · obtain rfl := HCA.out g1
                have g1' : ¬ RF = 0 := g1
                go_wp2_with (first
                  | (go_at_call 19; refine (K4.out _ HT1.out).mono ?_; rintro e wd ⟨rfl, hd⟩; have HT4 := Lib.hid (HT1.out.trans (hd.mono HT1.out.size)); clear hd)
                  | (go_at_call 16; refine K1.out.mono ?_; rintro e wa ⟨rfl, hd⟩; have HT1 := Lib.hid hd; have hf1 := HFB.out.stay hd; have y0 := hf1.cell (j := 0) rfl; have y1 := hf1.cell (j := 1) rfl; have y2 := hf1.cell (j := 2) rfl; have y3 := hf1.cell (j := 3) rfl; clear hd hf1))
                go_ret
                exact ⟨by simp, HBW.out.trans (HT4.out.mono HBW.out.size)⟩
        · skip
          have bn40 : (n4 : Int).tmod 2 = 0 := by rw [Int.tmod_eq_emod_of_nonneg (by omega)]; omega
          have bn41 : (n4 : Int) % 2 = 0 := by omega
          go_upto_region 17 with fail
          obtain ⟨f, hf⟩ : ∃ f : Fr, f = ⟨(frB x).C, u, (frB x).S, EE⟩ := ⟨_, rfl⟩
          have hfm : FrM f (.slice r1 (frB x).C.length c1) (.slice k2 L2 m2) (.slice r3 (frB x).S.length c3) V2 := by subst hf; exact ⟨HFM.out.c.stay HV.out, HGU.out.stay HV.out, HFM.out.s.stay HV.out⟩
          have hfi : FrIn f := by subst hf; exact ⟨(frB_in x).c, ⟨by have := HL.out.2.1; show u.length ≤ 100; omega, HU6.out⟩, (frB_in x).s, by rw [← HEE.out]; exact (frB_in x).e⟩
          have hfe : f.E = EE := by subst hf; rfl
          have HFM2 := Lib.hid hfm
          have HFI := Lib.hid hfi
          have HBW := Lib.hid (HB6.out.trans (HV.out.mono HB6.out.size))
          have K1 := KC.out f (.slice r1 (frB x).C.length c1) (.slice k2 L2 m2) (.slice r3 (frB x).S.length c3) V2 hfm
          have K2 := fun (w' : World) (h : Below V2.heap.size V2 w') => KU.out f (.slice r1 (frB x).C.length c1) (.slice k2 L2 m2) (.slice r3 (frB x).S.length c3) w' (HFM2.out.stay h) hfi
          have K3 := fun (w' : World) (h : Below V2.heap.size V2 w') => KD.out f (.slice r1 (frB x).C.length c1) (.slice k2 L2 m2) (.slice r3 (frB x).S.length c3) w' (HBW.out.trans (h.mono HBW.out.size)) (HFM2.out.stay h) hfi
          have K4 := fun (w' : World) (h : Below V2.heap.size V2 w') => KB.out f (.slice r1 (frB x).C.length c1) (.slice k2 L2 m2) (.slice r3 (frB x).S.length c3) w' (HBW.out.trans (h.mono HBW.out.size)) (HFM2.out.stay h) hfi
          rw [hfe] at K3 K4
          have HCA := Lib.hid (fun h => chkF_one (f := f) h)
          have HCU := Lib.hid (fun h h2 => chkF_two (f := f) h h2)
          have HCD := Lib.hid (fun h h2 => chkF_three (f := f) h h2)
          rw [hfe] at HCD
          obtain ⟨RA, hRA⟩ : ∃ r, chkA f.C = r := ⟨_, rfl⟩
          obtain ⟨RU, hRU⟩ : ∃ r, chkU f.U = r := ⟨_, rfl⟩
          obtain ⟨RD, hRD⟩ : ∃ r, chkD f.S EE = r := ⟨_, rfl⟩
          obtain ⟨RF, hRF⟩ : ∃ r, chkF f = r := ⟨_, rfl⟩
          rw [hRA] at K1 HCA HCU HCD
          rw [hRU] at K2 HCU HCD
          rw [hRD] at K3 HCD
          rw [hRF] at K4 HCA HCU HCD
          have K1 := Lib.hid K1
          have K2 := Lib.hid K2
          have K3 := Lib.hid K3
          have K4 := Lib.hid K4
          have b0 := HFB.out.cell (j := 0) rfl
          have b1 := HFB.out.cell (j := 1) rfl
          have b2 := HFB.out.cell (j := 2) rfl
          have b3 := HFB.out.cell (j := 3) rfl
          clear hf hfm hfi hfe hRA hRU hRD hRF
          by_cases g1 : RA = 0
          · subst g1
            by_cases g2 : RU = 0
            · subst g2
              obtain rfl := HCD.out rfl rfl
              go_wp2_with (first
                | (go_at_call 19; refine (K4.out _ HT3.out).mono ?_; rintro e wd ⟨rfl, hd⟩; have HT4 := Lib.hid (HT3.out.trans (hd.mono HT3.out.size)); clear hd)
                | (go_at_call 18; refine (K3.out _ HT2.out).mono ?_; rintro e wc ⟨rfl, hd⟩; have HT3 := Lib.hid (HT2.out.trans (hd.mono HT2.out.size)); have hf3 := HFB.out.stay HT3.out; have y0 := hf3.cell (j := 0) rfl; have y1 := hf3.cell (j := 1) rfl; have y2 := hf3.cell (j := 2) rfl; have y3 := hf3.cell (j := 3) rfl; clear hd hf3)
                | (go_at_call 17; refine (K2.out _ HT1.out).mono ?_; rintro e wb ⟨rfl, hd⟩; have HT2 := Lib.hid (HT1.out.trans (hd.mono HT1.out.size)); have hf2 := HFB.out.stay HT2.out; have z2 := hf2.cell (j := 2) rfl; have z3 := hf2.cell (j := 3) rfl; clear hd hf2)
                | (go_at_call 16; refine K1.out.mono ?_; rintro e wa ⟨rfl, hd⟩; have HT1 := Lib.hid hd; have hf1 := HFB.out.stay hd; have u1 := hf1.cell (j := 1) rfl; clear hd hf1))
              go_ret
              exact ⟨by simp, HBW.out.trans (HT4.out.mono HBW.out.size)⟩
            · obtain rfl := HCU.out rfl g2
              have g2' : ¬ RF = 0 := g2
              go_wp2_with (first
                | (go_at_call 19; refine (K4.out _ HT2.out).mono ?_; rintro e wd ⟨rfl, hd⟩; have HT4 := Lib.hid (HT2.out.trans (hd.mono HT2.out.size)); clear hd)
                | (go_at_call 17; refine (K2.out _ HT1.out).mono ?_; rintro e wb ⟨rfl, hd⟩; have HT2 := Lib.hid (HT1.out.trans (hd.mono HT1.out.size)); have hf2 := HFB.out.stay HT2.out; have y0 := hf2.cell (j := 0) rfl; have y1 := hf2.cell (j := 1) rfl; have y2 := hf2.cell (j := 2) rfl; have y3 := hf2.cell (j := 3) rfl; clear hd hf2)
                | (go_at_call 16; refine K1.out.mono ?_; rintro e wa ⟨rfl, hd⟩; have HT1 := Lib.hid hd; have hf1 := HFB.out.stay hd; have u1 := hf1.cell (j := 1) rfl; clear hd hf1))
              go_ret
              exact ⟨by simp, HBW.out.trans (HT4.out.mono HBW.out.size)⟩
          · obtain rfl := HCA.out g1
            have g1' : ¬ RF = 0 := g1
            go_wp2_with (first
              | (go_at_call 19; refine (K4.out _ HT1.out).mono ?_; rintro e wd ⟨rfl, hd⟩; have HT4 := Lib.hid (HT1.out.trans (hd.mono HT1.out.size)); clear hd)
              | (go_at_call 16; refine K1.out.mono ?_; rintro e wa ⟨rfl, hd⟩; have HT1 := Lib.hid hd; have hf1 := HFB.out.stay hd; have y0 := hf1.cell (j := 0) rfl; have y1 := hf1.cell (j := 1) rfl; have y2 := hf1.cell (j := 2) rfl; have y3 := hf1.cell (j := 3) rfl; clear hd hf1))
            go_ret
            exact ⟨by simp, HBW.out.trans (HT4.out.mono HBW.out.size)⟩
      · skip
        have bn20 : (n2 : Int).tmod 2 = 0 := by rw [Int.tmod_eq_emod_of_nonneg (by omega)]; omega
        have bn21 : (n2 : Int) % 2 = 0 := by omega
        go_upto_region 10 with fail
        by_cases hc4 : n4 % 2 = 1
        · skip
          have bn40 : (n4 : Int).tmod 2 = 1 := by rw [Int.tmod_eq_emod_of_nonneg (by omega)]; omega
          have bn41 : (n4 : Int) % 2 = 1 := by omega
          have f0 := HFB.out.cell (j := 2) rfl
          have f1 := HFB.out.frozen 2
          have f2 := HFB.out.cell (j := 3) rfl
          have f3 := HFB.out.frozen 3
          have N1 := Lib.hid ((HFB.out.set 2 (.slice none 0 0)).set 3 (.int .i32 en))
          have N2 := Lib.hid ((HV.out.setCell (p := ⟨w6.heap.size, 2, none⟩) (Nat.le_refl _) (.slice none 0 0)).setCell (p := ⟨w6.heap.size, 3, none⟩) (Nat.le_refl _) (.int .i32 en))
          have N3 : Hid (w6.heap.size + 1 ≤ ((V.setCell ⟨w6.heap.size, 2, none⟩ (.slice none 0 0)).setCell ⟨w6.heap.size, 3, none⟩ (.int .i32 en)).heap.size) := Lib.hid (by have := HZ.out; simpa using this)
          go_upto_region 12 with fail
          clear f0 f1 f2 f3 HFB HV HZ
          generalize ((V.setCell ⟨w6.heap.size, 2, none⟩ (.slice none 0 0)).setCell ⟨w6.heap.size, 3, none⟩ (.int .i32 en)) = V3 at *
          go_wp2_with fail
          go_loopw [59] (fun i wr => ∃ (k : Nat) (r : Option Addr) (cap : Nat), i = .int .i64 k ∧ k ≤ L3 ∧ Hid (HBox wr w6.heap.size [.slice r1 (frB x).C.length c1, .slice r2 (frB x).U.length c2, .slice r k cap, .int .i32 en] 38) ∧ Hid (wr.ownsRow (w6.heap.size + 1) 34 1 (.slice r k cap) k ((st.take k).flatMap dcl)) ∧ Hid (Below w6.heap.size w6 wr) ∧ Hid (w6.heap.size + 1 ≤ wr.heap.size)) (fun i _ => L3 - (intOf i).toNat)
          case atStart => exact ⟨0, none, 0, rfl, Nat.zero_le _, N1, Lib.hid (World.ownsRow_nil _ _ _ _), N2, N3⟩
          case round =>
            clear N1 N2 N3
            obtain ⟨k, r, cap, rfl, hk, HFB, HO, HV, HZ⟩ := hrel
            rename World => wr
            by_cases hlt : k < L3
            · obtain ⟨d, hd⟩ : ∃ d, st[k]? = some d := ⟨st[k]'(by have := HL.out.2.2; omega), List.getElem?_eq_getElem (by have := HL.out.2.2; omega)⟩
              obtain ⟨g, off, rfl, hg, hcd⟩ := (HGS.out.stay HV.out).at hd
              have d0 := hcd 0 (.int .i32 d) rfl
              simp only [Nat.mul_one, Nat.add_zero] at d0
              have f0 := HFB.out.cell (j := 2) rfl
              have f1 := HFB.out.frozen 2
              have HD := Lib.hid hd
              clear hcd hd
              go_wp2_with (at_builtin; refine wpList_append_own_at _ rfl (.tmp 65) (.tmp 67) 33 rfl (w6.heap.size + 1) 34 i0 (.int .i32 0) 1 4 Tryz.underlying33 hi hz0 hz1 hz2 rfl (by decide) _ k _ rfl (HO.out.alloc _) ⟨_, 0, none⟩ 1 1 (dcl d) rfl rfl (cells_new _ (dcl d) _) (dcl_one d) (by unfold maxLen; omega) (by omega) (by simp; have := HZ.out; omega) ?_; intro v2 w3 hown3 hgrow3 _ hat3; have hs4 : (wr.alloc (.cells #[.int .i32 d] 34)).heap.size = wr.heap.size + 1 := by simp
                           have hbw := (Below.refl wr.heap.size wr).alloc (Nat.le_refl _) (.cells #[.int .i32 d] 34)
                           have hb3 := (HFB.out.stay hbw).grown hgrow3 (fun h => owns_far HO.out (m := w6.heap.size) (.inl (by omega)) h.symm)
                           have HV3 := Lib.hid ((HV.out.trans (hbw.mono HV.out.size)).grown hgrow3 (by have := HV.out.size; omega) (fun j hj => by have := HO.out.lt j hj; omega))
                           have HZ3 := Lib.hid (Nat.le_trans (Nat.le_trans HZ.out hbw.size) hgrow3.size)
                           have HO3 := Lib.hid hown3
                           obtain ⟨r2', cap2, rfl⟩ := owns_form hown3
                           have p0 := hb3.cell (j := 2) rfl
                           have p1 := hb3.frozen 2
                           have HB3 := Lib.hid hb3
                           clear hgrow3 hown3 hat3 hs4 hbw hb3)
              go_roundw
              case rel =>
                have hg' : w3.grownBy (w3.setCell ⟨w6.heap.size, 2, none⟩ (.slice r2' (k + 1) cap2)) (some w6.heap.size) := grownBy_set w3 ⟨w6.heap.size, 2, none⟩ _
                exact ⟨k + 1, r2', cap2, by go_num, by omega, Lib.hid (HB3.out.set 2 _), Lib.hid (by rw [List.take_add_one, HD.out]; have := HO3.out.kept hg' (.inr (owns_far HO3.out (m := w6.heap.size) (.inl (by omega)))); simpa [dcl] using this), Lib.hid (HV3.out.setCell (p := ⟨w6.heap.size, 2, none⟩) (Nat.le_refl _) _), Lib.hid (Nat.le_trans HZ3.out hg'.size)⟩
              case measure => simp [intOf]; omega
            · obtain rfl : k = L3 := by omega
              have hrs : Recs dcl 1 wr (.slice r k cap) st := by
                have h1 := HO.out
                rw [List.take_of_length_le (by rw [HL.out.2.2]; exact Nat.le_refl _)] at h1
                exact recs_of_owns dcl_len h1 HL.out.2.2.symm (by omega)
              have HRS := Lib.hid hrs
              clear hrs
              go_upto_region 17 with fail
              obtain ⟨f, hf⟩ : ∃ f : Fr, f = ⟨(frB x).C, (frB x).U, st, en⟩ := ⟨_, rfl⟩
              have hfm : FrM f (.slice r1 (frB x).C.length c1) (.slice r2 (frB x).U.length c2) (.slice r k cap) wr := by subst hf; exact ⟨HFM.out.c.stay HV.out, HFM.out.u.stay HV.out, HRS.out⟩
              have hfi : FrIn f := by subst hf; exact ⟨(frB_in x).c, (frB_in x).u, ⟨by have := HL.out.2.2; show st.length ≤ 100; omega, HS32.out⟩, HEN.out⟩
              have hfe : f.E = en := by subst hf; rfl
              have HFM2 := Lib.hid hfm
              have HFI := Lib.hid hfi
              have HBW := Lib.hid (HB6.out.trans (HV.out.mono HB6.out.size))
              have K1 := KC.out f (.slice r1 (frB x).C.length c1) (.slice r2 (frB x).U.length c2) (.slice r k cap) wr hfm
              have K2 := fun (w' : World) (h : Below wr.heap.size wr w') => KU.out f (.slice r1 (frB x).C.length c1) (.slice r2 (frB x).U.length c2) (.slice r k cap) w' (HFM2.out.stay h) hfi
              have K3 := fun (w' : World) (h : Below wr.heap.size wr w') => KD.out f (.slice r1 (frB x).C.length c1) (.slice r2 (frB x).U.length c2) (.slice r k cap) w' (HBW.out.trans (h.mono HBW.out.size)) (HFM2.out.stay h) hfi
              have K4 := fun (w' : World) (h : Below wr.heap.size wr w') => KB.out f (.slice r1 (frB x).C.length c1) (.slice r2 (frB x).U.length c2) (.slice r k cap) w' (HBW.out.trans (h.mono HBW.out.size)) (HFM2.out.stay h) hfi
              rw [hfe] at K3 K4
              have HCA := Lib.hid (fun h => chkF_one (f := f) h)
              have HCU := Lib.hid (fun h h2 => chkF_two (f := f) h h2)
              have HCD := Lib.hid (fun h h2 => chkF_three (f := f) h h2)
              rw [hfe] at HCD
              obtain ⟨RA, hRA⟩ : ∃ r, chkA f.C = r := ⟨_, rfl⟩
              obtain ⟨RU, hRU⟩ : ∃ r, chkU f.U = r := ⟨_, rfl⟩
              obtain ⟨RD, hRD⟩ : ∃ r, chkD f.S en = r := ⟨_, rfl⟩
              obtain ⟨RF, hRF⟩ : ∃ r, chkF f = r := ⟨_, rfl⟩
              rw [hRA] at K1 HCA HCU HCD
              rw [hRU] at K2 HCU HCD
              rw [hRD] at K3 HCD
              rw [hRF] at K4 HCA HCU HCD
              have K1 := Lib.hid K1
              have K2 := Lib.hid K2
              have K3 := Lib.hid K3
              have K4 := Lib.hid K4
              have b0 := HFB.out.cell (j := 0) rfl
              have b1 := HFB.out.cell (j := 1) rfl
              have b2 := HFB.out.cell (j := 2) rfl
              have b3 := HFB.out.cell (j := 3) rfl
              clear hf hfm hfi hfe hRA hRU hRD hRF
              by_cases g1 : RA = 0
              · subst g1
                by_cases g2 : RU = 0
                · subst g2
                  obtain rfl := HCD.out rfl rfl
                  go_wp2_with (first
                    | (go_at_call 19; refine (K4.out _ HT3.out).mono ?_; rintro e wd ⟨rfl, hd⟩; have HT4 := Lib.hid (HT3.out.trans (hd.mono HT3.out.size)); clear hd)
                    | (go_at_call 18; refine (K3.out _ HT2.out).mono ?_; rintro e wc ⟨rfl, hd⟩; have HT3 := Lib.hid (HT2.out.trans (hd.mono HT2.out.size)); have hf3 := HFB.out.stay HT3.out; have y0 := hf3.cell (j := 0) rfl; have y1 := hf3.cell (j := 1) rfl; have y2 := hf3.cell (j := 2) rfl; have y3 := hf3.cell (j := 3) rfl; clear hd hf3)
                    | (go_at_call 17; refine (K2.out _ HT1.out).mono ?_; rintro e wb ⟨rfl, hd⟩; have HT2 := Lib.hid (HT1.out.trans (hd.mono HT1.out.size)); have hf2 := HFB.out.stay HT2.out; have z2 := hf2.cell (j := 2) rfl; have z3 := hf2.cell (j := 3) rfl; clear hd hf2)
                    | (go_at_call 16; refine K1.out.mono ?_; rintro e wa ⟨rfl, hd⟩; have HT1 := Lib.hid hd; have hf1 := HFB.out.stay hd; have u1 := hf1.cell (j := 1) rfl; clear hd hf1))
                  go_ret
                  exact ⟨by simp, HBW.out.trans (HT4.out.mono HBW.out.size)⟩
                · obtain rfl := HCU.out rfl g2
                  have g2' : ¬ RF = 0 := g2
                  go_wp2_with (first
                    | (go_at_call 19; refine (K4.out _ HT2.out).mono ?_; rintro e wd ⟨rfl, hd⟩; have HT4 := Lib.hid (HT2.out.trans (hd.mono HT2.out.size)); clear hd)
                    | (go_at_call 17; refine (K2.out _ HT1.out).mono ?_; rintro e wb ⟨rfl, hd⟩; have HT2 := Lib.hid (HT1.out.trans (hd.mono HT1.out.size)); have hf2 := HFB.out.stay HT2.out; have y0 := hf2.cell (j := 0) rfl; have y1 := hf2.cell (j := 1) rfl; have y2 := hf2.cell (j := 2) rfl; have y3 := hf2.cell (j := 3) rfl; clear hd hf2)
                    | (go_at_call 16; refine K1.out.mono ?_; rintro e wa ⟨rfl, hd⟩; have HT1 := Lib.hid hd; have hf1 := HFB.out.stay hd; have u1 := hf1.cell (j := 1) rfl; clear hd hf1))
                  go_ret
                  exact ⟨by simp, HBW.out.trans (HT4.out.mono HBW.out.size)⟩
              · obtain rfl := HCA.out g1
                have g1' : ¬ RF = 0 := g1
                go_wp2_with (first
                  | (go_at_call 19; refine (K4.out _ HT1.out).mono ?_; rintro e wd ⟨rfl, hd⟩; have HT4 := Lib.hid (HT1.out.trans (hd.mono HT1.out.size)); clear hd)
                  | (go_at_call 16; refine K1.out.mono ?_; rintro e wa ⟨rfl, hd⟩; have HT1 := Lib.hid hd; have hf1 := HFB.out.stay hd; have y0 := hf1.cell (j := 0) rfl; have y1 := hf1.cell (j := 1) rfl; have y2 := hf1.cell (j := 2) rfl; have y3 := hf1.cell (j := 3) rfl; clear hd hf1))
                go_ret
                exact ⟨by simp, HBW.out.trans (HT4.out.mono HBW.out.size)⟩
        · skip
          have bn40 : (n4 : Int).tmod 2 = 0 := by rw [Int.tmod_eq_emod_of_nonneg (by omega)]; omega
          have bn41 : (n4 : Int) % 2 = 0 := by omega
          go_upto_region 17 with fail
          obtain ⟨f, hf⟩ : ∃ f : Fr, f = ⟨(frB x).C, (frB x).U, (frB x).S, EE⟩ := ⟨_, rfl⟩
          have hfm : FrM f (.slice r1 (frB x).C.length c1) (.slice r2 (frB x).U.length c2) (.slice r3 (frB x).S.length c3) V := by subst hf; exact ⟨HFM.out.c.stay HV.out, HFM.out.u.stay HV.out, HFM.out.s.stay HV.out⟩
          have hfi : FrIn f := by subst hf; exact ⟨(frB_in x).c, (frB_in x).u, (frB_in x).s, by rw [← HEE.out]; exact (frB_in x).e⟩
          have hfe : f.E = EE := by subst hf; rfl
          have HFM2 := Lib.hid hfm
          have HFI := Lib.hid hfi
          have HBW := Lib.hid (HB6.out.trans (HV.out.mono HB6.out.size))
          have K1 := KC.out f (.slice r1 (frB x).C.length c1) (.slice r2 (frB x).U.length c2) (.slice r3 (frB x).S.length c3) V hfm
          have K2 := fun (w' : World) (h : Below V.heap.size V w') => KU.out f (.slice r1 (frB x).C.length c1) (.slice r2 (frB x).U.length c2) (.slice r3 (frB x).S.length c3) w' (HFM2.out.stay h) hfi
          have K3 := fun (w' : World) (h : Below V.heap.size V w') => KD.out f (.slice r1 (frB x).C.length c1) (.slice r2 (frB x).U.length c2) (.slice r3 (frB x).S.length c3) w' (HBW.out.trans (h.mono HBW.out.size)) (HFM2.out.stay h) hfi
          have K4 := fun (w' : World) (h : Below V.heap.size V w') => KB.out f (.slice r1 (frB x).C.length c1) (.slice r2 (frB x).U.length c2) (.slice r3 (frB x).S.length c3) w' (HBW.out.trans (h.mono HBW.out.size)) (HFM2.out.stay h) hfi
          rw [hfe] at K3 K4
          have HCA := Lib.hid (fun h => chkF_one (f := f) h)
          have HCU := Lib.hid (fun h h2 => chkF_two (f := f) h h2)
          have HCD := Lib.hid (fun h h2 => chkF_three (f := f) h h2)
          rw [hfe] at HCD
          obtain ⟨RA, hRA⟩ : ∃ r, chkA f.C = r := ⟨_, rfl⟩
          obtain ⟨RU, hRU⟩ : ∃ r, chkU f.U = r := ⟨_, rfl⟩
          obtain ⟨RD, hRD⟩ : ∃ r, chkD f.S EE = r := ⟨_, rfl⟩
          obtain ⟨RF, hRF⟩ : ∃ r, chkF f = r := ⟨_, rfl⟩
          rw [hRA] at K1 HCA HCU HCD
          rw [hRU] at K2 HCU HCD
          rw [hRD] at K3 HCD
          rw [hRF] at K4 HCA HCU HCD
          have K1 := Lib.hid K1
          have K2 := Lib.hid K2
          have K3 := Lib.hid K3
          have K4 := Lib.hid K4
          have b0 := HFB.out.cell (j := 0) rfl
          have b1 := HFB.out.cell (j := 1) rfl
          have b2 := HFB.out.cell (j := 2) rfl
          have b3 := HFB.out.cell (j := 3) rfl
          clear hf hfm hfi hfe hRA hRU hRD hRF
          by_cases g1 : RA = 0
          · subst g1
            by_cases g2 : RU = 0
            · subst g2
              obtain rfl := HCD.out rfl rfl
              go_wp2_with (first
                | (go_at_call 19; refine (K4.out _ HT3.out).mono ?_; rintro e wd ⟨rfl, hd⟩; have HT4 := Lib.hid (HT3.out.trans (hd.mono HT3.out.size)); clear hd)
                | (go_at_call 18; refine (K3.out _ HT2.out).mono ?_; rintro e wc ⟨rfl, hd⟩; have HT3 := Lib.hid (HT2.out.trans (hd.mono HT2.out.size)); have hf3 := HFB.out.stay HT3.out; have y0 := hf3.cell (j := 0) rfl; have y1 := hf3.cell (j := 1) rfl; have y2 := hf3.cell (j := 2) rfl; have y3 := hf3.cell (j := 3) rfl; clear hd hf3)
                | (go_at_call 17; refine (K2.out _ HT1.out).mono ?_; rintro e wb ⟨rfl, hd⟩; have HT2 := Lib.hid (HT1.out.trans (hd.mono HT1.out.size)); have hf2 := HFB.out.stay HT2.out; have z2 := hf2.cell (j := 2) rfl; have z3 := hf2.cell (j := 3) rfl; clear hd hf2)
                | (go_at_call 16; refine K1.out.mono ?_; rintro e wa ⟨rfl, hd⟩; have HT1 := Lib.hid hd; have hf1 := HFB.out.stay hd; have u1 := hf1.cell (j := 1) rfl; clear hd hf1))
              go_ret
              exact ⟨by simp, HBW.out.trans (HT4.out.mono HBW.out.size)⟩
            · obtain rfl := HCU.out rfl g2
              have g2' : ¬ RF = 0 := g2
              go_wp2_with (first
                | (go_at_call 19; refine (K4.out _ HT2.out).mono ?_; rintro e wd ⟨rfl, hd⟩; have HT4 := Lib.hid (HT2.out.trans (hd.mono HT2.out.size)); clear hd)
                | (go_at_call 17; refine (K2.out _ HT1.out).mono ?_; rintro e wb ⟨rfl, hd⟩; have HT2 := Lib.hid (HT1.out.trans (hd.mono HT1.out.size)); have hf2 := HFB.out.stay HT2.out; have y0 := hf2.cell (j := 0) rfl; have y1 := hf2.cell (j := 1) rfl; have y2 := hf2.cell (j := 2) rfl; have y3 := hf2.cell (j := 3) rfl; clear hd hf2)
                | (go_at_call 16; refine K1.out.mono ?_; rintro e wa ⟨rfl, hd⟩; have HT1 := Lib.hid hd; have hf1 := HFB.out.stay hd; have u1 := hf1.cell (j := 1) rfl; clear hd hf1))
              go_ret
              exact ⟨by simp, HBW.out.trans (HT4.out.mono HBW.out.size)⟩
          · obtain rfl := HCA.out g1
            have g1' : ¬ RF = 0 := g1
            go_wp2_with (first
              | (go_at_call 19; refine (K4.out _ HT1.out).mono ?_; rintro e wd ⟨rfl, hd⟩; have HT4 := Lib.hid (HT1.out.trans (hd.mono HT1.out.size)); clear hd)
              | (go_at_call 16; refine K1.out.mono ?_; rintro e wa ⟨rfl, hd⟩; have HT1 := Lib.hid hd; have hf1 := HFB.out.stay hd; have y0 := hf1.cell (j := 0) rfl; have y1 := hf1.cell (j := 1) rfl; have y2 := hf1.cell (j := 2) rfl; have y3 := hf1.cell (j := 3) rfl; clear hd hf1))
            go_ret
            exact ⟨by simp, HBW.out.trans (HT4.out.mono HBW.out.size)⟩
end Go.Proofs.YtljjodahfomljaaGreatDoor

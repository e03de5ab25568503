/- The walk of law BookLines. -/
import Derived.Test.YtljjodahfomljaaGreatDoorXj
import Derived.Test.YtljjodahfomljaaGreatDoorXi
namespace Go.Proofs.YtljjodahfomljaaGreatDoor
open Go.RowKit
set_option linter.unusedVariables false
set_option linter.unusedSimpArgs false
theorem HBox.set4 {w : World} {b : Nat} {c0 c1 c2 c3 : Value} {T : TypeId} (h : HBox w b [c0, c1, c2, c3] T) (d0 d1 d2 d3 : Value) : HBox ((((w.setCell ⟨b, 0, none⟩ d0).setCell ⟨b, 1, none⟩ d1).setCell ⟨b, 2, none⟩ d2).setCell ⟨b, 3, none⟩ d3) b [d0, d1, d2, d3] T :=
  (((h.set 0 d0).set 1 d1).set 2 d2).set 3 d3
theorem FrM.far {x : Bk} {base g : Nat} {vC vU vS : Value} {w w' : World} (h1 : w.ownsRow base 81 4 vC (frB x).C.length ((frB x).C.flatMap cc)) (h2 : w.ownsRow base 53 1 vU (frB x).U.length ((frB x).U.flatMap uc)) (h3 : w.ownsRow base 34 1 vS (frB x).S.length ((frB x).S.flatMap dcl)) (hg : w.grownBy w' (some g)) (hb : g < base) : FrM (frB x) vC vU vS w' :=
  frM_owns (h1.kept hg (.inr fun e => by have := h1.lt g e; omega)) (h2.kept hg (.inr fun e => by have := h2.lt g e; omega)) (h3.kept hg (.inr fun e => by have := h3.lt g e; omega))
set_option maxHeartbeats 4000000 in
set_option maxRecDepth 100000 in
theorem booklines_any {I : World → Prop} (C : AllotC) (D : DayC I) (K : KeyC I) (U : UnitC) (LC : CalC I) (EC : EntryC I) (B : BookC I) (x : Bk) (vCh vUn vLo vJs : Value) (js : List Jp) (l : Ln) (sm : Sm) (own : Bool) (w : World) (hI : I w) (hM : BkM x vCh vUn vLo vJs js w) :
    Calls Tryz.prog 5 #[bV vCh vUn x.first vLo vJs, lnV l, smV sm, .bool own] w fun e w' => e = .returned (.bool true) ∧ Below w.heap.size w w' := by
  obtain ⟨q1, d1, rfl, _⟩ := hM.ch.form
  obtain ⟨q2, d2, rfl, _⟩ := hM.un.form
  obtain ⟨q3, d3, rfl, _⟩ := hM.lo.form
  obtain ⟨q4, d4, rfl, _⟩ := hM.jr.form
  obtain ⟨vCh, hvCh⟩ : ∃ v, Value.slice q1 x.chart.length d1 = v := ⟨_, rfl⟩
  obtain ⟨vUn, hvUn⟩ : ∃ v, Value.slice q2 x.units.length d2 = v := ⟨_, rfl⟩
  obtain ⟨vLo, hvLo⟩ : ∃ v, Value.slice q3 x.long.length d3 = v := ⟨_, rfl⟩
  obtain ⟨vJs, hvJs⟩ : ∃ v, Value.slice q4 js.length d4 = v := ⟨_, rfl⟩
  rw [hvCh, hvUn, hvLo, hvJs] at hM ⊢
  clear hvCh hvUn hvLo hvJs
  have KA := Lib.hid (fun (w' : World) (h : Below w.heap.size w w') => awake10_any C D K U LC EC B w' (D.stay hI h))
  have KL := Lib.hid (fun (w' : World) (h : Below w.heap.size w w') => light_c x vCh vUn vLo vJs js w' (hM.stay h))
  have KF := Lib.hid (fun (w' : World) (h : Below w.heap.size w w') => frame_c x vCh vUn vLo vJs w' (hM.stay h).ch (hM.stay h).un (hM.stay h).lo)
  have KI := Lib.hid (fun (w' : World) (vC vU vS : Value) (h : FrM (frB x) vC vU vS w') => line_c (frB x) vC vU vS sm w' h (frC_made x.chart).2.2 (frU_ok x.units).2.2.2 (fun z hz => by have := (frU_ok x.units).2.1 z hz; omega) (by have := (frB_lens x).1; omega) (by have := (frB_lens x).2.1; omega))
  have KH := Lib.hid (fun (w' : World) (vC vU vS : Value) (l : Ln) (h : FrM (frB x) vC vU vS w') => has_c (frB x) vC vU vS l w' h)
  have KB := Lib.hid (fun (w' : World) (vC vU vS : Value) (l : Ln) (h : FrM (frB x) vC vU vS w') => B.line vC vU vS (frB x) l w' h (frB_in x) (frB_chk x))
  obtain ⟨ls, hls⟩ : ∃ ls, lnF (frB x).C (frB x).U sm = ls := ⟨_, rfl⟩
  rw [hls] at KI
  obtain ⟨EE, hEE⟩ : ∃ n, (frB x).E = n := ⟨_, rfl⟩
  obtain ⟨LT, hLT⟩ : ∃ b, lightB x = b := ⟨_, rfl⟩
  rw [hLT] at KL
  rw [hEE] at KF KI KH KB
  unfold bV at KL KF ⊢
  unfold frV at KF KI KH KB
  unfold smV at KI ⊢
  simp only [lnV_cells] at KI KH KB ⊢
  have hb := (((Below.refl w.heap.size w).alloc (Nat.le_refl _) (.cells #[vCh, vUn, .int .i16 x.first, vLo, vJs] 28)).alloc (by simp) (.cells #[.int .u32 (l.acc : Int), .int .u16 (l.ent.n : Int), .int .u16 (l.ctr : Int), .int .i64 l.amt] 55)).alloc (by simp; omega) (.cells #[.int .u8 (sm.acc : Int), .int .u8 (sm.ent : Int), .int .u8 (sm.ctr : Int), .int .i64 sm.amt] 57)
  have bx := ((HBox.new w [vCh, vUn, .int .i16 x.first, vLo, vJs] 28).alloc (.cells #[.int .u32 (l.acc : Int), .int .u16 (l.ent.n : Int), .int .u16 (l.ctr : Int), .int .i64 l.amt] 55)).alloc (.cells #[.int .u8 (sm.acc : Int), .int .u8 (sm.ent : Int), .int .u8 (sm.ctr : Int), .int .i64 sm.amt] 57)
  have s1 : (w.alloc (.cells #[vCh, vUn, .int .i16 x.first, vLo, vJs] 28)).heap.size = w.heap.size + 1 := by simp
  change HBox (((w.alloc (.cells #[vCh, vUn, .int .i16 x.first, vLo, vJs] 28)).alloc _).alloc _) _ _ _ at bx
  generalize hw1 : w.alloc (.cells #[vCh, vUn, .int .i16 x.first, vLo, vJs] 28) = w1 at hb bx s1
  have bl := (HBox.new w1 [.int .u32 (l.acc : Int), .int .u16 (l.ent.n : Int), .int .u16 (l.ctr : Int), .int .i64 l.amt] 55).alloc (.cells #[.int .u8 (sm.acc : Int), .int .u8 (sm.ent : Int), .int .u8 (sm.ctr : Int), .int .i64 sm.amt] 57)
  have s2 : (w1.alloc (.cells #[.int .u32 (l.acc : Int), .int .u16 (l.ent.n : Int), .int .u16 (l.ctr : Int), .int .i64 l.amt] 55)).heap.size = w.heap.size + 1 + 1 := by simp; omega
  rw [s1] at bl
  change HBox ((w1.alloc (.cells #[.int .u32 (l.acc : Int), .int .u16 (l.ent.n : Int), .int .u16 (l.ctr : Int), .int .i64 l.amt] 55)).alloc _) _ _ _ at bl
  generalize hw2 : w1.alloc (.cells #[.int .u32 (l.acc : Int), .int .u16 (l.ent.n : Int), .int .u16 (l.ctr : Int), .int .i64 l.amt] 55) = w2 at hb bx bl s2
  have bs := HBox.new w2 [.int .u8 (sm.acc : Int), .int .u8 (sm.ent : Int), .int .u8 (sm.ctr : Int), .int .i64 sm.amt] 57
  have s3 : (w2.alloc (.cells #[.int .u8 (sm.acc : Int), .int .u8 (sm.ent : Int), .int .u8 (sm.ctr : Int), .int .i64 sm.amt] 57)).heap.size = w.heap.size + 1 + 1 + 1 := by simp; omega
  rw [s2] at bs
  change HBox (w2.alloc (.cells #[.int .u8 (sm.acc : Int), .int .u8 (sm.ent : Int), .int .u8 (sm.ctr : Int), .int .i64 sm.amt] 57)) _ _ _ at bs
  clear C D K U LC EC B hI hM hls hEE hLT
  go_enter Tryz.func5, Tryz.ntmps5
  go_upto_region 1 with fail
  generalize w2.alloc (.cells #[.int .u8 (sm.acc : Int), .int .u8 (sm.ent : Int), .int .u8 (sm.ctr : Int), .int .i64 sm.amt] 57) = W at *
  clear hw1 hw2 s1 s2
  have HX := Lib.hid bx
  have HL := Lib.hid bl
  have HS := Lib.hid bs
  have HB := Lib.hid hb
  have HZ := Lib.hid s3
  clear bx bl bs hb s3
  go_upto_region 3 with (go_at_call 9; refine (KA.out _ HB.out).mono ?_; rintro e w4 ⟨rfl, h4⟩; have HX4 := Lib.hid (HX.out.stay h4); have HL4 := Lib.hid (HL.out.stay h4); have HS4 := Lib.hid (HS.out.stay h4); have HB4 := Lib.hid (HB.out.trans (h4.mono HB.out.size)); have HZ4 := Lib.hid (Nat.le_trans (Nat.le_of_eq HZ.out.symm) h4.size); clear h4)
  have x0 := HX4.out.cell (j := 0) rfl
  have x1 := HX4.out.cell (j := 1) rfl
  have x2 := HX4.out.cell (j := 2) rfl
  have x3 := HX4.out.cell (j := 3) rfl
  have x4 := HX4.out.cell (j := 4) rfl
  clear HX HL HS HB HZ
  cases LT with
  | false =>
    go_wp2_with (go_at_call 10; refine (KL.out _ HB4.out).mono ?_; rintro e w5 ⟨rfl, h5⟩; have HB5 := Lib.hid (HB4.out.trans (h5.mono HB4.out.size)); clear h5)
    go_ret
    exact ⟨rfl, HB5.out⟩
  | true =>
    go_upto_region 5 with (go_at_call 10; refine (KL.out _ HB4.out).mono ?_; rintro e w5 ⟨rfl, h5⟩; have HX5 := Lib.hid (HX4.out.stay h5); have HL5 := Lib.hid (HL4.out.stay h5); have HS5 := Lib.hid (HS4.out.stay h5); have HB5 := Lib.hid (HB4.out.trans (h5.mono HB4.out.size)); have HZ5 := Lib.hid (Nat.le_trans HZ4.out h5.size); clear h5)
    clear x0 x1 x2 x3 x4
    have x0 := HX5.out.cell (j := 0) rfl
    have x1 := HX5.out.cell (j := 1) rfl
    have x2 := HX5.out.cell (j := 2) rfl
    have x3 := HX5.out.cell (j := 3) rfl
    have x4 := HX5.out.cell (j := 4) rfl
    clear HX4 HL4 HS4 HB4 HZ4
    go_upto_region 6 with (go_at_call 15; refine (KF.out _ HB5.out).mono ?_; rintro e w6 ⟨vC, vU, vS, rfl, oC, oU, oS, h6⟩; obtain ⟨r1, c1, rfl⟩ := owns_form oC; obtain ⟨r2, c2, rfl⟩ := owns_form oU; obtain ⟨r3, c3, rfl⟩ := owns_form oS; have HOW := Lib.hid (And.intro oC (And.intro oU oS)); have H6 := Lib.hid h6; clear oC oU oS h6)
    have hbw := (Below.refl w6.heap.size w6).alloc (Nat.le_refl _) (.cells #[.slice r1 (frB x).C.length c1, .slice r2 (frB x).U.length c2, .slice r3 (frB x).S.length c3, .int .i32 EE] 38)
    have hfb := HBox.new w6 [.slice r1 (frB x).C.length c1, .slice r2 (frB x).U.length c2, .slice r3 (frB x).S.length c3, .int .i32 EE] 38
    change HBox (w6.alloc (.cells #[.slice r1 (frB x).C.length c1, .slice r2 (frB x).U.length c2, .slice r3 (frB x).S.length c3, .int .i32 EE] 38)) _ _ _ at hfb
    have hst := H6.out.trans (hbw.mono H6.out.size)
    have HL6 := Lib.hid (HL5.out.stay hst)
    have HS6 := Lib.hid (HS5.out.stay hst)
    have HB6 := Lib.hid (HB5.out.trans (hst.mono HB5.out.size))
    have HZ6 := Lib.hid (Nat.le_trans HZ5.out hst.size)
    have HO6 := Lib.hid (And.intro (owns_below HOW.out.1 hbw) (And.intro (owns_below HOW.out.2.1 hbw) (owns_below HOW.out.2.2 hbw)))
    have HFB := Lib.hid hfb
    have HY : Hid (w.heap.size + 1 + 1 + 1 ≤ w6.heap.size) := Lib.hid (Nat.le_trans HZ5.out H6.out.size)
    have HB0 := HZ5.out
    clear hbw hst x0 x1 x2 x3 x4 HX5 HL5 HS5 HB5 HZ5 HOW H6 hfb
    generalize w6.alloc (.cells #[.slice r1 (frB x).C.length c1, .slice r2 (frB x).U.length c2, .slice r3 (frB x).S.length c3, .int .i32 EE] 38) = V at *
    generalize w6.heap.size = Y at *
    generalize w5.heap.size = base at *
    have f0 := HFB.out.cell (j := 0) rfl
    have f1 := HFB.out.cell (j := 1) rfl
    have f2 := HFB.out.cell (j := 2) rfl
    have f3 := HFB.out.cell (j := 3) rfl
    cases own with
    | false =>
      have HFM := Lib.hid (frM_owns HO6.out.1 HO6.out.2.1 HO6.out.2.2)
      obtain ⟨R, hR⟩ : ∃ R, hasF (frB x) l = R := ⟨_, rfl⟩
      have K2 := KH.out V _ _ _ l HFM.out
      have K3 := Lib.hid (fun (w' : World) (h : FrM (frB x) (.slice r1 (frB x).C.length c1) (.slice r2 (frB x).U.length c2) (.slice r3 (frB x).S.length c3) w') => KB.out w' _ _ _ l h)
      rw [hR] at K2 K3
      have K2 := Lib.hid K2
      have l0 := HL6.out.cell (j := 0) rfl
      have l1 := HL6.out.cell (j := 1) rfl
      have l2 := HL6.out.cell (j := 2) rfl
      have l3 := HL6.out.cell (j := 3) rfl
      clear hR
      cases R <;>
        (go_wp2_with (first
          | (go_at_call 22; refine (K3.out _ HM8.out).mono ?_; rintro e w9 ⟨rfl, h9⟩; have HB9 := Lib.hid (HB8.out.trans (h9.mono HB8.out.size)); clear h9)
          | (go_at_call 21; refine K2.out.mono ?_; rintro e w8 ⟨rfl, h8⟩; have HB8 := Lib.hid (HB6.out.trans (h8.mono HB6.out.size)); have HM8 := Lib.hid (HFM.out.stay h8); have hf8 := HFB.out.stay h8; have hl8 := HL6.out.stay h8; have g0 := hf8.cell (j := 0) rfl; have g1 := hf8.cell (j := 1) rfl; have g2 := hf8.cell (j := 2) rfl; have g3 := hf8.cell (j := 3) rfl; have m0 := hl8.cell (j := 0) rfl; have m1 := hl8.cell (j := 1) rfl; have m2 := hl8.cell (j := 2) rfl; have m3 := hl8.cell (j := 3) rfl; clear h8 hf8 hl8))
         go_ret
         exact ⟨by simp, HB9.out⟩)
    | true =>
      have s0 := HS6.out.cell (j := 0) rfl
      have s1 := HS6.out.cell (j := 1) rfl
      have s2 := HS6.out.cell (j := 2) rfl
      have s3 := HS6.out.cell (j := 3) rfl
      have KI2 := Lib.hid (KI.out V _ _ _ (frM_owns HO6.out.1 HO6.out.2.1 HO6.out.2.2))
      go_upto_region 8 with (go_at_call 20; refine KI2.out.mono ?_; rintro e w7 ⟨rfl, h7⟩; have hl7 := HL6.out.stay h7; have z0 := hl7.cell (j := 0) rfl; have z1 := hl7.cell (j := 1) rfl; have z2 := hl7.cell (j := 2) rfl; have z3 := hl7.cell (j := 3) rfl; have e0 := hl7.frozen 0; have e1 := hl7.frozen 1; have e2 := hl7.frozen 2; have e3 := hl7.frozen 3; have H7 := Lib.hid h7; clear h7 hl7)
      have GR := grown_sets w7 (w.heap.size + 1) (.int .u32 (ls.acc : Int)) (.int .u16 (ls.ent.n : Int)) (.int .u16 (ls.ctr : Int)) (.int .i64 ls.amt)
      have HL7 := Lib.hid ((HL6.out.stay H7.out).set4 (.int .u32 (ls.acc : Int)) (.int .u16 (ls.ent.n : Int)) (.int .u16 (ls.ctr : Int)) (.int .i64 ls.amt))
      have HFB7 := Lib.hid ((HFB.out.stay H7.out).grown GR (by intro h; have := Option.some.inj h; have := HY.out; omega))
      have HFM := Lib.hid (FrM.far (owns_below HO6.out.1 H7.out) (owns_below HO6.out.2.1 H7.out) (owns_below HO6.out.2.2 H7.out) GR (by omega))
      have HB7 := Lib.hid ((HB6.out.trans (H7.out.mono HB6.out.size)).grown GR (Nat.le_trans HB6.out.size H7.out.size) (fun j hj => by cases hj; omega))
      clear GR s0 s1 s2 s3 z0 z1 z2 z3 e0 e1 e2 e3 f0 f1 f2 f3 H7 KI2 HO6 HFB HL6 HS6 HB6
      generalize ((((w7.setCell ⟨w.heap.size + 1, 0, none⟩ (.int .u32 (ls.acc : Int))).setCell ⟨w.heap.size + 1, 1, none⟩ (.int .u16 (ls.ent.n : Int))).setCell ⟨w.heap.size + 1, 2, none⟩ (.int .u16 (ls.ctr : Int))).setCell ⟨w.heap.size + 1, 3, none⟩ (.int .i64 ls.amt)) = V7 at *
      have f0 := HFB7.out.cell (j := 0) rfl
      have f1 := HFB7.out.cell (j := 1) rfl
      have f2 := HFB7.out.cell (j := 2) rfl
      have f3 := HFB7.out.cell (j := 3) rfl
      obtain ⟨R, hR⟩ : ∃ R, hasF (frB x) ls = R := ⟨_, rfl⟩
      have K2 := KH.out V7 _ _ _ ls HFM.out
      have K3 := Lib.hid (fun (w' : World) (h : FrM (frB x) (.slice r1 (frB x).C.length c1) (.slice r2 (frB x).U.length c2) (.slice r3 (frB x).S.length c3) w') => KB.out w' _ _ _ ls h)
      rw [hR] at K2 K3
      have K2 := Lib.hid K2
      have l0 := HL7.out.cell (j := 0) rfl
      have l1 := HL7.out.cell (j := 1) rfl
      have l2 := HL7.out.cell (j := 2) rfl
      have l3 := HL7.out.cell (j := 3) rfl
      clear hR
      cases R <;>
        (go_wp2_with (first
          | (go_at_call 22; refine (K3.out _ HM8.out).mono ?_; rintro e w9 ⟨rfl, h9⟩; have HB9 := Lib.hid (HB8.out.trans (h9.mono HB8.out.size)); clear h9)
          | (go_at_call 21; refine K2.out.mono ?_; rintro e w8 ⟨rfl, h8⟩; have HB8 := Lib.hid (HB7.out.trans (h8.mono HB7.out.size)); have HM8 := Lib.hid (HFM.out.stay h8); have hf8 := HFB7.out.stay h8; have hl8 := HL7.out.stay h8; have g0 := hf8.cell (j := 0) rfl; have g1 := hf8.cell (j := 1) rfl; have g2 := hf8.cell (j := 2) rfl; have g3 := hf8.cell (j := 3) rfl; have m0 := hl8.cell (j := 0) rfl; have m1 := hl8.cell (j := 1) rfl; have m2 := hl8.cell (j := 2) rfl; have m3 := hl8.cell (j := 3) rfl; clear h8 hf8 hl8))
         go_ret
         exact ⟨by simp, HB9.out⟩)
end Go.Proofs.YtljjodahfomljaaGreatDoor

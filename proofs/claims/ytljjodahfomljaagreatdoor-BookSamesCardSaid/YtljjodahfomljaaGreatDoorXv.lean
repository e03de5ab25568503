/- Law 10's same: are two books the same, part by part. -/
import Derived.Test.YtljjodahfomljaaGreatDoorUall
import Derived.Test.YtljjodahfomljaaGreatDoorXg
import Derived.BigQuiet
import Derived.Deep.QuietTactic
import Derived.StillTailTactics
namespace Go.Proofs.YtljjodahfomljaaGreatDoor
open Go.RowKit
set_option linter.unusedVariables false
set_option linter.unusedSimpArgs false
theorem same_step {vs us : List Jm} {j : Nat} {x y : Jm} (hx : vs[j]? = some x) (hy : us[j]? = some y) : decide ((vs.take (j + 1)).map jOf = (us.take (j + 1)).map jOf) = (decide ((vs.take j).map jOf = (us.take j).map jOf) && (decide (x.1 = y.1) && decide (x.2.2 = y.2.2))) := by
  obtain ⟨h1, e1⟩ := List.getElem?_eq_some_iff.1 hx
  obtain ⟨h2, e2⟩ := List.getElem?_eq_some_iff.1 hy
  rw [List.take_succ_eq_append_getElem h1, List.take_succ_eq_append_getElem h2, e1, e2, List.map_append, List.map_append]
  rw [Bool.eq_iff_iff]
  simp only [Bool.and_eq_true, decide_eq_true_eq, List.map_cons, List.map_nil]
  constructor
  · intro h
    obtain ⟨h3, h4⟩ := List.append_inj h (by simp only [List.length_map, List.length_take]; omega)
    have h5 : jOf x = jOf y := by simpa using h4
    exact ⟨h3, Prod.mk.inj h5⟩
  · rintro ⟨h3, h4, h5⟩
    have h6 : jOf x = jOf y := by unfold jOf; rw [h4, h5]
    rw [h3, h6]
theorem same_last {vs us : List Jm} {n : Nat} (hn : n = min vs.length us.length) : (decide (vs.length = us.length) && decide ((vs.take n).map jOf = (us.take n).map jOf)) = decide (vs.map jOf = us.map jOf) := by
  rw [Bool.eq_iff_iff]
  simp only [Bool.and_eq_true, decide_eq_true_eq]
  constructor
  · rintro ⟨h1, h2⟩
    rwa [List.take_of_length_le (by omega), List.take_of_length_le (by omega)] at h2
  · intro h
    have h1 := congrArg List.length h
    simp only [List.length_map] at h1
    refine ⟨h1, ?_⟩
    rw [List.take_of_length_le (by omega), List.take_of_length_le (by omega)]
    exact h
set_option maxHeartbeats 4000000 in
set_option maxRecDepth 100000 in
theorem same10_c (vC1 vU1 vS1 vJ1 vC2 vU2 vS2 vJ2 : Value) (f g : Fr) (vs us : List Jm) (w : World) (hF : FrM f vC1 vU1 vS1 w) (hG : FrM g vC2 vU2 vS2 w) (h1 : JRow w vJ1 vs) (h2 : JRow w vJ2 us) (hv : vs.length ≤ 100) (hu : us.length ≤ 100) :
    Calls Tryz.prog 24 #[bkV vC1 vU1 vS1 f.E vJ1, bkV vC2 vU2 vS2 g.E vJ2] w fun e w' => e = .returned (.tuple #[.bool (eqF f g), .bool (eqF f g && decide (vs.map jOf = us.map jOf))]) ∧ Below w.heap.size w w' := by
  have hmix : Tryz.prog.follows .mixedOrders = true := by kernel_rfl
  obtain ⟨rC1, cC1, rfl, _⟩ := hF.c.form
  obtain ⟨rU1, cU1, rfl, _⟩ := hF.u.form
  obtain ⟨rS1, cS1, rfl, _⟩ := hF.s.form
  obtain ⟨rC2, cC2, rfl, _⟩ := hG.c.form
  obtain ⟨rU2, cU2, rfl, _⟩ := hG.u.form
  obtain ⟨rS2, cS2, rfl, _⟩ := hG.s.form
  obtain ⟨rJ1, cJ1, rfl, _⟩ := h1.1.form
  obtain ⟨rJ2, cJ2, rfl, _⟩ := h2.1.form
  have KA := Lib.hid (fun (w' : World) (h : Below w.heap.size w w') => equal_a _ _ f.C g.C w' (hF.c.stay h) (hG.c.stay h))
  have KU := Lib.hid (fun (w' : World) (h : Below w.heap.size w w') => equal_us _ _ f.U g.U w' (hF.u.stay h) (hG.u.stay h))
  have KD := Lib.hid (fun (w' : World) (h : Below w.heap.size w w') => equal_d _ _ f.S g.S w' (hF.s.stay h) (hG.s.stay h))
  have hT : eqF f g = (decide (f.C = g.C) && decide (f.U = g.U) && (f.E == g.E) && decide (f.S = g.S)) := by
    unfold eqF
    rw [Bool.eq_iff_iff]
    simp only [Bool.and_eq_true, decide_eq_true_eq, beq_iff_eq]
    constructor
    · rintro ⟨a, b, c, d⟩; exact ⟨⟨⟨a, b⟩, d⟩, c⟩
    · rintro ⟨⟨⟨a, b⟩, d⟩, c⟩; exact ⟨a, b, c, d⟩
  have H1 := Lib.hid h1
  have H2 := Lib.hid h2
  rw [← same_last (n := min vs.length us.length) rfl]
  unfold bkV
  obtain ⟨m1, hm1⟩ : ∃ n, vs.length = n := ⟨_, rfl⟩
  obtain ⟨m2, hm2⟩ : ∃ n, us.length = n := ⟨_, rfl⟩
  have HM := Lib.hid (And.intro hm1 hm2)
  rw [hm1] at H1 hv ⊢
  rw [hm2] at H2 hu ⊢
  obtain ⟨lb, hlb⟩ : ∃ b, decide (m1 = m2) = b := ⟨_, rfl⟩
  rw [hlb]
  have hlb2 : ((m1 : Int) == (m2 : Int)) = lb := by
    rw [← hlb]
    by_cases h : m1 = m2
    · subst h; simp
    · rw [decide_eq_false h, beq_eq_false_iff_ne]; omega
  have HLB := Lib.hid hlb2
  obtain ⟨mn, hmn⟩ : ∃ mn, min m1 m2 = mn := ⟨_, rfl⟩
  rw [hmn]
  have HMN := Lib.hid hmn
  clear hmn
  clear hlb hlb2
  obtain ⟨FB, hFB⟩ : ∃ b, eqF f g = b := ⟨_, rfl⟩
  rw [hFB] at hT ⊢
  have HT := Lib.hid hT
  clear hT hF hG h1 h2 hm1 hm2 hFB
  generalize decide (f.C = g.C) = b1 at *
  generalize decide (f.U = g.U) = b2 at *
  generalize hE12 : (f.E == g.E) = b3 at *
  generalize decide (f.S = g.S) = b4 at *
  generalize f.C.length = LC1 at *
  generalize f.U.length = LU1 at *
  generalize f.S.length = LS1 at *
  generalize f.E = E1 at *
  generalize g.C.length = LC2 at *
  generalize g.U.length = LU2 at *
  generalize g.S.length = LS2 at *
  generalize g.E = E2 at *
  clear f g
  have hs : (w.alloc (.cells #[.slice rC1 LC1 cC1, .slice rU1 LU1 cU1, .slice rS1 LS1 cS1, .int .i32 E1, .slice rJ1 m1 cJ1] 41)).heap.size = w.heap.size + 1 := by simp
  have hb : Below w.heap.size w ((w.alloc (.cells #[.slice rC1 LC1 cC1, .slice rU1 LU1 cU1, .slice rS1 LS1 cS1, .int .i32 E1, .slice rJ1 m1 cJ1] 41)).alloc (.cells #[.slice rC2 LC2 cC2, .slice rU2 LU2 cU2, .slice rS2 LS2 cS2, .int .i32 E2, .slice rJ2 m2 cJ2] 41)) := ((Below.refl _ _).alloc (Nat.le_refl _) _).alloc (by simp) _
  have hx := (HBox.new w [.slice rC1 LC1 cC1, .slice rU1 LU1 cU1, .slice rS1 LS1 cS1, .int .i32 E1, .slice rJ1 m1 cJ1] 41).alloc (.cells #[.slice rC2 LC2 cC2, .slice rU2 LU2 cU2, .slice rS2 LS2 cS2, .int .i32 E2, .slice rJ2 m2 cJ2] 41)
  have hy := HBox.new (w.alloc (.cells #[.slice rC1 LC1 cC1, .slice rU1 LU1 cU1, .slice rS1 LS1 cS1, .int .i32 E1, .slice rJ1 m1 cJ1] 41)) [.slice rC2 LC2 cC2, .slice rU2 LU2 cU2, .slice rS2 LS2 cS2, .int .i32 E2, .slice rJ2 m2 cJ2] 41
  rw [hs] at hy
  change HBox ((w.alloc (.cells #[.slice rC1 LC1 cC1, .slice rU1 LU1 cU1, .slice rS1 LS1 cS1, .int .i32 E1, .slice rJ1 m1 cJ1] 41)).alloc (.cells #[.slice rC2 LC2 cC2, .slice rU2 LU2 cU2, .slice rS2 LS2 cS2, .int .i32 E2, .slice rJ2 m2 cJ2] 41)) _ _ _ at hx
  change HBox ((w.alloc (.cells #[.slice rC1 LC1 cC1, .slice rU1 LU1 cU1, .slice rS1 LS1 cS1, .int .i32 E1, .slice rJ1 m1 cJ1] 41)).alloc (.cells #[.slice rC2 LC2 cC2, .slice rU2 LU2 cU2, .slice rS2 LS2 cS2, .int .i32 E2, .slice rJ2 m2 cJ2] 41)) _ _ _ at hy
  go_enter Tryz.func24, Tryz.ntmps24
  go_upto_region 1 with fail
  generalize (w.alloc (.cells #[.slice rC1 LC1 cC1, .slice rU1 LU1 cU1, .slice rS1 LS1 cS1, .int .i32 E1, .slice rJ1 m1 cJ1] 41)).alloc (.cells #[.slice rC2 LC2 cC2, .slice rU2 LU2 cU2, .slice rS2 LS2 cS2, .int .i32 E2, .slice rJ2 m2 cJ2] 41) = W at *
  generalize w.heap.size + 1 = Y at *
  generalize hX : w.heap.size = X at hx ⊢
  have HX := Lib.hid hx
  have HY := Lib.hid hy
  have HB := Lib.hid hb
  clear hs hb hX
  have x0 := hx.cell (j := 0) rfl
  have y0 := hy.cell (j := 0) rfl
  clear hx hy
  go_cut [4] (fun s4 wx => s4 = .bool FB ∧ Hid (HBox wx X [.slice rC1 LC1 cC1, .slice rU1 LU1 cU1, .slice rS1 LS1 cS1, .int .i32 E1, .slice rJ1 m1 cJ1] 41) ∧ Hid (HBox wx Y [.slice rC2 LC2 cC2, .slice rU2 LU2 cU2, .slice rS2 LS2 cS2, .int .i32 E2, .slice rJ2 m2 cJ2] 41) ∧ Hid (Below w.heap.size w wx))
  case first =>
    cases b1 <;> cases b2 <;> cases b3 <;> cases b4
    all_goals
      have hFB := HT.out
      clear HT
      subst hFB
      go_wp2_with (first
        | (go_at_call 56; refine (KD.out _ HB2.out).mono ?_; rintro e w3 ⟨rfl, g3⟩; have HB3 := Lib.hid (HB2.out.trans (g3.mono HB2.out.size)); have HX3 := Lib.hid (HX2.out.stay g3); have HY3 := Lib.hid (HY2.out.stay g3); clear g3)
        | (go_at_call 55; refine (KU.out _ HB1.out).mono ?_; rintro e w2 ⟨rfl, g2⟩; have HB2 := Lib.hid (HB1.out.trans (g2.mono HB1.out.size)); have HX2 := Lib.hid (HX1.out.stay g2); have HY2 := Lib.hid (HY1.out.stay g2); have u2 := HX2.out.cell (j := 2) rfl; have u3 := HX2.out.cell (j := 3) rfl; have v2 := HY2.out.cell (j := 2) rfl; have v3 := HY2.out.cell (j := 3) rfl; clear g2)
        | (go_at_call 54; refine (KA.out _ HB.out).mono ?_; rintro e w1 ⟨rfl, g1⟩; have HB1 := Lib.hid (HB.out.trans (g1.mono HB.out.size)); have HX1 := Lib.hid (HX.out.stay g1); have HY1 := Lib.hid (HY.out.stay g1); have t1 := HX1.out.cell (j := 1) rfl; have s1 := HY1.out.cell (j := 1) rfl; clear g1))
      go_meet
      first
        | exact ⟨rfl, HX3, HY3, HB3⟩
        | exact ⟨rfl, HX2, HY2, HB2⟩
        | exact ⟨rfl, HX1, HY1, HB1⟩
  case rest =>
    clear HX HY HB x0 y0 HT KA KU KD hE12
    obtain ⟨rfl, HX, HY, HB⟩ := hcut
    have x4 := HX.out.cell (j := 4) rfl
    have y4 := HY.out.cell (j := 4) rfl
    have hlb := HLB.out
    generalize wc = V at *
    go_upto_region 2 with fail
    go_cut [5] (fun s5 wx => s5 = .bool (FB && lb) ∧ wx = V)
    case first =>
      cases FB <;> cases lb
      all_goals
        go_wp2_with fail
        go_meet
        exact ⟨rfl, rfl⟩
    case rest =>
      obtain ⟨rfl, rfl⟩ := hcut
      clear hlb
      have hmn := HMN.out
      have hmi : min (m1 : Int) (m2 : Int) = (mn : Int) := by omega
      have hmn1 : mn ≤ m1 ∧ mn ≤ m2 := by omega
      clear hmn
      go_wp2_with fail
      clear x4 y4
      generalize wc = V at *
      go_loopw [5, 62] (fun s5 i wr => ∃ k : Nat, s5 = .bool (FB && (lb && decide ((vs.take k).map jOf = (us.take k).map jOf))) ∧ i = .int .i64 k ∧ k ≤ mn ∧ Hid (HBox wr X [.slice rC1 LC1 cC1, .slice rU1 LU1 cU1, .slice rS1 LS1 cS1, .int .i32 E1, .slice rJ1 m1 cJ1] 41) ∧ Hid (HBox wr Y [.slice rC2 LC2 cC2, .slice rU2 LU2 cU2, .slice rS2 LS2 cS2, .int .i32 E2, .slice rJ2 m2 cJ2] 41) ∧ Hid (Below w.heap.size w wr)) (fun _ i _ => mn - (intOf i).toNat)
      case atStart => exact ⟨0, by simp, rfl, Nat.zero_le _, HX, HY, HB⟩
      case round =>
        clear HX HY HB
        obtain ⟨k, rfl, rfl, hk, HX, HY, HB⟩ := hrel
        rename World => wr
        by_cases hlt : k < mn
        · obtain ⟨x, hx⟩ : ∃ x, vs[k]? = some x := ⟨vs[k]'(by have := HM.out.1; omega), List.getElem?_eq_getElem (by have := HM.out.1; omega)⟩
          obtain ⟨y, hy⟩ : ∃ y, us[k]? = some y := ⟨us[k]'(by have := HM.out.2; omega), List.getElem?_eq_getElem (by have := HM.out.2; omega)⟩
          have hstep := same_step hx hy
          have hk1 : (k : Int) < (m1 : Int) := by omega
          have hk2 : (k : Int) < (m2 : Int) := by omega
          have hk0 : (0 : Int) ≤ (k : Int) := by omega
          obtain ⟨g1, o1, p1, er1, hg1, _, a0, a1, R1⟩ := (H1.out.stay HB.out).at hx
          obtain ⟨g2, o2, p2, er2, hg2, _, c0, c1, R2⟩ := (H2.out.stay HB.out).at hy
          have er1' : rJ1 = some ⟨g1, o1, none⟩ := by injection er1
          have er2' : rJ2 = some ⟨g2, o2, none⟩ := by injection er2
          subst er1' er2'
          clear er1 er2
          obtain ⟨q1, k1, hv1, hn1⟩ := R1.form
          obtain ⟨q2, k2, hv2, hn2⟩ := R2.form
          rw [hv1] at a1
          rw [hv2] at c1
          have KS := fun (w' : World) (h : Below wr.heap.size wr w') => equal_l _ _ x.2.2 y.2.2 w' (R1.stay h) (R2.stay h)
          rw [hv1, hv2] at KS
          obtain ⟨n1, hN1⟩ : ∃ n, x.2.2.length = n := ⟨_, rfl⟩
          obtain ⟨n2, hN2⟩ : ∃ n, y.2.2.length = n := ⟨_, rfl⟩
          obtain ⟨d1, hd1⟩ : ∃ d, x.1 = d := ⟨_, rfl⟩
          obtain ⟨d2, hd2⟩ : ∃ d, y.1 = d := ⟨_, rfl⟩
          rw [hN1] at a1 KS
          rw [hN2] at c1 KS
          rw [hd1] at a0
          rw [hd2] at c0
          rw [hd1, hd2] at hstep
          generalize decide (x.2.2 = y.2.2) = LB at *
          obtain ⟨TB1, hTB1⟩ : ∃ b, decide ((vs.take k).map jOf = (us.take k).map jOf) = b := ⟨_, rfl⟩
          rw [hTB1] at hstep ⊢
          have HST := Lib.hid hstep
          have KS2 := Lib.hid KS
          clear hstep hTB1 KS R1 R2 hv1 hv2 hn1 hn2 hN1 hN2 hd1 hd2 hx hy
          have x4 := HX.out.cell (j := 4) rfl
          have y4 := HY.out.cell (j := 4) rfl
          obtain ⟨AB, hAB⟩ : ∃ b, (FB && (lb && TB1)) = b := ⟨_, rfl⟩
          have HN : Hid ((FB && (lb && decide ((vs.take (k + 1)).map jOf = (us.take (k + 1)).map jOf))) = (AB && (decide (d1 = d2) && LB))) := Lib.hid (by rw [HST.out, ← hAB]; cases FB <;> cases lb <;> cases TB1 <;> rfl)
          rw [hAB]
          clear hAB HST
          cases AB with
          | false =>
            go_wp2_with fail
            go_quiet (fail)
            go_wp2_with fail
            go_roundw
            case rel => exact ⟨k + 1, by rw [HN.out]; rfl, by go_num, by omega, Lib.hid (HX.out.stay (below_drewQ _ _ _)), Lib.hid (HY.out.stay (below_drewQ _ _ _)), Lib.hid (HB.out.trans (below_drewQ _ _ _))⟩
            case measure => simp [intOf]; omega
          | true =>
            by_cases hdd : d1 = d2
            · have hde : (d1 == d2) = true := by simp [hdd]
              have HN2 : Hid ((FB && (lb && decide ((vs.take (k + 1)).map jOf = (us.take (k + 1)).map jOf))) = LB) := Lib.hid (by rw [HN.out, decide_eq_true hdd]; simp)
              have KS3 := Lib.hid (KS2.out wr.drew (Below.refl _ _).drew)
              clear KS2 hdd HN
              cases LB
              all_goals
                go_upto_region 6 with fail
                go_still_tail 29, hmix
                go_wp2_with (go_at_call 57; refine KS3.out.mono ?_; rintro e w9 ⟨rfl, h9⟩; have HB9 := Lib.hid (HB.out.drew.trans (h9.mono HB.out.drew.size)); have HX9 := Lib.hid (HBox.stay (w := wr.drew) HX.out h9); have HY9 := Lib.hid (HBox.stay (w := wr.drew) HY.out h9); clear h9)
                go_roundw
                case rel => exact ⟨k + 1, by rw [HN2.out], by go_num, by omega, HX9, HY9, HB9⟩
                case measure => simp [intOf]; omega
            · have hde : (d1 == d2) = false := by simp [hdd]
              have HN2 : Hid ((FB && (lb && decide ((vs.take (k + 1)).map jOf = (us.take (k + 1)).map jOf))) = false) := Lib.hid (by rw [HN.out, decide_eq_false hdd]; simp)
              clear hdd HN
              go_wp2_with fail
              go_quiet (fail)
              go_wp2_with fail
              go_roundw
              case rel => exact ⟨k + 1, by rw [HN2.out], by go_num, by omega, Lib.hid (HX.out.stay (below_drewQ _ _ _)), Lib.hid (HY.out.stay (below_drewQ _ _ _)), Lib.hid (HB.out.trans (below_drewQ _ _ _))⟩
              case measure => simp [intOf]; omega
        · obtain rfl : k = mn := by omega
          go_wp2_with fail
          go_ret2
          exact ⟨rfl, HB.out⟩
end Go.Proofs.YtljjodahfomljaaGreatDoor

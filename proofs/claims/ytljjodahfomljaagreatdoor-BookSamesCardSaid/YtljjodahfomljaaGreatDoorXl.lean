/- The walk of law BookDays. -/
import Derived.Test.YtljjodahfomljaaGreatDoorXj
namespace Go.Proofs.YtljjodahfomljaaGreatDoor
open Go.RowKit
set_option linter.unusedVariables false
set_option linter.unusedSimpArgs false
/-- The first and the last day of a made book's journals. -/
theorem made_days {x : Bk} {vs : List Jm} (h8 : ∀ j ∈ x.journals, j.lines.length ≤ 8) (h : vs.map jOf = makeJ x) (hne : vs ≠ []) :
    ∃ p0 pl : Jm, vs[0]? = some p0 ∧ vs[vs.length - 1]? = some pl ∧ (vs.head?.map (·.1)).getD 0 = p0.1 ∧ (vs.getLast?.map (·.1)).getD 0 = pl.1 ∧ ∀ (k : Nat) (p : Jm), vs[k]? = some p → p0.1 ≤ p.1 ∧ p.1 ≤ pl.1 := by
  obtain ⟨_, _, c, _⟩ := stJ_ok x h8 x.journals.length (Nat.le_refl _)
  have hs : (makeJ x).Pairwise (fun a b => a.1 ≤ b.1) := c
  rw [← h, List.pairwise_map] at hs
  have hl : 0 < vs.length := List.length_pos_iff.2 hne
  refine ⟨vs[0], vs[vs.length - 1], List.getElem?_eq_getElem hl, List.getElem?_eq_getElem (by omega), ?_, ?_, fun k p hk => ?_⟩
  · rw [List.head?_eq_getElem?, List.getElem?_eq_getElem hl]; rfl
  · rw [List.getLast?_eq_getElem?, List.getElem?_eq_getElem (by omega)]; rfl
  · obtain ⟨hk1, rfl⟩ := List.getElem?_eq_some_iff.1 hk
    have hp := List.pairwise_iff_getElem.1 hs
    constructor
    · rcases Nat.eq_zero_or_pos k with e | e
      · subst e; exact Int.le_refl _
      · exact hp 0 k hl hk1 e
    · rcases Nat.lt_or_ge k (vs.length - 1) with e | e
      · exact hp k (vs.length - 1) hk1 (by omega) e
      · have : k = vs.length - 1 := by omega
        subst this
        exact Int.le_refl _
set_option maxHeartbeats 4000000 in
set_option maxRecDepth 100000 in
theorem bookdays_any {I : World → Prop} (C : AllotC) (D : DayC I) (K : KeyC I) (U : UnitC) (LC : CalC I) (EC : EntryC I) (B : BookC I) (x : Bk) (vCh vUn vLo vJs : Value) (js : List Jp) (w : World) (hI : I w) (hM : BkM x vCh vUn vLo vJs js w) :
    Calls Tryz.prog 6 #[bV vCh vUn x.first vLo vJs] w fun e w' => e = .returned (.bool true) ∧ Below w.heap.size w w' := by
  obtain ⟨q1, d1, rfl, _⟩ := hM.ch.form
  obtain ⟨q2, d2, rfl, _⟩ := hM.un.form
  obtain ⟨q3, d3, rfl, _⟩ := hM.lo.form
  obtain ⟨q4, d4, rfl, _⟩ := hM.jr.form
  obtain ⟨vCh, hvCh⟩ : ∃ v, Value.slice q1 x.chart.length d1 = v := ⟨_, rfl⟩
  obtain ⟨vUn, hvUn⟩ : ∃ v, Value.slice q2 x.units.length d2 = v := ⟨_, rfl⟩
  obtain ⟨vLo, hvLo⟩ : ∃ v, Value.slice q3 x.long.length d3 = v := ⟨_, rfl⟩
  obtain ⟨vJs, hvJs⟩ : ∃ v, Value.slice q4 js.length d4 = v := ⟨_, rfl⟩
  rw [hvCh, hvUn, hvLo, hvJs] at hM ⊢
  clear hvCh hvUn hvLo hvJs
  have KA := Lib.hid (fun (w' : World) (h : Below w.heap.size w w') => awake10_any C D K U LC EC B w' (D.stay hI h))
  have KL := Lib.hid (fun (w' : World) (h : Below w.heap.size w w') => light_c x vCh vUn vLo vJs js w' (hM.stay h))
  have KM := Lib.hid (fun (hT : lightB x = true) (w' : World) (h : Below w.heap.size w w') => makeB_c x vCh vUn vLo vJs js w' (hM.stay h) (light_of hT).1 (by have := (light_of hT).2.2.2.2; omega))
  have KD := Lib.hid (fun (w' : World) (vC vU vS vJ : Value) (vs : List Jm) (hl : vs.length ≤ 100) (hJ : JRow w' vJ vs) => B.days vC vU vS vJ (frB x) vs w' hJ hl)
  obtain ⟨EE, hEE⟩ : ∃ n, (frB x).E = n := ⟨_, rfl⟩
  obtain ⟨LT, hLT⟩ : ∃ b, lightB x = b := ⟨_, rfl⟩
  have HLT := Lib.hid hLT
  rw [hLT] at KL
  rw [hEE] at KM KD
  unfold bV at KL KM ⊢
  unfold bkV at KM KD
  have hb := (Below.refl w.heap.size w).alloc (Nat.le_refl _) (.cells #[vCh, vUn, .int .i16 x.first, vLo, vJs] 28)
  have bx := HBox.new w [vCh, vUn, .int .i16 x.first, vLo, vJs] 28
  change HBox (w.alloc (.cells #[vCh, vUn, .int .i16 x.first, vLo, vJs] 28)) _ _ _ at bx
  clear C D K U LC EC B hI hM hEE hLT
  go_enter Tryz.func6, Tryz.ntmps6
  go_upto_region 1 with fail
  generalize w.alloc (.cells #[vCh, vUn, .int .i16 x.first, vLo, vJs] 28) = W at *
  have HX := Lib.hid bx
  have HB := Lib.hid hb
  clear bx hb
  go_upto_region 3 with (go_at_call 9; refine (KA.out _ HB.out).mono ?_; rintro e w4 ⟨rfl, h4⟩; have HX4 := Lib.hid (HX.out.stay h4); have HB4 := Lib.hid (HB.out.trans (h4.mono HB.out.size)); clear h4)
  have x0 := HX4.out.cell (j := 0) rfl
  have x1 := HX4.out.cell (j := 1) rfl
  have x2 := HX4.out.cell (j := 2) rfl
  have x3 := HX4.out.cell (j := 3) rfl
  have x4 := HX4.out.cell (j := 4) rfl
  clear HX HB
  cases LT with
  | false =>
    go_wp2_with (go_at_call 10; refine (KL.out _ HB4.out).mono ?_; rintro e w5 ⟨rfl, h5⟩; have HB5 := Lib.hid (HB4.out.trans (h5.mono HB4.out.size)); clear h5)
    go_ret
    exact ⟨rfl, HB5.out⟩
  | true =>
    go_upto_region 5 with (go_at_call 10; refine (KL.out _ HB4.out).mono ?_; rintro e w5 ⟨rfl, h5⟩; have HX5 := Lib.hid (HX4.out.stay h5); have HB5 := Lib.hid (HB4.out.trans (h5.mono HB4.out.size)); clear h5)
    clear x0 x1 x2 x3 x4
    have x0 := HX5.out.cell (j := 0) rfl
    have x1 := HX5.out.cell (j := 1) rfl
    have x2 := HX5.out.cell (j := 2) rfl
    have x3 := HX5.out.cell (j := 3) rfl
    have x4 := HX5.out.cell (j := 4) rfl
    clear HX4 HB4
    go_upto_region 6 with (go_at_call 12; refine (KM.out HLT.out _ HB5.out).mono ?_; rintro e w6 ⟨vC, vU, vS, vJ, vs, rfl, oC, oU, oS, hJ, hm, h6⟩; obtain ⟨hla, hlb⟩ := made_lens (light_of HLT.out).1 (by have := (light_of HLT.out).2.2.2.2; omega) hm; have hjr := hJ.jrow (by have := (light_of HLT.out).2.2.2.2; omega) (fun p hp => by have := hlb p hp; omega); obtain ⟨r1, c1, rfl⟩ := owns_form oC; obtain ⟨r2, c2, rfl⟩ := owns_form oU; obtain ⟨r3, c3, rfl⟩ := owns_form oS; obtain ⟨r4, c4, rfl⟩ := owns_form hJ.row; have HJ6 := Lib.hid hjr; have HMK := Lib.hid hm; have hvl : vs.length ≤ 12 := Nat.le_trans hla (light_of HLT.out).2.2.2.2; have HB6 := Lib.hid (HB5.out.trans (h6.mono HB5.out.size)); clear oC oU oS hJ hm h6 hla hlb hjr)
    have hbw := (Below.refl w6.heap.size w6).alloc (Nat.le_refl _) (.cells #[.slice r1 (frB x).C.length c1, .slice r2 (frB x).U.length c2, .slice r3 (frB x).S.length c3, .int .i32 EE, .slice r4 vs.length c4] 41)
    have hfb := HBox.new w6 [.slice r1 (frB x).C.length c1, .slice r2 (frB x).U.length c2, .slice r3 (frB x).S.length c3, .int .i32 EE, .slice r4 vs.length c4] 41
    change HBox (w6.alloc (.cells #[.slice r1 (frB x).C.length c1, .slice r2 (frB x).U.length c2, .slice r3 (frB x).S.length c3, .int .i32 EE, .slice r4 vs.length c4] 41)) _ _ _ at hfb
    have HJ7 := Lib.hid (HJ6.out.stay hbw)
    have HB7 := Lib.hid (HB6.out.trans (hbw.mono HB6.out.size))
    have HFB := Lib.hid hfb
    clear hbw x0 x1 x2 x3 x4 HX5 HB5 HB6 HJ6 hfb
    generalize w6.alloc (.cells #[.slice r1 (frB x).C.length c1, .slice r2 (frB x).U.length c2, .slice r3 (frB x).S.length c3, .int .i32 EE, .slice r4 vs.length c4] 41) = V at *
    generalize w6.heap.size = Y at *
    have f0 := HFB.out.cell (j := 0) rfl
    have f1 := HFB.out.cell (j := 1) rfl
    have f2 := HFB.out.cell (j := 2) rfl
    have f3 := HFB.out.cell (j := 3) rfl
    have f4 := HFB.out.cell (j := 4) rfl
    have K7 := Lib.hid (KD.out V (.slice r1 (frB x).C.length c1) (.slice r2 (frB x).U.length c2) (.slice r3 (frB x).S.length c3) (.slice r4 vs.length c4) vs (by omega) HJ7.out)
    by_cases hvs : vs = []
    · subst hvs
      go_wp2_with (go_at_call 23; refine K7.out.mono ?_; rintro e w8 ⟨rfl, h8⟩; have hf8 := HFB.out.stay h8; have g4 := hf8.cell (j := 4) rfl; have HB8 := Lib.hid (HB7.out.trans (h8.mono HB7.out.size)); clear h8 hf8)
      go_ret
      exact ⟨by simp, HB8.out⟩
    · obtain ⟨p0, pl, hp0, hpl, e0, el, hall⟩ := made_days (light_of HLT.out).1 HMK.out hvs
      have K8 := K7.out
      rw [e0, el, decide_eq_true hvs] at K8
      have hm0 : 0 < vs.length := List.length_pos_iff.2 hvs
      have HP0 := Lib.hid hp0
      have HPL := Lib.hid hpl
      have HALL := Lib.hid hall
      obtain ⟨D0, hD0⟩ : ∃ d, p0.1 = d := ⟨_, rfl⟩
      obtain ⟨DL, hDL⟩ : ∃ d, pl.1 = d := ⟨_, rfl⟩
      have HD := Lib.hid (And.intro hD0 hDL)
      rw [hD0, hDL] at K8
      have K9 := Lib.hid K8
      clear K7 K8 e0 el hp0 hpl hall hvs hD0 hDL
      obtain ⟨m, hmv⟩ : ∃ m, vs.length = m := ⟨_, rfl⟩
      have HMV := Lib.hid hmv
      rw [hmv] at HFB HJ7 K9 hvl hm0 f4 ⊢
      clear hmv
      go_wp2_with (go_at_call 23; refine K9.out.mono ?_; rintro e w8 ⟨rfl, h8⟩; have HF8 := Lib.hid (HFB.out.stay h8); have HJ8 := Lib.hid (HJ7.out.stay h8); have g4 := HF8.out.cell (j := 4) rfl; have HB8 := Lib.hid (HB7.out.trans (h8.mono HB7.out.size)); clear h8)
      clear f0 f1 f2 f3 f4 g4
      go_loopw [39] (fun i wr => ∃ k : Nat, i = .int .i64 k ∧ k ≤ m ∧ Hid (HBox wr Y [.slice r1 (frB x).C.length c1, .slice r2 (frB x).U.length c2, .slice r3 (frB x).S.length c3, .int .i32 EE, .slice r4 m c4] 41) ∧ Hid (JRow wr (.slice r4 m c4) vs) ∧ Hid (Below w.heap.size w wr)) (fun i _ => m - (intOf i).toNat)
      case atStart => exact ⟨0, rfl, Nat.zero_le _, HF8, HJ8, HB8⟩
      case round =>
        clear HF8 HJ8 HB8
        obtain ⟨k, rfl, hk, HF, HJ, HB⟩ := hrel
        rename World => wr
        by_cases hlt : k < m
        · obtain ⟨p, hp⟩ : ∃ p, vs[k]? = some p := ⟨vs[k]'(by have := HMV.out; omega), List.getElem?_eq_getElem (by have := HMV.out; omega)⟩
          obtain ⟨g, off, cp, er, hg, hcp, c0, c1, hRl⟩ := HJ.out.at hp
          rw [HMV.out] at er
          cases er
          obtain ⟨rl, cl, hvl2, hml⟩ := hRl.form
          rw [hvl2] at c1
          obtain ⟨b1, b2⟩ := HALL.out k p hp
          rw [HD.out.1] at b1
          rw [HD.out.2] at b2
          obtain ⟨dd, hdd⟩ : ∃ d, p.1 = d := ⟨_, rfl⟩
          rw [hdd] at c0 b1 b2
          have e1 : decide (dd < D0) = false := decide_eq_false (by omega)
          have e2 : decide (DL < dd) = false := decide_eq_false (by omega)
          have hb2 := (Below.refl wr.heap.size wr).alloc (Nat.le_refl _) (.cells #[.int .i32 dd, .slice rl p.2.2.length cl] 66)
          have HF2 := Lib.hid (HF.out.stay hb2)
          have HJ2 := Lib.hid (HJ.out.stay hb2)
          have HB2 := Lib.hid (HB.out.trans (hb2.mono HB.out.size))
          clear hp hRl hb2 hvl2
          go_wp2
          go_roundw
          case rel => exact ⟨k + 1, by go_num, by omega, HF2, HJ2, HB2⟩
          case measure => simp [intOf]; omega
        · obtain rfl : k = m := by omega
          have f4 := HF.out.cell (j := 4) rfl
          obtain ⟨g, off, cp, er, hg, hcp, c0, _, _⟩ := HJ.out.at HP0.out
          rw [HMV.out] at er
          cases er
          obtain ⟨g', off', cp', er', _, _, d0, _, _⟩ := HJ.out.at HPL.out
          rw [HMV.out] at er'
          cases er'
          rw [HD.out.1] at c0
          rw [HD.out.2, HMV.out] at d0
          simp only [Nat.zero_mul, Nat.add_zero] at c0
          obtain ⟨n, rfl⟩ : ∃ n, k = n + 1 := ⟨k - 1, by omega⟩
          simp only [Nat.add_sub_cancel] at d0
          go_wp2
          go_ret
          exact ⟨by simp, HB.out⟩
end Go.Proofs.YtljjodahfomljaaGreatDoor

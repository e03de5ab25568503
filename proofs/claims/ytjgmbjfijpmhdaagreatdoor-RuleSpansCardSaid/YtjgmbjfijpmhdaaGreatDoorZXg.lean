/- Contract of law 10's Make. -/
import Derived.Test.YtjgmbjfijpmhdaaGreatDoorZXf
import Derived.Test.YtjgmbjfijpmhdaaGreatDoorZOw
namespace Go.Proofs.YtjgmbjfijpmhdaaGreatDoor
open Go.RowKit
set_option linter.unusedVariables false
set_option linter.unusedSimpArgs false
theorem infoJ : (Tryz.prog.info? 73).map (fun i => (i.zero, i.size, i.bytes)) = some (some (.agg #[.int .i32 0, .slice none 0 0]), 2, 32) := by kernel_rfl
/-- A row of journals that is one's own, and so are all their lines. -/
structure JOwn (base : Nat) (w : World) (vJ : Value) (vs : List Jm) : Prop where
  row : w.ownsRow base 73 2 vJ vs.length (vs.flatMap jc)
  lines : ∀ p ∈ vs, w.ownsRow base 125 4 p.2.1 p.2.2.length (p.2.2.flatMap lc)
theorem JOwn.below {base : Nat} {w w' : World} {vJ : Value} {vs : List Jm} (h : JOwn base w vJ vs) (hb : Below w.heap.size w w') : JOwn base w' vJ vs := ⟨owns_below h.row hb, fun p hp => owns_below (h.lines p hp) hb⟩
theorem JOwn.far {base : Nat} {w w' : World} {vJ : Value} {vs : List Jm} (h : JOwn base w vJ vs) {m : Nat} (hg : w.grownBy w' (some m)) (hm : m < base) : JOwn base w' vJ vs :=
  ⟨h.row.kept hg (.inr fun e => by have := h.row.lt m e; omega), fun p hp => (h.lines p hp).kept hg (.inr fun e => by have := (h.lines p hp).lt m e; omega)⟩
theorem JOwn.mono {base base' : Nat} {w : World} {vJ : Value} {vs : List Jm} (h : JOwn base w vJ vs) (hb : base' ≤ base) : JOwn base' w vJ vs := ⟨owns_mono h.row hb, fun p hp => owns_mono (h.lines p hp) hb⟩
theorem JOwn.jrow {base : Nat} {w : World} {vJ : Value} {vs : List Jm} (h : JOwn base w vJ vs) (hl : vs.length ≤ 1000) (hl2 : ∀ p ∈ vs, p.2.2.length ≤ 1000) : JRow w vJ vs :=
  ⟨recs_of_owns jc_len h.row rfl (by omega), fun p hp => recs_of_owns lc_len (h.lines p hp) rfl (by have := hl2 p hp; omega)⟩
/-- A journal by small numbers, and its lines' slice. -/
abbrev Jp := Jn × Value
def jnc (p : Jp) : List Value := [.int .u8 (p.1.later : Int), p.2]
theorem jnc_len (p : Jp) : (jnc p).length = 2 := rfl
/-- A book by small numbers, in memory. -/
structure BkM (x : Bk) (vCh vUn vLo vJs : Value) (js : List Jp) (w : World) : Prop where
  ch : Recs qc 4 w vCh x.chart
  un : Recs uc 1 w vUn x.units
  lo : Recs u8c 1 w vLo x.long
  jr : Recs jnc 2 w vJs js
  jl : ∀ p ∈ js, Recs smc 4 w p.2 p.1.lines
  je : x.journals = js.map (·.1)
theorem BkM.stay {x : Bk} {vCh vUn vLo vJs : Value} {js : List Jp} {w w' : World} (h : BkM x vCh vUn vLo vJs js w) (hb : Below w.heap.size w w') : BkM x vCh vUn vLo vJs js w' :=
  ⟨h.ch.stay hb, h.un.stay hb, h.lo.stay hb, h.jr.stay hb, fun p hp => (h.jl p hp).stay hb, h.je⟩
theorem JOwn.push {base : Nat} {w w' : World} {vJ v' : Value} {vs : List Jm} {d : Int} {vL : Value} {ls : List Ln} (h : JOwn base w vJ vs) (hL : w.ownsRow base 125 4 vL ls.length (ls.flatMap lc)) (hg : w.grownBy w' vJ.ownBlock)
    (ho : w'.ownsRow base 73 2 v' (vs.length + 1) (vs.flatMap jc ++ [.int .i32 d, vL])) : JOwn base w' v' (vs ++ [(d, vL, ls)]) := by
  refine ⟨?_, fun p hp => ?_⟩
  · rw [List.length_append, flat_snoc]
    exact ho
  · rcases List.mem_append.1 hp with h1 | h1
    · exact (h.lines p h1).kept hg (owns_apart (h.lines p h1) h.row (by decide))
    · simp at h1
      subst h1
      exact hL.kept hg (owns_apart hL h.row (by decide))
set_option maxHeartbeats 4000000 in
set_option maxRecDepth 100000 in
theorem makeB_c (x : Bk) (vCh vUn vLo vJs : Value) (js : List Jp) (w : World) (hM : BkM x vCh vUn vLo vJs js w) (h8 : ∀ j ∈ x.journals, j.lines.length ≤ 8) (hl : x.journals.length ≤ 100) :
    Calls Tryz.prog 14 #[bV vCh vUn x.first vLo vJs] w fun e w' => ∃ vC vU vS vJ vs, e = .returned (bkV vC vU vS (frB x).E vJ) ∧ w'.ownsRow w.heap.size 82 4 vC (frB x).C.length ((frB x).C.flatMap cc) ∧ w'.ownsRow w.heap.size 77 1 vU (frB x).U.length ((frB x).U.flatMap uc) ∧ w'.ownsRow w.heap.size 37 1 vS (frB x).S.length ((frB x).S.flatMap dcl) ∧ JOwn w.heap.size w' vJ vs ∧ vs.map jOf = makeJ x ∧ Below w.heap.size w w' := by
  have hmix : Tryz.prog.follows .mixedOrders = true := by kernel_rfl
  obtain ⟨i0, hi, hz0, hz1, hz2⟩ := info_parts infoJ
  have HM := Lib.hid hM
  obtain ⟨rJ, cJ, rfl, hmJ⟩ := hM.jr.form
  obtain ⟨L, hL⟩ : ∃ n, js.length = n := ⟨_, rfl⟩
  have HL := Lib.hid hL
  have hLj : x.journals.length = L := by rw [hM.je, List.length_map, hL]
  have H8 := Lib.hid h8
  have HLJ := Lib.hid hLj
  rw [hLj] at hl
  have KF := Lib.hid (fun (w' : World) (h : BkM x vCh vUn vLo (.slice rJ js.length cJ) js w') => frame_c x vCh vUn vLo (.slice rJ js.length cJ) w' h.ch h.un h.lo)
  unfold bV frV at KF
  unfold bV bkV
  rw [hL] at HM KF hmJ ⊢
  obtain ⟨EE, hEE⟩ : ∃ n, (frB x).E = n := ⟨_, rfl⟩
  rw [hEE] at KF ⊢
  have HEE := Lib.hid hEE
  clear hM hL hLj h8 hEE
  go_enter Tryz.func14, Tryz.ntmps14
  go_upto_region 1 with fail
  have hb := ((Below.refl w.heap.size w).alloc (Nat.le_refl _) (.cells #[vCh, vUn, .int .i16 x.first, vLo, .slice rJ L cJ] 28)).alloc (by simp) (.cells #[.slice none 0 0, .slice none 0 0, .slice none 0 0, .int .i32 0, .slice none 0 0] 54)
  have bx := (HBox.new w [vCh, vUn, .int .i16 x.first, vLo, .slice rJ L cJ] 28).alloc (.cells #[.slice none 0 0, .slice none 0 0, .slice none 0 0, .int .i32 0, .slice none 0 0] 54)
  have s1 : (w.alloc (.cells #[vCh, vUn, .int .i16 x.first, vLo, .slice rJ L cJ] 28)).heap.size = w.heap.size + 1 := by simp
  change HBox ((w.alloc (.cells #[vCh, vUn, .int .i16 x.first, vLo, .slice rJ L cJ] 28)).alloc _) _ _ _ at bx
  generalize w.alloc (.cells #[vCh, vUn, .int .i16 x.first, vLo, .slice rJ L cJ] 28) = w1 at hb bx s1 ⊢
  have br := HBox.new w1 [.slice none 0 0, .slice none 0 0, .slice none 0 0, .int .i32 0, .slice none 0 0] 54
  have s2 : (w1.alloc (.cells #[.slice none 0 0, .slice none 0 0, .slice none 0 0, .int .i32 0, .slice none 0 0] 54)).heap.size = w.heap.size + 1 + 1 := by simp; omega
  rw [s1] at br
  change HBox (w1.alloc (.cells #[.slice none 0 0, .slice none 0 0, .slice none 0 0, .int .i32 0, .slice none 0 0] 54)) _ _ _ at br
  generalize w1.alloc (.cells #[.slice none 0 0, .slice none 0 0, .slice none 0 0, .int .i32 0, .slice none 0 0] 54) = W at hb bx br s2 ⊢
  have HX := Lib.hid bx
  have HBR := Lib.hid br
  have HB := Lib.hid hb
  have HS := Lib.hid s2
  have x0 := bx.cell (j := 0) rfl
  have x1 := bx.cell (j := 1) rfl
  have x2 := bx.cell (j := 2) rfl
  have x3 := bx.cell (j := 3) rfl
  have x4 := bx.cell (j := 4) rfl
  have K1 := Lib.hid (KF.out W (HM.out.stay hb))
  clear hb bx br s1 s2 KF
  go_upto_region 2 with (go_at_call 11; refine K1.out.mono ?_; rintro e w2 ⟨vC, vU, vS, rfl, oC, oU, oS, hb2⟩; obtain ⟨rC, cC, rfl⟩ := owns_form oC; obtain ⟨rU, cU, rfl⟩ := owns_form oU; obtain ⟨rS, cS, rfl⟩ := owns_form oS; have HOC := Lib.hid oC; have HOU := Lib.hid oU; have HOS := Lib.hid oS; have HB2 := Lib.hid hb2; clear oC oU oS hb2)
  have hbx := HBox.new w2 [.slice rC (frB x).C.length cC, .slice rU (frB x).U.length cU, .slice rS (frB x).S.length cS, .int .i32 EE, .slice none 0 0] 54
  have hW : W.heap.size ≤ w2.heap.size := HB2.out.size
  have hbw := (Below.refl w2.heap.size w2).alloc (Nat.le_refl _) (.cells #[.slice rC (frB x).C.length cC, .slice rU (frB x).U.length cU, .slice rS (frB x).S.length cS, .int .i32 EE, .slice none 0 0] 54)
  have hs2 : (w2.alloc (.cells #[.slice rC (frB x).C.length cC, .slice rU (frB x).U.length cU, .slice rS (frB x).S.length cS, .int .i32 EE, .slice none 0 0] 54)).heap.size = w2.heap.size + 1 := by simp
  change HBox (w2.alloc (.cells #[.slice rC (frB x).C.length cC, .slice rU (frB x).U.length cU, .slice rS (frB x).S.length cS, .int .i32 EE, .slice none 0 0] 54)) _ _ _ at hbx
  have PC := Lib.hid (owns_below HOC.out hbw)
  have PU := Lib.hid (owns_below HOU.out hbw)
  have PS := Lib.hid (owns_below HOS.out hbw)
  have FC := Lib.hid (owns_far HOC.out (m := w2.heap.size) (.inr (Nat.le_refl _)))
  have FU := Lib.hid (owns_far HOU.out (m := w2.heap.size) (.inr (Nat.le_refl _)))
  have FS := Lib.hid (owns_far HOS.out (m := w2.heap.size) (.inr (Nat.le_refl _)))
  have hWV := HB2.out.trans (hbw.mono HB2.out.size)
  have PX := Lib.hid (HX.out.stay hWV)
  have PR := Lib.hid (HBR.out.stay hWV)
  have PB := Lib.hid (HB.out.trans (hWV.mono (by have := HS.out; omega)))
  clear x0 x1 x2 x3 x4 hbw hWV HX HBR HB HB2 HOC HOU HOS K1
  generalize w2.alloc (.cells #[.slice rC (frB x).C.length cC, .slice rU (frB x).U.length cU, .slice rS (frB x).S.length cS, .int .i32 EE, .slice none 0 0] 54) = V at *
  have hX : w.heap.size + 1 + 1 ≤ w2.heap.size := by have := HS.out; omega
  have HXV := Lib.hid hs2
  generalize w2.heap.size = X at *
  clear hs2
  have hsl : (frB x).S.length ≤ 13 := (mkS_lens x.first x.long).2
  have hRS : Recs dcl 1 V (.slice rS (frB x).S.length cS) (frB x).S := recs_of_owns dcl_len PS.out rfl (by omega)
  obtain ⟨gS, oS, hr, hgS, hcS⟩ := hRS.at (mkS_head x.first x.long)
  have d0 := hcS 0 (.int .i32 x.first) rfl
  simp only [Nat.zero_mul, Nat.add_zero] at d0
  subst hr
  have hs1 : 1 ≤ (frB x).S.length := (mkS_lens x.first x.long).1
  obtain ⟨LS, hLS⟩ : ∃ n, (frB x).S.length = n := ⟨_, rfl⟩
  have HLS := Lib.hid hLS
  rw [hLS] at hs1 hbx
  rw [hLS] at PS FS
  have c2 := hbx.cell (j := 2) rfl
  have x4 := PX.out.cell (j := 4) rfl
  have HBX := Lib.hid hbx
  clear hcS hRS hLS hsl hbx
  go_wp2_with fail
  go_loopw [4, 20] (fun s i wr => ∃ (k : Nat) (d : Int) (vs : List Jm) (m : Nat) (r : Option Addr) (cap : Nat), s = .int .i32 d ∧ i = .int .i64 k ∧ k ≤ L ∧ m ≤ k ∧ Hid (m = vs.length) ∧ Hid (stJ x k = (d, vs.map jOf)) ∧ Hid (HBox wr X [.slice rC (frB x).C.length cC, .slice rU (frB x).U.length cU, .slice (some ⟨gS, oS, none⟩) LS cS, .int .i32 EE, .slice r m cap] 54) ∧ Hid (JOwn (X + 1) wr (.slice r m cap) vs) ∧ Hid (wr.ownsRow W.heap.size 82 4 (.slice rC (frB x).C.length cC) (frB x).C.length ((frB x).C.flatMap cc) ∧ wr.ownsRow W.heap.size 77 1 (.slice rU (frB x).U.length cU) (frB x).U.length ((frB x).U.flatMap uc) ∧ wr.ownsRow W.heap.size 37 1 (.slice (some ⟨gS, oS, none⟩) LS cS) LS ((frB x).S.flatMap dcl)) ∧ Hid (HBox wr w.heap.size [vCh, vUn, .int .i16 x.first, vLo, .slice rJ L cJ] 28 ∧ HBox wr (w.heap.size + 1) [.slice none 0 0, .slice none 0 0, .slice none 0 0, .int .i32 0, .slice none 0 0] 54) ∧ Hid (Below w.heap.size w wr) ∧ Hid (X + 1 ≤ wr.heap.size)) (fun _ i _ => L - (intOf i).toNat)
  case atStart => exact ⟨0, x.first, [], 0, none, 0, rfl, rfl, Nat.zero_le _, Nat.zero_le _, Lib.hid rfl, Lib.hid rfl, HBX, Lib.hid ⟨World.ownsRow_nil _ _ _ _, fun p hp => by cases hp⟩, Lib.hid ⟨PC.out, PU.out, PS.out⟩, Lib.hid ⟨PX.out, PR.out⟩, PB, Lib.hid (by have := HXV.out; omega)⟩
  case round =>
    clear HBX PC PU PS PX PR PB HXV d0 c2 x4
    obtain ⟨k, d, vs, m, r, cap, rfl, rfl, hk, hmk, HML, HST, HBX, HJ, HP, HXR, PB, HZ⟩ := hrel
    rename World => wr
    have hst := stJ_ok x H8.out k (by rw [HLJ.out]; exact hk)
    rw [HST.out, HEE.out] at hst
    have hE := mkE_le x.first x.long
    rw [show mkE x.first x.long = EE from HEE.out] at hE
    have hfi := x.hf
    obtain ⟨⟨hd1, hd2⟩, _⟩ := hst
    simp only at hd1 hd2
    have b3 := HBX.out.cell (j := 3) rfl
    have b4 := HBX.out.cell (j := 4) rfl
    have b0 := HBX.out.cell (j := 0) rfl
    have b1 := HBX.out.cell (j := 1) rfl
    have b2 := HBX.out.cell (j := 2) rfl
    by_cases hlt : k < L
    · obtain ⟨⟨j, vl⟩, hp⟩ : ∃ p, js[k]? = some p := ⟨js[k]'(by have := HL.out; omega), List.getElem?_eq_getElem (by have := HL.out; omega)⟩
      have hxj : x.journals[k]? = some j := by rw [HM.out.je, List.getElem?_map, hp]; rfl
      have hjl := (HM.out.stay PB.out).jl _ (List.mem_of_getElem? hp)
      have hj8 := H8.out j (List.mem_of_getElem? hxj)
      obtain ⟨rl, cl, e, hml⟩ := hjl.form
      simp only at e hjl hml
      subst e
      obtain ⟨gJ, oJ, rfl, hgJ, hcJ⟩ := (HM.out.stay PB.out).jr.at hp
      have y0 := hcJ 0 (.int .u8 (j.later : Int)) rfl
      have y1 := hcJ 1 (.slice rl j.lines.length cl) rfl
      simp only [Nat.add_zero] at y0
      have HXJ := Lib.hid hxj
      have HJL := Lib.hid hjl
      have hlt40 : j.later % 40 < 40 := Nat.mod_lt _ (by omega)
      obtain ⟨y, hy⟩ : ∃ y, j.later % 40 = y := ⟨_, rfl⟩
      rw [hy] at hlt40
      have hlat := j.hl
      have t1 : (j.later : Int).tmod 40 = (y : Int) := by rw [Int.tmod_eq_emod_of_nonneg (by omega)]; omega
      have t2 : (j.later : Int) % 40 = (y : Int) := by omega
      have t3 : IntKind.i32.wrap (y : Int) = (y : Int) := by rw [IntKind.wrap_i32]; omega
      have t4 : IntKind.i32.wrap (d + (y : Int)) = d + (y : Int) := by rw [IntKind.wrap_i32]; omega
      have t5 : IntKind.i32.wrap (EE - 1) = EE - 1 := by rw [IntKind.wrap_i32]; omega
      have hdn : dayJ EE d j = min (d + (y : Int)) (EE - 1) := by unfold dayJ; rw [hy]
      have HDN := Lib.hid hdn
      clear hcJ hp hxj hjl hy hdn
      go_upto_region 6 with fail
      have hbw := (Below.refl wr.heap.size wr).alloc (Nat.le_refl _) (.cells #[.int .u8 (j.later : Int), .slice rl j.lines.length cl] 88)
      have hy := HBox.new wr [.int .u8 (j.later : Int), .slice rl j.lines.length cl] 88
      change HBox (wr.alloc (.cells #[.int .u8 (j.later : Int), .slice rl j.lines.length cl] 88)) _ _ _ at hy
      have HBX1 := Lib.hid (HBX.out.stay hbw)
      have HJ1 := Lib.hid (HJ.out.below hbw)
      have HP1 := Lib.hid (And.intro (owns_below HP.out.1 hbw) (And.intro (owns_below HP.out.2.1 hbw) (owns_below HP.out.2.2 hbw)))
      have HXR1 := Lib.hid (And.intro (HXR.out.1.stay hbw) (HXR.out.2.stay hbw))
      have PB1 := Lib.hid (PB.out.trans (hbw.mono PB.out.size))
      have HZ1 := Lib.hid (Nat.le_trans HZ.out hbw.size)
      have HJL1 := Lib.hid (HJL.out.stay hbw)
      clear hbw b0 b1 b2 b3 b4 y0 y1 HBX HJ HP HXR PB HZ HJL hgJ
      generalize wr.alloc (.cells #[.int .u8 (j.later : Int), .slice rl j.lines.length cl] 88) = W1 at *
      have b0 := HBX1.out.cell (j := 0) rfl
      have b1 := HBX1.out.cell (j := 1) rfl
      have b2 := HBX1.out.cell (j := 2) rfl
      have b3 := HBX1.out.cell (j := 3) rfl
      have y0 := hy.cell (j := 0) rfl
      have y1 := hy.cell (j := 1) rfl
      generalize wr.heap.size = YB at *
      clear hy
      obtain ⟨hcm, hcl, hcn⟩ := frC_made x.chart
      obtain ⟨hur, hus, hul, hun⟩ := frU_ok x.units
      have hsl2 : (frB x).S.length ≤ 13 := (mkS_lens x.first x.long).2
      have hFM : FrM (frB x) (.slice rC (frB x).C.length cC) (.slice rU (frB x).U.length cU) (.slice (some ⟨gS, oS, none⟩) LS cS) W1 :=
        ⟨recs_of_owns cc_len HP1.out.1 rfl (by show (frC x.chart).length ≤ _; omega), recs_of_owns uc_len HP1.out.2.1 rfl (by show (frU x.units).length ≤ _; omega), recs_of_owns dcl_len HP1.out.2.2 (by rw [HLS.out]) (by rw [← HLS.out]; omega)⟩
      have K2 := lines_c (frB x) _ _ _ _ j.lines (j.later : Int) W1 hFM hcn hun (fun z hz => by have := hus z hz; omega) (by show (frC x.chart).length ≤ _; omega) (by show (frU x.units).length ≤ _; omega) HJL1.out hj8
      unfold frV at K2
      rw [HEE.out] at K2
      obtain ⟨NL, hNL⟩ : ∃ NL, linesB (frB x).C (frB x).U j.lines = NL := ⟨_, rfl⟩
      obtain ⟨dn, hdn⟩ : ∃ dn, min (d + (y : Int)) (EE - 1) = dn := ⟨_, rfl⟩
      have hstep : stJ x (k + 1) = (dn, if NL = [] then vs.map jOf else vs.map jOf ++ [(dn, NL)]) := by
        rw [stJ_step HXJ.out, HST.out]
        unfold stepJ
        rw [hNL, HEE.out, HDN.out, hdn]
      have hdnb : x.first ≤ dn ∧ dn < EE := by rw [← hdn]; omega
      have hnl : NL.length ≤ 17 := by
        rw [← hNL]
        unfold linesB
        have := pads_len (frB x).C (frB x).U (sumZ (j.lines.map (lnA (frB x).C (frB x).U))) (frB x).U.length
        rw [List.length_append, List.length_map]
        have : (frB x).U.length ≤ 9 := hul
        omega
      rw [hNL] at K2
      have K3 := Lib.hid K2
      have HSTEP := Lib.hid hstep
      have HDNE := Lib.hid hdn
      clear K2 hstep hdnb hFM hcm hcl hcn hur hus hul hun hsl2 hNL
      go_upto_region 7 with fail
      clear hdn
      obtain ⟨N, hN⟩ : ∃ N, NL.length = N := ⟨_, rfl⟩
      have HN := Lib.hid hN
      rw [hN] at K3 hnl
      clear hN
      go_upto_region 8 with (go_at_call 34; refine K3.out.mono ?_; rintro e w3 ⟨v5, rfl, o5, hb3⟩; obtain ⟨r5, c5, rfl⟩ := owns_form o5; have HO5 := Lib.hid o5; have HB3 := Lib.hid hb3; clear o5 hb3)
      have HBX3 := Lib.hid (HBX1.out.stay HB3.out)
      have HJ3 := Lib.hid (HJ1.out.below HB3.out)
      have HP3 := Lib.hid (And.intro (owns_below HP1.out.1 HB3.out) (And.intro (owns_below HP1.out.2.1 HB3.out) (owns_below HP1.out.2.2 HB3.out)))
      have HXR3 := Lib.hid (And.intro (HXR1.out.1.stay HB3.out) (HXR1.out.2.stay HB3.out))
      have PB3 := Lib.hid (PB1.out.trans (HB3.out.mono PB1.out.size))
      have HZ3 := Lib.hid (Nat.le_trans HZ1.out HB3.out.size)
      have HO5b := Lib.hid (owns_mono HO5.out HZ1.out)
      clear b0 b1 b2 b3 y0 y1 HBX1 HJ1 HP1 HXR1 PB1 HZ1 HB3 HJL1 HO5 K3
      have b4 := HBX3.out.cell (j := 4) rfl
      have f4 := HBX3.out.frozen 4
      by_cases hN0 : N = 0
      · subst hN0
        have HNL : Hid (NL = []) := Lib.hid (List.length_eq_zero_iff.1 HN.out)
        go_wp2_with fail
        go_roundw
        case rel => exact ⟨k + 1, dn, vs, m, r, cap, rfl, by go_num, by omega, by omega, HML, Lib.hid (by rw [HSTEP.out, if_pos HNL.out]), HBX3, HJ3, HP3, HXR3, PB3, HZ3⟩
        case measure => simp [intOf]; omega
      · have e1 : (0 : Int) < (N : Int) := by omega
        have HNL : Hid (¬ NL = []) := Lib.hid (fun h => hN0 (by rw [← HN.out, h]; rfl))
        have hrow := HJ3.out.row
        rw [← HML.out] at hrow
        have HROW := Lib.hid hrow
        clear hrow
        go_wp2_with (at_builtin; refine wpList_append_own_at _ rfl (.tmp 44) (.tmp 48) 52 rfl (X + 1) 73 i0 _ 2 32 Tryz.underlying52 hi hz0 hz1 hz2 rfl (by decide) _ m _ rfl (HROW.out.alloc _) ⟨_, 0, none⟩ 1 1 [.int .i32 dn, .slice r5 N c5] rfl rfl (cells_new _ [.int .i32 dn, .slice r5 N c5] _) (fun v hv => by simp at hv; rcases hv with rfl | rfl <;> rfl) (by unfold maxLen; omega) (by omega) (by simp; have := HZ3.out; omega) ?_; intro v6 w6 hown6 hgrow6 _ hat6; have hs4 : (w3.alloc (.cells #[.int .i32 dn, .slice r5 N c5] 73)).heap.size = w3.heap.size + 1 := by simp
                     have hbw := (Below.refl w3.heap.size w3).alloc (Nat.le_refl _) (.cells #[.int .i32 dn, .slice r5 N c5] 73)
                     have hbx6 := (HBX3.out.stay hbw).grown hgrow6 (fun h => owns_far HROW.out (m := X) (.inl (by omega)) h.symm)
                     have HJ6 := Lib.hid (JOwn.push (d := dn) (HJ3.out.below hbw) (by rw [HN.out]; exact owns_below HO5b.out hbw) hgrow6 (by rw [← HML.out]; exact hown6))
                     have HP6 := Lib.hid (And.intro ((owns_below HP3.out.1 hbw).kept hgrow6 (owns_apart (owns_below HP3.out.1 hbw) (HROW.out.alloc (.cells #[.int .i32 dn, .slice r5 N c5] 73)) (by decide))) (And.intro ((owns_below HP3.out.2.1 hbw).kept hgrow6 (owns_apart (owns_below HP3.out.2.1 hbw) (HROW.out.alloc (.cells #[.int .i32 dn, .slice r5 N c5] 73)) (by decide))) ((owns_below HP3.out.2.2 hbw).kept hgrow6 (owns_apart (owns_below HP3.out.2.2 hbw) (HROW.out.alloc (.cells #[.int .i32 dn, .slice r5 N c5] 73)) (by decide)))))
                     have HXR6 := Lib.hid (And.intro ((HXR3.out.1.stay hbw).grown hgrow6 (fun h => owns_far HROW.out (m := w.heap.size) (.inl (by omega)) h.symm)) ((HXR3.out.2.stay hbw).grown hgrow6 (fun h => owns_far HROW.out (m := w.heap.size + 1) (.inl (by omega)) h.symm)))
                     have PB6 := Lib.hid ((PB3.out.trans (hbw.mono PB3.out.size)).grown hgrow6 (by have := PB3.out.size; omega) (fun j hj => by have := HROW.out.lt j hj; omega))
                     have HZ6 := Lib.hid (Nat.le_trans (Nat.le_trans HZ3.out hbw.size) hgrow6.size)
                     obtain ⟨r6, cap6, rfl⟩ := owns_form hown6
                     have b6 := hbx6.cell (j := 4) rfl
                     have f6 := hbx6.frozen 4
                     have HBX6 := Lib.hid hbx6
                     clear hgrow6 hown6 hat6 hs4 hbw hbx6)
        go_roundw
        case rel =>
          have hg := grownBy_set w6 ⟨X, 4, none⟩ (.slice r6 (m + 1) cap6)
          have hg' : w6.grownBy (w6.setCell ⟨X, 4, none⟩ (.slice r6 (m + 1) cap6)) (some X) := hg
          refine ⟨k + 1, dn, vs ++ [(dn, .slice r5 N c5, NL)], m + 1, r6, cap6, rfl, by go_num, by omega, by omega, Lib.hid (by rw [List.length_append, ← HML.out]; rfl), Lib.hid ?_, Lib.hid (HBX6.out.set 4 _), Lib.hid (HJ6.out.far hg' (by omega)), Lib.hid ⟨HP6.out.1.kept hg' (.inr FC.out), HP6.out.2.1.kept hg' (.inr FU.out), HP6.out.2.2.kept hg' (.inr FS.out)⟩, Lib.hid ⟨HXR6.out.1.grown hg' (by intro h; have := Option.some.inj h; omega), HXR6.out.2.grown hg' (by intro h; have := Option.some.inj h; omega)⟩, Lib.hid (PB6.out.grown hg' PB6.out.size (fun j hj => by cases hj; omega)), Lib.hid (Nat.le_trans HZ6.out hg'.size)⟩
          rw [HSTEP.out, if_neg HNL.out, List.map_append]
          rfl
        case measure => simp [intOf]; omega
    · obtain rfl : k = L := by omega
      have c0 := HXR.out.2.cell (j := 0) rfl
      have c1 := HXR.out.2.cell (j := 1) rfl
      have c2 := HXR.out.2.cell (j := 2) rfl
      have c3 := HXR.out.2.cell (j := 3) rfl
      have c4 := HXR.out.2.cell (j := 4) rfl
      have g0 := HXR.out.2.frozen 0
      have g1 := HXR.out.2.frozen 1
      have g2 := HXR.out.2.frozen 2
      have g3 := HXR.out.2.frozen 3
      have g4 := HXR.out.2.frozen 4
      have GR : wr.grownBy (((((wr.setCell ⟨w.heap.size + 1, 0, none⟩ (.slice rC (frB x).C.length cC)).setCell ⟨w.heap.size + 1, 1, none⟩ (.slice rU (frB x).U.length cU)).setCell ⟨w.heap.size + 1, 2, none⟩ (.slice (some ⟨gS, oS, none⟩) LS cS)).setCell ⟨w.heap.size + 1, 3, none⟩ (.int .i32 EE)).setCell ⟨w.heap.size + 1, 4, none⟩ (.slice r m cap)) (some (w.heap.size + 1)) := ((((grownBy_set wr ⟨w.heap.size + 1, 0, none⟩ _).trans (grownBy_set _ ⟨w.heap.size + 1, 1, none⟩ _)).trans (grownBy_set _ ⟨w.heap.size + 1, 2, none⟩ _)).trans (grownBy_set _ ⟨w.heap.size + 1, 3, none⟩ _)).trans (grownBy_set _ ⟨w.heap.size + 1, 4, none⟩ _)
      have HR5 := Lib.hid ((((((HXR.out.2).set 0 (.slice rC (frB x).C.length cC)).set 1 (.slice rU (frB x).U.length cU)).set 2 (.slice (some ⟨gS, oS, none⟩) LS cS)).set 3 (.int .i32 EE)).set 4 (.slice r m cap))
      have RJ := Lib.hid (HJ.out.far GR (by omega))
      have R1 := Lib.hid (HP.out.1.kept GR (.inr (owns_far HP.out.1 (m := w.heap.size + 1) (.inl (by have := HS.out; omega)))))
      have R2 := Lib.hid (HP.out.2.1.kept GR (.inr (owns_far HP.out.2.1 (m := w.heap.size + 1) (.inl (by have := HS.out; omega)))))
      have R3 := Lib.hid (HP.out.2.2.kept GR (.inr (owns_far HP.out.2.2 (m := w.heap.size + 1) (.inl (by have := HS.out; omega)))))
      have RB := Lib.hid (PB.out.grown GR PB.out.size (fun j hj => by cases hj; omega))
      clear GR
      go_wp2_with fail
      have x0 := HR5.out.cell (j := 0) rfl
      have x1 := HR5.out.cell (j := 1) rfl
      have x2 := HR5.out.cell (j := 2) rfl
      have x3 := HR5.out.cell (j := 3) rfl
      have x4 := HR5.out.cell (j := 4) rfl
      refine bodyPost_ret (v := .agg #[.slice rC (frB x).C.length cC, .slice rU (frB x).U.length cU, .slice (some ⟨gS, oS, none⟩) LS cS, .int .i32 EE, .slice r m cap]) (by simp [results, Tryz.results14, go_sem, x0, x1, x2, x3, x4]) rfl ?_
      have hmk : vs.map jOf = makeJ x := by
        unfold makeJ
        rw [HLJ.out, HST.out]
      refine ⟨_, _, _, _, rfl, owns_mono R1.out (by have := HS.out; omega), owns_mono R2.out (by have := HS.out; omega), ?_, ?_⟩
      · rw [HLS.out]
        exact owns_mono R3.out (by have := HS.out; omega)
      · first
          | exact ⟨vs, RJ.out.mono (by omega), hmk, RB.out⟩
          | exact ⟨⟨vs, RJ.out.mono (by omega), hmk⟩, RB.out⟩
end Go.Proofs.YtjgmbjfijpmhdaaGreatDoor

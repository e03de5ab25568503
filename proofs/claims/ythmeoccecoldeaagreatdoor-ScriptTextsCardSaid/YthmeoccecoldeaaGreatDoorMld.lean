/- The walk of law ScriptSames. -/
import Derived.Test.YthmeoccecoldeaaGreatDoorMlb
import Derived.Test.YthmeoccecoldeaaGreatDoorMdx
import Derived.Test.YthmeoccecoldeaaGreatDoorEwz
namespace Go.Proofs.YthmeoccecoldeaaGreatDoor
open Go.RowKit Go.Lib Go.Sort
set_option linter.unusedVariables false
set_option linter.unusedSimpArgs false
set_option maxHeartbeats 8000000 in
set_option maxRecDepth 100000 in
theorem sames_0 (va vb : Value) (qa qb : List Oi) (tt : Nat) (htt : tt < 256) (w : World) (hI : InS w) (hA : SRow w va qa) (hB : SRow w vb qb) (hla : qa.length ≤ 30) (hlb : qb.length ≤ 30) : Calls Tryz.prog 5 #[va, vb, .int .u8 (tt : Int), .bool false] w fun e w' => e = .returned (.bool true) ∧ Below w.heap.size w w' := by
  have hmix : Tryz.prog.follows .mixedOrders = true := by kernel_rfl
  have KA := Lib.hid (awake13_ev w hI)
  have HI := Lib.hid hI
  obtain ⟨ra, ca, rfl, hma⟩ := hA.1.form
  obtain ⟨rb, cb, rfl, hmb⟩ := hB.1.form
  obtain ⟨La, hLa⟩ : ∃ L, qa.length = L := ⟨_, rfl⟩
  obtain ⟨Lb, hLb⟩ : ∃ L, qb.length = L := ⟨_, rfl⟩
  have HLa := Lib.hid hLa
  have HLb := Lib.hid hLb
  have HRa := Lib.hid hA
  have HRb := Lib.hid hB
  rw [hLa] at HRa hla ⊢
  rw [hLb] at HRb hlb ⊢
  clear hI hA hB hLa hLb hma hmb
  have e1 : ¬ (30 : Int) < (La : Int) := by omega
  have e2 : ¬ (30 : Int) < (Lb : Int) := by omega
  go_enter Tryz.func5, Tryz.ntmps5
  go_wp2_with (first | (go_at_call 7; refine KA.out.mono ?_; rintro e w1 ⟨rfl, hb⟩; have HB1 := Lib.hid hb; clear hb))
  obtain ⟨i0, hi, hz0, hz1, hz2⟩ := info_parts infoOp
  go_loopw [9, 11, 32] (fun o s i wr => ∃ (k : Nat) (r : Option Addr) (cp : Nat) (O : List UInt8) (ps : List Om), o = .slice r k cp ∧ s = .string ⟨O.toArray⟩ ∧ i = .int .i64 (k : Int) ∧ k ≤ La ∧ O.length ≤ 2000000002 * k ∧ Hid (ps.length = k) ∧ Hid (OOwn w.heap.size wr (.slice r k cp) ps) ∧ Hid (∀ p ∈ ps, OpIn p.o) ∧ Hid (O = (ps.map (·.o)).flatMap textO) ∧ Hid (Below w.heap.size w wr)) (fun _ _ i _ => La - (RowKit.intOf i).toNat)
  case atStart => exact ⟨0, none, 0, [], [], rfl, rfl, rfl, Nat.zero_le _, by simp, Lib.hid rfl, Lib.hid (OOwn.nil _ _), Lib.hid (fun p hp => by cases hp), Lib.hid rfl, HB1⟩
  case round =>
    obtain ⟨k, r, cp, O, ps, rfl, rfl, rfl, hk, hOl, HPL, HOO, HIN, HO, HB⟩ := hrel
    rename World => wr
    by_cases hlt : k < La
    · obtain ⟨q, hq⟩ : ∃ q, qa[k]? = some q := ⟨qa[k]'(by have := HLa.out; omega), List.getElem?_eq_getElem (by have := HLa.out; omega)⟩
      obtain ⟨g, off, c', hv, _, _, d1, hM⟩ := (HRa.out.stay HB.out).at hq
      have HMw := Lib.hid (HRa.out.2 q (List.mem_of_getElem? hq))
      injection hv with hv1 hv2 hv3
      subst hv1
      clear hv2 hv3 hq
      have a0 := d1 0 _ rfl
      have a1 := d1 1 _ rfl
      have a2 := d1 2 _ rfl
      have a3 := d1 3 _ rfl
      have a4 := d1 4 _ rfl
      have a5 := d1 5 _ rfl
      have a6 := d1 6 _ rfl
      rw [Nat.add_zero] at a0
      have KR := Lib.hid (fun (w' : World) (h : OnM w' q) => raw_c q w' h)
      have HOP := Lib.hid (raw_in hM.ok)
      unfold RawR onV at KR
      obtain ⟨o, ho⟩ : ∃ o, rawO q.x = o := ⟨_, rfl⟩

      rw [ho] at KR HOP
      obtain ⟨T, hT⟩ : ∃ T, textO o = T := ⟨_, rfl⟩
      have HT := Lib.hid hT
      have hTl := text_len HOP.out
      have KY := Lib.hid (fun (ps' : Int) (vP vS : Value) (w' : World) (h1 : InS w') (h2 : OpM w' ⟨o, ps', vP, vS⟩) => ltext_s ⟨o, ps', vP, vS⟩ w' h1 h2 HOP.out)
      simp only [hT] at KY
      rw [hT] at hTl
      clear hT ho d1
      obtain ⟨⟨K0, A0, B0, N0, pp, fi, lo⟩, vQ, vL⟩ := q
      obtain ⟨kd, fr, tg, nm, pl, ss, en⟩ := o
      obtain ⟨rQ, cQ, eQ, _⟩ := hM.parts.form
      obtain ⟨rL, cL, eL, _⟩ := hM.long.form
      simp only at eQ eL
      subst eQ
      subst eL
      clear hM
      unfold opV strV at *
      simp only at KR KY a0 a1 a2 a3 a4 a5 a6
      have hrow := HOO.out.row
      rw [HPL.out] at hrow
      have FY := Lib.hid (owns_far hrow (m := wr.heap.size) (.inr (Nat.le_refl _)))
      clear hrow
      go_upto_region 12 with fail
      have t1 := RBox.new wr [.int .u8 (K0 : Int), .int .u8 (A0 : Int), .int .u8 (B0 : Int), .int .u8 (N0 : Int), (.slice rQ pp.length cQ), .int .i16 fi, (.slice rL lo.length cL)] 29
      have hb0 := (Below.refl wr.heap.size wr).alloc (Nat.le_refl _) (.cells #[.int .u8 (K0 : Int), .int .u8 (A0 : Int), .int .u8 (B0 : Int), .int .u8 (N0 : Int), (.slice rQ pp.length cQ), .int .i16 fi, (.slice rL lo.length cL)] 29)
      have t3 := HOO.out.below hb0
      have t4 := HB.out.alloc HB.out.size (.cells #[.int .u8 (K0 : Int), .int .u8 (A0 : Int), .int .u8 (B0 : Int), .int .u8 (N0 : Int), (.slice rQ pp.length cQ), .int .i16 fi, (.slice rL lo.length cL)] 29)
      change RBox (wr.alloc (.cells #[.int .u8 (K0 : Int), .int .u8 (A0 : Int), .int .u8 (B0 : Int), .int .u8 (N0 : Int), (.slice rQ pp.length cQ), .int .i16 fi, (.slice rL lo.length cL)] 29)) _ _ at t1
      generalize wr.alloc (.cells #[.int .u8 (K0 : Int), .int .u8 (A0 : Int), .int .u8 (B0 : Int), .int .u8 (N0 : Int), (.slice rQ pp.length cQ), .int .i16 fi, (.slice rL lo.length cL)] 29) = U1 at *
      generalize wr.heap.size = Y at *
      clear a0 a1 a2 a3 a4 a5 a6 HOO HB hb0
      have y0 := t1.at_ 0 _ rfl
      have y1 := t1.at_ 1 _ rfl
      have y2 := t1.at_ 2 _ rfl
      have y3 := t1.at_ 3 _ rfl
      have y4 := t1.at_ 4 _ rfl
      have y5 := t1.at_ 5 _ rfl
      have y6 := t1.at_ 6 _ rfl
      have HY := Lib.hid t1
      have HO1 := Lib.hid t3
      have HB2 := Lib.hid t4
      have HM1 := Lib.hid (HMw.out.stay t4)
      clear t1 t3 t4
      have HS := Lib.hid (Nat.le_refl 0)
      have HWS := Lib.hid (Nat.le_refl w.heap.size)
      go_upto_region 13 with (first | (at_builtin; refine wpList_append_own_at _ rfl (.tmp 36) (.tmp 39) 24 rfl w.heap.size 38 i0 _ 8 96 Tryz.underlying24 hi hz0 hz1 hz2 rfl (by decide) _ k _ rfl (HRW.out.alloc _) ⟨_, 0, none⟩ 1 1 [.int .i64 (kd : Int), .int .u32 (fr : Int), .int .u32 (tg : Int), .string ⟨nm.toArray⟩, (.slice rP pl.length cP), (.slice rS ss.length cS), .int .i32 en, .int .i64 0] rfl rfl (cells_new _ [.int .i64 (kd : Int), .int .u32 (fr : Int), .int .u32 (tg : Int), .string ⟨nm.toArray⟩, (.slice rP pl.length cP), (.slice rS ss.length cS), .int .i32 en, .int .i64 0] _) (fun v hv => by simp at hv; rcases hv with rfl | rfl | rfl | rfl | rfl | rfl | rfl | rfl <;> rfl) (by unfold maxLen; omega) (by omega) (by simp; have := HS.out; omega) ?_; intro v5 w5 hown5 hgrow5 _ hat5; have hbw := (Below.refl w2.heap.size w2).alloc (Nat.le_refl _) (.cells #[.int .i64 (kd : Int), .int .u32 (fr : Int), .int .u32 (tg : Int), .string ⟨nm.toArray⟩, (.slice rP pl.length cP), (.slice rS ss.length cS), .int .i32 en, .int .i64 0] 38); have p1 := oown_push (p := (⟨⟨kd, fr, tg, nm, pl, ss, en⟩, 0, .slice rP pl.length cP, .slice rS ss.length cS⟩ : Om)) HPL.out (HO2.out.below hbw) (HW.out.below hbw) hgrow5 hown5; have rx0 := HY2.out.stay hbw; have rx : RBox w5 Y _ := ⟨Nat.lt_of_lt_of_le rx0.size hgrow5.size, fun j v hj => by rw [hgrow5.cell (rx0.at_ j v hj) (fun h => FY.out h.symm)]⟩; have EX := Lib.hid rx; have EO := Lib.hid p1; clear p1 rx0 rx; have rb := (HB3.out.trans (hbw.mono HB3.out.size)).grown hgrow5 (Nat.le_trans HB3.out.size hbw.size) (fun j hj => by have := HRW.out.lt j hj; have := HWS.out; omega); obtain ⟨r6, cap6, rfl⟩ := owns_form hown5; have EB := Lib.hid rb; clear hbw rb hgrow5 hown5 hat5) | (go_at_call 8; refine (KR.out _ HM1.out).mono ?_; rintro e w2 ⟨vP, vS, rfl, hw, hb⟩; have HW := Lib.hid (hw.mono HB2.out.size); have hf1 := owns_form hw.parts; have hf2 := owns_form hw.starts; simp only at hf1 hf2; obtain ⟨rP, cP, rfl⟩ := hf1; obtain ⟨rS, cS, rfl⟩ := hf2; have HO2 := Lib.hid (HO1.out.below hb); have HB3 := Lib.hid (HB2.out.trans (hb.mono HB2.out.size)); have HY2 := Lib.hid (HY.out.stay hb); have hrow := HO2.out.row; rw [HPL.out] at hrow; have HRW := Lib.hid hrow; have HSx := Lib.hid (HB3.out.size); clear HS hrow hw hb y0 y1 y2 y3 y4 y5 y6; have HS := HSx; clear HSx))
      have u2 := bytes_app O T
      have HNX : Hid (O ++ T = ((ps ++ [(⟨⟨kd, fr, tg, nm, pl, ss, en⟩, 0, .slice rP pl.length cP, .slice rS ss.length cS⟩ : Om)]).map (·.o)).flatMap textO) := Lib.hid (by
        rw [List.map_append, List.map_cons, List.map_nil, List.flatMap_append, ← HO.out, ← HT.out]; simp)
      have HNL : Hid ((O ++ T).length ≤ 2000000002 * (k + 1)) := Lib.hid (by rw [List.length_append]; omega)
      have s2 : ¬ 9223372036854775807 < O.length + T.length := by omega
      generalize O ++ T = O2 at *
      have HI5 := Lib.hid (HI.out.stay EB.out)
      have HM5 := Lib.hid (HMw.out.stay EB.out)
      have y0 := EX.out.at_ 0 _ rfl
      have y1 := EX.out.at_ 1 _ rfl
      have y2 := EX.out.at_ 2 _ rfl
      have y3 := EX.out.at_ 3 _ rfl
      have y4 := EX.out.at_ 4 _ rfl
      have y5 := EX.out.at_ 5 _ rfl
      have y6 := EX.out.at_ 6 _ rfl
      go_upto_region 14 with (first | (go_at_call 10; refine (KY.out _ _ _ _ (HI5.out.stay HC.out) HV.out).mono ?_; rintro e w7 ⟨rfl, hb⟩; have HC7 := Lib.hid (HC.out.trans (hb.mono HC.out.size)); clear hb) | (go_at_call 8; refine (KR.out _ HM5.out).mono ?_; rintro e w6 ⟨vP', vS', rfl, hw, hb⟩; have HV := Lib.hid hw.opm; have HC := Lib.hid hb; clear hw hb y0 y1 y2 y3 y4 y5 y6))
      have EO7 := Lib.hid (EO.out.below HC7.out)
      have EB7 := Lib.hid (EB.out.trans (HC7.out.mono EB.out.size))
      go_wp2
      go_roundw
      case rel => exact ⟨k + 1, r6, cap6, O2, ps ++ [(⟨⟨kd, fr, tg, nm, pl, ss, en⟩, 0, .slice rP pl.length cP, .slice rS ss.length cS⟩ : Om)], rfl, rfl, by go_num, by omega, HNL.out, Lib.hid (by rw [List.length_append, HPL.out]; rfl), EO7, Lib.hid (mem_snoc HIN.out HOP.out), HNX, EB7⟩
      case measure => simp [RowKit.intOf]; omega
    · obtain rfl : La = k := by omega
      obtain ⟨w9, hw9⟩ : ∃ w9, w9 = wr := ⟨_, rfl⟩
      obtain ⟨rl, hrl⟩ : ∃ z, z = r := ⟨_, rfl⟩
      obtain ⟨cl, hcl⟩ : ∃ z, z = cp := ⟨_, rfl⟩
      obtain ⟨O1, hO1⟩ : ∃ z, z = O := ⟨_, rfl⟩
      obtain ⟨psl, hpsl⟩ : ∃ z, z = ps := ⟨_, rfl⟩
      subst hw9
      subst hrl
      subst hcl
      subst hO1
      subst hpsl
      have HPL1 := HPL
      have HOO1 := HOO
      have HIN1 := HIN
      have HOT1 := HO
      have HB0 := HB
      clear HPL HOO HIN HO HB hlt
      go_upto_region 16 with fail
      go_loopw [10, 12, 49] (fun o s i wr => ∃ (k : Nat) (r : Option Addr) (cp : Nat) (O : List UInt8) (ps : List Om), o = .slice r k cp ∧ s = .string ⟨O.toArray⟩ ∧ i = .int .i64 (k : Int) ∧ k ≤ Lb ∧ O.length ≤ 2000000002 * k ∧ Hid (ps.length = k) ∧ Hid (OOwn w9.heap.size wr (.slice r k cp) ps) ∧ Hid (∀ p ∈ ps, OpIn p.o) ∧ Hid (O = (ps.map (·.o)).flatMap textO) ∧ Hid (Below w.heap.size w wr) ∧ Hid (Below w9.heap.size w9 wr)) (fun _ _ i _ => Lb - (RowKit.intOf i).toNat)
      case atStart => exact ⟨0, none, 0, [], [], rfl, rfl, rfl, Nat.zero_le _, by simp, Lib.hid rfl, Lib.hid (OOwn.nil _ _), Lib.hid (fun p hp => by cases hp), Lib.hid rfl, HB0, Lib.hid (Below.refl _ _)⟩
      case round =>
        obtain ⟨k, r, cp, O, ps, rfl, rfl, rfl, hk, hOl', HPL, HOO, HIN, HO, HB, HB9⟩ := hrel
        rename World => wr
        by_cases hlt : k < Lb
        · obtain ⟨q, hq⟩ : ∃ q, qb[k]? = some q := ⟨qb[k]'(by have := HLb.out; omega), List.getElem?_eq_getElem (by have := HLb.out; omega)⟩
          obtain ⟨g, off, c', hv, _, _, d1, hM⟩ := (HRb.out.stay HB.out).at hq
          have HMw := Lib.hid (HRb.out.2 q (List.mem_of_getElem? hq))
          injection hv with hv1 hv2 hv3
          subst hv1
          clear hv2 hv3 hq
          have a0 := d1 0 _ rfl
          have a1 := d1 1 _ rfl
          have a2 := d1 2 _ rfl
          have a3 := d1 3 _ rfl
          have a4 := d1 4 _ rfl
          have a5 := d1 5 _ rfl
          have a6 := d1 6 _ rfl
          rw [Nat.add_zero] at a0
          have KR := Lib.hid (fun (w' : World) (h : OnM w' q) => raw_c q w' h)
          have HOP := Lib.hid (raw_in hM.ok)
          unfold RawR onV at KR
          obtain ⟨o, ho⟩ : ∃ o, rawO q.x = o := ⟨_, rfl⟩

          rw [ho] at KR HOP
          obtain ⟨T, hT⟩ : ∃ T, textO o = T := ⟨_, rfl⟩
          have HT := Lib.hid hT
          have hTl := text_len HOP.out
          have KY := Lib.hid (fun (ps' : Int) (vP vS : Value) (w' : World) (h1 : InS w') (h2 : OpM w' ⟨o, ps', vP, vS⟩) => ltext_s ⟨o, ps', vP, vS⟩ w' h1 h2 HOP.out)
          simp only [hT] at KY
          rw [hT] at hTl
          clear hT ho d1
          obtain ⟨⟨K0, A0, B0, N0, pp, fi, lo⟩, vQ, vL⟩ := q
          obtain ⟨kd, fr, tg, nm, pl, ss, en⟩ := o
          obtain ⟨rQ, cQ, eQ, _⟩ := hM.parts.form
          obtain ⟨rL, cL, eL, _⟩ := hM.long.form
          simp only at eQ eL
          subst eQ
          subst eL
          clear hM
          unfold opV strV at *
          simp only at KR KY a0 a1 a2 a3 a4 a5 a6
          have hrow := HOO.out.row
          rw [HPL.out] at hrow
          have FY := Lib.hid (owns_far hrow (m := wr.heap.size) (.inr (Nat.le_refl _)))
          clear hrow
          go_upto_region 18 with fail
          have t1 := RBox.new wr [.int .u8 (K0 : Int), .int .u8 (A0 : Int), .int .u8 (B0 : Int), .int .u8 (N0 : Int), (.slice rQ pp.length cQ), .int .i16 fi, (.slice rL lo.length cL)] 29
          have hb0 := (Below.refl wr.heap.size wr).alloc (Nat.le_refl _) (.cells #[.int .u8 (K0 : Int), .int .u8 (A0 : Int), .int .u8 (B0 : Int), .int .u8 (N0 : Int), (.slice rQ pp.length cQ), .int .i16 fi, (.slice rL lo.length cL)] 29)
          have t3 := HOO.out.below hb0
          have t4 := HB.out.alloc HB.out.size (.cells #[.int .u8 (K0 : Int), .int .u8 (A0 : Int), .int .u8 (B0 : Int), .int .u8 (N0 : Int), (.slice rQ pp.length cQ), .int .i16 fi, (.slice rL lo.length cL)] 29)
          have t5 := HB9.out.alloc HB9.out.size (.cells #[.int .u8 (K0 : Int), .int .u8 (A0 : Int), .int .u8 (B0 : Int), .int .u8 (N0 : Int), (.slice rQ pp.length cQ), .int .i16 fi, (.slice rL lo.length cL)] 29)
          have HB9x := Lib.hid t5
          clear t5 HB9
          have HB9 := HB9x
          clear HB9x
          change RBox (wr.alloc (.cells #[.int .u8 (K0 : Int), .int .u8 (A0 : Int), .int .u8 (B0 : Int), .int .u8 (N0 : Int), (.slice rQ pp.length cQ), .int .i16 fi, (.slice rL lo.length cL)] 29)) _ _ at t1
          generalize wr.alloc (.cells #[.int .u8 (K0 : Int), .int .u8 (A0 : Int), .int .u8 (B0 : Int), .int .u8 (N0 : Int), (.slice rQ pp.length cQ), .int .i16 fi, (.slice rL lo.length cL)] 29) = U1 at *
          generalize wr.heap.size = Y at *
          clear a0 a1 a2 a3 a4 a5 a6 HOO HB hb0
          have y0 := t1.at_ 0 _ rfl
          have y1 := t1.at_ 1 _ rfl
          have y2 := t1.at_ 2 _ rfl
          have y3 := t1.at_ 3 _ rfl
          have y4 := t1.at_ 4 _ rfl
          have y5 := t1.at_ 5 _ rfl
          have y6 := t1.at_ 6 _ rfl
          have HY := Lib.hid t1
          have HO1 := Lib.hid t3
          have HB2 := Lib.hid t4
          have HM1 := Lib.hid (HMw.out.stay t4)
          clear t1 t3 t4
          go_upto_region 19 with (go_at_call 8; refine (KR.out _ HM1.out).mono ?_; rintro e w2 ⟨vP, vS, rfl, hw, hb⟩; have HW := Lib.hid (hw.mono HB9.out.size); have hf1 := owns_form hw.parts; have hf2 := owns_form hw.starts; simp only at hf1 hf2; obtain ⟨rP, cP, rfl⟩ := hf1; obtain ⟨rS, cS, rfl⟩ := hf2; have HO2 := Lib.hid (HO1.out.below hb); have HB3 := Lib.hid (HB2.out.trans (hb.mono HB2.out.size)); have HC3 := Lib.hid (HB9.out.trans (hb.mono HB9.out.size)); have hrow := HO2.out.row; rw [HPL.out] at hrow; have FZ := Lib.hid (owns_far hrow (m := w2.heap.size) (.inr (Nat.le_refl _))); clear hrow hw hb y0 y1 y2 y3 y4 y5 y6)
          have b1 := HBox.new w2 [.int .i64 (kd : Int), .int .u32 (fr : Int), .int .u32 (tg : Int), .string ⟨nm.toArray⟩, (.slice rP pl.length cP), (.slice rS ss.length cS), .int .i32 en, .int .i64 0] 38
          have hb0 := (Below.refl w2.heap.size w2).alloc (Nat.le_refl _) (.cells #[.int .i64 (kd : Int), .int .u32 (fr : Int), .int .u32 (tg : Int), .string ⟨nm.toArray⟩, (.slice rP pl.length cP), (.slice rS ss.length cS), .int .i32 en, .int .i64 0] 38)
          have b2 := HW.out.below hb0
          have b3 := HO2.out.below hb0
          have b4 := HB3.out.trans (hb0.mono HB3.out.size)
          have b5 := HC3.out.trans (hb0.mono HC3.out.size)
          have hz3 := HB3.out.size
          have hz4 := HC3.out.size
          change HBox (w2.alloc (.cells #[.int .i64 (kd : Int), .int .u32 (fr : Int), .int .u32 (tg : Int), .string ⟨nm.toArray⟩, (.slice rP pl.length cP), (.slice rS ss.length cS), .int .i32 en, .int .i64 0] 38)) _ _ _ at b1
          generalize w2.alloc (.cells #[.int .i64 (kd : Int), .int .u32 (fr : Int), .int .u32 (tg : Int), .string ⟨nm.toArray⟩, (.slice rP pl.length cP), (.slice rS ss.length cS), .int .i32 en, .int .i64 0] 38) = W at *
          generalize w2.heap.size = Z at *
          have HX := Lib.hid b1
          have HW1 := Lib.hid b2
          have HO3 := Lib.hid b3
          have HB4 := Lib.hid b4
          have HC4 := Lib.hid b5
          clear hb0 b1 b2 b3 b4 b5 HW HO2 HB3 HC3 HM1 HO1 HB2 HB9 KR HY FY
          have z7 := HX.out.cell (j := 7) rfl
          have f7 := HX.out.frozen 7
          obtain ⟨M, hM⟩ : ∃ M : Int, (k : Int) * (tt : Int) = M := ⟨_, rfl⟩
          have hM1 : 0 ≤ M ∧ M ≤ 7680 := by
            have h1 : k * tt ≤ 30 * 256 := Nat.mul_le_mul (by omega) (by omega)
            have h2 : ((k * tt : Nat) : Int) = M := by rw [← hM]; exact Int.natCast_mul k tt
            omega
          have m1 : IntKind.i64.wrap (tt : Int) = (tt : Int) := by rw [IntKind.wrap_i64]; omega
          have m2 : IntKind.i64.wrap M = M := by rw [IntKind.wrap_i64]; omega
          go_upto_region 20 with fail
          have G2 := grown_set1 W Z 7 (.int .i64 M)
          have b1 : HBox (W.setCell ⟨Z, 7, none⟩ (.int .i64 M)) Z [.int .i64 (kd : Int), .int .u32 (fr : Int), .int .u32 (tg : Int), .string ⟨nm.toArray⟩, (.slice rP pl.length cP), (.slice rS ss.length cS), .int .i32 en, .int .i64 M] 38 := HX.out.set 7 _
          have b2 : OpOwn w9.heap.size (W.setCell ⟨Z, 7, none⟩ (.int .i64 M)) (⟨⟨kd, fr, tg, nm, pl, ss, en⟩, M, .slice rP pl.length cP, .slice rS ss.length cS⟩ : Om) := by
            have h := HW1.out.far G2 HX.out
            exact ⟨h.parts, h.starts, h.few⟩
          have b3 := HO3.out.far G2 HX.out FZ.out
          have b4 := HB4.out.grown G2 HB4.out.size (fun j hj => by cases hj; omega)
          have b5 := HC4.out.grown G2 HC4.out.size (fun j hj => by cases hj; omega)
          clear G2 z7 f7 HX HW1 HO3 HB4 HC4
          generalize W.setCell ⟨Z, 7, none⟩ (.int .i64 M) = W2 at *
          have HX := Lib.hid b1
          have HW1 := Lib.hid b2
          have HO3 := Lib.hid b3
          have HB3 := Lib.hid b4
          have HC3 := Lib.hid b5
          have hrow := b3.row
          rw [HPL.out] at hrow
          have HRW := Lib.hid hrow
          have HS := Lib.hid b5.size
          have HWS := Lib.hid HB0.out.size
          clear b1 b2 b3 b4 b5 hrow
          have z0 := HX.out.cell (j := 0) rfl
          have z1 := HX.out.cell (j := 1) rfl
          have z2 := HX.out.cell (j := 2) rfl
          have z3 := HX.out.cell (j := 3) rfl
          have z4 := HX.out.cell (j := 4) rfl
          have z5 := HX.out.cell (j := 5) rfl
          have z6 := HX.out.cell (j := 6) rfl
          have z7 := HX.out.cell (j := 7) rfl
          go_upto_region 21 with (at_builtin; refine wpList_append_own_at _ rfl (.tmp 64) (.tmp 66) 24 rfl w9.heap.size 38 i0 _ 8 96 Tryz.underlying24 hi hz0 hz1 hz2 rfl (by decide) _ k _ rfl (HRW.out.alloc _) ⟨_, 0, none⟩ 1 1 [.int .i64 (kd : Int), .int .u32 (fr : Int), .int .u32 (tg : Int), .string ⟨nm.toArray⟩, (.slice rP pl.length cP), (.slice rS ss.length cS), .int .i32 en, .int .i64 M] rfl rfl (cells_new _ [.int .i64 (kd : Int), .int .u32 (fr : Int), .int .u32 (tg : Int), .string ⟨nm.toArray⟩, (.slice rP pl.length cP), (.slice rS ss.length cS), .int .i32 en, .int .i64 M] _) (fun v hv => by simp at hv; rcases hv with rfl | rfl | rfl | rfl | rfl | rfl | rfl | rfl <;> rfl) (by unfold maxLen; omega) (by omega) (by simp; have := HS.out; omega) ?_; intro v5 w5 hown5 hgrow5 _ hat5; have hbw := (Below.refl W2.heap.size W2).alloc (Nat.le_refl _) (.cells #[.int .i64 (kd : Int), .int .u32 (fr : Int), .int .u32 (tg : Int), .string ⟨nm.toArray⟩, (.slice rP pl.length cP), (.slice rS ss.length cS), .int .i32 en, .int .i64 M] 38); have p1 := oown_push (p := (⟨⟨kd, fr, tg, nm, pl, ss, en⟩, M, .slice rP pl.length cP, .slice rS ss.length cS⟩ : Om)) HPL.out (HO3.out.below hbw) (HW1.out.below hbw) hgrow5 hown5; have rx := (HX.out.stay hbw).grown hgrow5 (fun h => FZ.out h.symm); have rc := (HC3.out.trans (hbw.mono HC3.out.size)).grown hgrow5 (Nat.le_trans HC3.out.size hbw.size) (fun j hj => by have := HRW.out.lt j hj; omega); have EX := Lib.hid rx; have EO := Lib.hid p1; have EC := Lib.hid rc; clear p1 rx rc; have rb := (HB3.out.trans (hbw.mono HB3.out.size)).grown hgrow5 (Nat.le_trans HB3.out.size hbw.size) (fun j hj => by have := HRW.out.lt j hj; have := HWS.out; omega); obtain ⟨r6, cap6, rfl⟩ := owns_form hown5; have EB := Lib.hid rb; clear hbw rb hgrow5 hown5 hat5)
          have u2 := bytes_app O T
          have HNX : Hid (O ++ T = ((ps ++ [(⟨⟨kd, fr, tg, nm, pl, ss, en⟩, M, .slice rP pl.length cP, .slice rS ss.length cS⟩ : Om)]).map (·.o)).flatMap textO) := Lib.hid (by
            rw [List.map_append, List.map_cons, List.map_nil, List.flatMap_append, ← HO.out, ← HT.out]; simp)
          have HNL : Hid ((O ++ T).length ≤ 2000000002 * (k + 1)) := Lib.hid (by rw [List.length_append]; omega)
          have s2 : ¬ 9223372036854775807 < O.length + T.length := by omega
          generalize O ++ T = O2 at *
          have HI5 := Lib.hid (HI.out.stay EB.out)
          have HV := Lib.hid (EO.out.ops (⟨⟨kd, fr, tg, nm, pl, ss, en⟩, M, .slice rP pl.length cP, .slice rS ss.length cS⟩ : Om) (List.mem_append.2 (.inr (List.mem_singleton.2 rfl)))).opm
          clear z0 z1 z2 z3 z4 z5 z6 z7
          have z0 := EX.out.cell (j := 0) rfl
          have z1 := EX.out.cell (j := 1) rfl
          have z2 := EX.out.cell (j := 2) rfl
          have z3 := EX.out.cell (j := 3) rfl
          have z4 := EX.out.cell (j := 4) rfl
          have z5 := EX.out.cell (j := 5) rfl
          have z6 := EX.out.cell (j := 6) rfl
          have z7 := EX.out.cell (j := 7) rfl
          go_upto_region 22 with (go_at_call 10; refine (KY.out _ _ _ _ HI5.out HV.out).mono ?_; rintro e w7 ⟨rfl, hb⟩; have EO7 := Lib.hid (EO.out.below hb); have EB7 := Lib.hid (EB.out.trans (hb.mono EB.out.size)); have EC7 := Lib.hid (EC.out.trans (hb.mono EC.out.size)); clear hb z0 z1 z2 z3 z4 z5 z6 z7)
          go_wp2
          go_roundw
          case rel => exact ⟨k + 1, r6, cap6, O2, ps ++ [(⟨⟨kd, fr, tg, nm, pl, ss, en⟩, M, .slice rP pl.length cP, .slice rS ss.length cS⟩ : Om)], rfl, rfl, by go_num, by omega, HNL.out, Lib.hid (by rw [List.length_append, HPL.out]; rfl), EO7, Lib.hid (mem_snoc HIN.out HOP.out), HNX, EB7, EC7⟩
          case measure => simp [RowKit.intOf]; omega
        · obtain rfl : Lb = k := by omega
          have h1 := (HOO1.out.orow (by rw [HPL1.out]; omega)).stay HB9.out
          have h2 := HOO.out.orow (by rw [HPL.out]; omega)
          have KS := Lib.hid (Same_s _ _ psl ps wr h1 h2)
          have HEQ : Hid (O1 = O ↔ psl.map (·.o) = ps.map (·.o)) := Lib.hid (by
            rw [HOT1.out, HO.out]
            exact ⟨fun h => texts_inj _ _ (fun o ho => by obtain ⟨p, hp, rfl⟩ := List.mem_map.1 ho; exact (HIN1.out p hp).ok) (fun o ho => by obtain ⟨p, hp, rfl⟩ := List.mem_map.1 ho; exact (HIN.out p hp).ok) h, fun h => by rw [h]⟩)
          clear h1 h2 HOT1 HO
          by_cases hO : O1 = O
          · subst hO
            go_wp2_with (first | (go_at_call 15; refine KS.out.mono ?_; rintro e w5 ⟨⟨q, rfl, hq⟩, h5⟩; obtain rfl : q = true := hq.2 (HEQ.out.1 rfl); have HB5 := Lib.hid (HB.out.trans (h5.mono HB.out.size)); clear h5 hq))
            go_ret
            exact ⟨rfl, HB5.out⟩
          · have hne : ¬ ((⟨O1.toArray⟩ : ByteArray) = ⟨O.toArray⟩) := fun h => hO ((bytes_eq _ _).1 h)
            have HNE : Hid (¬ psl.map (·.o) = ps.map (·.o)) := Lib.hid (fun h => hO (HEQ.out.2 h))
            have hne2 : (O1 == O) = false := by simpa using hO
            clear hO
            go_wp2_with (first | (go_at_call 15; refine KS.out.mono ?_; rintro e w5 ⟨⟨q, rfl, hq⟩, h5⟩; obtain rfl : q = false := (by cases q; rfl; exact absurd (hq.1 rfl) HNE.out); have HB5 := Lib.hid (HB.out.trans (h5.mono HB.out.size)); clear h5 hq))
            go_ret
            exact ⟨rfl, HB5.out⟩
set_option maxHeartbeats 8000000 in
set_option maxRecDepth 100000 in
theorem sames_1 (va vb : Value) (qa qb : List Oi) (tt : Nat) (htt : tt < 256) (w : World) (hI : InS w) (hA : SRow w va qa) (hB : SRow w vb qb) (hla : qa.length ≤ 30) (hlb : qb.length ≤ 30) : Calls Tryz.prog 5 #[va, vb, .int .u8 (tt : Int), .bool true] w fun e w' => e = .returned (.bool true) ∧ Below w.heap.size w w' := by
  have hmix : Tryz.prog.follows .mixedOrders = true := by kernel_rfl
  have KA := Lib.hid (awake13_ev w hI)
  have HI := Lib.hid hI
  obtain ⟨ra, ca, rfl, hma⟩ := hA.1.form
  obtain ⟨rb, cb, rfl, hmb⟩ := hB.1.form
  obtain ⟨La, hLa⟩ : ∃ L, qa.length = L := ⟨_, rfl⟩
  obtain ⟨Lb, hLb⟩ : ∃ L, qb.length = L := ⟨_, rfl⟩
  have HLa := Lib.hid hLa
  have HLb := Lib.hid hLb
  have HRa := Lib.hid hA
  have HRb := Lib.hid hB
  rw [hLa] at HRa hla ⊢
  rw [hLb] at HRb hlb ⊢
  clear hI hA hB hLa hLb hma hmb
  have e1 : ¬ (30 : Int) < (La : Int) := by omega
  have e2 : ¬ (30 : Int) < (Lb : Int) := by omega
  go_enter Tryz.func5, Tryz.ntmps5
  go_wp2_with (first | (go_at_call 7; refine KA.out.mono ?_; rintro e w1 ⟨rfl, hb⟩; have HB1 := Lib.hid hb; clear hb))
  obtain ⟨i0, hi, hz0, hz1, hz2⟩ := info_parts infoOp
  go_loopw [9, 11, 32] (fun o s i wr => ∃ (k : Nat) (r : Option Addr) (cp : Nat) (O : List UInt8) (ps : List Om), o = .slice r k cp ∧ s = .string ⟨O.toArray⟩ ∧ i = .int .i64 (k : Int) ∧ k ≤ La ∧ O.length ≤ 2000000002 * k ∧ Hid (ps.length = k) ∧ Hid (OOwn w.heap.size wr (.slice r k cp) ps) ∧ Hid (∀ p ∈ ps, OpIn p.o) ∧ Hid (O = (ps.map (·.o)).flatMap textO) ∧ Hid (Below w.heap.size w wr)) (fun _ _ i _ => La - (RowKit.intOf i).toNat)
  case atStart => exact ⟨0, none, 0, [], [], rfl, rfl, rfl, Nat.zero_le _, by simp, Lib.hid rfl, Lib.hid (OOwn.nil _ _), Lib.hid (fun p hp => by cases hp), Lib.hid rfl, HB1⟩
  case round =>
    obtain ⟨k, r, cp, O, ps, rfl, rfl, rfl, hk, hOl, HPL, HOO, HIN, HO, HB⟩ := hrel
    rename World => wr
    by_cases hlt : k < La
    · obtain ⟨q, hq⟩ : ∃ q, qa[k]? = some q := ⟨qa[k]'(by have := HLa.out; omega), List.getElem?_eq_getElem (by have := HLa.out; omega)⟩
      obtain ⟨g, off, c', hv, _, _, d1, hM⟩ := (HRa.out.stay HB.out).at hq
      have HMw := Lib.hid (HRa.out.2 q (List.mem_of_getElem? hq))
      injection hv with hv1 hv2 hv3
      subst hv1
      clear hv2 hv3 hq
      have a0 := d1 0 _ rfl
      have a1 := d1 1 _ rfl
      have a2 := d1 2 _ rfl
      have a3 := d1 3 _ rfl
      have a4 := d1 4 _ rfl
      have a5 := d1 5 _ rfl
      have a6 := d1 6 _ rfl
      rw [Nat.add_zero] at a0
      have KR := Lib.hid (fun (w' : World) (h : OnM w' q) => raw_c q w' h)
      have HOP := Lib.hid (raw_in hM.ok)
      unfold RawR onV at KR
      obtain ⟨o, ho⟩ : ∃ o, rawO q.x = o := ⟨_, rfl⟩

      rw [ho] at KR HOP
      obtain ⟨T, hT⟩ : ∃ T, textO o = T := ⟨_, rfl⟩
      have HT := Lib.hid hT
      have hTl := text_len HOP.out
      have KY := Lib.hid (fun (ps' : Int) (vP vS : Value) (w' : World) (h1 : InS w') (h2 : OpM w' ⟨o, ps', vP, vS⟩) => ltext_s ⟨o, ps', vP, vS⟩ w' h1 h2 HOP.out)
      simp only [hT] at KY
      rw [hT] at hTl
      clear hT ho d1
      obtain ⟨⟨K0, A0, B0, N0, pp, fi, lo⟩, vQ, vL⟩ := q
      obtain ⟨kd, fr, tg, nm, pl, ss, en⟩ := o
      obtain ⟨rQ, cQ, eQ, _⟩ := hM.parts.form
      obtain ⟨rL, cL, eL, _⟩ := hM.long.form
      simp only at eQ eL
      subst eQ
      subst eL
      clear hM
      unfold opV strV at *
      simp only at KR KY a0 a1 a2 a3 a4 a5 a6
      have hrow := HOO.out.row
      rw [HPL.out] at hrow
      have FY := Lib.hid (owns_far hrow (m := wr.heap.size) (.inr (Nat.le_refl _)))
      clear hrow
      go_upto_region 12 with fail
      have t1 := RBox.new wr [.int .u8 (K0 : Int), .int .u8 (A0 : Int), .int .u8 (B0 : Int), .int .u8 (N0 : Int), (.slice rQ pp.length cQ), .int .i16 fi, (.slice rL lo.length cL)] 29
      have hb0 := (Below.refl wr.heap.size wr).alloc (Nat.le_refl _) (.cells #[.int .u8 (K0 : Int), .int .u8 (A0 : Int), .int .u8 (B0 : Int), .int .u8 (N0 : Int), (.slice rQ pp.length cQ), .int .i16 fi, (.slice rL lo.length cL)] 29)
      have t3 := HOO.out.below hb0
      have t4 := HB.out.alloc HB.out.size (.cells #[.int .u8 (K0 : Int), .int .u8 (A0 : Int), .int .u8 (B0 : Int), .int .u8 (N0 : Int), (.slice rQ pp.length cQ), .int .i16 fi, (.slice rL lo.length cL)] 29)
      change RBox (wr.alloc (.cells #[.int .u8 (K0 : Int), .int .u8 (A0 : Int), .int .u8 (B0 : Int), .int .u8 (N0 : Int), (.slice rQ pp.length cQ), .int .i16 fi, (.slice rL lo.length cL)] 29)) _ _ at t1
      generalize wr.alloc (.cells #[.int .u8 (K0 : Int), .int .u8 (A0 : Int), .int .u8 (B0 : Int), .int .u8 (N0 : Int), (.slice rQ pp.length cQ), .int .i16 fi, (.slice rL lo.length cL)] 29) = U1 at *
      generalize wr.heap.size = Y at *
      clear a0 a1 a2 a3 a4 a5 a6 HOO HB hb0
      have y0 := t1.at_ 0 _ rfl
      have y1 := t1.at_ 1 _ rfl
      have y2 := t1.at_ 2 _ rfl
      have y3 := t1.at_ 3 _ rfl
      have y4 := t1.at_ 4 _ rfl
      have y5 := t1.at_ 5 _ rfl
      have y6 := t1.at_ 6 _ rfl
      have HY := Lib.hid t1
      have HO1 := Lib.hid t3
      have HB2 := Lib.hid t4
      have HM1 := Lib.hid (HMw.out.stay t4)
      clear t1 t3 t4
      have HS := Lib.hid (Nat.le_refl 0)
      have HWS := Lib.hid (Nat.le_refl w.heap.size)
      go_upto_region 13 with (first | (at_builtin; refine wpList_append_own_at _ rfl (.tmp 36) (.tmp 39) 24 rfl w.heap.size 38 i0 _ 8 96 Tryz.underlying24 hi hz0 hz1 hz2 rfl (by decide) _ k _ rfl (HRW.out.alloc _) ⟨_, 0, none⟩ 1 1 [.int .i64 (kd : Int), .int .u32 (fr : Int), .int .u32 (tg : Int), .string ⟨nm.toArray⟩, (.slice rP pl.length cP), (.slice rS ss.length cS), .int .i32 en, .int .i64 0] rfl rfl (cells_new _ [.int .i64 (kd : Int), .int .u32 (fr : Int), .int .u32 (tg : Int), .string ⟨nm.toArray⟩, (.slice rP pl.length cP), (.slice rS ss.length cS), .int .i32 en, .int .i64 0] _) (fun v hv => by simp at hv; rcases hv with rfl | rfl | rfl | rfl | rfl | rfl | rfl | rfl <;> rfl) (by unfold maxLen; omega) (by omega) (by simp; have := HS.out; omega) ?_; intro v5 w5 hown5 hgrow5 _ hat5; have hbw := (Below.refl w2.heap.size w2).alloc (Nat.le_refl _) (.cells #[.int .i64 (kd : Int), .int .u32 (fr : Int), .int .u32 (tg : Int), .string ⟨nm.toArray⟩, (.slice rP pl.length cP), (.slice rS ss.length cS), .int .i32 en, .int .i64 0] 38); have p1 := oown_push (p := (⟨⟨kd, fr, tg, nm, pl, ss, en⟩, 0, .slice rP pl.length cP, .slice rS ss.length cS⟩ : Om)) HPL.out (HO2.out.below hbw) (HW.out.below hbw) hgrow5 hown5; have rx0 := HY2.out.stay hbw; have rx : RBox w5 Y _ := ⟨Nat.lt_of_lt_of_le rx0.size hgrow5.size, fun j v hj => by rw [hgrow5.cell (rx0.at_ j v hj) (fun h => FY.out h.symm)]⟩; have EX := Lib.hid rx; have EO := Lib.hid p1; clear p1 rx0 rx; have rb := (HB3.out.trans (hbw.mono HB3.out.size)).grown hgrow5 (Nat.le_trans HB3.out.size hbw.size) (fun j hj => by have := HRW.out.lt j hj; have := HWS.out; omega); obtain ⟨r6, cap6, rfl⟩ := owns_form hown5; have EB := Lib.hid rb; clear hbw rb hgrow5 hown5 hat5) | (go_at_call 8; refine (KR.out _ HM1.out).mono ?_; rintro e w2 ⟨vP, vS, rfl, hw, hb⟩; have HW := Lib.hid (hw.mono HB2.out.size); have hf1 := owns_form hw.parts; have hf2 := owns_form hw.starts; simp only at hf1 hf2; obtain ⟨rP, cP, rfl⟩ := hf1; obtain ⟨rS, cS, rfl⟩ := hf2; have HO2 := Lib.hid (HO1.out.below hb); have HB3 := Lib.hid (HB2.out.trans (hb.mono HB2.out.size)); have HY2 := Lib.hid (HY.out.stay hb); have hrow := HO2.out.row; rw [HPL.out] at hrow; have HRW := Lib.hid hrow; have HSx := Lib.hid (HB3.out.size); clear HS hrow hw hb y0 y1 y2 y3 y4 y5 y6; have HS := HSx; clear HSx))
      have u2 := bytes_app O T
      have HNX : Hid (O ++ T = ((ps ++ [(⟨⟨kd, fr, tg, nm, pl, ss, en⟩, 0, .slice rP pl.length cP, .slice rS ss.length cS⟩ : Om)]).map (·.o)).flatMap textO) := Lib.hid (by
        rw [List.map_append, List.map_cons, List.map_nil, List.flatMap_append, ← HO.out, ← HT.out]; simp)
      have HNL : Hid ((O ++ T).length ≤ 2000000002 * (k + 1)) := Lib.hid (by rw [List.length_append]; omega)
      have s2 : ¬ 9223372036854775807 < O.length + T.length := by omega
      generalize O ++ T = O2 at *
      have HI5 := Lib.hid (HI.out.stay EB.out)
      have HM5 := Lib.hid (HMw.out.stay EB.out)
      have y0 := EX.out.at_ 0 _ rfl
      have y1 := EX.out.at_ 1 _ rfl
      have y2 := EX.out.at_ 2 _ rfl
      have y3 := EX.out.at_ 3 _ rfl
      have y4 := EX.out.at_ 4 _ rfl
      have y5 := EX.out.at_ 5 _ rfl
      have y6 := EX.out.at_ 6 _ rfl
      go_upto_region 14 with (first | (go_at_call 10; refine (KY.out _ _ _ _ (HI5.out.stay HC.out) HV.out).mono ?_; rintro e w7 ⟨rfl, hb⟩; have HC7 := Lib.hid (HC.out.trans (hb.mono HC.out.size)); clear hb) | (go_at_call 8; refine (KR.out _ HM5.out).mono ?_; rintro e w6 ⟨vP', vS', rfl, hw, hb⟩; have HV := Lib.hid hw.opm; have HC := Lib.hid hb; clear hw hb y0 y1 y2 y3 y4 y5 y6))
      have EO7 := Lib.hid (EO.out.below HC7.out)
      have EB7 := Lib.hid (EB.out.trans (HC7.out.mono EB.out.size))
      go_wp2
      go_roundw
      case rel => exact ⟨k + 1, r6, cap6, O2, ps ++ [(⟨⟨kd, fr, tg, nm, pl, ss, en⟩, 0, .slice rP pl.length cP, .slice rS ss.length cS⟩ : Om)], rfl, rfl, by go_num, by omega, HNL.out, Lib.hid (by rw [List.length_append, HPL.out]; rfl), EO7, Lib.hid (mem_snoc HIN.out HOP.out), HNX, EB7⟩
      case measure => simp [RowKit.intOf]; omega
    · obtain rfl : La = k := by omega
      obtain ⟨w9, hw9⟩ : ∃ w9, w9 = wr := ⟨_, rfl⟩
      obtain ⟨rl, hrl⟩ : ∃ z, z = r := ⟨_, rfl⟩
      obtain ⟨cl, hcl⟩ : ∃ z, z = cp := ⟨_, rfl⟩
      obtain ⟨O1, hO1⟩ : ∃ z, z = O := ⟨_, rfl⟩
      obtain ⟨psl, hpsl⟩ : ∃ z, z = ps := ⟨_, rfl⟩
      subst hw9
      subst hrl
      subst hcl
      subst hO1
      subst hpsl
      have HPL1 := HPL
      have HOO1 := HOO
      have HIN1 := HIN
      have HOT1 := HO
      have HB0 := HB
      clear HPL HOO HIN HO HB hlt
      go_upto_region 16 with fail
      go_loopw [10, 12, 49] (fun o s i wr => ∃ (k : Nat) (r : Option Addr) (cp : Nat) (O : List UInt8) (ps : List Om), o = .slice r k cp ∧ s = .string ⟨O.toArray⟩ ∧ i = .int .i64 (k : Int) ∧ k ≤ La ∧ O.length ≤ 2000000002 * k ∧ Hid (ps.length = k) ∧ Hid (OOwn w9.heap.size wr (.slice r k cp) ps) ∧ Hid (∀ p ∈ ps, OpIn p.o) ∧ Hid (O = (ps.map (·.o)).flatMap textO) ∧ Hid (Below w.heap.size w wr) ∧ Hid (Below w9.heap.size w9 wr)) (fun _ _ i _ => La - (RowKit.intOf i).toNat)
      case atStart => exact ⟨0, none, 0, [], [], rfl, rfl, rfl, Nat.zero_le _, by simp, Lib.hid rfl, Lib.hid (OOwn.nil _ _), Lib.hid (fun p hp => by cases hp), Lib.hid rfl, HB0, Lib.hid (Below.refl _ _)⟩
      case round =>
        obtain ⟨k, r, cp, O, ps, rfl, rfl, rfl, hk, hOl', HPL, HOO, HIN, HO, HB, HB9⟩ := hrel
        rename World => wr
        by_cases hlt : k < La
        · obtain ⟨q, hq⟩ : ∃ q, qa[k]? = some q := ⟨qa[k]'(by have := HLa.out; omega), List.getElem?_eq_getElem (by have := HLa.out; omega)⟩
          obtain ⟨g, off, c', hv, _, _, d1, hM⟩ := (HRa.out.stay HB.out).at hq
          have HMw := Lib.hid (HRa.out.2 q (List.mem_of_getElem? hq))
          injection hv with hv1 hv2 hv3
          subst hv1
          clear hv2 hv3 hq
          have a0 := d1 0 _ rfl
          have a1 := d1 1 _ rfl
          have a2 := d1 2 _ rfl
          have a3 := d1 3 _ rfl
          have a4 := d1 4 _ rfl
          have a5 := d1 5 _ rfl
          have a6 := d1 6 _ rfl
          rw [Nat.add_zero] at a0
          have KR := Lib.hid (fun (w' : World) (h : OnM w' q) => raw_c q w' h)
          have HOP := Lib.hid (raw_in hM.ok)
          unfold RawR onV at KR
          obtain ⟨o, ho⟩ : ∃ o, rawO q.x = o := ⟨_, rfl⟩

          rw [ho] at KR HOP
          obtain ⟨T, hT⟩ : ∃ T, textO o = T := ⟨_, rfl⟩
          have HT := Lib.hid hT
          have hTl := text_len HOP.out
          have KY := Lib.hid (fun (ps' : Int) (vP vS : Value) (w' : World) (h1 : InS w') (h2 : OpM w' ⟨o, ps', vP, vS⟩) => ltext_s ⟨o, ps', vP, vS⟩ w' h1 h2 HOP.out)
          simp only [hT] at KY
          rw [hT] at hTl
          clear hT ho d1
          obtain ⟨⟨K0, A0, B0, N0, pp, fi, lo⟩, vQ, vL⟩ := q
          obtain ⟨kd, fr, tg, nm, pl, ss, en⟩ := o
          obtain ⟨rQ, cQ, eQ, _⟩ := hM.parts.form
          obtain ⟨rL, cL, eL, _⟩ := hM.long.form
          simp only at eQ eL
          subst eQ
          subst eL
          clear hM
          unfold opV strV at *
          simp only at KR KY a0 a1 a2 a3 a4 a5 a6
          have hrow := HOO.out.row
          rw [HPL.out] at hrow
          have FY := Lib.hid (owns_far hrow (m := wr.heap.size) (.inr (Nat.le_refl _)))
          clear hrow
          go_upto_region 18 with fail
          have t1 := RBox.new wr [.int .u8 (K0 : Int), .int .u8 (A0 : Int), .int .u8 (B0 : Int), .int .u8 (N0 : Int), (.slice rQ pp.length cQ), .int .i16 fi, (.slice rL lo.length cL)] 29
          have hb0 := (Below.refl wr.heap.size wr).alloc (Nat.le_refl _) (.cells #[.int .u8 (K0 : Int), .int .u8 (A0 : Int), .int .u8 (B0 : Int), .int .u8 (N0 : Int), (.slice rQ pp.length cQ), .int .i16 fi, (.slice rL lo.length cL)] 29)
          have t3 := HOO.out.below hb0
          have t4 := HB.out.alloc HB.out.size (.cells #[.int .u8 (K0 : Int), .int .u8 (A0 : Int), .int .u8 (B0 : Int), .int .u8 (N0 : Int), (.slice rQ pp.length cQ), .int .i16 fi, (.slice rL lo.length cL)] 29)
          have t5 := HB9.out.alloc HB9.out.size (.cells #[.int .u8 (K0 : Int), .int .u8 (A0 : Int), .int .u8 (B0 : Int), .int .u8 (N0 : Int), (.slice rQ pp.length cQ), .int .i16 fi, (.slice rL lo.length cL)] 29)
          have HB9x := Lib.hid t5
          clear t5 HB9
          have HB9 := HB9x
          clear HB9x
          change RBox (wr.alloc (.cells #[.int .u8 (K0 : Int), .int .u8 (A0 : Int), .int .u8 (B0 : Int), .int .u8 (N0 : Int), (.slice rQ pp.length cQ), .int .i16 fi, (.slice rL lo.length cL)] 29)) _ _ at t1
          generalize wr.alloc (.cells #[.int .u8 (K0 : Int), .int .u8 (A0 : Int), .int .u8 (B0 : Int), .int .u8 (N0 : Int), (.slice rQ pp.length cQ), .int .i16 fi, (.slice rL lo.length cL)] 29) = U1 at *
          generalize wr.heap.size = Y at *
          clear a0 a1 a2 a3 a4 a5 a6 HOO HB hb0
          have y0 := t1.at_ 0 _ rfl
          have y1 := t1.at_ 1 _ rfl
          have y2 := t1.at_ 2 _ rfl
          have y3 := t1.at_ 3 _ rfl
          have y4 := t1.at_ 4 _ rfl
          have y5 := t1.at_ 5 _ rfl
          have y6 := t1.at_ 6 _ rfl
          have HY := Lib.hid t1
          have HO1 := Lib.hid t3
          have HB2 := Lib.hid t4
          have HM1 := Lib.hid (HMw.out.stay t4)
          clear t1 t3 t4
          go_upto_region 19 with (go_at_call 8; refine (KR.out _ HM1.out).mono ?_; rintro e w2 ⟨vP, vS, rfl, hw, hb⟩; have HW := Lib.hid (hw.mono HB9.out.size); have hf1 := owns_form hw.parts; have hf2 := owns_form hw.starts; simp only at hf1 hf2; obtain ⟨rP, cP, rfl⟩ := hf1; obtain ⟨rS, cS, rfl⟩ := hf2; have HO2 := Lib.hid (HO1.out.below hb); have HB3 := Lib.hid (HB2.out.trans (hb.mono HB2.out.size)); have HC3 := Lib.hid (HB9.out.trans (hb.mono HB9.out.size)); have hrow := HO2.out.row; rw [HPL.out] at hrow; have FZ := Lib.hid (owns_far hrow (m := w2.heap.size) (.inr (Nat.le_refl _))); clear hrow hw hb y0 y1 y2 y3 y4 y5 y6)
          have b1 := HBox.new w2 [.int .i64 (kd : Int), .int .u32 (fr : Int), .int .u32 (tg : Int), .string ⟨nm.toArray⟩, (.slice rP pl.length cP), (.slice rS ss.length cS), .int .i32 en, .int .i64 0] 38
          have hb0 := (Below.refl w2.heap.size w2).alloc (Nat.le_refl _) (.cells #[.int .i64 (kd : Int), .int .u32 (fr : Int), .int .u32 (tg : Int), .string ⟨nm.toArray⟩, (.slice rP pl.length cP), (.slice rS ss.length cS), .int .i32 en, .int .i64 0] 38)
          have b2 := HW.out.below hb0
          have b3 := HO2.out.below hb0
          have b4 := HB3.out.trans (hb0.mono HB3.out.size)
          have b5 := HC3.out.trans (hb0.mono HC3.out.size)
          have hz3 := HB3.out.size
          have hz4 := HC3.out.size
          change HBox (w2.alloc (.cells #[.int .i64 (kd : Int), .int .u32 (fr : Int), .int .u32 (tg : Int), .string ⟨nm.toArray⟩, (.slice rP pl.length cP), (.slice rS ss.length cS), .int .i32 en, .int .i64 0] 38)) _ _ _ at b1
          generalize w2.alloc (.cells #[.int .i64 (kd : Int), .int .u32 (fr : Int), .int .u32 (tg : Int), .string ⟨nm.toArray⟩, (.slice rP pl.length cP), (.slice rS ss.length cS), .int .i32 en, .int .i64 0] 38) = W at *
          generalize w2.heap.size = Z at *
          have HX := Lib.hid b1
          have HW1 := Lib.hid b2
          have HO3 := Lib.hid b3
          have HB4 := Lib.hid b4
          have HC4 := Lib.hid b5
          clear hb0 b1 b2 b3 b4 b5 HW HO2 HB3 HC3 HM1 HO1 HB2 HB9 KR HY FY
          have z7 := HX.out.cell (j := 7) rfl
          have f7 := HX.out.frozen 7
          obtain ⟨M, hM⟩ : ∃ M : Int, (k : Int) * (tt : Int) = M := ⟨_, rfl⟩
          have hM1 : 0 ≤ M ∧ M ≤ 7680 := by
            have h1 : k * tt ≤ 30 * 256 := Nat.mul_le_mul (by omega) (by omega)
            have h2 : ((k * tt : Nat) : Int) = M := by rw [← hM]; exact Int.natCast_mul k tt
            omega
          have m1 : IntKind.i64.wrap (tt : Int) = (tt : Int) := by rw [IntKind.wrap_i64]; omega
          have m2 : IntKind.i64.wrap M = M := by rw [IntKind.wrap_i64]; omega
          go_upto_region 20 with fail
          have G2 := grown_set1 W Z 7 (.int .i64 M)
          have b1 : HBox (W.setCell ⟨Z, 7, none⟩ (.int .i64 M)) Z [.int .i64 (kd : Int), .int .u32 (fr : Int), .int .u32 (tg : Int), .string ⟨nm.toArray⟩, (.slice rP pl.length cP), (.slice rS ss.length cS), .int .i32 en, .int .i64 M] 38 := HX.out.set 7 _
          have b2 : OpOwn w9.heap.size (W.setCell ⟨Z, 7, none⟩ (.int .i64 M)) (⟨⟨kd, fr, tg, nm, pl, ss, en⟩, M, .slice rP pl.length cP, .slice rS ss.length cS⟩ : Om) := by
            have h := HW1.out.far G2 HX.out
            exact ⟨h.parts, h.starts, h.few⟩
          have b3 := HO3.out.far G2 HX.out FZ.out
          have b4 := HB4.out.grown G2 HB4.out.size (fun j hj => by cases hj; omega)
          have b5 := HC4.out.grown G2 HC4.out.size (fun j hj => by cases hj; omega)
          clear G2 z7 f7 HX HW1 HO3 HB4 HC4
          generalize W.setCell ⟨Z, 7, none⟩ (.int .i64 M) = W2 at *
          have HX := Lib.hid b1
          have HW1 := Lib.hid b2
          have HO3 := Lib.hid b3
          have HB3 := Lib.hid b4
          have HC3 := Lib.hid b5
          have hrow := b3.row
          rw [HPL.out] at hrow
          have HRW := Lib.hid hrow
          have HS := Lib.hid b5.size
          have HWS := Lib.hid HB0.out.size
          clear b1 b2 b3 b4 b5 hrow
          have z0 := HX.out.cell (j := 0) rfl
          have z1 := HX.out.cell (j := 1) rfl
          have z2 := HX.out.cell (j := 2) rfl
          have z3 := HX.out.cell (j := 3) rfl
          have z4 := HX.out.cell (j := 4) rfl
          have z5 := HX.out.cell (j := 5) rfl
          have z6 := HX.out.cell (j := 6) rfl
          have z7 := HX.out.cell (j := 7) rfl
          go_upto_region 21 with (at_builtin; refine wpList_append_own_at _ rfl (.tmp 64) (.tmp 66) 24 rfl w9.heap.size 38 i0 _ 8 96 Tryz.underlying24 hi hz0 hz1 hz2 rfl (by decide) _ k _ rfl (HRW.out.alloc _) ⟨_, 0, none⟩ 1 1 [.int .i64 (kd : Int), .int .u32 (fr : Int), .int .u32 (tg : Int), .string ⟨nm.toArray⟩, (.slice rP pl.length cP), (.slice rS ss.length cS), .int .i32 en, .int .i64 M] rfl rfl (cells_new _ [.int .i64 (kd : Int), .int .u32 (fr : Int), .int .u32 (tg : Int), .string ⟨nm.toArray⟩, (.slice rP pl.length cP), (.slice rS ss.length cS), .int .i32 en, .int .i64 M] _) (fun v hv => by simp at hv; rcases hv with rfl | rfl | rfl | rfl | rfl | rfl | rfl | rfl <;> rfl) (by unfold maxLen; omega) (by omega) (by simp; have := HS.out; omega) ?_; intro v5 w5 hown5 hgrow5 _ hat5; have hbw := (Below.refl W2.heap.size W2).alloc (Nat.le_refl _) (.cells #[.int .i64 (kd : Int), .int .u32 (fr : Int), .int .u32 (tg : Int), .string ⟨nm.toArray⟩, (.slice rP pl.length cP), (.slice rS ss.length cS), .int .i32 en, .int .i64 M] 38); have p1 := oown_push (p := (⟨⟨kd, fr, tg, nm, pl, ss, en⟩, M, .slice rP pl.length cP, .slice rS ss.length cS⟩ : Om)) HPL.out (HO3.out.below hbw) (HW1.out.below hbw) hgrow5 hown5; have rx := (HX.out.stay hbw).grown hgrow5 (fun h => FZ.out h.symm); have rc := (HC3.out.trans (hbw.mono HC3.out.size)).grown hgrow5 (Nat.le_trans HC3.out.size hbw.size) (fun j hj => by have := HRW.out.lt j hj; omega); have EX := Lib.hid rx; have EO := Lib.hid p1; have EC := Lib.hid rc; clear p1 rx rc; have rb := (HB3.out.trans (hbw.mono HB3.out.size)).grown hgrow5 (Nat.le_trans HB3.out.size hbw.size) (fun j hj => by have := HRW.out.lt j hj; have := HWS.out; omega); obtain ⟨r6, cap6, rfl⟩ := owns_form hown5; have EB := Lib.hid rb; clear hbw rb hgrow5 hown5 hat5)
          have u2 := bytes_app O T
          have HNX : Hid (O ++ T = ((ps ++ [(⟨⟨kd, fr, tg, nm, pl, ss, en⟩, M, .slice rP pl.length cP, .slice rS ss.length cS⟩ : Om)]).map (·.o)).flatMap textO) := Lib.hid (by
            rw [List.map_append, List.map_cons, List.map_nil, List.flatMap_append, ← HO.out, ← HT.out]; simp)
          have HNL : Hid ((O ++ T).length ≤ 2000000002 * (k + 1)) := Lib.hid (by rw [List.length_append]; omega)
          have s2 : ¬ 9223372036854775807 < O.length + T.length := by omega
          generalize O ++ T = O2 at *
          have HI5 := Lib.hid (HI.out.stay EB.out)
          have HV := Lib.hid (EO.out.ops (⟨⟨kd, fr, tg, nm, pl, ss, en⟩, M, .slice rP pl.length cP, .slice rS ss.length cS⟩ : Om) (List.mem_append.2 (.inr (List.mem_singleton.2 rfl)))).opm
          clear z0 z1 z2 z3 z4 z5 z6 z7
          have z0 := EX.out.cell (j := 0) rfl
          have z1 := EX.out.cell (j := 1) rfl
          have z2 := EX.out.cell (j := 2) rfl
          have z3 := EX.out.cell (j := 3) rfl
          have z4 := EX.out.cell (j := 4) rfl
          have z5 := EX.out.cell (j := 5) rfl
          have z6 := EX.out.cell (j := 6) rfl
          have z7 := EX.out.cell (j := 7) rfl
          go_upto_region 22 with (go_at_call 10; refine (KY.out _ _ _ _ HI5.out HV.out).mono ?_; rintro e w7 ⟨rfl, hb⟩; have EO7 := Lib.hid (EO.out.below hb); have EB7 := Lib.hid (EB.out.trans (hb.mono EB.out.size)); have EC7 := Lib.hid (EC.out.trans (hb.mono EC.out.size)); clear hb z0 z1 z2 z3 z4 z5 z6 z7)
          go_wp2
          go_roundw
          case rel => exact ⟨k + 1, r6, cap6, O2, ps ++ [(⟨⟨kd, fr, tg, nm, pl, ss, en⟩, M, .slice rP pl.length cP, .slice rS ss.length cS⟩ : Om)], rfl, rfl, by go_num, by omega, HNL.out, Lib.hid (by rw [List.length_append, HPL.out]; rfl), EO7, Lib.hid (mem_snoc HIN.out HOP.out), HNX, EB7, EC7⟩
          case measure => simp [RowKit.intOf]; omega
        · obtain rfl : La = k := by omega
          have h1 := (HOO1.out.orow (by rw [HPL1.out]; omega)).stay HB9.out
          have h2 := HOO.out.orow (by rw [HPL.out]; omega)
          have KS := Lib.hid (Same_s _ _ psl ps wr h1 h2)
          have HEQ : Hid (O1 = O ↔ psl.map (·.o) = ps.map (·.o)) := Lib.hid (by
            rw [HOT1.out, HO.out]
            exact ⟨fun h => texts_inj _ _ (fun o ho => by obtain ⟨p, hp, rfl⟩ := List.mem_map.1 ho; exact (HIN1.out p hp).ok) (fun o ho => by obtain ⟨p, hp, rfl⟩ := List.mem_map.1 ho; exact (HIN.out p hp).ok) h, fun h => by rw [h]⟩)
          clear h1 h2 HOT1 HO
          by_cases hO : O1 = O
          · subst hO
            go_wp2_with (first | (go_at_call 15; refine KS.out.mono ?_; rintro e w5 ⟨⟨q, rfl, hq⟩, h5⟩; obtain rfl : q = true := hq.2 (HEQ.out.1 rfl); have HB5 := Lib.hid (HB.out.trans (h5.mono HB.out.size)); clear h5 hq))
            go_ret
            exact ⟨rfl, HB5.out⟩
          · have hne : ¬ ((⟨O1.toArray⟩ : ByteArray) = ⟨O.toArray⟩) := fun h => hO ((bytes_eq _ _).1 h)
            have HNE : Hid (¬ psl.map (·.o) = ps.map (·.o)) := Lib.hid (fun h => hO (HEQ.out.2 h))
            have hne2 : (O1 == O) = false := by simpa using hO
            clear hO
            go_wp2_with (first | (go_at_call 15; refine KS.out.mono ?_; rintro e w5 ⟨⟨q, rfl, hq⟩, h5⟩; obtain rfl : q = false := (by cases q; rfl; exact absurd (hq.1 rfl) HNE.out); have HB5 := Lib.hid (HB.out.trans (h5.mono HB.out.size)); clear h5 hq))
            go_ret
            exact ⟨rfl, HB5.out⟩
end Go.Proofs.YthmeoccecoldeaaGreatDoor

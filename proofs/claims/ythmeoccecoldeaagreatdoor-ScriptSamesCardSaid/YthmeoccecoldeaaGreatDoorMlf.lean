/- The walk of law ScriptJoins. -/
import Derived.Test.YthmeoccecoldeaaGreatDoorMlb
import Derived.Test.YthmeoccecoldeaaGreatDoorMle
import Derived.Test.YthmeoccecoldeaaGreatDoorEwz
namespace Go.Proofs.YthmeoccecoldeaaGreatDoor
open Go.RowKit Go.Lib Go.Sort
set_option linter.unusedVariables false
set_option linter.unusedSimpArgs false
set_option maxHeartbeats 8000000 in
set_option maxRecDepth 100000 in
theorem joins_in (va vb : Value) (qa qb : List Oi) (w : World) (hI : InS w) (hA : SRow w va qa) (hB : SRow w vb qb) (hla : qa.length ≤ 30) (hlb : qb.length ≤ 30) : Calls Tryz.prog 6 #[va, vb] w fun e w' => e = .returned (.bool true) ∧ Below w.heap.size w w' := by
  have hmix : Tryz.prog.follows .mixedOrders = true := by kernel_rfl
  have KA := Lib.hid (awake13_ev w hI)
  have HI := Lib.hid hI
  obtain ⟨ra, ca, rfl, hma⟩ := hA.1.form
  obtain ⟨rb, cb, rfl, hmb⟩ := hB.1.form
  obtain ⟨La, hLa⟩ : ∃ L, qa.length = L := ⟨_, rfl⟩
  obtain ⟨Lb, hLb⟩ : ∃ L, qb.length = L := ⟨_, rfl⟩
  have HLa := Lib.hid hLa
  have HLb := Lib.hid hLb
  have HRa := Lib.hid hA
  have HRb := Lib.hid hB
  rw [hLa] at HRa hla ⊢
  rw [hLb] at HRb hlb ⊢
  clear hI hA hB hLa hLb hma hmb
  have e1 : ¬ (30 : Int) < (La : Int) := by omega
  have e2 : ¬ (30 : Int) < (Lb : Int) := by omega
  go_enter Tryz.func6, Tryz.ntmps6
  go_wp2_with (first | (go_at_call 7; refine KA.out.mono ?_; rintro e w1 ⟨rfl, hb⟩; have HB1 := Lib.hid hb; clear hb))
  obtain ⟨i0, hi, hz0, hz1, hz2⟩ := info_parts infoOp
  go_loopw [5, 24] (fun o i wr => ∃ (k : Nat) (r : Option Addr) (cp : Nat) (ps : List Om), o = .slice r k cp ∧ i = .int .i64 (k : Int) ∧ k ≤ La ∧ Hid (ps.length = k) ∧ Hid (OOwn w.heap.size wr (.slice r k cp) ps) ∧ Hid (∀ p ∈ ps, OpJ p.o) ∧ Hid (Below w.heap.size w wr)) (fun _ i _ => La - (RowKit.intOf i).toNat)
  case atStart => exact ⟨0, none, 0, [], rfl, rfl, Nat.zero_le _, Lib.hid rfl, Lib.hid (OOwn.nil _ _), Lib.hid (fun p hp => by cases hp), HB1⟩
  case round =>
    obtain ⟨k, r, cp, ps, rfl, rfl, hk, HPL, HOO, HIN, HB⟩ := hrel
    rename World => wr
    by_cases hlt : k < La
    · obtain ⟨q, hq⟩ : ∃ q, qa[k]? = some q := ⟨qa[k]'(by have := HLa.out; omega), List.getElem?_eq_getElem (by have := HLa.out; omega)⟩
      obtain ⟨g, off, c', hv, _, _, d1, hM⟩ := (HRa.out.stay HB.out).at hq
      have HMw := Lib.hid (HRa.out.2 q (List.mem_of_getElem? hq))
      injection hv with hv1 hv2 hv3
      subst hv1
      clear hv2 hv3 hq
      have a0 := d1 0 _ rfl
      have a1 := d1 1 _ rfl
      have a2 := d1 2 _ rfl
      have a3 := d1 3 _ rfl
      have a4 := d1 4 _ rfl
      have a5 := d1 5 _ rfl
      have a6 := d1 6 _ rfl
      rw [Nat.add_zero] at a0
      have KR := Lib.hid (fun (w' : World) (h : OnM w' q) => raw_c q w' h)
      have HOP := Lib.hid (raw_in hM.ok)
      unfold RawR onV at KR
      obtain ⟨o, ho⟩ : ∃ o, rawO q.x = o := ⟨_, rfl⟩
      have HOJ := Lib.hid (raw_j hM.ok)
      rw [ho] at KR HOP HOJ
      obtain ⟨T, hT⟩ : ∃ T, textO o = T := ⟨_, rfl⟩
      have HT := Lib.hid hT
      have hTl := text_len HOP.out
      rw [hT] at hTl
      clear hT ho d1
      obtain ⟨⟨K0, A0, B0, N0, pp, fi, lo⟩, vQ, vL⟩ := q
      obtain ⟨kd, fr, tg, nm, pl, ss, en⟩ := o
      obtain ⟨rQ, cQ, eQ, _⟩ := hM.parts.form
      obtain ⟨rL, cL, eL, _⟩ := hM.long.form
      simp only at eQ eL
      subst eQ
      subst eL
      clear hM
      unfold opV strV at *
      simp only at KR a0 a1 a2 a3 a4 a5 a6
      have hrow := HOO.out.row
      rw [HPL.out] at hrow
      have FY := Lib.hid (owns_far hrow (m := wr.heap.size) (.inr (Nat.le_refl _)))
      clear hrow
      go_upto_region 9 with fail
      have t1 := RBox.new wr [.int .u8 (K0 : Int), .int .u8 (A0 : Int), .int .u8 (B0 : Int), .int .u8 (N0 : Int), (.slice rQ pp.length cQ), .int .i16 fi, (.slice rL lo.length cL)] 29
      have hb0 := (Below.refl wr.heap.size wr).alloc (Nat.le_refl _) (.cells #[.int .u8 (K0 : Int), .int .u8 (A0 : Int), .int .u8 (B0 : Int), .int .u8 (N0 : Int), (.slice rQ pp.length cQ), .int .i16 fi, (.slice rL lo.length cL)] 29)
      have t3 := HOO.out.below hb0
      have t4 := HB.out.alloc HB.out.size (.cells #[.int .u8 (K0 : Int), .int .u8 (A0 : Int), .int .u8 (B0 : Int), .int .u8 (N0 : Int), (.slice rQ pp.length cQ), .int .i16 fi, (.slice rL lo.length cL)] 29)
      change RBox (wr.alloc (.cells #[.int .u8 (K0 : Int), .int .u8 (A0 : Int), .int .u8 (B0 : Int), .int .u8 (N0 : Int), (.slice rQ pp.length cQ), .int .i16 fi, (.slice rL lo.length cL)] 29)) _ _ at t1
      generalize wr.alloc (.cells #[.int .u8 (K0 : Int), .int .u8 (A0 : Int), .int .u8 (B0 : Int), .int .u8 (N0 : Int), (.slice rQ pp.length cQ), .int .i16 fi, (.slice rL lo.length cL)] 29) = U1 at *
      generalize wr.heap.size = Y at *
      clear a0 a1 a2 a3 a4 a5 a6 HOO HB hb0
      have y0 := t1.at_ 0 _ rfl
      have y1 := t1.at_ 1 _ rfl
      have y2 := t1.at_ 2 _ rfl
      have y3 := t1.at_ 3 _ rfl
      have y4 := t1.at_ 4 _ rfl
      have y5 := t1.at_ 5 _ rfl
      have y6 := t1.at_ 6 _ rfl
      have HY := Lib.hid t1
      have HO1 := Lib.hid t3
      have HB2 := Lib.hid t4
      have HM1 := Lib.hid (HMw.out.stay t4)
      clear t1 t3 t4
      have HS := Lib.hid (Nat.le_refl 0)
      have HWS := Lib.hid (Nat.le_refl w.heap.size)
      go_upto_region 10 with (first | (at_builtin; refine wpList_append_own_at _ rfl (.tmp 28) (.tmp 31) 24 rfl w.heap.size 38 i0 _ 8 96 Tryz.underlying24 hi hz0 hz1 hz2 rfl (by decide) _ k _ rfl (HRW.out.alloc _) ⟨_, 0, none⟩ 1 1 [.int .i64 (kd : Int), .int .u32 (fr : Int), .int .u32 (tg : Int), .string ⟨nm.toArray⟩, (.slice rP pl.length cP), (.slice rS ss.length cS), .int .i32 en, .int .i64 0] rfl rfl (cells_new _ [.int .i64 (kd : Int), .int .u32 (fr : Int), .int .u32 (tg : Int), .string ⟨nm.toArray⟩, (.slice rP pl.length cP), (.slice rS ss.length cS), .int .i32 en, .int .i64 0] _) (fun v hv => by simp at hv; rcases hv with rfl | rfl | rfl | rfl | rfl | rfl | rfl | rfl <;> rfl) (by unfold maxLen; omega) (by omega) (by simp; have := HS.out; omega) ?_; intro v5 w5 hown5 hgrow5 _ hat5; have hbw := (Below.refl w2.heap.size w2).alloc (Nat.le_refl _) (.cells #[.int .i64 (kd : Int), .int .u32 (fr : Int), .int .u32 (tg : Int), .string ⟨nm.toArray⟩, (.slice rP pl.length cP), (.slice rS ss.length cS), .int .i32 en, .int .i64 0] 38); have p1 := oown_push (p := (⟨⟨kd, fr, tg, nm, pl, ss, en⟩, 0, .slice rP pl.length cP, .slice rS ss.length cS⟩ : Om)) HPL.out (HO2.out.below hbw) (HW.out.below hbw) hgrow5 hown5; have rx0 := HY2.out.stay hbw; have rx : RBox w5 Y _ := ⟨Nat.lt_of_lt_of_le rx0.size hgrow5.size, fun j v hj => by rw [hgrow5.cell (rx0.at_ j v hj) (fun h => FY.out h.symm)]⟩; have EX := Lib.hid rx; have EO := Lib.hid p1; clear p1 rx0 rx; have rb := (HB3.out.trans (hbw.mono HB3.out.size)).grown hgrow5 (Nat.le_trans HB3.out.size hbw.size) (fun j hj => by have := HRW.out.lt j hj; have := HWS.out; omega); obtain ⟨r6, cap6, rfl⟩ := owns_form hown5; have EB := Lib.hid rb; clear hbw rb hgrow5 hown5 hat5) | (go_at_call 8; refine (KR.out _ HM1.out).mono ?_; rintro e w2 ⟨vP, vS, rfl, hw, hb⟩; have HW := Lib.hid (hw.mono HB2.out.size); have hf1 := owns_form hw.parts; have hf2 := owns_form hw.starts; simp only at hf1 hf2; obtain ⟨rP, cP, rfl⟩ := hf1; obtain ⟨rS, cS, rfl⟩ := hf2; have HO2 := Lib.hid (HO1.out.below hb); have HB3 := Lib.hid (HB2.out.trans (hb.mono HB2.out.size)); have HY2 := Lib.hid (HY.out.stay hb); have hrow := HO2.out.row; rw [HPL.out] at hrow; have HRW := Lib.hid hrow; have HSx := Lib.hid (HB3.out.size); clear HS hrow hw hb y0 y1 y2 y3 y4 y5 y6; have HS := HSx; clear HSx))
      go_wp2
      go_roundw
      case rel => exact ⟨k + 1, r6, cap6, ps ++ [(⟨⟨kd, fr, tg, nm, pl, ss, en⟩, 0, .slice rP pl.length cP, .slice rS ss.length cS⟩ : Om)], rfl, by go_num, by omega, Lib.hid (by rw [List.length_append, HPL.out]; rfl), EO, Lib.hid (mem_snocJ HIN.out HOJ.out), EB⟩
      case measure => simp [RowKit.intOf]; omega
    · obtain rfl : La = k := by omega
      obtain ⟨w9, hw9⟩ : ∃ w9, w9 = wr := ⟨_, rfl⟩
      obtain ⟨rl, hrl⟩ : ∃ z, z = r := ⟨_, rfl⟩
      obtain ⟨cl, hcl⟩ : ∃ z, z = cp := ⟨_, rfl⟩
      obtain ⟨psl, hpsl⟩ : ∃ z, z = ps := ⟨_, rfl⟩
      subst hw9
      subst hrl
      subst hcl
      subst hpsl
      have HPL1 := HPL
      have HOO1 := HOO
      have HIN1 := HIN
      have HB0 := HB
      clear HPL HOO HIN HB hlt
      go_upto_region 12 with fail
      go_loopw [6, 36] (fun o i wr => ∃ (k : Nat) (r : Option Addr) (cp : Nat) (ps : List Om), o = .slice r k cp ∧ i = .int .i64 (k : Int) ∧ k ≤ Lb ∧ Hid (ps.length = k) ∧ Hid (OOwn w9.heap.size wr (.slice r k cp) ps) ∧ Hid (∀ p ∈ ps, OpJ p.o) ∧ Hid (Below w.heap.size w wr) ∧ Hid (Below w9.heap.size w9 wr)) (fun _ i _ => Lb - (RowKit.intOf i).toNat)
      case atStart => exact ⟨0, none, 0, [], rfl, rfl, Nat.zero_le _, Lib.hid rfl, Lib.hid (OOwn.nil _ _), Lib.hid (fun p hp => by cases hp), HB0, Lib.hid (Below.refl _ _)⟩
      case round =>
        obtain ⟨k, r, cp, ps, rfl, rfl, hk, HPL, HOO, HIN, HB, HB9⟩ := hrel
        rename World => wr
        by_cases hlt : k < Lb
        · obtain ⟨q, hq⟩ : ∃ q, qb[k]? = some q := ⟨qb[k]'(by have := HLb.out; omega), List.getElem?_eq_getElem (by have := HLb.out; omega)⟩
          obtain ⟨g, off, c', hv, _, _, d1, hM⟩ := (HRb.out.stay HB.out).at hq
          have HMw := Lib.hid (HRb.out.2 q (List.mem_of_getElem? hq))
          injection hv with hv1 hv2 hv3
          subst hv1
          clear hv2 hv3 hq
          have a0 := d1 0 _ rfl
          have a1 := d1 1 _ rfl
          have a2 := d1 2 _ rfl
          have a3 := d1 3 _ rfl
          have a4 := d1 4 _ rfl
          have a5 := d1 5 _ rfl
          have a6 := d1 6 _ rfl
          rw [Nat.add_zero] at a0
          have KR := Lib.hid (fun (w' : World) (h : OnM w' q) => raw_c q w' h)
          have HOP := Lib.hid (raw_in hM.ok)
          unfold RawR onV at KR
          obtain ⟨o, ho⟩ : ∃ o, rawO q.x = o := ⟨_, rfl⟩
          have HOJ := Lib.hid (raw_j hM.ok)
          rw [ho] at KR HOP HOJ
          obtain ⟨T, hT⟩ : ∃ T, textO o = T := ⟨_, rfl⟩
          have HT := Lib.hid hT
          have hTl := text_len HOP.out
          rw [hT] at hTl
          clear hT ho d1
          obtain ⟨⟨K0, A0, B0, N0, pp, fi, lo⟩, vQ, vL⟩ := q
          obtain ⟨kd, fr, tg, nm, pl, ss, en⟩ := o
          obtain ⟨rQ, cQ, eQ, _⟩ := hM.parts.form
          obtain ⟨rL, cL, eL, _⟩ := hM.long.form
          simp only at eQ eL
          subst eQ
          subst eL
          clear hM
          unfold opV strV at *
          simp only at KR a0 a1 a2 a3 a4 a5 a6
          have hrow := HOO.out.row
          rw [HPL.out] at hrow
          have FY := Lib.hid (owns_far hrow (m := wr.heap.size) (.inr (Nat.le_refl _)))
          clear hrow
          go_upto_region 14 with fail
          have t1 := RBox.new wr [.int .u8 (K0 : Int), .int .u8 (A0 : Int), .int .u8 (B0 : Int), .int .u8 (N0 : Int), (.slice rQ pp.length cQ), .int .i16 fi, (.slice rL lo.length cL)] 29
          have hb0 := (Below.refl wr.heap.size wr).alloc (Nat.le_refl _) (.cells #[.int .u8 (K0 : Int), .int .u8 (A0 : Int), .int .u8 (B0 : Int), .int .u8 (N0 : Int), (.slice rQ pp.length cQ), .int .i16 fi, (.slice rL lo.length cL)] 29)
          have t3 := HOO.out.below hb0
          have t4 := HB.out.alloc HB.out.size (.cells #[.int .u8 (K0 : Int), .int .u8 (A0 : Int), .int .u8 (B0 : Int), .int .u8 (N0 : Int), (.slice rQ pp.length cQ), .int .i16 fi, (.slice rL lo.length cL)] 29)
          have t5 := HB9.out.alloc HB9.out.size (.cells #[.int .u8 (K0 : Int), .int .u8 (A0 : Int), .int .u8 (B0 : Int), .int .u8 (N0 : Int), (.slice rQ pp.length cQ), .int .i16 fi, (.slice rL lo.length cL)] 29)
          have HB9x := Lib.hid t5
          clear t5 HB9
          have HB9 := HB9x
          clear HB9x
          change RBox (wr.alloc (.cells #[.int .u8 (K0 : Int), .int .u8 (A0 : Int), .int .u8 (B0 : Int), .int .u8 (N0 : Int), (.slice rQ pp.length cQ), .int .i16 fi, (.slice rL lo.length cL)] 29)) _ _ at t1
          generalize wr.alloc (.cells #[.int .u8 (K0 : Int), .int .u8 (A0 : Int), .int .u8 (B0 : Int), .int .u8 (N0 : Int), (.slice rQ pp.length cQ), .int .i16 fi, (.slice rL lo.length cL)] 29) = U1 at *
          generalize wr.heap.size = Y at *
          clear a0 a1 a2 a3 a4 a5 a6 HOO HB hb0
          have y0 := t1.at_ 0 _ rfl
          have y1 := t1.at_ 1 _ rfl
          have y2 := t1.at_ 2 _ rfl
          have y3 := t1.at_ 3 _ rfl
          have y4 := t1.at_ 4 _ rfl
          have y5 := t1.at_ 5 _ rfl
          have y6 := t1.at_ 6 _ rfl
          have HY := Lib.hid t1
          have HO1 := Lib.hid t3
          have HB2 := Lib.hid t4
          have HM1 := Lib.hid (HMw.out.stay t4)
          clear t1 t3 t4
          have HS := Lib.hid (Nat.le_refl 0)
          have HWS := Lib.hid HB0.out.size
          go_upto_region 15 with (first | (at_builtin; refine wpList_append_own_at _ rfl (.tmp 40) (.tmp 43) 24 rfl w9.heap.size 38 i0 _ 8 96 Tryz.underlying24 hi hz0 hz1 hz2 rfl (by decide) _ k _ rfl (HRW.out.alloc _) ⟨_, 0, none⟩ 1 1 [.int .i64 (kd : Int), .int .u32 (fr : Int), .int .u32 (tg : Int), .string ⟨nm.toArray⟩, (.slice rP pl.length cP), (.slice rS ss.length cS), .int .i32 en, .int .i64 0] rfl rfl (cells_new _ [.int .i64 (kd : Int), .int .u32 (fr : Int), .int .u32 (tg : Int), .string ⟨nm.toArray⟩, (.slice rP pl.length cP), (.slice rS ss.length cS), .int .i32 en, .int .i64 0] _) (fun v hv => by simp at hv; rcases hv with rfl | rfl | rfl | rfl | rfl | rfl | rfl | rfl <;> rfl) (by unfold maxLen; omega) (by omega) (by simp; have := HS.out; omega) ?_; intro v5 w5 hown5 hgrow5 _ hat5; have hbw := (Below.refl w2.heap.size w2).alloc (Nat.le_refl _) (.cells #[.int .i64 (kd : Int), .int .u32 (fr : Int), .int .u32 (tg : Int), .string ⟨nm.toArray⟩, (.slice rP pl.length cP), (.slice rS ss.length cS), .int .i32 en, .int .i64 0] 38); have p1 := oown_push (p := (⟨⟨kd, fr, tg, nm, pl, ss, en⟩, 0, .slice rP pl.length cP, .slice rS ss.length cS⟩ : Om)) HPL.out (HO2.out.below hbw) (HW.out.below hbw) hgrow5 hown5; have rx0 := HY2.out.stay hbw; have rx : RBox w5 Y _ := ⟨Nat.lt_of_lt_of_le rx0.size hgrow5.size, fun j v hj => by rw [hgrow5.cell (rx0.at_ j v hj) (fun h => FY.out h.symm)]⟩; have EX := Lib.hid rx; have EO := Lib.hid p1; clear p1 rx0 rx; have rc := (HC3.out.trans (hbw.mono HC3.out.size)).grown hgrow5 (Nat.le_trans HC3.out.size hbw.size) (fun j hj => by have := HRW.out.lt j hj; omega); have EC := Lib.hid rc; clear rc; have rb := (HB3.out.trans (hbw.mono HB3.out.size)).grown hgrow5 (Nat.le_trans HB3.out.size hbw.size) (fun j hj => by have := HRW.out.lt j hj; have := HWS.out; omega); obtain ⟨r6, cap6, rfl⟩ := owns_form hown5; have EB := Lib.hid rb; clear hbw rb hgrow5 hown5 hat5) | (go_at_call 8; refine (KR.out _ HM1.out).mono ?_; rintro e w2 ⟨vP, vS, rfl, hw, hb⟩; have HW := Lib.hid (hw.mono HB9.out.size); have hf1 := owns_form hw.parts; have hf2 := owns_form hw.starts; simp only at hf1 hf2; obtain ⟨rP, cP, rfl⟩ := hf1; obtain ⟨rS, cS, rfl⟩ := hf2; have HO2 := Lib.hid (HO1.out.below hb); have HB3 := Lib.hid (HB2.out.trans (hb.mono HB2.out.size)); have HC3 := Lib.hid (HB9.out.trans (hb.mono HB9.out.size)); have HY2 := Lib.hid (HY.out.stay hb); have hrow := HO2.out.row; rw [HPL.out] at hrow; have HRW := Lib.hid hrow; have HSx := Lib.hid (HC3.out.size); clear HS hrow hw hb y0 y1 y2 y3 y4 y5 y6; have HS := HSx; clear HSx))
          go_wp2
          go_roundw
          case rel => exact ⟨k + 1, r6, cap6, ps ++ [(⟨⟨kd, fr, tg, nm, pl, ss, en⟩, 0, .slice rP pl.length cP, .slice rS ss.length cS⟩ : Om)], rfl, by go_num, by omega, Lib.hid (by rw [List.length_append, HPL.out]; rfl), EO, Lib.hid (mem_snocJ HIN.out HOJ.out), EB, EC⟩
          case measure => simp [RowKit.intOf]; omega
        · obtain rfl : Lb = k := by omega
          have h1 := (HOO1.out.orow (by rw [HPL1.out]; omega)).stay HB9.out
          have h2 := HOO.out.orow (by rw [HPL.out]; omega)
          have HA := Lib.hid h1
          have HC := Lib.hid h2
          clear h1 h2
          have HAB : Hid (printO ((psl ++ ps).map (·.o)) = printO (psl.map (·.o)) ++ printO (ps.map (·.o))) := Lib.hid (by rw [List.map_append, print_app])
          have hcn := print_count ((psl ++ ps).map (·.o)) (fun o ho => by
            obtain ⟨p, hp, rfl⟩ := List.mem_map.1 ho
            rcases List.mem_append.1 hp with h | h
            · exact ⟨(HIN1.out p h).1.ok, (HIN1.out p h).2⟩
            · exact ⟨(HIN.out p h).1.ok, (HIN.out p h).2⟩)
          have hlen : ((psl ++ ps).map (·.o)).length = La + Lb := by rw [List.length_map, List.length_append, HPL1.out, HPL.out]
          rw [hlen] at hcn
          have hl1 := print_len (l := psl.map (·.o)) (fun o ho => by obtain ⟨p, hp, rfl⟩ := List.mem_map.1 ho; exact (HIN1.out p hp).1)
          have hl2 := print_len (l := ps.map (·.o)) (fun o ho => by obtain ⟨p, hp, rfl⟩ := List.mem_map.1 ho; exact (HIN.out p hp).1)
          rw [List.length_map, HPL1.out] at hl1
          rw [List.length_map, HPL.out] at hl2
          have s1 : ¬ 9223372036854775807 < (printO (psl.map (·.o))).length + (printO (ps.map (·.o))).length := by omega
          have KA' := Lib.hid (fun (w' : World) (hb : Below wr.heap.size wr w') => print_s _ psl w' (HI.out.stay (HB.out.trans (hb.mono HB.out.size))) (HA.out.stay hb) (by rw [HPL1.out]; omega) (fun p hp => (HIN1.out p hp).1))
          have KB' := Lib.hid (fun (w' : World) (hb : Below wr.heap.size wr w') => print_s _ ps w' (HI.out.stay (HB.out.trans (hb.mono HB.out.size))) (HC.out.stay hb) (by rw [HPL.out]; omega) (fun p hp => (HIN.out p hp).1))
          have KJ := Lib.hid (fun (v : Value) (w' : World) (hb : Below wr.heap.size wr w') (ho : w'.ownsRow wr.heap.size 38 8 v (psl ++ ps).length ((psl ++ ps).flatMap oc)) => print_s v (psl ++ ps) w' (HI.out.stay (HB.out.trans (hb.mono HB.out.size))) ⟨recs_of_owns oc_len ho rfl (by rw [List.length_append, HPL1.out, HPL.out]; omega), fun p hp => by
            rcases List.mem_append.1 hp with h | h
            · exact (HA.out.2 p h).stay hb
            · exact (HC.out.2 p h).stay hb⟩ (by rw [List.length_append, HPL1.out, HPL.out]; omega) (fun p hp => by
            rcases List.mem_append.1 hp with h | h
            · exact (HIN1.out p h).1
            · exact (HIN.out p h).1))
          have KC := Lib.hid (clone_o psl rl La cl wr HA.out.1 HPL1.out (by omega) (orow_one HA.out.2))
          have KD := Lib.hid (fun (v : Value) (w' : World) (hb : Below wr.heap.size wr w') (ho : w'.ownsRow wr.heap.size 38 8 v La (psl.flatMap oc)) => append_ops v (.slice r Lb cp) psl ps wr.heap.size w' (by rw [HPL1.out]; exact ho) (HC.out.stay hb).1 (orow_one HC.out.2) (by rw [HPL1.out, HPL.out]; omega) hb.size)
          have KN1 := Lib.hid (fun (w' : World) => Tryz.strings_Count_one ⟨(printO ((psl ++ ps).map (·.o))).toArray⟩ 10 w')
          have KN2 := Lib.hid (fun (w' : World) => Tryz.strings_Count_one ⟨(printO ((psl ++ ps).map (·.o))).toArray⟩ 59 w')
          have n1 : Lib.countByte (printO ((psl ++ ps).map (·.o))) 10 = La + Lb := hcn.2
          have n2 : Lib.countByte (printO ((psl ++ ps).map (·.o))) 59 = La + Lb := hcn.1
          simp only [List.toList_toArray, n1, n2] at KN1 KN2
          have b1 := bytes_app (printO (psl.map (·.o))) (printO (ps.map (·.o)))
          rw [← HAB.out] at b1
          unfold strV at *
          clear HAB hcn hlen hl1 hl2 n1 n2
          generalize printO ((psl ++ ps).map (·.o)) = PJ at *
          generalize printO (psl.map (·.o)) = PA at *
          generalize printO (ps.map (·.o)) = PB at *
          have w1' : IntKind.i64.wrap ((La : Int) + (Lb : Int)) = (La : Int) + (Lb : Int) := by rw [IntKind.wrap_i64]; omega
          have w2' : ((La + Lb : Nat) : Int) = (La : Int) + (Lb : Int) := by omega
          rw [w2'] at KN1 KN2
          clear w2'
          go_upto_region 17 with (first | (go_at_call 11; refine (KJ.out _ _ HB3.out HO3.out).mono ?_; rintro e w4 ⟨rfl, hb⟩; have HB4 := Lib.hid (HB3.out.trans (hb.mono HB3.out.size)); clear hb) | (at_builtin; refine Lib.wpList_append_run _ rfl _ _ _ _ rfl _ _ rfl rfl _ _ (HRUN.out _) ?_) | (go_at_call 16; refine KC.out.mono ?_; rintro e w2 ⟨v2, rfl, ho2, hb2⟩; obtain ⟨v3, w3, hr3, ho3, hb3⟩ := KD.out _ _ hb2 ho2; have HRUN := Lib.hid hr3; have HO3 := Lib.hid ho3; have HB3 := Lib.hid (hb2.trans hb3); clear hr3 ho3 hb3 hb2 ho2))
          go_wp2_with (first | (have hN := HN1; go_at_call 17; refine (KN2.out _).mono ?_; rintro e w8 ⟨rfl, rfl⟩; clear HN1 hN) | (have hN := HB6; go_at_call 17; refine (KN1.out _).mono ?_; rintro e w7 ⟨rfl, rfl⟩; clear hN; have HN1 := Lib.hid (Nat.le_refl 7)) | (have hN := HB5; go_at_call 11; refine (KB'.out _ HB5.out).mono ?_; rintro e w6 ⟨rfl, hb⟩; have HB6 := Lib.hid (HB5.out.trans (hb.mono HB5.out.size)); clear hb hN) | (go_at_call 11; refine (KA'.out _ HB4.out).mono ?_; rintro e w5 ⟨rfl, hb⟩; have HB5 := Lib.hid (HB4.out.trans (hb.mono HB4.out.size)); clear hb))
          go_ret
          exact ⟨rfl, HB.out.trans (HB6.out.mono HB.out.size)⟩
end Go.Proofs.YthmeoccecoldeaaGreatDoor

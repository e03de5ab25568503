/- The walk of law ScriptTexts. -/
import Derived.Test.YthmeoccecoldeaaGreatDoorMlb
import Derived.Test.YthmeoccecoldeaaGreatDoorEwz
namespace Go.Proofs.YthmeoccecoldeaaGreatDoor
open Go.RowKit Go.Lib Go.Sort
set_option linter.unusedVariables false
set_option linter.unusedSimpArgs false
set_option maxHeartbeats 8000000 in
set_option maxRecDepth 100000 in
theorem texts_c (v : Value) (qs : List Oi) (w : World) (hI : InS w) (hR : SRow w v qs) : Calls Tryz.prog 3 #[v] w fun e w' => e = .returned (.bool true) ∧ Below w.heap.size w w' := by
  have hmix : Tryz.prog.follows .mixedOrders = true := by kernel_rfl
  have KA := Lib.hid (awake13_ev w hI)
  have HI := Lib.hid hI
  obtain ⟨r0, c0, rfl, hm⟩ := hR.1.form
  obtain ⟨L, hL⟩ : ∃ L, qs.length = L := ⟨_, rfl⟩
  have HL := Lib.hid hL
  have HR := Lib.hid hR
  rw [hL] at HR ⊢
  clear hR hI hL hm
  by_cases hlen : L ≤ 60
  · have e1 : ¬ (60 : Int) < (L : Int) := by omega
    go_enter Tryz.func3, Tryz.ntmps3
    go_wp2_with (first | (go_at_call 7; refine KA.out.mono ?_; rintro e w1 ⟨rfl, hb⟩; have HB1 := Lib.hid hb; clear hb))
    obtain ⟨i0, hi, hz0, hz1, hz2⟩ := info_parts infoOp
    go_loopw [3, 4, 15] (fun o s i wr => ∃ (k : Nat) (r : Option Addr) (cp : Nat) (O : List UInt8) (ps : List Om), o = .slice r k cp ∧ s = .string ⟨O.toArray⟩ ∧ i = .int .i64 (k : Int) ∧ k ≤ L ∧ O.length ≤ 2000000002 * k ∧ Hid (ps.length = k) ∧ Hid (OOwn w.heap.size wr (.slice r k cp) ps) ∧ Hid (∀ p ∈ ps, OpIn p.o) ∧ Hid (O = printO (ps.map (·.o))) ∧ Hid (Below w.heap.size w wr)) (fun _ _ i _ => L - (RowKit.intOf i).toNat)
    case atStart => exact ⟨0, none, 0, [], [], rfl, rfl, rfl, Nat.zero_le _, by simp, Lib.hid rfl, Lib.hid (OOwn.nil _ _), Lib.hid (fun p hp => by cases hp), Lib.hid rfl, HB1⟩
    case round =>
      obtain ⟨k, r, cp, O, ps, rfl, rfl, rfl, hk, hOl, HPL, HOO, HIN, HO, HB⟩ := hrel
      rename World => wr
      by_cases hlt : k < L
      · obtain ⟨q, hq⟩ : ∃ q, qs[k]? = some q := ⟨qs[k]'(by have := HL.out; omega), List.getElem?_eq_getElem (by have := HL.out; omega)⟩
        obtain ⟨g, off, c', hv, _, _, d1, hM⟩ := (HR.out.stay HB.out).at hq
        injection hv with hv1 hv2 hv3
        subst hv1
        clear hv2 hv3 hq
        have a0 := d1 0 _ rfl
        have a1 := d1 1 _ rfl
        have a2 := d1 2 _ rfl
        have a3 := d1 3 _ rfl
        have a4 := d1 4 _ rfl
        have a5 := d1 5 _ rfl
        have a6 := d1 6 _ rfl
        rw [Nat.add_zero] at a0
        have HM := Lib.hid hM
        have KR := Lib.hid (fun (w' : World) (h : OnM w' q) => raw_c q w' h)
        have HOP := Lib.hid (raw_in hM.ok)
        unfold RawR onV at KR
        obtain ⟨o, ho⟩ : ∃ o, rawO q.x = o := ⟨_, rfl⟩
        rw [ho] at KR HOP
        obtain ⟨T, hT⟩ : ∃ T, textO o = T := ⟨_, rfl⟩
        have HT := Lib.hid hT
        have hTl := text_len HOP.out
        have KX := Lib.hid (fun (vP vS : Value) (w' : World) (h1 : InS w') (h2 : OpM w' ⟨o, 0, vP, vS⟩) => text_s ⟨o, 0, vP, vS⟩ w' h1 h2 HOP.out)
        have KY := Lib.hid (fun (vP vS : Value) (w' : World) (h1 : InS w') (h2 : OpM w' ⟨o, 0, vP, vS⟩) => ltext_s ⟨o, 0, vP, vS⟩ w' h1 h2 HOP.out)
        simp only [hT] at KX KY
        rw [hT] at hTl
        clear hT ho d1 hM
        obtain ⟨⟨K0, A0, B0, N0, pp, fi, lo⟩, vQ, vL⟩ := q
        obtain ⟨kd, fr, tg, nm, pl, ss, en⟩ := o
        obtain ⟨rQ, cQ, eQ, _⟩ := HM.out.parts.form
        obtain ⟨rL, cL, eL, _⟩ := HM.out.long.form
        simp only at eQ eL
        subst eQ
        subst eL
        unfold opV strV at *
        simp only at KR KX KY a0 a1 a2 a3 a4 a5 a6
        go_upto_region 10 with fail
        have t1 := RBox.new wr [.int .u8 (K0 : Int), .int .u8 (A0 : Int), .int .u8 (B0 : Int), .int .u8 (N0 : Int), (.slice rQ pp.length cQ), .int .i16 fi, (.slice rL lo.length cL)] 29
        have t2 := HM.out.stay ((Below.refl wr.heap.size wr).alloc (Nat.le_refl _) (.cells #[.int .u8 (K0 : Int), .int .u8 (A0 : Int), .int .u8 (B0 : Int), .int .u8 (N0 : Int), (.slice rQ pp.length cQ), .int .i16 fi, (.slice rL lo.length cL)] 29))
        have t3 := HOO.out.below ((Below.refl wr.heap.size wr).alloc (Nat.le_refl _) (.cells #[.int .u8 (K0 : Int), .int .u8 (A0 : Int), .int .u8 (B0 : Int), .int .u8 (N0 : Int), (.slice rQ pp.length cQ), .int .i16 fi, (.slice rL lo.length cL)] 29))
        have t4 := HB.out.alloc HB.out.size (.cells #[.int .u8 (K0 : Int), .int .u8 (A0 : Int), .int .u8 (B0 : Int), .int .u8 (N0 : Int), (.slice rQ pp.length cQ), .int .i16 fi, (.slice rL lo.length cL)] 29)
        change RBox (wr.alloc (.cells #[.int .u8 (K0 : Int), .int .u8 (A0 : Int), .int .u8 (B0 : Int), .int .u8 (N0 : Int), (.slice rQ pp.length cQ), .int .i16 fi, (.slice rL lo.length cL)] 29)) _ _ at t1
        generalize wr.alloc (.cells #[.int .u8 (K0 : Int), .int .u8 (A0 : Int), .int .u8 (B0 : Int), .int .u8 (N0 : Int), (.slice rQ pp.length cQ), .int .i16 fi, (.slice rL lo.length cL)] 29) = U1 at *
        generalize wr.heap.size = Y at *
        clear a0 a1 a2 a3 a4 a5 a6 HM HOO HB
        have y0 := t1.at_ 0 _ rfl
        have y1 := t1.at_ 1 _ rfl
        have y2 := t1.at_ 2 _ rfl
        have y3 := t1.at_ 3 _ rfl
        have y4 := t1.at_ 4 _ rfl
        have y5 := t1.at_ 5 _ rfl
        have y6 := t1.at_ 6 _ rfl
        have HM1 := Lib.hid t2
        have HO1 := Lib.hid t3
        have HB2 := Lib.hid t4
        clear t1 t2 t3 t4
        go_upto_region 11 with (go_at_call 8; refine (KR.out _ HM1.out).mono ?_; rintro e w2 ⟨vP, vS, rfl, hw, hb⟩; have HW := Lib.hid (hw.mono HB2.out.size); have hf1 := owns_form hw.parts; have hf2 := owns_form hw.starts; simp only at hf1 hf2; obtain ⟨rP, cP, rfl⟩ := hf1; obtain ⟨rS, cS, rfl⟩ := hf2; have HO2 := Lib.hid (HO1.out.below hb); have hrow := HO2.out.row; rw [HPL.out] at hrow; have FZ := Lib.hid (owns_far hrow (m := w2.heap.size) (.inr (Nat.le_refl _))); clear hrow; have HB3 := Lib.hid (HB2.out.trans (hb.mono HB2.out.size)); clear hw hb)
        have b1 := RBox.new w2 [.int .i64 (kd : Int), .int .u32 (fr : Int), .int .u32 (tg : Int), .string ⟨nm.toArray⟩, (.slice rP pl.length cP), (.slice rS ss.length cS), .int .i32 en, .int .i64 0] 38
        have hb0 := (Below.refl w2.heap.size w2).alloc (Nat.le_refl _) (.cells #[.int .i64 (kd : Int), .int .u32 (fr : Int), .int .u32 (tg : Int), .string ⟨nm.toArray⟩, (.slice rP pl.length cP), (.slice rS ss.length cS), .int .i32 en, .int .i64 0] 38)
        have b2 := HW.out.below hb0
        have b3 := HO2.out.below hb0
        have b4 := HB3.out.trans (hb0.mono HB3.out.size)
        change RBox (w2.alloc (.cells #[.int .i64 (kd : Int), .int .u32 (fr : Int), .int .u32 (tg : Int), .string ⟨nm.toArray⟩, (.slice rP pl.length cP), (.slice rS ss.length cS), .int .i32 en, .int .i64 0] 38)) _ _ at b1
        generalize w2.alloc (.cells #[.int .i64 (kd : Int), .int .u32 (fr : Int), .int .u32 (tg : Int), .string ⟨nm.toArray⟩, (.slice rP pl.length cP), (.slice rS ss.length cS), .int .i32 en, .int .i64 0] 38) = W at *
        generalize w2.heap.size = Z at *
        have HX := Lib.hid b1
        have HW1 := Lib.hid b2
        have HO3 := Lib.hid b3
        have HB4 := Lib.hid b4
        have HIW := Lib.hid (HI.out.stay b4)
        have HIR := Lib.hid (fun d os => HIW.out.stay (below_regrown W d os))
        have HMR := Lib.hid (fun d os => b2.opm.stay (below_regrown W d os))
        clear y0 y1 y2 y3 y4 y5 y6 hb0 b1 b2 b3 b4 HW HO2 HB3 HM1 HO1 HB2 KR
        have z0 := fun d os => cell_regrown (HX.out.at_ 0 _ rfl) d os
        have z1 := fun d os => cell_regrown (HX.out.at_ 1 _ rfl) d os
        have z2 := fun d os => cell_regrown (HX.out.at_ 2 _ rfl) d os
        have z3 := fun d os => cell_regrown (HX.out.at_ 3 _ rfl) d os
        have z4 := fun d os => cell_regrown (HX.out.at_ 4 _ rfl) d os
        have z5 := fun d os => cell_regrown (HX.out.at_ 5 _ rfl) d os
        have z6 := fun d os => cell_regrown (HX.out.at_ 6 _ rfl) d os
        have z7 := fun d os => cell_regrown (HX.out.at_ 7 _ rfl) d os
        refine wp_region_quiet_below hmix (by kernel_rfl) ?_
        repeat (first | go_big_quiet_step ((first | (go_at_call 9; with_reducible exact Calls.regrown_of (KX.out _ _ _ (HIR.out _ _) (HMR.out _ _))) | (go_at_call 10; with_reducible exact Calls.regrown_of (KY.out _ _ _ (HIR.out _ _) (HMR.out _ _))))) | quiet_step ((first | (go_at_call 9; with_reducible exact Calls.regrown_of (KX.out _ _ _ (HIR.out _ _) (HMR.out _ _))) | (go_at_call 10; with_reducible exact Calls.regrown_of (KY.out _ _ _ (HIR.out _ _) (HMR.out _ _))))))
        refine wpQuiet_nil ?_
        intro w3 hw3
        have hb3 : Below W.heap.size W w3 := by obtain ⟨q, rfl⟩ := hw3; exact below_regrown _ _ _
        have HX3 := Lib.hid (HX.out.stay hb3)
        have HW3 := Lib.hid (HW1.out.below hb3)
        have HO4 := Lib.hid (HO3.out.below hb3)
        have HB5 := Lib.hid (HB4.out.trans (hb3.mono HB4.out.size))
        have hrow := HO4.out.row
        rw [HPL.out] at hrow
        have HRW := Lib.hid hrow
        clear z0 z1 z2 z3 z4 z5 z6 z7 hw3 hb3 HX HW1 HO3 HB4 HIW HIR HMR KX hrow
        have b0 := HX3.out.at_ 0 _ rfl
        have b1 := HX3.out.at_ 1 _ rfl
        have b2 := HX3.out.at_ 2 _ rfl
        have b3 := HX3.out.at_ 3 _ rfl
        have b4 := HX3.out.at_ 4 _ rfl
        have b5 := HX3.out.at_ 5 _ rfl
        have b6 := HX3.out.at_ 6 _ rfl
        have b7 := HX3.out.at_ 7 _ rfl
        have u1 := bytes_app T [10]
        have u2 := bytes_app O (T ++ [10])
        have HTL : Hid ((T ++ [10]).length = T.length + 1) := Lib.hid (by simp)
        have HNX : Hid (O ++ (T ++ [10]) = printO ((ps ++ [(⟨⟨kd, fr, tg, nm, pl, ss, en⟩, 0, .slice rP pl.length cP, .slice rS ss.length cS⟩ : Om)]).map (·.o))) := Lib.hid (by
          rw [List.map_append, List.map_cons, List.map_nil, printO_snoc, HT.out, ← HO.out])
        have HNL : Hid ((O ++ (T ++ [10])).length ≤ 2000000002 * (k + 1)) := Lib.hid (by rw [List.length_append, HTL.out]; omega)
        have s1 : ¬ 9223372036854775807 < T.length + 1 := by omega
        have s2 : ¬ 9223372036854775807 < O.length + (T ++ [10]).length := by rw [HTL.out]; omega
        generalize O ++ (T ++ [10]) = O2 at *
        generalize T ++ [10] = T2 at *
        go_upto_region 13 with fail
        go_upto_region 14 with (at_builtin; refine wpList_append_own_at _ rfl (.tmp 26) (.tmp 28) 24 rfl w.heap.size 38 i0 _ 8 96 Tryz.underlying24 hi hz0 hz1 hz2 rfl (by decide) _ k _ rfl (HRW.out.alloc _) ⟨_, 0, none⟩ 1 1 [.int .i64 (kd : Int), .int .u32 (fr : Int), .int .u32 (tg : Int), .string ⟨nm.toArray⟩, (.slice rP pl.length cP), (.slice rS ss.length cS), .int .i32 en, .int .i64 0] rfl rfl (cells_new _ [.int .i64 (kd : Int), .int .u32 (fr : Int), .int .u32 (tg : Int), .string ⟨nm.toArray⟩, (.slice rP pl.length cP), (.slice rS ss.length cS), .int .i32 en, .int .i64 0] _) (fun v hv => by simp at hv; rcases hv with rfl | rfl | rfl | rfl | rfl | rfl | rfl | rfl <;> rfl) (by unfold maxLen; omega) (by omega) (by simp; have := HB5.out.size; omega) ?_; intro v5 w5 hown5 hgrow5 _ hat5; have hbw := (Below.refl w3.heap.size w3).alloc (Nat.le_refl _) (.cells #[.int .i64 (kd : Int), .int .u32 (fr : Int), .int .u32 (tg : Int), .string ⟨nm.toArray⟩, (.slice rP pl.length cP), (.slice rS ss.length cS), .int .i32 en, .int .i64 0] 38); have p1 := oown_push (p := ⟨⟨kd, fr, tg, nm, pl, ss, en⟩, 0, .slice rP pl.length cP, .slice rS ss.length cS⟩) HPL.out (HO4.out.below hbw) (HW3.out.below hbw) hgrow5 hown5; have rx0 := HX3.out.stay hbw; have rx : RBox w5 Z _ := ⟨Nat.lt_of_lt_of_le rx0.size hgrow5.size, fun j v hj => by rw [hgrow5.cell (rx0.at_ j v hj) (fun h => FZ.out h.symm)]⟩; have rb := (HB5.out.trans (hbw.mono HB5.out.size)).grown hgrow5 (Nat.le_trans HB5.out.size hbw.size) (fun j hj => by have := HRW.out.lt j hj; omega); obtain ⟨r6, cap6, rfl⟩ := owns_form hown5; have EX := Lib.hid rx; have EO := Lib.hid p1; have EB := Lib.hid rb; clear hbw p1 rx0 rx rb hgrow5 hown5 hat5)
        have HI5 := Lib.hid (HI.out.stay EB.out)
        have HM5 := Lib.hid (EO.out.ops (⟨⟨kd, fr, tg, nm, pl, ss, en⟩, 0, .slice rP pl.length cP, .slice rS ss.length cS⟩ : Om) (List.mem_append.2 (.inr (List.mem_singleton.2 rfl)))).opm
        have c0 := EX.out.at_ 0 _ rfl
        have c1 := EX.out.at_ 1 _ rfl
        have c2 := EX.out.at_ 2 _ rfl
        have c3 := EX.out.at_ 3 _ rfl
        have c4 := EX.out.at_ 4 _ rfl
        have c5 := EX.out.at_ 5 _ rfl
        have c6 := EX.out.at_ 6 _ rfl
        have c7 := EX.out.at_ 7 _ rfl
        clear b0 b1 b2 b3 b4 b5 b6 b7 HX3 HW3 HO4 HB5 HRW EX FZ
        go_upto_region 15 with (go_at_call 10; refine (KY.out _ _ _ HI5.out HM5.out).mono ?_; rintro e w6 ⟨rfl, hb⟩; have EO6 := Lib.hid (EO.out.below hb); have EB6 := Lib.hid (EB.out.trans (hb.mono EB.out.size)); clear hb c0 c1 c2 c3 c4 c5 c6 c7)
        go_wp2
        go_roundw
        case rel => exact ⟨k + 1, r6, cap6, O2, ps ++ [(⟨⟨kd, fr, tg, nm, pl, ss, en⟩, 0, .slice rP pl.length cP, .slice rS ss.length cS⟩ : Om)], rfl, rfl, by go_num, by omega, HNL.out, Lib.hid (by rw [List.length_append, HPL.out]; rfl), EO6, Lib.hid (fun p hp => by
            rcases List.mem_append.1 hp with h | h
            · exact HIN.out p h
            · rw [List.mem_singleton] at h; subst h; exact HOP.out), HNX, EB6⟩
        case measure => simp [RowKit.intOf]; omega
      · obtain rfl : k = L := by omega
        have hro := HOO.out.orow (by rw [HPL.out]; omega)
        have KP := Lib.hid (print_s (.slice r k cp) ps wr (HI.out.stay HB.out) hro (by rw [HPL.out]; omega) HIN.out)
        unfold strV at KP
        rw [← HO.out] at KP
        clear hro
        go_wp2_with (first | (go_at_call 11; refine KP.out.mono ?_; rintro e w2 ⟨rfl, hb⟩; have HB2 := Lib.hid (HB.out.trans (hb.mono HB.out.size)); clear hb))
        go_ret
        exact ⟨rfl, HB2.out⟩
  · have e1 : (60 : Int) < (L : Int) := by omega
    go_enter Tryz.func3, Tryz.ntmps3
    go_wp2_with (first | (go_at_call 7; refine KA.out.mono ?_; rintro e w1 ⟨rfl, hb⟩; have HB1 := Lib.hid hb; clear hb))
    go_ret
    exact ⟨rfl, HB1.out⟩
end Go.Proofs.YthmeoccecoldeaaGreatDoor

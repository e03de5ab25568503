/- Law ParseBack. -/
import Derived.Test.YtffhnedladiaoaaGreatDoorPdz
import Derived.Test.YtffhnedladiaoaaGreatDoorPwc
import Derived.Test.YtffhnedladiaoaaGreatDoorPsx
import Derived.Test.YtffhnedladiaoaaGreatDoorMlb
namespace Go.Proofs.YtffhnedladiaoaaGreatDoor
open Go.RowKit Go.Lib
set_option linter.unusedVariables false
set_option linter.unusedSimpArgs false
theorem posO_snoc : ∀ (os : List Opp) (i : Nat) (o : Opp), posO i (os ++ [o]) = posO i os ++ [(o, i + (printO os).length)]
  | [], i, o => by simp [posO, printO]
  | a :: os, i, o => by
    have e : printO (a :: os) = (textO a ++ [10]) ++ printO os := by unfold printO; rw [List.flatMap_cons]
    have h := posO_snoc os (i + ((textO a).length + 1)) o
    show (a, i) :: posO (i + ((textO a).length + 1)) (os ++ [o]) = (a, i) :: posO (i + ((textO a).length + 1)) os ++ [(o, i + (printO (a :: os)).length)]
    rw [h, e]
    simp only [List.length_append, List.length_cons, List.length_nil, List.cons_append]
    rw [show i + ((textO a).length + 1) + (printO os).length = i + ((textO a).length + (0 + 1) + (printO os).length) by omega]
theorem posO_fsts : ∀ (os : List Opp) (i : Nat), (posO i os).map Prod.fst = os
  | [], _ => rfl
  | o :: os, i => by simp [posO, posO_fsts os]
theorem posP_fst {ps : List Om} {os : List Opp} {i : Nat} (h : posP ps (posO i os)) : ps.map (·.o) = os := by
  have h1 := congrArg (List.map Prod.fst) h
  simp only [List.map_map] at h1
  have h2 : (posO i os).map Prod.fst = os := posO_fsts os i
  have e1 : ps.map (·.o) = ps.map (Prod.fst ∘ fun p => (p.o, p.pos)) := rfl
  rw [e1, h1]
  exact h2
set_option maxHeartbeats 8000000 in
set_option maxRecDepth 100000 in
theorem back_c (v : Value) (qs : List Oi) (w : World) (hI : InS w) (hR : SRow w v qs) :
    Calls Tryz.prog 3 #[v] w fun e w' => e = .returned (.bool true) ∧ Below w.heap.size w w' := by
  have KA := Lib.hid (awake14 parC w hI)
  have HI := Lib.hid hI
  obtain ⟨r0, c0, rfl, hm⟩ := hR.1.form
  obtain ⟨L, hL⟩ : ∃ L, qs.length = L := ⟨_, rfl⟩
  have HL := Lib.hid hL
  have HR := Lib.hid hR
  rw [hL] at HR ⊢
  clear hR hI hL hm
  by_cases hlen : L ≤ 60
  case neg =>
    have e1 : decide ((60 : Int) < (L : Int)) = true := decide_eq_true (by omega)
    go_enter Tryz.func3, Tryz.ntmps3
    go_wp2_with (go_at_call 9; refine KA.out.mono ?_; rintro e w1 ⟨rfl, hb⟩; have HB1 := Lib.hid hb; clear hb)
    go_ret
    exact ⟨rfl, HB1.out⟩
  have e1 : decide ((60 : Int) < (L : Int)) = false := decide_eq_false (by omega)
  obtain ⟨i0, hi, hz0, hz1, hz2⟩ := info_parts infoOp
  go_enter Tryz.func3, Tryz.ntmps3
  go_wp2_with (go_at_call 9; refine KA.out.mono ?_; rintro e w1 ⟨rfl, hb⟩; have HB1 := Lib.hid hb; clear hb)
  go_loopw [3, 4, 18] (fun o s i wr => ∃ (k : Nat) (r : Option Addr) (cp : Nat) (O : List UInt8) (ps : List Om), o = .slice r k cp ∧ s = .string ⟨O.toArray⟩ ∧ i = .int .i64 (k : Int) ∧ k ≤ L ∧ O.length ≤ 301 * k ∧ Hid (ps.length = k) ∧ Hid (OOwn w.heap.size wr (.slice r k cp) ps) ∧ Hid (posP ps (posO 0 ((qs.take k).map (fun q => rawO q.x)))) ∧ Hid (O = printO ((qs.take k).map (fun q => rawO q.x))) ∧ Hid (Below w.heap.size w wr)) (fun _ _ i _ => L - (RowKit.intOf i).toNat)
  case atStart => exact ⟨0, none, 0, [], [], rfl, rfl, rfl, Nat.zero_le _, by simp, Lib.hid rfl, Lib.hid (OOwn.nil _ _), Lib.hid rfl, Lib.hid rfl, HB1⟩
  case round =>
    obtain ⟨k, r, cp, O, ps, rfl, rfl, rfl, hk, hOl, HPL, HOO, HPP, HO, HB⟩ := hrel
    rename World => wr
    by_cases hlt : k < L
    · obtain ⟨q, hq⟩ : ∃ q, qs[k]? = some q := ⟨qs[k]'(by have := HL.out; omega), List.getElem?_eq_getElem (by have := HL.out; omega)⟩
      obtain ⟨g, off, c', hv, _, _, d1, hM⟩ := (HR.out.stay HB.out).at hq
      injection hv with hv1 hv2 hv3
      subst hv1
      clear hv2 hv3
      have a0 := d1 0 _ rfl
      have a1 := d1 1 _ rfl
      have a2 := d1 2 _ rfl
      have a3 := d1 3 _ rfl
      have a4 := d1 4 _ rfl
      have a5 := d1 5 _ rfl
      have a6 := d1 6 _ rfl
      rw [Nat.add_zero] at a0
      have HM := Lib.hid hM
      have KR := Lib.hid (fun (w' : World) (h : OnM w' q) => raw_c q w' h)
      have HOP := Lib.hid (raw_in hM.ok)
      have hTl := raw_len hM.ok
      have HNX : Hid (printO ((qs.take (k + 1)).map (fun q => rawO q.x)) = O ++ (textO (rawO q.x) ++ [10])) := Lib.hid (by rw [take_map_next hq, printO_snoc, HO.out])
      have HPN : Hid (posO 0 ((qs.take (k + 1)).map (fun q => rawO q.x)) = posO 0 ((qs.take k).map (fun q => rawO q.x)) ++ [(rawO q.x, O.length)]) := Lib.hid (by rw [take_map_next hq, posO_snoc, HO.out, Nat.zero_add])
      unfold RawR onV at KR
      obtain ⟨o, ho⟩ : ∃ o, rawO q.x = o := ⟨_, rfl⟩
      rw [ho] at KR HOP hTl HNX HPN
      obtain ⟨T, hT⟩ : ∃ T, textO o = T := ⟨_, rfl⟩
      have KY := Lib.hid (fun (vP vS : Value) (w' : World) (h1 : InS w') (h2 : OpM w' ⟨o, (O.length : Int), vP, vS⟩) => ltext_s ⟨o, (O.length : Int), vP, vS⟩ w' h1 h2 HOP.out)
      simp only [hT] at KY
      rw [hT] at hTl HNX
      clear hT ho d1 hM hq
      obtain ⟨⟨K0, A0, B0, N0, pp, fi, lo⟩, vQ, vL⟩ := q
      obtain ⟨kd, fr, tg, nm, pl, ss, en⟩ := o
      obtain ⟨rQ, cQ, eQ, _⟩ := HM.out.parts.form
      obtain ⟨rL, cL, eL, _⟩ := HM.out.long.form
      simp only at eQ eL
      subst eQ
      subst eL
      unfold opV strV at *
      simp only at KR KY a0 a1 a2 a3 a4 a5 a6
      go_upto_region 10 with fail
      have t1 := RBox.new wr [.int .u8 (K0 : Int), .int .u8 (A0 : Int), .int .u8 (B0 : Int), .int .u8 (N0 : Int), (.slice rQ pp.length cQ), .int .i16 fi, (.slice rL lo.length cL)] 29
      have t2 := HM.out.stay ((Below.refl wr.heap.size wr).alloc (Nat.le_refl _) (.cells #[.int .u8 (K0 : Int), .int .u8 (A0 : Int), .int .u8 (B0 : Int), .int .u8 (N0 : Int), (.slice rQ pp.length cQ), .int .i16 fi, (.slice rL lo.length cL)] 29))
      have t3 := HOO.out.below ((Below.refl wr.heap.size wr).alloc (Nat.le_refl _) (.cells #[.int .u8 (K0 : Int), .int .u8 (A0 : Int), .int .u8 (B0 : Int), .int .u8 (N0 : Int), (.slice rQ pp.length cQ), .int .i16 fi, (.slice rL lo.length cL)] 29))
      have t4 := HB.out.alloc HB.out.size (.cells #[.int .u8 (K0 : Int), .int .u8 (A0 : Int), .int .u8 (B0 : Int), .int .u8 (N0 : Int), (.slice rQ pp.length cQ), .int .i16 fi, (.slice rL lo.length cL)] 29)
      change RBox (wr.alloc (.cells #[.int .u8 (K0 : Int), .int .u8 (A0 : Int), .int .u8 (B0 : Int), .int .u8 (N0 : Int), (.slice rQ pp.length cQ), .int .i16 fi, (.slice rL lo.length cL)] 29)) _ _ at t1
      generalize wr.alloc (.cells #[.int .u8 (K0 : Int), .int .u8 (A0 : Int), .int .u8 (B0 : Int), .int .u8 (N0 : Int), (.slice rQ pp.length cQ), .int .i16 fi, (.slice rL lo.length cL)] 29) = U1 at *
      generalize wr.heap.size = Y at *
      clear a0 a1 a2 a3 a4 a5 a6 HM HOO HB
      have y0 := t1.at_ 0 _ rfl
      have y1 := t1.at_ 1 _ rfl
      have y2 := t1.at_ 2 _ rfl
      have y3 := t1.at_ 3 _ rfl
      have y4 := t1.at_ 4 _ rfl
      have y5 := t1.at_ 5 _ rfl
      have y6 := t1.at_ 6 _ rfl
      have HM1 := Lib.hid t2
      have HO1 := Lib.hid t3
      have HB2 := Lib.hid t4
      clear t1 t2 t3 t4
      go_upto_region 11 with (go_at_call 10; refine (KR.out _ HM1.out).mono ?_; rintro e w2 ⟨vP, vS, rfl, hw, hb⟩; have HW := Lib.hid (hw.mono HB2.out.size); have hf1 := owns_form hw.parts; have hf2 := owns_form hw.starts; simp only at hf1 hf2; obtain ⟨rP, cP, rfl⟩ := hf1; obtain ⟨rS, cS, rfl⟩ := hf2; have HO2 := Lib.hid (HO1.out.below hb); have hrow := HO2.out.row; rw [HPL.out] at hrow; have FZ := Lib.hid (owns_far hrow (m := w2.heap.size) (.inr (Nat.le_refl _))); clear hrow; have HB3 := Lib.hid (HB2.out.trans (hb.mono HB2.out.size)); clear hw hb)
      have hb0 := (Below.refl w2.heap.size w2).alloc (Nat.le_refl _) (.cells #[.int .i64 (kd : Int), .int .u32 (fr : Int), .int .u32 (tg : Int), .string ⟨nm.toArray⟩, .slice rP pl.length cP, .slice rS ss.length cS, .int .i32 en, .int .i64 0] 38)
      have HX : Hid (HBox (w2.alloc (.cells #[.int .i64 (kd : Int), .int .u32 (fr : Int), .int .u32 (tg : Int), .string ⟨nm.toArray⟩, .slice rP pl.length cP, .slice rS ss.length cS, .int .i32 en, .int .i64 0] 38)) w2.heap.size [.int .i64 (kd : Int), .int .u32 (fr : Int), .int .u32 (tg : Int), .string ⟨nm.toArray⟩, .slice rP pl.length cP, .slice rS ss.length cS, .int .i32 en, .int .i64 0] 38) := Lib.hid (HBox.new w2 [.int .i64 (kd : Int), .int .u32 (fr : Int), .int .u32 (tg : Int), .string ⟨nm.toArray⟩, .slice rP pl.length cP, .slice rS ss.length cS, .int .i32 en, .int .i64 0] _)
      have HW1 := Lib.hid (HW.out.below hb0)
      have HO3 := Lib.hid (HO2.out.below hb0)
      have HB4 := Lib.hid (HB3.out.trans (hb0.mono HB3.out.size))
      have HZ : Hid (w.heap.size ≤ w2.heap.size) := Lib.hid HB3.out.size
      generalize w2.alloc (.cells #[.int .i64 (kd : Int), .int .u32 (fr : Int), .int .u32 (tg : Int), .string ⟨nm.toArray⟩, .slice rP pl.length cP, .slice rS ss.length cS, .int .i32 en, .int .i64 0] 38) = U2 at *
      generalize w2.heap.size = Z at *
      clear hb0 HW HO2 HB3 HM1 HO1 HB2 KR y0 y1 y2 y3 y4 y5 y6
      have d7 := HX.out.cell (j := 7) rfl
      have e7 := HX.out.frozen 7
      have e9 := HX.out.size
      go_upto_region 12 with fail
      have HX3 : Hid (HBox (U2.setCell ⟨Z, 7, none⟩ (.int .i64 (O.length : Int))) Z [.int .i64 (kd : Int), .int .u32 (fr : Int), .int .u32 (tg : Int), .string ⟨nm.toArray⟩, .slice rP pl.length cP, .slice rS ss.length cS, .int .i32 en, .int .i64 (O.length : Int)] 38) := Lib.hid (HX.out.set 7 _)
      have HW3 : Hid (OpOwn w.heap.size (U2.setCell ⟨Z, 7, none⟩ (.int .i64 (O.length : Int))) ⟨⟨kd, fr, tg, nm, pl, ss, en⟩, (O.length : Int), .slice rP pl.length cP, .slice rS ss.length cS⟩) := Lib.hid (by
        have h := OpOwn.far HW1.out (grown_set U2 Z 7 (.int .i64 (O.length : Int))) HX.out
        exact ⟨h.parts, h.starts, h.few⟩)
      have HO4 := Lib.hid (OOwn.far HO3.out (grown_set U2 Z 7 (.int .i64 (O.length : Int))) HX.out FZ.out)
      have HB5 := Lib.hid (HB4.out.setCell (p := ⟨Z, 7, none⟩) HZ.out (.int .i64 (O.length : Int)))
      generalize U2.setCell ⟨Z, 7, none⟩ (.int .i64 (O.length : Int)) = w3 at *
      clear d7 e7 e9 HX HW1 HO3 HB4
      have hrow := HO4.out.row
      rw [HPL.out] at hrow
      have HRW := Lib.hid hrow
      clear hrow
      have b0 := HX3.out.cell (j := 0) rfl
      have b1 := HX3.out.cell (j := 1) rfl
      have b2 := HX3.out.cell (j := 2) rfl
      have b3 := HX3.out.cell (j := 3) rfl
      have b4 := HX3.out.cell (j := 4) rfl
      have b5 := HX3.out.cell (j := 5) rfl
      have b6 := HX3.out.cell (j := 6) rfl
      have b7 := HX3.out.cell (j := 7) rfl
      have u1 := bytes_app T [10]
      have u2 := bytes_app O (T ++ [10])
      have HTL : Hid ((T ++ [10]).length = T.length + 1) := Lib.hid (by simp)
      have HNL : Hid ((O ++ (T ++ [10])).length ≤ 301 * (k + 1)) := Lib.hid (by rw [List.length_append, HTL.out]; omega)
      have s1 : ¬ 9223372036854775807 < T.length + 1 := by omega
      have s2 : ¬ 9223372036854775807 < O.length + (T ++ [10]).length := by rw [HTL.out]; omega
      generalize O ++ (T ++ [10]) = O2 at *
      generalize T ++ [10] = T2 at *
      go_upto_region 13 with (at_builtin; refine wpList_append_own_at _ rfl (.tmp 27) (.tmp 29) 24 rfl w.heap.size 38 i0 _ 8 96 Tryz.underlying24 hi hz0 hz1 hz2 rfl (by decide) _ k _ rfl (HRW.out.alloc _) ⟨_, 0, none⟩ 1 1 [.int .i64 (kd : Int), .int .u32 (fr : Int), .int .u32 (tg : Int), .string ⟨nm.toArray⟩, .slice rP pl.length cP, .slice rS ss.length cS, .int .i32 en, .int .i64 (O.length : Int)] rfl rfl (cells_new _ [.int .i64 (kd : Int), .int .u32 (fr : Int), .int .u32 (tg : Int), .string ⟨nm.toArray⟩, .slice rP pl.length cP, .slice rS ss.length cS, .int .i32 en, .int .i64 (O.length : Int)] _) (fun v hv => by simp at hv; rcases hv with rfl | rfl | rfl | rfl | rfl | rfl | rfl | rfl <;> rfl) (by unfold maxLen; omega) (by omega) (by simp; have := HB5.out.size; omega) ?_; intro v5 w5 hown5 hgrow5 _ hat5; have hbw := (Below.refl w3.heap.size w3).alloc (Nat.le_refl _) (.cells #[.int .i64 (kd : Int), .int .u32 (fr : Int), .int .u32 (tg : Int), .string ⟨nm.toArray⟩, .slice rP pl.length cP, .slice rS ss.length cS, .int .i32 en, .int .i64 (O.length : Int)] 38); have p1 := oown_push (p := ⟨⟨kd, fr, tg, nm, pl, ss, en⟩, (O.length : Int), .slice rP pl.length cP, .slice rS ss.length cS⟩) HPL.out (HO4.out.below hbw) (HW3.out.below hbw) hgrow5 hown5; have rx := (HX3.out.stay hbw).grown hgrow5 (fun h => FZ.out h.symm); have rb := (HB5.out.trans (hbw.mono HB5.out.size)).grown hgrow5 (Nat.le_trans HB5.out.size hbw.size) (fun j hj => by have := HRW.out.lt j hj; omega); obtain ⟨r6, cap6, rfl⟩ := owns_form hown5; have EX := Lib.hid rx; have EO := Lib.hid p1; have EB := Lib.hid rb; clear hbw p1 rx rb hgrow5 hown5 hat5)
      have HI5 := Lib.hid (HI.out.stay EB.out)
      have HM5 := Lib.hid (EO.out.ops (⟨⟨kd, fr, tg, nm, pl, ss, en⟩, (O.length : Int), .slice rP pl.length cP, .slice rS ss.length cS⟩ : Om) (List.mem_append.2 (.inr (List.mem_singleton.2 rfl)))).opm
      have x0 := EX.out.cell (j := 0) rfl
      have x1 := EX.out.cell (j := 1) rfl
      have x2 := EX.out.cell (j := 2) rfl
      have x3 := EX.out.cell (j := 3) rfl
      have x4 := EX.out.cell (j := 4) rfl
      have x5 := EX.out.cell (j := 5) rfl
      have x6 := EX.out.cell (j := 6) rfl
      have x7 := EX.out.cell (j := 7) rfl
      clear b0 b1 b2 b3 b4 b5 b6 b7 HX3 HW3 HO4 HB5 HRW EX FZ
      go_upto_region 14 with (go_at_call 11; refine (KY.out _ _ _ HI5.out HM5.out).mono ?_; rintro e w6 ⟨rfl, hb⟩; have EO6 := Lib.hid (EO.out.below hb); have EB6 := Lib.hid (EB.out.trans (hb.mono EB.out.size)); clear hb x0 x1 x2 x3 x4 x5 x6 x7)
      go_wp2
      have HPS : Hid (posP (ps ++ [(⟨⟨kd, fr, tg, nm, pl, ss, en⟩, (O.length : Int), .slice rP pl.length cP, .slice rS ss.length cS⟩ : Om)]) (posO 0 ((qs.take (k + 1)).map (fun q => rawO q.x)))) := Lib.hid (by rw [HPN.out]; exact HPP.out.snoc (⟨kd, fr, tg, nm, pl, ss, en⟩, O.length) _ _)
      go_roundw
      case rel => exact ⟨k + 1, r6, cap6, O2, ps ++ [(⟨⟨kd, fr, tg, nm, pl, ss, en⟩, (O.length : Int), .slice rP pl.length cP, .slice rS ss.length cS⟩ : Om)], rfl, rfl, by go_num, by omega, HNL.out, Lib.hid (by rw [List.length_append, HPL.out]; rfl), EO6, HPS, Lib.hid HNX.out.symm, EB6⟩
      case measure => simp [RowKit.intOf]; omega
    · obtain rfl : k = L := by omega
      have htk : qs.take k = qs := List.take_of_length_le (by have := HL.out; omega)
      have hPP := HPP.out
      have hO := HO.out
      rw [htk] at hPP hO
      have hok : ∀ q ∈ qs, OnIn q.x := fun q hq => (HR.out.2 q hq).ok
      obtain ⟨os, hos⟩ : ∃ os, qs.map (fun q => rawO q.x) = os := ⟨_, rfl⟩
      have hfit : ∀ o ∈ os, FitO o := fun o ho => by
        rw [← hos] at ho
        obtain ⟨q, h1, rfl⟩ := List.mem_map.1 ho
        exact raw_fit (hok q h1)
      have hin : ∀ o ∈ os, OpIn o := fun o ho => by
        rw [← hos] at ho
        obtain ⟨q, h1, rfl⟩ := List.mem_map.1 ho
        exact raw_in (hok q h1)
      have hol : os.length = k := by rw [← hos, List.length_map]; exact HL.out
      rw [hos] at hPP hO
      have hpr := prs_print hfit (by omega) (by rw [← hO]; omega)
      rw [← hO] at hpr
      have hpl : (posO 0 os).length = k := by have := HPL.out; rw [← hPP.len]; exact this
      have K1 := fun (w' : World) (h : Below w.heap.size w w') => parC.parse ⟨O.toArray⟩ w' (HI.out.stay h) (by show O.length ≤ 100000; omega)
      rw [show (⟨O.toArray⟩ : ByteArray).data.toList = O from rfl, hpr] at K1
      unfold PrsR at K1
      simp only [hpl] at K1
      have K1 := Lib.hid K1
      have HPP2 := Lib.hid hPP
      have HROW := Lib.hid (HOO.out.orow (by rw [HPL.out]; omega))
      have KP := Lib.hid (fun (v : Value) (ps' : List Om) (w' : World) (h1 : InS w') (h2 : ORow w' v ps') (h3 : posP ps' (posO 0 os)) => by
        have e := posP_fst h3
        have h := print_s v ps' w' h1 h2 (by have := h3.len; omega) (fun p hp => hin _ (by rw [← e]; exact List.mem_map_of_mem hp))
        rw [e, ← hO] at h
        exact h)
      unfold strV at KP
      clear htk hPP hO hok hfit hin hpr hpl hos HPP HO HR HPL HOO
      go_wp2_with (first
        | (go_at_call 14; refine (KP.out _ _ _ (HI.out.stay HB3.out) HR3.out HP2.out).mono ?_; rintro e w4 ⟨rfl, h4⟩; have HB4 := Lib.hid (HB3.out.trans (h4.mono HB3.out.size)); clear h4)
        | (go_at_call 13; refine (same14 _ _ _ _ _ HR1.out HR2.out (HP2.out.trans HPP2.out.symm)).mono ?_; rintro e w3 ⟨rfl, h3⟩; have HR3 := Lib.hid (HR1.out.stay h3); have HB3 := Lib.hid (HB2.out.trans (h3.mono HB2.out.size)); clear h3)
        | (go_at_call 12; refine (K1.out _ HB.out).mono ?_; rintro e w2 ⟨q2, c2, ps2, rfl, hr, hp, h2⟩; have HR1 := Lib.hid hr; have HP2 := Lib.hid hp; have HR2 := Lib.hid (HROW.out.stay h2); have HB2 := Lib.hid (HB.out.trans (h2.mono HB.out.size)); clear h2 hr hp))
      go_ret
      exact ⟨rfl, HB4.out⟩
end Go.Proofs.YtffhnedladiaoaaGreatDoor

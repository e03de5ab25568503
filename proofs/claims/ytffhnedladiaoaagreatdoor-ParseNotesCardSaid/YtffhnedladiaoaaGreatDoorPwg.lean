/- Law ParseNotes. -/
import Derived.Test.YtffhnedladiaoaaGreatDoorPdz
import Derived.Test.YtffhnedladiaoaaGreatDoorMdx
import Derived.Test.YtffhnedladiaoaaGreatDoorPsx
import Derived.Test.YtffhnedladiaoaaGreatDoorPsh
import Derived.Test.YtffhnedladiaoaaGreatDoorMlb
import Derived.Lib.SplitLaws
namespace Go.Proofs.YtffhnedladiaoaaGreatDoor
open Go.RowKit Go.Lib
set_option linter.unusedVariables false
set_option linter.unusedSimpArgs false
theorem notN_of {l : List UInt8} (h : Lib.indexByte l 10 < 0) : ∀ c ∈ l, notNl c = true := fun c hc => by
  have := (idx_neg 10 l).1 h
  unfold notNl
  rw [bne_iff_ne]
  rintro rfl
  exact this hc
theorem nprint_len {n : List UInt8} : ∀ os : List Opp, (nPrint n os).length ≤ (printO os).length + (n.length + 6) * os.length
  | [] => by simp [nPrint]
  | o :: os => by
    have h := nprint_len (n := n) os
    have e1 : nPrint n (o :: os) = (bodyO o ++ endT n) ++ nPrint n os := by unfold nPrint; rw [List.flatMap_cons]
    have e2 : printO (o :: os) = (textO o ++ [10]) ++ printO os := by unfold printO; rw [List.flatMap_cons]
    have e3 : (bodyO o).length ≤ (textO o).length := by unfold bodyO; rw [List.length_dropLast]; omega
    have e4 : (endT n).length = n.length + 6 := by simp [endT, noteT]
    rw [e1, e2]
    simp only [List.length_append, List.length_cons, List.length_nil, e4, Nat.mul_add, Nat.mul_one]
    simp only [Nat.add_mul] at h ⊢
    omega
theorem posP_fsts {ps : List Om} {qs : List (Opp × Nat)} (h : posP ps qs) : ps.map (·.o) = qs.map Prod.fst := by
  have h1 := congrArg (List.map Prod.fst) h
  simp only [List.map_map] at h1
  exact h1
set_option maxHeartbeats 8000000 in
set_option maxRecDepth 100000 in
theorem notes_main (v : Value) (qs : List Oi) (N : List UInt8) (w : World) (hI : InS w) (hml : ∃ m, w.cell? ⟨0, 0, none⟩ = some (.int .i64 m)) (hR : SRow w v qs) (hlen : qs.length ≤ 20) (hN : N.length ≤ 30) (hc : Lib.indexByte N 10 < 0) :
    Calls Tryz.prog 7 #[v, .string ⟨N.toArray⟩] w fun e w' => e = .returned (.bool true) ∧ Below w.heap.size w w' := by
  have KA := Lib.hid (awake14 parC w hI)
  have HI := Lib.hid hI
  obtain ⟨mx, hm⟩ := hml
  have hmb : 0 < w.heap.size := World.block_lt_of_cell? w _ hm
  have HML := Lib.hid (fun (w' : World) (h : Below w.heap.size w w') => (by rw [h.cell (p := ⟨0, 0, none⟩) hmb]; exact hm : w'.cell? ⟨0, 0, none⟩ = some (.int .i64 mx)))
  clear hm hmb
  have HNL := Lib.hid (notN_of hc)
  have hcd : decide (0 ≤ Lib.indexByte N 10) = false := decide_eq_false (by omega)
  have KC := fun (W' : World) => Tryz.strings_Contains_one ⟨N.toArray⟩ 10 W'
  simp only [hcd] at KC
  have KC := Lib.hid KC
  obtain ⟨r0, c0, rfl, hm⟩ := hR.1.form
  obtain ⟨L, hL⟩ : ∃ L, qs.length = L := ⟨_, rfl⟩
  have HL := Lib.hid hL
  have HR := Lib.hid hR
  rw [hL] at HR hlen ⊢
  clear hR hI hL hm hcd hc
  have e1 : decide ((20 : Int) < (L : Int)) = false := decide_eq_false (by omega)
  have e2 : decide ((30 : Int) < (N.length : Int)) = false := decide_eq_false (by omega)
  go_enter Tryz.func7, Tryz.ntmps7
  go_wp2_with (first
    | (go_at_call 18; refine (KC.out _).mono ?_; rintro e w5 ⟨rfl, h5⟩; obtain rfl : w1 = w5 := h5.symm)
    | (go_at_call 9; refine KA.out.mono ?_; rintro e w1 ⟨rfl, hb⟩; have HB1 := Lib.hid hb; clear hb))
  clear KC e1 e2
  go_loopw [5, 30] (fun s i wr => ∃ (k : Nat) (O : List UInt8), s = .string ⟨O.toArray⟩ ∧ i = .int .i64 (k : Int) ∧ k ≤ L ∧ O.length ≤ 301 * k ∧ Hid (O = printO ((qs.take k).map (fun q => rawO q.x))) ∧ Hid (Below w.heap.size w wr)) (fun _ i _ => L - (RowKit.intOf i).toNat)
  case atStart => exact ⟨0, [], rfl, rfl, Nat.zero_le _, by simp, Lib.hid rfl, HB1⟩
  case round =>
    obtain ⟨k, O, rfl, rfl, hk, hOl, HO, HB⟩ := hrel
    rename World => wr
    by_cases hlt : k < L
    · obtain ⟨q, hq⟩ : ∃ q, qs[k]? = some q := ⟨qs[k]'(by have := HL.out; omega), List.getElem?_eq_getElem (by have := HL.out; omega)⟩
      obtain ⟨g, off, c', hv, _, _, d1, hM⟩ := (HR.out.stay HB.out).at hq
      injection hv with hv1 hv2 hv3
      subst hv1
      clear hv2 hv3
      have a0 := d1 0 _ rfl
      have a1 := d1 1 _ rfl
      have a2 := d1 2 _ rfl
      have a3 := d1 3 _ rfl
      have a4 := d1 4 _ rfl
      have a5 := d1 5 _ rfl
      have a6 := d1 6 _ rfl
      rw [Nat.add_zero] at a0
      have HM := Lib.hid hM
      have KR := Lib.hid (fun (w' : World) (h : OnM w' q) => raw_c q w' h)
      have HOP := Lib.hid (raw_in hM.ok)
      have hTl := raw_len hM.ok
      have HNX : Hid (printO ((qs.take (k + 1)).map (fun q => rawO q.x)) = O ++ (textO (rawO q.x) ++ [10])) := Lib.hid (by rw [take_map_next hq, printO_snoc, HO.out])
      unfold RawR onV at KR
      obtain ⟨o, ho⟩ : ∃ o, rawO q.x = o := ⟨_, rfl⟩
      rw [ho] at KR HOP hTl HNX
      obtain ⟨T, hT⟩ : ∃ T, textO o = T := ⟨_, rfl⟩
      have KY := Lib.hid (fun (vP vS : Value) (w' : World) (h1 : InS w') (h2 : OpM w' ⟨o, 0, vP, vS⟩) => ltext_s ⟨o, 0, vP, vS⟩ w' h1 h2 HOP.out)
      simp only [hT] at KY
      rw [hT] at hTl HNX
      clear hT ho d1 hM hq
      obtain ⟨⟨K0, A0, B0, N0, pp, fi, lo⟩, vQ, vL⟩ := q
      obtain ⟨kd, fr, tg, nm, pl, ss, en⟩ := o
      obtain ⟨rQ, cQ, eQ, _⟩ := HM.out.parts.form
      obtain ⟨rL, cL, eL, _⟩ := HM.out.long.form
      simp only at eQ eL
      subst eQ
      subst eL
      unfold opV strV at *
      simp only at KR KY a0 a1 a2 a3 a4 a5 a6
      go_upto_region 9 with fail
      have t1 := RBox.new wr [.int .u8 (K0 : Int), .int .u8 (A0 : Int), .int .u8 (B0 : Int), .int .u8 (N0 : Int), (.slice rQ pp.length cQ), .int .i16 fi, (.slice rL lo.length cL)] 29
      have t2 := HM.out.stay ((Below.refl wr.heap.size wr).alloc (Nat.le_refl _) (.cells #[.int .u8 (K0 : Int), .int .u8 (A0 : Int), .int .u8 (B0 : Int), .int .u8 (N0 : Int), (.slice rQ pp.length cQ), .int .i16 fi, (.slice rL lo.length cL)] 29))
      have t4 := HB.out.alloc HB.out.size (.cells #[.int .u8 (K0 : Int), .int .u8 (A0 : Int), .int .u8 (B0 : Int), .int .u8 (N0 : Int), (.slice rQ pp.length cQ), .int .i16 fi, (.slice rL lo.length cL)] 29)
      change RBox (wr.alloc (.cells #[.int .u8 (K0 : Int), .int .u8 (A0 : Int), .int .u8 (B0 : Int), .int .u8 (N0 : Int), (.slice rQ pp.length cQ), .int .i16 fi, (.slice rL lo.length cL)] 29)) _ _ at t1
      generalize wr.alloc (.cells #[.int .u8 (K0 : Int), .int .u8 (A0 : Int), .int .u8 (B0 : Int), .int .u8 (N0 : Int), (.slice rQ pp.length cQ), .int .i16 fi, (.slice rL lo.length cL)] 29) = U1 at *
      generalize wr.heap.size = Y at *
      clear a0 a1 a2 a3 a4 a5 a6 HM HB
      have y0 := t1.at_ 0 _ rfl
      have y1 := t1.at_ 1 _ rfl
      have y2 := t1.at_ 2 _ rfl
      have y3 := t1.at_ 3 _ rfl
      have y4 := t1.at_ 4 _ rfl
      have y5 := t1.at_ 5 _ rfl
      have y6 := t1.at_ 6 _ rfl
      have HM1 := Lib.hid t2
      have HB2 := Lib.hid t4
      have u1 := bytes_app T [10]
      have u2 := bytes_app O (T ++ [10])
      have HTL : Hid ((T ++ [10]).length = T.length + 1) := Lib.hid (by simp)
      have HNL : Hid ((O ++ (T ++ [10])).length ≤ 301 * (k + 1)) := Lib.hid (by rw [List.length_append, HTL.out]; omega)
      have s1 : ¬ 9223372036854775807 < T.length + 1 := by omega
      have s2 : ¬ 9223372036854775807 < O.length + (T ++ [10]).length := by rw [HTL.out]; omega
      generalize O ++ (T ++ [10]) = O2 at *
      generalize T ++ [10] = T2 at *
      clear t1 t2 t4
      go_upto_region 10 with (first
        | (go_at_call 11; refine (KY.out _ _ _ HI3.out HW.out.opm).mono ?_; rintro e w6 ⟨rfl, hb⟩; have HB6 := Lib.hid (HB3.out.trans (hb.mono HB3.out.size)); clear hb y0 y1 y2 y3 y4 y5 y6)
        | (go_at_call 10; refine (KR.out _ HM1.out).mono ?_; rintro e w2 ⟨vP, vS, rfl, hw, hb⟩; have HW := Lib.hid hw; have hf1 := owns_form hw.parts; have hf2 := owns_form hw.starts; simp only at hf1 hf2; obtain ⟨rP, cP, rfl⟩ := hf1; obtain ⟨rS, cS, rfl⟩ := hf2; have HB3 := Lib.hid (HB2.out.trans (hb.mono HB2.out.size)); have HI3 := Lib.hid (HI.out.stay HB3.out); clear hw hb))
      go_wp2
      go_roundw
      case rel => exact ⟨k + 1, O2, rfl, by go_num, by omega, HNL.out, Lib.hid HNX.out.symm, HB6⟩
      case measure => simp [RowKit.intOf]; omega
    · obtain rfl : k = L := by omega
      have htk : qs.take k = qs := List.take_of_length_le (by have := HL.out; omega)
      have hO := HO.out
      rw [htk] at hO
      have hok : ∀ q ∈ qs, OnIn q.x := fun q hq => (HR.out.2 q hq).ok
      obtain ⟨os, hos⟩ : ∃ os, qs.map (fun q => rawO q.x) = os := ⟨_, rfl⟩
      have hfit : ∀ o ∈ os, FitO o := fun o ho => by
        rw [← hos] at ho
        obtain ⟨q, h1, rfl⟩ := List.mem_map.1 ho
        exact raw_fit (hok q h1)
      have hcnt : ∀ o ∈ os, TextB o ∧ (textO o).count 59 = 1 := fun o ho => by
        refine ⟨text_b (hfit o ho), ?_⟩
        rw [← hos] at ho
        obtain ⟨q, h1, rfl⟩ := List.mem_map.1 ho
        have h := raw_ok (hok q h1)
        exact (text_count h.1 h.2).1
      have hol : os.length = k := by rw [← hos, List.length_map]; exact HL.out
      rw [hos] at hO
      have hpr := prs_print hfit (by omega) (by rw [← hO]; omega)
      rw [← hO] at hpr
      have hnl := nprint_len (n := N) os
      rw [← hO, hol] at hnl
      have hnl2 : (nPrint N os).length ≤ 8000 := by
        have : (N.length + 6) * k ≤ 36 * 20 := Nat.mul_le_mul (by omega) (by omega)
        omega
      have hnt : (noteT N).length = N.length + 2 := by simp [noteT]
      obtain ⟨ps2, hp2, hf2⟩ := prs_notes HNL.out hfit (by omega) (show (noteT N ++ nPrint N os).length ≤ 65536 by rw [List.length_append]; omega)
      have K1 := fun (w' : World) (h : Below w.heap.size w w') => parC.parse ⟨O.toArray⟩ w' (HI.out.stay h) (by show O.length ≤ 100000; omega)
      rw [show (⟨O.toArray⟩ : ByteArray).data.toList = O from rfl, hpr] at K1
      have K2 := fun (w' : World) (h : Below w.heap.size w w') => parC.parse ⟨(noteT N ++ nPrint N os).toArray⟩ w' (HI.out.stay h) (by show (noteT N ++ nPrint N os).length ≤ 100000; rw [List.length_append]; omega)
      rw [show (⟨(noteT N ++ nPrint N os).toArray⟩ : ByteArray).data.toList = noteT N ++ nPrint N os from rfl, hp2] at K2
      unfold PrsR at K1 K2
      simp only at K1 K2
      have hrp := replace_print (x := endT N) (by simp [endT]) hcnt
      rw [← hO] at hrp
      have KRP := fun (w' : World) (h : Below w.heap.size w w') => Tryz.strings_ReplaceAll ⟨O.toArray⟩ ⟨#[59, 10]⟩ ⟨(endT N).toArray⟩ mx w' (by show O.length < _; omega) (HML.out w' h) (by decide) (by
        have h1 := Lib.countB_le ⟨#[59, 10]⟩ (by decide) O.length ⟨O.toArray⟩ (Nat.le_refl _)
        have h2 : (⟨O.toArray⟩ : ByteArray).size = O.length := rfl
        have h3 : (⟨(endT N).toArray⟩ : ByteArray).size = N.length + 6 := by show (endT N).length = _; simp [endT, noteT]
        rw [h2, h3]
        rw [h2] at h1
        have h4 : Lib.countB ⟨O.toArray⟩ ⟨#[59, 10]⟩ * (N.length + 6) ≤ 8000 * 36 := Nat.mul_le_mul (by omega) (by omega)
        omega)
      rw [show (⟨O.toArray⟩ : ByteArray).data.toList = O from rfl, show (⟨#[59, 10]⟩ : ByteArray).data.toList = [59, 10] from rfl, show (⟨(endT N).toArray⟩ : ByteArray).data.toList = endT N from rfl, hrp] at KRP
      change ∀ w', _ → Calls _ _ _ w' fun e w2 => e = .returned (.string ⟨(nPrint N os).toArray⟩) ∧ Below w'.heap.size w' w2 at KRP
      have HEQ : Hid ((posO 0 os).map Prod.fst = ps2.map Prod.fst) := Lib.hid (by rw [posO_fst, hf2])
      have K1 := Lib.hid K1
      have K2 := Lib.hid K2
      have KRP := Lib.hid KRP
      obtain ⟨A1, hA1⟩ : ∃ x, [35] ++ N = x := ⟨_, rfl⟩
      have v1 := bytes_app [35] N
      have n1 : ¬ 9223372036854775807 < 1 + N.length := by omega
      rw [hA1] at v1
      have l1 : A1.length = N.length + 1 := by rw [← hA1]; simp
      have v2 := bytes_app A1 [10]
      have n2 : ¬ 9223372036854775807 < A1.length + 1 := by omega
      have g2 : A1 ++ [10] = noteT N := by rw [← hA1]; simp [noteT]
      rw [g2] at v2
      obtain ⟨B1, hB1⟩ : ∃ x, [32, 35] ++ N = x := ⟨_, rfl⟩
      have v3 := bytes_app [32, 35] N
      have n3 : ¬ 9223372036854775807 < 2 + N.length := by omega
      rw [hB1] at v3
      have l3 : B1.length = N.length + 2 := by rw [← hB1]; simp
      have v4 := bytes_app B1 [10, 59, 10, 10]
      have n4 : ¬ 9223372036854775807 < B1.length + 4 := by omega
      have g4 : B1 ++ [10, 59, 10, 10] = endT N := by rw [← hB1]; simp [endT, noteT]
      rw [g4] at v4
      have v5 := bytes_app (noteT N) (nPrint N os)
      have n5 : ¬ 9223372036854775807 < (noteT N).length + (nPrint N os).length := by omega
      generalize noteT N ++ nPrint N os = CC at *
      generalize noteT N = NT at *
      generalize nPrint N os = NP at *
      generalize endT N = ET at *
      clear htk hO hok hos hfit hcnt hol hpr hnl hnl2 hnt hp2 hf2 hrp hA1 hB1 g2 g4 l1 l3 HO HR HML HNL
      go_wp2_with (first
        | (go_at_call 20; refine (Same_s _ _ _ _ _ HR2.out HR3.out).mono ?_; rintro e w4 ⟨⟨bb, rfl, hbb⟩, h4⟩; have HBB := Lib.hid (hbb.2 ((posP_fsts HP1.out).trans (HEQ.out.trans (posP_fsts HP2.out).symm))); have HB4 := Lib.hid (HB3.out.trans (h4.mono HB3.out.size)); clear h4 hbb)
        | (go_at_call 19; refine (KRP.out _ HB2.out).mono ?_; rintro e w5 ⟨rfl, h5⟩; have HB5 := Lib.hid (HB2.out.trans (h5.mono HB2.out.size)); have HR5 := Lib.hid (HR1.out.stay h5); clear h5)
        | (go_at_call 12; refine (K2.out _ HB5.out).mono ?_; rintro e w3 ⟨q3, c3, ps3, rfl, hr, hp, h3⟩; have HR3 := Lib.hid hr; have HP2 := Lib.hid hp; have HR2 := Lib.hid (HR5.out.stay h3); have HB3 := Lib.hid (HB5.out.trans (h3.mono HB5.out.size)); clear h3 hr hp)
        | (go_at_call 12; refine (K1.out _ HB.out).mono ?_; rintro e w2 ⟨q2, c2, ps1, rfl, hr, hp, h2⟩; have HR1 := Lib.hid hr; have HP1 := Lib.hid hp; have HB2 := Lib.hid (HB.out.trans (h2.mono HB.out.size)); clear h2 hr hp))
      have e9 := HBB.out
      subst e9
      go_ret
      exact ⟨rfl, HB4.out⟩
set_option maxHeartbeats 2000000 in
set_option maxRecDepth 100000 in
theorem notes_early (v : Value) (qs : List Oi) (N : List UInt8) (w : World) (hI : InS w) (hR : SRow w v qs) (hz : qs.length ≤ 9223372036854775807 ∧ N.length ≤ 9223372036854775807) (h : ¬ (qs.length ≤ 20 ∧ N.length ≤ 30 ∧ Lib.indexByte N 10 < 0)) :
    Calls Tryz.prog 7 #[v, .string ⟨N.toArray⟩] w fun e w' => e = .returned (.bool true) ∧ Below w.heap.size w w' := by
  obtain ⟨r0, c0, rfl, _⟩ := hR.1.form
  have KA := Lib.hid (awake14 parC w hI)
  have KC := Lib.hid (fun (W' : World) => Tryz.strings_Contains_one ⟨N.toArray⟩ 10 W')
  obtain ⟨L, hLe⟩ : ∃ L, qs.length = L := ⟨_, rfl⟩
  obtain ⟨M, hM⟩ : ∃ M, N.length = M := ⟨_, rfl⟩
  have z1 : (⟨N.toArray⟩ : ByteArray).size = M := by rw [← hM]; rfl
  obtain ⟨D, hD⟩ : ∃ D, decide (0 ≤ Lib.indexByte N 10) = D := ⟨_, rfl⟩
  have hd : D = false → Lib.indexByte N 10 < 0 := fun e => by rw [← hD] at e; have := of_decide_eq_false e; omega
  have KC2 : Hid (∀ W', Calls Tryz.prog 18 #[.string ⟨N.toArray⟩, .string ⟨#[10]⟩] W' fun e w' => e = .returned (.bool D) ∧ w' = W') := Lib.hid (fun W' => by rw [← hD]; exact KC.out W')
  have hor : decide ((20 : Int) < (L : Int)) = true ∨ (decide ((20 : Int) < (L : Int)) = false ∧ decide ((30 : Int) < (M : Int)) = true) ∨ (decide ((20 : Int) < (L : Int)) = false ∧ decide ((30 : Int) < (M : Int)) = false ∧ D = true) := by
    by_cases a : 20 < L
    · exact .inl (decide_eq_true (by omega))
    by_cases b : 30 < M
    · exact .inr (.inl ⟨decide_eq_false (by omega), decide_eq_true (by omega)⟩)
    cases D with
    | true => exact .inr (.inr ⟨decide_eq_false (by omega), decide_eq_false (by omega), rfl⟩)
    | false => exact absurd ⟨by omega, by omega, hd rfl⟩ h
  rw [hLe]
  clear h hd hD KC hI hR hLe hM hz
  rcases hor with t1 | ⟨t1, t2⟩ | ⟨t1, t2, rfl⟩
  all_goals
    go_enter Tryz.func7, Tryz.ntmps7
    go_wp2_with (first
      | (go_at_call 18; refine (KC2.out _).mono ?_; rintro e w5 ⟨rfl, h5⟩; obtain rfl : w1 = w5 := h5.symm)
      | (go_at_call 9; refine KA.out.mono ?_; rintro e w1 ⟨rfl, hb⟩; have HB1 := Lib.hid hb; clear hb))
    go_ret
    exact ⟨rfl, HB1.out⟩
theorem notes_c (v : Value) (qs : List Oi) (note : ByteArray) (w : World) (hI : InS w) (hml : ∃ m, w.cell? ⟨0, 0, none⟩ = some (.int .i64 m)) (hR : SRow w v qs) (h1 : note.size ≤ 9223372036854775807) :
    Calls Tryz.prog 7 #[v, .string note] w fun e w' => e = .returned (.bool true) ∧ Below w.heap.size w w' := by
  obtain ⟨N, rfl⟩ : ∃ N : List UInt8, note = ⟨N.toArray⟩ := ⟨note.data.toList, by simp⟩
  by_cases h : qs.length ≤ 20 ∧ N.length ≤ 30 ∧ Lib.indexByte N 10 < 0
  · exact notes_main v qs N w hI hml hR h.1 h.2.1 h.2.2
  · exact notes_early v qs N w hI hR ⟨hR.1.form.elim fun _ ⟨_, _, h⟩ => h, h1⟩ h
end Go.Proofs.YtffhnedladiaoaaGreatDoor

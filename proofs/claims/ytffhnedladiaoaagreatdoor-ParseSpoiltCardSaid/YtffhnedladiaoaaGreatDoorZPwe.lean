/- Law ParseSpoilt. -/
import Derived.Test.YtffhnedladiaoaaGreatDoorZPdz
import Derived.Test.YtffhnedladiaoaaGreatDoorZPwc
import Derived.Test.YtffhnedladiaoaaGreatDoorZPqf
import Derived.Test.YtffhnedladiaoaaGreatDoorZPsx
import Derived.Test.YtffhnedladiaoaaGreatDoorZMlb
namespace Go.Proofs.YtffhnedladiaoaaGreatDoor
open Go.RowKit Go.Lib
set_option linter.unusedVariables false
set_option linter.unusedSimpArgs false
set_option maxHeartbeats 8000000 in
set_option maxRecDepth 100000 in
theorem spoilt_c (v : Value) (qs : List Oi) (a c : Nat) (M : List UInt8) (w : World) (hI : InS w) (hR : SRow w v qs) (ha : a < 65536) (hc : c < 256) (hlen : qs.length ≤ 20) (hml : M.length ≤ 40) :
    Calls Tryz.prog 5 #[v, .int .u16 (a : Int), .int .u8 (c : Int), .string ⟨M.toArray⟩] w fun e w' => e = .returned (.bool true) ∧ Below w.heap.size w w' := by
  have KA := Lib.hid (awake14 parC w hI)
  have HI := Lib.hid hI
  obtain ⟨r0, c0, rfl, hm⟩ := hR.1.form
  obtain ⟨L, hL⟩ : ∃ L, qs.length = L := ⟨_, rfl⟩
  have HL := Lib.hid hL
  have HR := Lib.hid hR
  rw [hL] at HR hlen ⊢
  clear hR hI hL hm
  have e1 : decide ((20 : Int) < (L : Int)) = false := decide_eq_false (by omega)
  have e2 : decide ((40 : Int) < (M.length : Int)) = false := decide_eq_false (by omega)
  go_enter Tryz.func5, Tryz.ntmps5
  go_wp2_with (go_at_call 9; refine KA.out.mono ?_; rintro e w1 ⟨rfl, hb⟩; have HB1 := Lib.hid hb; clear hb)
  go_loopw [9, 31] (fun s i wr => ∃ (k : Nat) (O : List UInt8), s = .string ⟨O.toArray⟩ ∧ i = .int .i64 (k : Int) ∧ k ≤ L ∧ O.length ≤ 301 * k ∧ Hid (O = printO ((qs.take k).map (fun q => rawO q.x))) ∧ Hid (Below w.heap.size w wr)) (fun _ i _ => L - (RowKit.intOf i).toNat)
  case atStart => exact ⟨0, [], rfl, rfl, Nat.zero_le _, by simp, Lib.hid rfl, HB1⟩
  case round =>
    obtain ⟨k, O, rfl, rfl, hk, hOl, HO, HB⟩ := hrel
    rename World => wr
    by_cases hlt : k < L
    · obtain ⟨q, hq⟩ : ∃ q, qs[k]? = some q := ⟨qs[k]'(by have := HL.out; omega), List.getElem?_eq_getElem (by have := HL.out; omega)⟩
      obtain ⟨g, off, c', hv, _, _, d1, hM⟩ := (HR.out.stay HB.out).at hq
      injection hv with hv1 hv2 hv3
      subst hv1
      clear hv2 hv3
      have a0 := d1 0 _ rfl
      have a1 := d1 1 _ rfl
      have a2 := d1 2 _ rfl
      have a3 := d1 3 _ rfl
      have a4 := d1 4 _ rfl
      have a5 := d1 5 _ rfl
      have a6 := d1 6 _ rfl
      rw [Nat.add_zero] at a0
      have HM := Lib.hid hM
      have KR := Lib.hid (fun (w' : World) (h : OnM w' q) => raw_c q w' h)
      have HOP := Lib.hid (raw_in hM.ok)
      have hTl := raw_len hM.ok
      have HNX : Hid (printO ((qs.take (k + 1)).map (fun q => rawO q.x)) = O ++ (textO (rawO q.x) ++ [10])) := Lib.hid (by rw [take_map_next hq, printO_snoc, HO.out])
      unfold RawR onV at KR
      obtain ⟨o, ho⟩ : ∃ o, rawO q.x = o := ⟨_, rfl⟩
      rw [ho] at KR HOP hTl HNX
      obtain ⟨T, hT⟩ : ∃ T, textO o = T := ⟨_, rfl⟩
      have KY := Lib.hid (fun (vP vS : Value) (w' : World) (h1 : InS w') (h2 : OpM w' ⟨o, 0, vP, vS⟩) => ltext_s ⟨o, 0, vP, vS⟩ w' h1 h2 HOP.out)
      simp only [hT] at KY
      rw [hT] at hTl HNX
      clear hT ho d1 hM hq
      obtain ⟨⟨K0, A0, B0, N0, pp, fi, lo⟩, vQ, vL⟩ := q
      obtain ⟨kd, fr, tg, nm, pl, ss, en⟩ := o
      obtain ⟨rQ, cQ, eQ, _⟩ := HM.out.parts.form
      obtain ⟨rL, cL, eL, _⟩ := HM.out.long.form
      simp only at eQ eL
      subst eQ
      subst eL
      unfold opV strV at *
      simp only at KR KY a0 a1 a2 a3 a4 a5 a6
      go_upto_region 9 with fail
      have t1 := RBox.new wr [.int .u8 (K0 : Int), .int .u8 (A0 : Int), .int .u8 (B0 : Int), .int .u8 (N0 : Int), (.slice rQ pp.length cQ), .int .i16 fi, (.slice rL lo.length cL)] 29
      have t2 := HM.out.stay ((Below.refl wr.heap.size wr).alloc (Nat.le_refl _) (.cells #[.int .u8 (K0 : Int), .int .u8 (A0 : Int), .int .u8 (B0 : Int), .int .u8 (N0 : Int), (.slice rQ pp.length cQ), .int .i16 fi, (.slice rL lo.length cL)] 29))
      have t4 := HB.out.alloc HB.out.size (.cells #[.int .u8 (K0 : Int), .int .u8 (A0 : Int), .int .u8 (B0 : Int), .int .u8 (N0 : Int), (.slice rQ pp.length cQ), .int .i16 fi, (.slice rL lo.length cL)] 29)
      change RBox (wr.alloc (.cells #[.int .u8 (K0 : Int), .int .u8 (A0 : Int), .int .u8 (B0 : Int), .int .u8 (N0 : Int), (.slice rQ pp.length cQ), .int .i16 fi, (.slice rL lo.length cL)] 29)) _ _ at t1
      generalize wr.alloc (.cells #[.int .u8 (K0 : Int), .int .u8 (A0 : Int), .int .u8 (B0 : Int), .int .u8 (N0 : Int), (.slice rQ pp.length cQ), .int .i16 fi, (.slice rL lo.length cL)] 29) = U1 at *
      generalize wr.heap.size = Y at *
      clear a0 a1 a2 a3 a4 a5 a6 HM HB
      have y0 := t1.at_ 0 _ rfl
      have y1 := t1.at_ 1 _ rfl
      have y2 := t1.at_ 2 _ rfl
      have y3 := t1.at_ 3 _ rfl
      have y4 := t1.at_ 4 _ rfl
      have y5 := t1.at_ 5 _ rfl
      have y6 := t1.at_ 6 _ rfl
      have HM1 := Lib.hid t2
      have HB2 := Lib.hid t4
      have u1 := bytes_app T [10]
      have u2 := bytes_app O (T ++ [10])
      have HTL : Hid ((T ++ [10]).length = T.length + 1) := Lib.hid (by simp)
      have HNL : Hid ((O ++ (T ++ [10])).length ≤ 301 * (k + 1)) := Lib.hid (by rw [List.length_append, HTL.out]; omega)
      have s1 : ¬ 9223372036854775807 < T.length + 1 := by omega
      have s2 : ¬ 9223372036854775807 < O.length + (T ++ [10]).length := by rw [HTL.out]; omega
      generalize O ++ (T ++ [10]) = O2 at *
      generalize T ++ [10] = T2 at *
      clear t1 t2 t4
      go_upto_region 10 with (first
        | (go_at_call 11; refine (KY.out _ _ _ HI3.out HW.out.opm).mono ?_; rintro e w6 ⟨rfl, hb⟩; have HB6 := Lib.hid (HB3.out.trans (hb.mono HB3.out.size)); clear hb y0 y1 y2 y3 y4 y5 y6)
        | (go_at_call 10; refine (KR.out _ HM1.out).mono ?_; rintro e w2 ⟨vP, vS, rfl, hw, hb⟩; have HW := Lib.hid hw; have hf1 := owns_form hw.parts; have hf2 := owns_form hw.starts; simp only at hf1 hf2; obtain ⟨rP, cP, rfl⟩ := hf1; obtain ⟨rS, cS, rfl⟩ := hf2; have HB3 := Lib.hid (HB2.out.trans (hb.mono HB2.out.size)); have HI3 := Lib.hid (HI.out.stay HB3.out); clear hw hb))
      go_wp2
      go_roundw
      case rel => exact ⟨k + 1, O2, rfl, by go_num, by omega, HNL.out, Lib.hid HNX.out.symm, HB6⟩
      case measure => simp [RowKit.intOf]; omega
    · obtain rfl : k = L := by omega
      go_upto_region 12 with fail
      obtain ⟨K, hK⟩ : ∃ K : Nat, (a : Int) % ((O.length : Int) + 1) = (K : Int) := ⟨a % (O.length + 1), by push_cast; rfl⟩
      rw [hK]
      have hKO : K ≤ O.length := by have := Int.emod_lt_of_pos (a : Int) (show (0 : Int) < (O.length : Int) + 1 by omega); omega
      clear hK
      obtain ⟨C9, hC9⟩ : ∃ K : Nat, (c : Int) % 9 = (K : Int) := ⟨c % 9, by push_cast; rfl⟩
      have hC8 : C9 ≤ 8 := by omega
      go_region
      have hsz : ((⟨O.toArray⟩ : ByteArray).extract 0 K ++ ⟨M.toArray⟩ ++ (⟨O.toArray⟩ : ByteArray).extract (min ((K : Int) + (C9 : Int)) (O.length : Int)).toNat O.length).size ≤ 10000 := by
        have e1 : (⟨O.toArray⟩ : ByteArray).size = O.length := rfl
        have e2 : (⟨M.toArray⟩ : ByteArray).size = M.length := rfl
        simp only [ByteArray.size_append, ByteArray.size_extract, e1, e2]
        omega
      generalize (⟨O.toArray⟩ : ByteArray).extract 0 K ++ ⟨M.toArray⟩ ++ (⟨O.toArray⟩ : ByteArray).extract (min ((K : Int) + (C9 : Int)) (O.length : Int)).toNat O.length = s at *
      have HBd := Lib.hid HB.out.drew
      generalize wr.drew = W5 at *
      have K1 := fun (w' : World) (h : Below w.heap.size w w') => parC.parse s w' (HI.out.stay h) (by omega)
      have K2 := fun (w' : World) (h : Below w.heap.size w w') => lparse_c dayC s w' (HI.out.stay h).1 hsz
      obtain ⟨p, hp⟩ : ∃ p, prsT s.data.toList = p := ⟨_, rfl⟩
      rw [hp] at K1 K2
      obtain ⟨ls, pl, cd⟩ := p
      unfold PrsR at K1 K2
      simp only at K1 K2
      have K1 := Lib.hid K1
      have K2 := Lib.hid K2
      clear hp hsz HO
      go_wp2_with (first
        | (go_at_call 13; refine (same14 _ _ _ _ _ HR2.out HR3.out (HP2.out.trans HP3.out.symm)).mono ?_; rintro e w4 ⟨rfl, h4⟩; have HB4 := Lib.hid (HB3.out.trans (h4.mono HB3.out.size)); clear h4)
        | (go_at_call 15; refine (K2.out _ HB2.out).mono ?_; rintro e w3 ⟨q3, c3, ps3, rfl, hr, hp, h3⟩; have HR2 := Lib.hid (HR1.out.stay h3); have HR3 := Lib.hid hr; have HP3 := Lib.hid hp; have HB3 := Lib.hid (HB2.out.trans (h3.mono HB2.out.size)); clear h3 hr hp)
        | (go_at_call 12; refine (K1.out _ HBd.out).mono ?_; rintro e w2 ⟨q2, c2, ps2, rfl, hr, hp, h2⟩; have HR1 := Lib.hid hr; have HP2 := Lib.hid hp; have HB2 := Lib.hid (HBd.out.trans (h2.mono HBd.out.size)); clear h2 hr hp))
      go_ret
      exact ⟨rfl, HB4.out⟩
set_option maxRecDepth 100000 in
theorem spoilt_any (v : Value) (qs : List Oi) (a c : Nat) (m : ByteArray) (w : World) (hI : InS w) (hR : SRow w v qs) (ha : a < 65536) (hc : c < 256) (hm : m.size ≤ 9223372036854775807) :
    Calls Tryz.prog 5 #[v, .int .u16 (a : Int), .int .u8 (c : Int), .string m] w fun e w' => e = .returned (.bool true) ∧ Below w.heap.size w w' := by
  by_cases h : qs.length ≤ 20 ∧ m.size ≤ 40
  · have e : m = ⟨m.data.toList.toArray⟩ := rfl
    rw [e]
    exact spoilt_c v qs a c m.data.toList w hI hR ha hc h.1 (by simpa using h.2)
  · have KA := Lib.hid (awake14 parC w hI)
    obtain ⟨r0, c0, rfl, hq⟩ := hR.1.form
    by_cases h1 : qs.length ≤ 20
    · have e1 : decide ((20 : Int) < (qs.length : Int)) = false := decide_eq_false (by omega)
      have e2 : decide ((40 : Int) < (m.size : Int)) = true := decide_eq_true (by omega)
      clear hR hI h
      go_enter Tryz.func5, Tryz.ntmps5
      go_wp2_with (go_at_call 9; refine KA.out.mono ?_; rintro e w1 ⟨rfl, hb⟩; have HB1 := Lib.hid hb; clear hb)
      go_ret
      exact ⟨rfl, HB1.out⟩
    · have e1 : decide ((20 : Int) < (qs.length : Int)) = true := decide_eq_true (by omega)
      clear hR hI h
      go_enter Tryz.func5, Tryz.ntmps5
      go_wp2_with (go_at_call 9; refine KA.out.mono ?_; rintro e w1 ⟨rfl, hb⟩; have HB1 := Lib.hid hb; clear hb)
      go_ret
      exact ⟨rfl, HB1.out⟩
end Go.Proofs.YtffhnedladiaoaaGreatDoor

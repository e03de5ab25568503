/- The walk of law CodecCut. -/
import Derived.Test.YtmpefjnfelfnfaaGreatDoorChall
import Derived.Test.YtmpefjnfelfnfaaGreatDoorChi
namespace Go.Proofs.YtmpefjnfelfnfaaGreatDoor
open Go.RowKit
set_option linter.unusedVariables false
set_option linter.unusedSimpArgs false
set_option maxHeartbeats 4000000 in
set_option maxRecDepth 100000 in
theorem codeccut_any {I : World → Prop} (C : AllotC) (D : DayC I) (K : KeyC I) (U : UnitC) (LC : CalC I) (EC : EntryC I) (B : BookC I) (CO : CodecC I) (DE : DecC I) (x : Bk) (vCh vUn vLo vJs : Value) (js : List Jp) (at_ : Nat) (vm : Value) (ms : List Nat) (hat : at_ < 65536) (hms : ∀ c ∈ ms, c < 256) (w : World) (hI : I w) (hM : BkM x vCh vUn vLo vJs js w) (hm : Recs byc 1 w vm ms) :
    Calls Tryz.prog 7 #[bV vCh vUn x.first vLo vJs, .int .u16 (at_ : Int), vm] w fun e w' => e = .returned (.bool true) ∧ Below w.heap.size w w' := by
  obtain ⟨q1, d1, rfl, _⟩ := hM.ch.form
  obtain ⟨q2, d2, rfl, _⟩ := hM.un.form
  obtain ⟨q3, d3, rfl, _⟩ := hM.lo.form
  obtain ⟨q4, d4, rfl, _⟩ := hM.jr.form
  obtain ⟨vCh, hvCh⟩ : ∃ v, Value.slice q1 x.chart.length d1 = v := ⟨_, rfl⟩
  obtain ⟨vUn, hvUn⟩ : ∃ v, Value.slice q2 x.units.length d2 = v := ⟨_, rfl⟩
  obtain ⟨vLo, hvLo⟩ : ∃ v, Value.slice q3 x.long.length d3 = v := ⟨_, rfl⟩
  obtain ⟨vJs, hvJs⟩ : ∃ v, Value.slice q4 js.length d4 = v := ⟨_, rfl⟩
  rw [hvCh, hvUn, hvLo, hvJs] at hM ⊢
  clear hvCh hvUn hvLo hvJs
  have HI := Lib.hid hI
  have HDY := Lib.hid D
  have HBC := Lib.hid B
  have HCO := Lib.hid CO
  have KA := Lib.hid (fun (w' : World) (h : Below w.heap.size w w') => awake11_any C D K U LC EC B CO w' (D.stay hI h))
  have KL := Lib.hid (fun (w' : World) (h : Below w.heap.size w w') => light_c x vCh vUn vLo vJs js w' (hM.stay h))
  have KM0 := Lib.hid (fun (hT : lightB x = true) (w' : World) (h : Below w.heap.size w w') => mk_c x vCh vUn vLo vJs js w' (hM.stay h) hT)
  have KE0 := Lib.hid (fun (hT : lightB x = true) (w' : World) (v : Value) (h : MkB x w' v) => enc_mk CO hT h)
  obtain ⟨LT, hLT⟩ : ∃ b, lightB x = b := ⟨_, rfl⟩
  have HLT := Lib.hid hLT
  rw [hLT] at KL
  unfold bV at KL KM0 ⊢
  have HDE := Lib.hid DE
  clear DE
  obtain ⟨rm, cm, rfl, hml⟩ := hm.form
  have HMS := Lib.hid hm
  have HMB := Lib.hid hms
  obtain ⟨M, hMl⟩ : ∃ n, ms.length = n := ⟨_, rfl⟩
  have HML := Lib.hid hMl
  rw [hMl] at HMS hml ⊢
  clear hm hms hMl
  have hb := (Below.refl w.heap.size w).alloc (Nat.le_refl _) (.cells #[vCh, vUn, .int .i16 x.first, vLo, vJs] 28)
  have bx := HBox.new w [vCh, vUn, .int .i16 x.first, vLo, vJs] 28
  change HBox (w.alloc (.cells #[vCh, vUn, .int .i16 x.first, vLo, vJs] 28)) _ _ _ at bx
  clear C D K U LC EC B CO hI hM hLT
  go_enter Tryz.func7, Tryz.ntmps7
  go_upto_region 1 with fail
  generalize w.alloc (.cells #[vCh, vUn, .int .i16 x.first, vLo, vJs] 28) = W at *
  generalize w.heap.size = X at bx ⊢
  have HX := Lib.hid bx
  have HB := Lib.hid hb
  clear bx hb
  go_upto_region 3 with (go_at_call 9; refine (KA.out _ HB.out).mono ?_; rintro e w4 ⟨rfl, h4⟩; have HX4 := Lib.hid (HX.out.stay h4); have HB4 := Lib.hid (HB.out.trans (h4.mono HB.out.size)); clear h4)
  have x0 := HX4.out.cell (j := 0) rfl
  have x1 := HX4.out.cell (j := 1) rfl
  have x2 := HX4.out.cell (j := 2) rfl
  have x3 := HX4.out.cell (j := 3) rfl
  have x4 := HX4.out.cell (j := 4) rfl
  clear HX HB
  cases LT with
  | false =>
    go_wp2_with (go_at_call 10; refine (KL.out _ HB4.out).mono ?_; rintro e w5 ⟨rfl, h5⟩; have HB5 := Lib.hid (HB4.out.trans (h5.mono HB4.out.size)); clear h5)
    go_ret
    exact ⟨rfl, HB5.out⟩
  | true =>
    have KM := Lib.hid (KM0.out HLT.out)
    have KE := Lib.hid (KE0.out HLT.out)
    clear KM0 KE0
    by_cases hm30 : 30 < M
    · have t1 : decide ((30 : Int) < (M : Int)) = true := decide_eq_true (by omega)
      go_wp2_with (go_at_call 10; refine (KL.out _ HB4.out).mono ?_; rintro e w5 ⟨rfl, h5⟩; have HX5 := Lib.hid (HX4.out.stay h5); have HB5 := Lib.hid (HB4.out.trans (h5.mono HB4.out.size)); clear h5)
      go_ret
      exact ⟨rfl, HB5.out⟩
    have t1 : decide ((30 : Int) < (M : Int)) = false := decide_eq_false (by omega)
    go_upto_region 5 with (go_at_call 10; refine (KL.out _ HB4.out).mono ?_; rintro e w5 ⟨rfl, h5⟩; have HX5 := Lib.hid (HX4.out.stay h5); have HB5 := Lib.hid (HB4.out.trans (h5.mono HB4.out.size)); clear h5)
    clear x0 x1 x2 x3 x4 HX4 HB4
    have x0 := HX5.out.cell (j := 0) rfl
    have x1 := HX5.out.cell (j := 1) rfl
    have x2 := HX5.out.cell (j := 2) rfl
    have x3 := HX5.out.cell (j := 3) rfl
    have x4 := HX5.out.cell (j := 4) rfl
    obtain ⟨hb1, hb2, hb3, hb4⟩ := made_bd HLT.out
    have hb5 := encFr_len (frB x)
    have hb6 : 4 ≤ (encB (frB x) (makeJ x)).length := by rw [encB_eq, List.length_append]; omega
    have HLTB := Lib.hid (fun c hc => encB_lt (frB x) (makeJ x) c hc)
    have HCUT := Lib.hid (fun (k : Nat) (hk : k < (encB (frB x) (makeJ x)).length) => dec_cut hb1 hk)
    have HMORE := Lib.hid (fun (t : List Nat) (ht : t ≠ []) (hl : (encB (frB x) (makeJ x) ++ t).length ≤ 1048576) => dec_more hb1 ht hl)
    have HFULL := Lib.hid (made_dec HLT.out)
    generalize encB (frB x) (makeJ x) = EB at KE hb4 hb6 HLTB HCUT HMORE HFULL
    obtain ⟨L, hL⟩ : ∃ n, EB.length = n := ⟨_, rfl⟩
    rw [hL] at KE hb4 hb6 HCUT
    have HL := Lib.hid hL
    clear hL hb1 hb2 hb3 hb5
    go_upto_region 6 with (first
      | (go_at_call 13; refine (KE.out _ _ HK6.out).mono ?_; rintro e w7 ⟨r7, c7, rfl, o7, h7⟩; have HO7 := Lib.hid o7; have HB7 := Lib.hid (HB6.out.trans (h7.mono HB6.out.size)); clear o7 h7)
      | (go_at_call 11; refine (KM.out _ HB5.out).mono ?_; rintro e w6 ⟨v6, rfl, hK, h6⟩; have HK6 := Lib.hid hK; have HB6 := Lib.hid (HB5.out.trans (h6.mono HB5.out.size)); clear hK h6))
    clear x0 x1 x2 x3 x4 HX5 HB5 KE KM KL KA HK6 HB6
    obtain ⟨b7, off7, rfl, hb77, hc7⟩ := rec_some HO7.out HL.out (by omega)
    obtain ⟨k, hk⟩ : ∃ k, at_ % L = k := ⟨_, rfl⟩
    have hkL : k < L := by rw [← hk]; exact Nat.mod_lt _ (by omega)
    have t2 : ((L : Int) == 0) = false := by rw [beq_eq_false_iff_ne]; omega
    have t3 : ¬ L = 0 := by omega
    have t4 : (at_ : Int).tmod (L : Int) = (k : Int) := by rw [Int.tmod_eq_emod_of_nonneg (by omega), ← hk]; rfl
    have t5 : (at_ : Int) % (L : Int) = (k : Int) := by rw [← hk]; rfl
    have t6 : IntKind.i64.wrap (k : Int) = (k : Int) := by rw [IntKind.wrap_i64]; omega
    have t7 : IntKind.i64.wrap (at_ : Int) = (at_ : Int) := by rw [IntKind.wrap_i64]; omega
    have t8 : k ≤ c7 := by omega
    obtain ⟨e1, he1⟩ : ∃ c, (decB (EB.take k)).2.2 = c := ⟨_, rfl⟩
    have hne1 : e1 ≠ 0 := by rw [← he1]; exact HCUT.out k hkL
    have K8 := Lib.hid (dec_short HDE.out _ (EB.take k) _ (HDY.out.stay HI.out HB7.out) (byc_take HO7.out HL.out k (by omega)) (fun c hc => HLTB.out c (List.mem_of_mem_take hc)) e1 he1)
    have t9 : (e1 != 0) = true := by rw [bne_iff_ne]; exact hne1
    clear hk hne1 he1 HCUT
    go_upto_region 9 with (go_at_call 12; refine K8.out.mono ?_; rintro e w8 ⟨s0, s1, s2, s4, n0, n1, n2, n4, k0, k1, k2, k4, a3, rfl, h8⟩; have HO8 := Lib.hid (HO7.out.stay h8); have HB8 := Lib.hid (HB7.out.trans (h8.mono HB7.out.size)); clear h8)
    have hbw := (Below.refl w8.heap.size w8).alloc (Nat.le_refl _) (.cells #[.slice s0 n0 k0, .slice s1 n1 k1, .slice s2 n2 k2, .int .i32 a3, .slice s4 n4 k4] 41)
    have HO9 := Lib.hid (HO8.out.stay hbw)
    have HB9 := Lib.hid (HB8.out.trans (hbw.mono HB8.out.size))
    clear hbw HO7 HO8 HB7 HB8 K8
    generalize w8.alloc (.cells #[.slice s0 n0 k0, .slice s1 n1 k1, .slice s2 n2 k2, .int .i32 a3, .slice s4 n4 k4] 41) = W9 at HO9 HB9 ⊢
    have K9 := Lib.hid (clone_8 EB _ L c7 W9 HO9.out HL.out (by omega))
    obtain ⟨e2, he2⟩ : ∃ c, (decB (EB ++ ms)).2.2 = c := ⟨_, rfl⟩
    have hE2 : e2 = if M = 0 then 0 else 4 := by
      rw [← he2]
      by_cases h0 : M = 0
      · have : ms = [] := List.eq_nil_of_length_eq_zero (by have := HML.out; omega)
        rw [if_pos h0, this, List.append_nil, HFULL.out]
      · rw [if_neg h0, HMORE.out ms (by intro h; rw [h] at HML; exact h0 HML.out.symm) (by rw [List.length_append, HML.out, HL.out]; omega)]
    have HE2 := Lib.hid he2
    have HEE := Lib.hid hE2
    clear HFULL HMORE he2 hE2
    obtain ⟨N, hN⟩ : ∃ N, (EB ++ ms).length = N := ⟨_, rfl⟩
    have hN8 : (EB ++ ms).length ≤ 100000000 := by rw [List.length_append]; have := HL.out; have := HML.out; omega
    have KC9 : Hid (Calls Tryz.prog 21 #[.slice (some ⟨b7, off7, none⟩) L c7] W9 fun e w' => ∃ r10 c10, e = .returned (.slice r10 L c10) ∧ ∃ r11 c11 w11, (∀ ty, (Builtin.append_ #[25, 25] ty #[.slice r10 L c10, .slice rm M cm]).run Tryz.prog w' = .ok (.slice r11 N c11) w11) ∧ Recs byc 1 w11 (.slice r11 N c11) (EB ++ ms) ∧ Below w.heap.size w w11) := Lib.hid (by
      refine K9.out.mono ?_
      rintro e w10 ⟨v10, rfl, o10, h10⟩
      obtain ⟨r10, c10, rfl⟩ := own_form o10
      have hb10 := HB9.out.trans (h10.mono HB9.out.size)
      have o10' : w10.ownsRow W9.heap.size 5 1 (.slice r10 L c10) EB.length (EB.flatMap byc) := by rw [HL.out]; exact o10
      obtain ⟨v11, w11, hrun, o11, h11⟩ := append_8 _ _ EB ms W9.heap.size w10 o10' (HMS.out.stay hb10) (by have := HL.out; have := HML.out; omega) h10.size
      have hR11 := recs_of_owns8 o11 hN8
      obtain ⟨r11, c11, rfl, _⟩ := hR11.form
      rw [hN] at hrun hR11
      exact ⟨r10, c10, rfl, r11, c11, w11, hrun, hR11, hb10.trans (h11.mono HB9.out.size)⟩)
    have KD9 : Hid (∀ (w11 : World) (r11 : Option Addr) (c11 : Nat), Recs byc 1 w11 (.slice r11 N c11) (EB ++ ms) → Below w.heap.size w w11 → Calls Tryz.prog 12 #[.slice r11 N c11] w11 fun e w' => ∃ (s0 s1 s2 s4 : Option Addr) (n0 n1 n2 n4 k0 k1 k2 k4 : Nat) (a3 : Int), e = .returned (.tuple #[.agg #[.slice s0 n0 k0, .slice s1 n1 k1, .slice s2 n2 k2, .int .i32 a3, .slice s4 n4 k4], .int .i64 e2]) ∧ Below w.heap.size w w') := Lib.hid (by
      intro w11 r11 c11 hR hB
      refine (dec_short HDE.out _ (EB ++ ms) _ (HDY.out.stay HI.out hB) hR (fun c hc => (List.mem_append.1 hc).elim (HLTB.out c) (HMB.out c)) e2 HE2.out).mono ?_
      rintro e w' ⟨u0, u1, u2, u4, m0, m1, m2, m4, l0, l1, l2, l4, g3, rfl, h12⟩
      exact ⟨u0, u1, u2, u4, m0, m1, m2, m4, l0, l1, l2, l4, g3, rfl, hB.trans (h12.mono hB.size)⟩)
    clear hN hN8 K9 HE2 HO9 HB9
    go_upto_region 10 with (first
      | (at_builtin; refine wpList_append_runU rfl _ _ _ _ rfl _ _ _ _ rfl rfl HRUN.out ?_)
      | (go_at_call 12; refine (KD9.out _ _ _ HO11.out HB11.out).mono ?_; rintro e w12 ⟨u0, u1, u2, u4, m0, m1, m2, m4, l0, l1, l2, l4, g3, rfl, h12⟩; have HB12 := Lib.hid h12; clear h12)
      | (go_at_call 21; refine KC9.out.mono ?_; rintro e w10 ⟨r10, c10, rfl, r11, c11, w11, hrun, hR11, h11⟩; have HRUN := Lib.hid hrun; have HO11 := Lib.hid hR11; have HB11 := Lib.hid h11; clear hrun hR11 h11))
    have HBF := Lib.hid (HB12.out.trans (((Below.refl w12.heap.size w12).alloc (Nat.le_refl _) (.cells #[.slice u0 m0 l0, .slice u1 m1 l1, .slice u2 m2 l2, .int .i32 g3, .slice u4 m4 l4] 41)).mono HB12.out.size))
    clear HB12 HB11 HO11 HRUN KC9 KD9
    by_cases h0 : M = 0
    · have e0 : e2 = 0 := by rw [HEE.out, if_pos h0]
      clear HEE
      subst e0
      subst h0
      go_wp2_with fail
      go_ret
      exact ⟨rfl, HBF.out⟩
    · have e4 : e2 = 4 := by rw [HEE.out, if_neg h0]
      clear HEE
      subst e4
      have u1 : ((M : Int) == 0) = false := by rw [beq_eq_false_iff_ne]; omega
      go_wp2_with fail
      go_ret
      exact ⟨rfl, HBF.out⟩
end Go.Proofs.YtmpefjnfelfnfaaGreatDoor

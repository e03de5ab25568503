/- The walk of law ChartSpoilt (written by wip/hfgen.py). -/
import Derived.Test.YtdhgkggcnilgoaaGreatDoorHd
import Derived.Deep.DeepCutAuto
namespace Go.Proofs.YtdhgkggcnilgoaaGreatDoor
open Go.RowKit
set_option linter.unusedVariables false
set_option linter.unusedSimpArgs false
theorem turn_modH {k : Nat} {n : Nat} (hk : k < 256) : (wrap64 (k : Int)).tmod (n : Int) = ((k % n : Nat) : Int) := by
  have e : wrap64 (k : Int) = k := by unfold wrap64; omega
  rw [e, Int.tmod_eq_emod_of_nonneg (by omega)]
  simp
theorem at_splitH {α : Type} {xs : List α} {k : Nat} {x : α} (h : xs[k]? = some x) : ∃ A B, xs = A ++ x :: B ∧ A.length = k := by
  obtain ⟨hk, e⟩ := List.getElem?_eq_some_iff.1 h
  refine ⟨xs.take k, xs.drop (k + 1), ?_, by rw [List.length_take]; omega⟩
  have := (List.take_append_drop k xs).symm
  rwa [List.drop_eq_getElem_cons hk, e] at this
/-- One cell of a row of records turned. -/
theorem flat_setH {α : Type} {enc : α → List Value} {sz : Nat} (hk : ∀ x, (enc x).length = sz) {xs : List α} {k j : Nat} {x y : α} {u : Value} (h : xs[k]? = some x) (hj : j < sz) (hy : enc y = (enc x).set j u) : (xs.flatMap enc).set (k * sz + j) u = (xs.set k y).flatMap enc := by
  obtain ⟨A, B, rfl, hA⟩ := at_splitH h
  have hl : (A.flatMap enc).length = k * sz := by rw [flat_len hk, hA]
  rw [List.flatMap_append, List.flatMap_cons, List.set_append_right _ _ (by omega), hl, show k * sz + j - k * sz = j by omega, List.set_append_left _ _ (by rw [hk]; exact hj), ← hy]
  rw [List.set_append_right _ _ (by omega), hA, Nat.sub_self, List.set_cons_zero, List.flatMap_append, List.flatMap_cons]
theorem mkC_len (l : List Qt) (h : l.length ≤ 40) : (mkC l).length = l.length := by unfold mkC; rw [stI_len l _ (by omega)]; omega
set_option maxHeartbeats 4000000 in
set_option maxRecDepth 100000 in
theorem chartspoilt_any {I : World → Prop} (C : AllotC) (D : DayC I) (K : KeyC I) (x : Value) (zs : List Qt) (t f n : Nat) (s : ByteArray) (w : World) (hI : I w) (hQ : Recs qc 4 w x zs) (ht : t < 256) (hf : f < 256) (hn : n < 4294967296) (hs : s.size ≤ 9223372036854775807) :
    Calls Tryz.prog 4 #[x, .int .u8 (t : Int), .int .u8 (f : Int), .int .u32 (n : Int), .string s] w fun e w' => e = .returned (.bool true) ∧ Below w.heap.size w w' := by
  have K1 := Lib.hid (awake6_any C D K w hI)
  obtain ⟨r1, m, cap1, hx, hm⟩ : ∃ r n cap, x = .slice r n cap ∧ zs.length = n := by obtain ⟨r, cap, h, _⟩ := hQ.form; exact ⟨r, _, cap, h, rfl⟩
  have hm0 : m ≤ 9223372036854775807 := by obtain ⟨r, cap, h, h2⟩ := hQ.form; omega
  by_cases h0 : m = 0
  · have e1 : ((m : Int) == 0) = true := by simp [h0]
    subst hx
    clear hQ hm h0
    go_enter Tryz.func4, Tryz.ntmps4
    go_wp2_with (go_at_call 5; refine K1.out.mono ?_; rintro e w1 ⟨rfl, hb1⟩; have HB1 := Lib.hid hb1; clear hb1)
    go_ret
    exact ⟨rfl, HB1.out⟩
  · have e1 : ((m : Int) == 0) = false := by simp; omega
    by_cases h40 : 40 < m
    · have e2 : (40 : Int) < (m : Int) := by omega
      subst hx
      clear hQ hm h0
      go_enter Tryz.func4, Tryz.ntmps4
      go_wp2_with (go_at_call 5; refine K1.out.mono ?_; rintro e w1 ⟨rfl, hb1⟩; have HB1 := Lib.hid hb1; clear hb1)
      go_ret
      exact ⟨rfl, HB1.out⟩
    · have e2 : ¬ (40 : Int) < (m : Int) := by omega
      by_cases h60 : 60 < s.size
      · have e3 : (60 : Int) < (s.size : Int) := by omega
        subst hx
        clear hQ hm h0
        go_enter Tryz.func4, Tryz.ntmps4
        go_wp2_with (go_at_call 5; refine K1.out.mono ?_; rintro e w1 ⟨rfl, hb1⟩; have HB1 := Lib.hid hb1; clear hb1)
        go_ret
        exact ⟨rfl, HB1.out⟩
      · have e3 : ¬ (60 : Int) < (s.size : Int) := by omega
        have K2 := Lib.hid (fun (w' : World) (h : Below w.heap.size w w') => make_c x zs w' (hQ.stay h))
        have hlen := mkC_len zs (by omega)
        rw [hm] at hlen
        generalize mkC zs = c at *
        rw [hlen] at K2
        have HL := Lib.hid hlen
        have e4 := turn_modH (n := m) ht
        have e7 : (t : Int) % (m : Int) = ((t % m : Nat) : Int) := by simp
        have hpk : t % m < m := Nat.mod_lt _ (by omega)
        generalize t % m = i at e4 e7 hpk
        obtain ⟨a, ha⟩ : ∃ a, c[i]? = some a := ⟨c[i]'(by omega), List.getElem?_eq_getElem (by omega)⟩
        have K3 := Lib.hid (fun (w' : World) (v : Value) (d : List Ac) (h : Recs cc 4 w' v d) => check_c v d w' h)
        have K4 := Lib.hid (fun (w' : World) (v : Value) (d : List Ac) (h : Recs cc 4 w' v d) => lcheck_c v d w' h)
        have HA := Lib.hid ha
        subst hx
        clear hQ hm h0 hlen ha
        rcases (by omega : f % 4 = 0 ∨ f % 4 = 1 ∨ f % 4 = 2 ∨ f % 4 = 3) with hw | hw | hw | hw
        · have e5 : (f : Int) % 4 = 0 := by omega
          obtain ⟨d, hd⟩ : ∃ d, c.set i ⟨n, a.name, a.kind, a.par, hn, a.hk, a.hp, a.hn⟩ = d := ⟨_, rfl⟩
          have HF : Hid ((c.flatMap cc).set (i * 4 + 0) (.int .u32 (n : Int)) = d.flatMap cc ∧ d.length = m) := Lib.hid (by rw [← hd]; exact ⟨flat_setH cc_len HA.out (by omega) rfl, by rw [List.length_set]; exact HL.out⟩)
          clear hw hd
          have K5 := Lib.hid (fun w' v h => K3.out w' v d h)
          have K6 := Lib.hid (fun w' v h => K4.out w' v d h)
          generalize chkA d = E at *
          go_enter Tryz.func4, Tryz.ntmps4
          go_upto_region 6 with (first
            | (go_at_call 6; refine (K2.out _ HB1.out).mono ?_; rintro e w2 ⟨v2, rfl, ho, hb⟩; have HO2 := Lib.hid ho; have HB2 := Lib.hid (HB1.out.trans (hb.mono HB1.out.size)); obtain ⟨r2, cap2, rfl⟩ := owns_form ho; clear ho hb)
            | (go_at_call 5; refine K1.out.mono ?_; rintro e w1 ⟨rfl, hb1⟩; have HB1 := Lib.hid hb1; clear hb1))
          obtain ⟨G, hr1, hGb⟩ : ∃ G, r2 = some ⟨G, 0, none⟩ ∧ w1.heap.size ≤ G := by
            rcases HO2.out.2 with ⟨h0, h1⟩ | ⟨g', cp, cur, h0, h1, _⟩
            · omega
            · cases h0; exact ⟨g', rfl, h1⟩
          subst hr1
          have hl4 := flat_len cc_len c
          rw [HL.out] at hl4
          have hp := HO2.out.cellAt (i * 4 + 0) (by omega)
          have hz := HO2.out.frozenAt (i * 4 + 0)
          rw [flat_get cc_len HA.out (j := 0) (u := .int .u32 (a.code : Int)) rfl] at hp
          have HST := Lib.hid (HO2.out.stored (i * 4 + 0) (.int .u32 (n : Int))).1
          rw [HF.out.1] at HST
          simp only [Nat.add_zero] at hp hz HST
          have HR3 := Lib.hid (recs_of_owns cc_len HST.out HF.out.2.symm (by omega))
          have HB3 := Lib.hid (HB2.out.setCell (p := ⟨G, i * 4, none⟩) (Nat.le_trans HB1.out.size hGb) (.int .u32 (n : Int)))
          clear hl4 HF
          go_wp2_with (first
            | (go_at_call 8; refine (K6.out _ _ HR4.out).mono ?_; rintro e w5 ⟨rfl, hb⟩; have HB5 := Lib.hid (HB4.out.trans (hb.mono HB4.out.size)); clear hb)
            | (go_at_call 7; refine (K5.out _ _ HR3.out).mono ?_; rintro e w4 ⟨rfl, hb⟩; have HB4 := Lib.hid (HB3.out.trans (hb.mono HB3.out.size)); have HR4 := Lib.hid (HR3.out.stay hb); clear hb))
          go_ret
          exact ⟨by simp, HB5.out⟩
        · have e5 : (f : Int) % 4 = 1 := by omega
          obtain ⟨d, hd⟩ : ∃ d, c.set i ⟨a.code, s, a.kind, a.par, a.hc, a.hk, a.hp, hs⟩ = d := ⟨_, rfl⟩
          have HF : Hid ((c.flatMap cc).set (i * 4 + 1) (.string s) = d.flatMap cc ∧ d.length = m) := Lib.hid (by rw [← hd]; exact ⟨flat_setH cc_len HA.out (by omega) rfl, by rw [List.length_set]; exact HL.out⟩)
          clear hw hd
          have K5 := Lib.hid (fun w' v h => K3.out w' v d h)
          have K6 := Lib.hid (fun w' v h => K4.out w' v d h)
          generalize chkA d = E at *
          go_enter Tryz.func4, Tryz.ntmps4
          go_upto_region 6 with (first
            | (go_at_call 6; refine (K2.out _ HB1.out).mono ?_; rintro e w2 ⟨v2, rfl, ho, hb⟩; have HO2 := Lib.hid ho; have HB2 := Lib.hid (HB1.out.trans (hb.mono HB1.out.size)); obtain ⟨r2, cap2, rfl⟩ := owns_form ho; clear ho hb)
            | (go_at_call 5; refine K1.out.mono ?_; rintro e w1 ⟨rfl, hb1⟩; have HB1 := Lib.hid hb1; clear hb1))
          obtain ⟨G, hr1, hGb⟩ : ∃ G, r2 = some ⟨G, 0, none⟩ ∧ w1.heap.size ≤ G := by
            rcases HO2.out.2 with ⟨h0, h1⟩ | ⟨g', cp, cur, h0, h1, _⟩
            · omega
            · cases h0; exact ⟨g', rfl, h1⟩
          subst hr1
          have hl4 := flat_len cc_len c
          rw [HL.out] at hl4
          have hp := HO2.out.cellAt (i * 4 + 1) (by omega)
          have hz := HO2.out.frozenAt (i * 4 + 1)
          rw [flat_get cc_len HA.out (j := 1) (u := .string a.name) rfl] at hp
          have HST := Lib.hid (HO2.out.stored (i * 4 + 1) (.string s)).1
          rw [HF.out.1] at HST
          have HR3 := Lib.hid (recs_of_owns cc_len HST.out HF.out.2.symm (by omega))
          have HB3 := Lib.hid (HB2.out.setCell (p := ⟨G, i * 4 + 1, none⟩) (Nat.le_trans HB1.out.size hGb) (.string s))
          clear hl4 HF
          go_wp2_with (first
            | (go_at_call 8; refine (K6.out _ _ HR4.out).mono ?_; rintro e w5 ⟨rfl, hb⟩; have HB5 := Lib.hid (HB4.out.trans (hb.mono HB4.out.size)); clear hb)
            | (go_at_call 7; refine (K5.out _ _ HR3.out).mono ?_; rintro e w4 ⟨rfl, hb⟩; have HB4 := Lib.hid (HB3.out.trans (hb.mono HB3.out.size)); have HR4 := Lib.hid (HR3.out.stay hb); clear hb))
          go_ret
          exact ⟨by simp, HB5.out⟩
        · have e5 : (f : Int) % 4 = 2 := by omega
          obtain ⟨kd, hkd⟩ : ∃ kd, n % 7 = kd := ⟨_, rfl⟩
          have hkd7 : kd < 7 := by omega
          have e6 : (n : Int) % 7 = (kd : Int) := by omega
          clear hkd
          obtain ⟨d, hd⟩ : ∃ d, c.set i ⟨a.code, a.name, kd, a.par, a.hc, by omega, a.hp, a.hn⟩ = d := ⟨_, rfl⟩
          have HF : Hid ((c.flatMap cc).set (i * 4 + 2) (.int .u8 (kd : Int)) = d.flatMap cc ∧ d.length = m) := Lib.hid (by rw [← hd]; exact ⟨flat_setH cc_len HA.out (by omega) rfl, by rw [List.length_set]; exact HL.out⟩)
          clear hw hd
          have K5 := Lib.hid (fun w' v h => K3.out w' v d h)
          have K6 := Lib.hid (fun w' v h => K4.out w' v d h)
          generalize chkA d = E at *
          go_enter Tryz.func4, Tryz.ntmps4
          go_upto_region 6 with (first
            | (go_at_call 6; refine (K2.out _ HB1.out).mono ?_; rintro e w2 ⟨v2, rfl, ho, hb⟩; have HO2 := Lib.hid ho; have HB2 := Lib.hid (HB1.out.trans (hb.mono HB1.out.size)); obtain ⟨r2, cap2, rfl⟩ := owns_form ho; clear ho hb)
            | (go_at_call 5; refine K1.out.mono ?_; rintro e w1 ⟨rfl, hb1⟩; have HB1 := Lib.hid hb1; clear hb1))
          obtain ⟨G, hr1, hGb⟩ : ∃ G, r2 = some ⟨G, 0, none⟩ ∧ w1.heap.size ≤ G := by
            rcases HO2.out.2 with ⟨h0, h1⟩ | ⟨g', cp, cur, h0, h1, _⟩
            · omega
            · cases h0; exact ⟨g', rfl, h1⟩
          subst hr1
          have hl4 := flat_len cc_len c
          rw [HL.out] at hl4
          have hp := HO2.out.cellAt (i * 4 + 2) (by omega)
          have hz := HO2.out.frozenAt (i * 4 + 2)
          rw [flat_get cc_len HA.out (j := 2) (u := .int .u8 (a.kind : Int)) rfl] at hp
          have HST := Lib.hid (HO2.out.stored (i * 4 + 2) (.int .u8 (kd : Int))).1
          rw [HF.out.1] at HST
          have HR3 := Lib.hid (recs_of_owns cc_len HST.out HF.out.2.symm (by omega))
          have HB3 := Lib.hid (HB2.out.setCell (p := ⟨G, i * 4 + 2, none⟩) (Nat.le_trans HB1.out.size hGb) (.int .u8 (kd : Int)))
          clear hl4 HF
          go_wp2_with (first
            | (go_at_call 8; refine (K6.out _ _ HR4.out).mono ?_; rintro e w5 ⟨rfl, hb⟩; have HB5 := Lib.hid (HB4.out.trans (hb.mono HB4.out.size)); clear hb)
            | (go_at_call 7; refine (K5.out _ _ HR3.out).mono ?_; rintro e w4 ⟨rfl, hb⟩; have HB4 := Lib.hid (HB3.out.trans (hb.mono HB3.out.size)); have HR4 := Lib.hid (HR3.out.stay hb); clear hb))
          go_ret
          exact ⟨by simp, HB5.out⟩
        · have e5 : (f : Int) % 4 = 3 := by omega
          obtain ⟨d, hd⟩ : ∃ d, c.set i ⟨a.code, a.name, a.kind, n, a.hc, a.hk, hn, a.hn⟩ = d := ⟨_, rfl⟩
          have HF : Hid ((c.flatMap cc).set (i * 4 + 3) (.int .u32 (n : Int)) = d.flatMap cc ∧ d.length = m) := Lib.hid (by rw [← hd]; exact ⟨flat_setH cc_len HA.out (by omega) rfl, by rw [List.length_set]; exact HL.out⟩)
          clear hw hd
          have K5 := Lib.hid (fun w' v h => K3.out w' v d h)
          have K6 := Lib.hid (fun w' v h => K4.out w' v d h)
          generalize chkA d = E at *
          go_enter Tryz.func4, Tryz.ntmps4
          go_upto_region 6 with (first
            | (go_at_call 6; refine (K2.out _ HB1.out).mono ?_; rintro e w2 ⟨v2, rfl, ho, hb⟩; have HO2 := Lib.hid ho; have HB2 := Lib.hid (HB1.out.trans (hb.mono HB1.out.size)); obtain ⟨r2, cap2, rfl⟩ := owns_form ho; clear ho hb)
            | (go_at_call 5; refine K1.out.mono ?_; rintro e w1 ⟨rfl, hb1⟩; have HB1 := Lib.hid hb1; clear hb1))
          obtain ⟨G, hr1, hGb⟩ : ∃ G, r2 = some ⟨G, 0, none⟩ ∧ w1.heap.size ≤ G := by
            rcases HO2.out.2 with ⟨h0, h1⟩ | ⟨g', cp, cur, h0, h1, _⟩
            · omega
            · cases h0; exact ⟨g', rfl, h1⟩
          subst hr1
          have hl4 := flat_len cc_len c
          rw [HL.out] at hl4
          have hp := HO2.out.cellAt (i * 4 + 3) (by omega)
          have hz := HO2.out.frozenAt (i * 4 + 3)
          rw [flat_get cc_len HA.out (j := 3) (u := .int .u32 (a.par : Int)) rfl] at hp
          have HST := Lib.hid (HO2.out.stored (i * 4 + 3) (.int .u32 (n : Int))).1
          rw [HF.out.1] at HST
          have HR3 := Lib.hid (recs_of_owns cc_len HST.out HF.out.2.symm (by omega))
          have HB3 := Lib.hid (HB2.out.setCell (p := ⟨G, i * 4 + 3, none⟩) (Nat.le_trans HB1.out.size hGb) (.int .u32 (n : Int)))
          clear hl4 HF
          go_wp2_with (first
            | (go_at_call 8; refine (K6.out _ _ HR4.out).mono ?_; rintro e w5 ⟨rfl, hb⟩; have HB5 := Lib.hid (HB4.out.trans (hb.mono HB4.out.size)); clear hb)
            | (go_at_call 7; refine (K5.out _ _ HR3.out).mono ?_; rintro e w4 ⟨rfl, hb⟩; have HB4 := Lib.hid (HB3.out.trans (hb.mono HB3.out.size)); have HR4 := Lib.hid (HR3.out.stay hb); clear hb))
          go_ret
          exact ⟨by simp, HB5.out⟩
end Go.Proofs.YtdhgkggcnilgoaaGreatDoor

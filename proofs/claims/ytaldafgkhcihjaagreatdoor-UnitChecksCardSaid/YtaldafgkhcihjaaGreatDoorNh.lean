/- The walk of law UnitChecks. -/
import Derived.Test.YtaldafgkhcihjaaGreatDoorNf
import Derived.Test.YtaldafgkhcihjaaGreatDoorNg
import Derived.Deep.CutBlock
import Derived.Deep.DeepCutAuto
namespace Go.Proofs.YtaldafgkhcihjaaGreatDoor
open Go.RowKit
set_option linter.unusedVariables false
set_option linter.unusedSimpArgs false
theorem drop_at {α : Type} {l : List α} {k : Nat} {x : α} (h : l[k]? = some x) : l.drop k = x :: l.drop (k + 1) := by
  obtain ⟨hk, e⟩ := List.getElem?_eq_some_iff.1 h
  rw [List.drop_eq_getElem_cons hk, e]
/-- Where the search for what is wrong stands: behind one number, ahead of the rest. -/
def Chk (us : List Nat) (k : Nat) : Prop := ∃ h, chkU1 0 us = chkU1 h (us.drop k) ∧ (k = 0 → h = 0) ∧ ∀ p, p + 1 = k → us[p]? = some h
theorem Chk.start (us : List Nat) : Chk us 0 := ⟨0, rfl, fun _ => rfl, fun p h => by omega⟩
theorem Chk.range {us : List Nat} {k x : Nat} (h : Chk us k) (hx : us[k]? = some x) (hr : x = 0 ∨ 999 < x) : chkU1 0 us = 5 := by
  obtain ⟨h0, h1, _⟩ := h
  rw [h1, drop_at hx, chkU1, if_pos hr]
theorem Chk.order {us : List Nat} {p q x y : Nat} (h : Chk us q) (hq : p + 1 = q) (hy : us[p]? = some y) (hx : us[q]? = some x) (hr : ¬ (x = 0 ∨ 999 < x)) (hyx : x ≤ y) : chkU1 0 us = 6 := by
  obtain ⟨h0, h1, _, h3⟩ := h
  have := h3 p hq
  rw [hy] at this
  cases this
  rw [h1, drop_at hx, chkU1, if_neg hr, if_pos hyx]
theorem Chk.step {us : List Nat} {k x : Nat} (h : Chk us k) (hx : us[k]? = some x) (hr : ¬ (x = 0 ∨ 999 < x)) (hy : ∀ p y, p + 1 = k → us[p]? = some y → y < x) : Chk us (k + 1) := by
  obtain ⟨h0, h1, h2, h3⟩ := h
  refine ⟨x, ?_, fun e => by omega, fun p hp => by
    obtain rfl : p = k := by omega
    exact hx⟩
  rw [h1, drop_at hx, chkU1, if_neg hr, if_neg]
  by_cases hk : k = 0
  · rw [h2 hk]; omega
  · obtain ⟨p, rfl⟩ : ∃ p, k = p + 1 := ⟨k - 1, by omega⟩
    have := hy p h0 rfl (h3 p rfl)
    omega
theorem Chk.done {us : List Nat} {k : Nat} (h : Chk us k) (hk : us.length ≤ k) : chkU1 0 us = 0 := by
  obtain ⟨h0, h1, _⟩ := h
  rw [h1, List.drop_eq_nil_of_le hk]; rfl
set_option maxHeartbeats 4000000 in
set_option maxRecDepth 100000 in
theorem unitchecks_any {I : World → Prop} (C : AllotC) (D : DayC I) (K : KeyC I) (U : UnitC) (v : Value) (l : List Nat) (n : Nat) (own : Bool) (w : World) (hI : I w) (hR : Recs uc 1 w v l) (hl : ∀ x ∈ l, x < 65536) (hn : n < 65536) :
    Calls Tryz.prog 3 #[v, .int .u16 (n : Int), .bool own] w fun e w' => e = .returned (.bool true) ∧ Below w.heap.size w w' := by
  obtain ⟨i0, hi, hz0, hz1, hz2⟩ := info_parts info16
  obtain ⟨r0, cap0, rfl, hm⟩ := hR.form
  have HW := Lib.hid (awake7_any C D K U w hI)
  have HM := Lib.hid (fun (w' : World) (h : Below w.heap.size w w') => makeU_c _ l w' (hR.stay h))
  have HR := Lib.hid hR
  have HU := Lib.hid U
  have HLl := Lib.hid hl
  obtain ⟨L, hL⟩ : ∃ L, l.length = L := ⟨_, rfl⟩
  have HL := Lib.hid hL
  have hmk := mkU_len l
  obtain ⟨M, hM⟩ : ∃ M, (mkU l).length = M := ⟨_, rfl⟩
  have HMl := Lib.hid hM
  rw [hM] at hmk HM
  rw [hL] at HR HM hm ⊢
  clear hR hL hl hM C D K U hI
  go_enter Tryz.func3, Tryz.ntmps3
  by_cases hbig : 60 < L
  · have e1 : (60 : Int) < (L : Int) := by omega
    go_wp2_with (go_at_call 6; refine HW.out.mono ?_; rintro e w1 ⟨rfl, h1⟩; have HB1 := Lib.hid h1; clear h1)
    go_ret
    exact ⟨rfl, HB1.out⟩
  · have e1 : ¬ (60 : Int) < (L : Int) := by omega
    go_upto_if 17 with (go_at_call 6; refine HW.out.mono ?_; rintro e w1 ⟨rfl, h1⟩; have HB1 := Lib.hid h1; clear h1)
    go_cut [7] (fun s7 wx => ∃ (r : Option Addr) (m cap : Nat) (us : List Nat), s7 = .slice r m cap ∧ m ≤ 60 ∧ Hid (Recs uc 1 wx (.slice r m cap) us) ∧ Hid (us.length = m ∧ ∀ x ∈ us, x < 65536) ∧ Hid (Below w.heap.size w wx))
    case first =>
      cases own with
      | false =>
        go_wp2
        go_meet
        exact ⟨r0, L, cap0, l, rfl, by omega, Lib.hid (HR.out.stay HB1.out), Lib.hid ⟨HL.out, HLl.out⟩, HB1⟩
      | true =>
        have hb1 := HB1.out.size
        go_wp2_with (first
          | (go_at_call 7; refine (HM.out _ HB1.out).mono ?_; rintro e w2 ⟨v2, rfl, ho, hb⟩; have HO := Lib.hid ho; have HOL := Lib.hid ho.lt; have HB2 := Lib.hid (HB1.out.trans (hb.mono hb1)); obtain ⟨r2, cap2, rfl⟩ := owns_form ho; have hs2 := hb.size; clear ho hb)
          | (at_builtin; refine wpList_append_own _ rfl (.tmp 19) (.tmp 21) 25 rfl w1.heap.size 23 i0 (.int .u16 0) 1 2 Tryz.underlying25 hi hz0 hz1 hz2 rfl (by decide) _ M _ rfl (HO.out.alloc _) ⟨_, 0, none⟩ 1 1 (uc n) rfl rfl (cells_new _ (uc n) _) (uc_one n) (by unfold maxLen; omega) (by omega) (by simp; omega) ?_; intro v3 w3 hown3 hgrow3 _; have HB3 := Lib.hid ((HB2.out.alloc (by omega) _).grown hgrow3 (by simp; omega) (fun j hj => by have := (HOL.out j hj).1; omega)); have HO3 := Lib.hid hown3; obtain ⟨r3, cap3, rfl⟩ := owns_form hown3; clear hgrow3 hown3))
        go_meet
        have hlen : (mkU l ++ [n]).length = M + 1 := by simp; exact HMl.out
        refine ⟨r3, M + 1, cap3, mkU l ++ [n], rfl, by omega, Lib.hid (recs_of_owns uc_len (by rw [flat_snoc]; exact HO3.out) hlen.symm (by omega)), Lib.hid ⟨hlen, fun x hx => ?_⟩, HB3⟩
        rcases List.mem_append.1 hx with h | h
        · have := mkU_small h; omega
        · simp at h; omega
    case rest =>
      obtain ⟨r, m, cap, us, rfl, hm60, HRu, HUs, HBu⟩ := hcut
      have HQ := Lib.hid (fun w' (h : Below wc.heap.size wc w') => HU.out.check _ us w' (HRu.out.stay h) (by have := HUs.out.1; omega) HUs.out.2)
      have HC1 := Lib.hid (show chkU us = if 40 < m then 2 else chkU1 0 us by rw [chkU, HUs.out.1])
      go_upto_block 0 with fail
      obtain ⟨W, hW⟩ : ∃ W, wc = W := ⟨_, rfl⟩
      go_cut [8] (fun s8 wx => s8 = .int .i64 (chkU1 0 us) ∧ wx = W)
      case first =>
        subst hW
        go_wp2_with fail
        go_loop [8, 25] (fun s8 i => ∃ k : Nat, s8 = .int .i64 0 ∧ i = .int .i64 k ∧ k ≤ m ∧ Hid (Chk us k)) (fun _ i => m - (intOf i).toNat)
        case atStart => exact ⟨0, rfl, rfl, Nat.zero_le _, Lib.hid (Chk.start us)⟩
        case round =>
          obtain ⟨k, rfl, rfl, hk, HC⟩ := hrel
          by_cases hlt : k < m
          · obtain ⟨x, hx⟩ : ∃ x, us[k]? = some x := ⟨us[k]'(by have := HUs.out.1; omega), List.getElem?_eq_getElem (by have := HUs.out.1; omega)⟩
            obtain ⟨g, off, rfl, hg, hc⟩ := HRu.out.at hx
            have c0 := hc 0 _ rfl
            simp only [Nat.mul_one, Nat.add_zero] at c0
            clear hc
            by_cases hx0 : x = 0
            · have E := Lib.hid (HC.out.range hx (.inl hx0))
              subst hx0
              clear hx
              go_wp2
              go_meet
              exact ⟨by rw [E.out], rfl⟩
            · have t1 : ¬ x < 1 := by omega
              have t2 : ¬ (x : Int) < 1 := by omega
              by_cases hx9 : 999 < x
              · have E := Lib.hid (HC.out.range hx (.inr hx9))
                have t3 : (999 : Int) < (x : Int) := by omega
                clear hx
                go_wp2
                go_meet
                exact ⟨by rw [E.out], rfl⟩
              · have t3 : ¬ (999 : Int) < (x : Int) := by omega
                have t4 : (x : Int) ≤ 999 := by omega
                by_cases hk0 : k = 0
                · have E := Lib.hid (HC.out.step hx (by omega) (fun p y hp => by omega))
                  subst hk0
                  simp only [Nat.add_zero] at c0
                  clear hx
                  go_wp2
                  go_round
                  case rel => exact ⟨1, rfl, by go_num, by omega, E⟩
                  case measure => simp [intOf]; omega
                · obtain ⟨p, hp⟩ : ∃ p, p + 1 = k := ⟨k - 1, by omega⟩
                  obtain ⟨y, hy⟩ : ∃ y, us[p]? = some y := ⟨us[p]'(by have := HUs.out.1; omega), List.getElem?_eq_getElem (by have := HUs.out.1; omega)⟩
                  obtain ⟨g', off', er, _, hc'⟩ := HRu.out.at hy
                  cases er
                  have d0 := hc' 0 _ rfl
                  simp only [Nat.mul_one, Nat.add_zero] at d0
                  clear hc'
                  have n0 : 0 < k := by omega
                  have e1 : (k : Int) - 1 = (p : Int) := by omega
                  have y0 : (0 : Int) ≤ (p : Int) := by omega
                  have y1 : (p : Int) < (m : Int) := by omega
                  by_cases hyx : x ≤ y
                  · have E := Lib.hid (HC.out.order hp hy hx (by omega) hyx)
                    have t5 : (x : Int) ≤ (y : Int) := by omega
                    clear hx hy hp
                    go_wp2
                    go_meet
                    exact ⟨by rw [E.out], rfl⟩
                  · have E := Lib.hid (HC.out.step hx (by omega) (fun q z hq hz => by obtain rfl : q = p := by omega
                                                                                      rw [hy] at hz; cases hz; omega))
                    have t5 : ¬ (x : Int) ≤ (y : Int) := by omega
                    clear hx hy hp
                    go_wp2
                    go_round
                    case rel => exact ⟨k + 1, rfl, by go_num, by omega, E⟩
                    case measure => simp [intOf]; omega
          · obtain rfl : k = m := by omega
            have E := Lib.hid (HC.out.done (by rw [HUs.out.1]; exact Nat.le_refl _))
            go_wp2
            go_meet
            exact ⟨by rw [E.out], rfl⟩
      case rest =>
        obtain ⟨rfl, rfl⟩ := hcut
        subst hW
        have hb0 := HBu.out.size
        obtain ⟨a, ha⟩ : ∃ a, chkU1 0 us = a := ⟨_, rfl⟩
        obtain ⟨b, hb⟩ : ∃ b, chkU us = b := ⟨_, rfl⟩
        have hab := HC1.out
        rw [ha, hb] at hab
        rw [ha]
        rw [hb] at HQ
        have KC := HU.out.code n
        clear ha hb HC1 HM HW
        obtain ⟨R, hR9⟩ : ∃ R, decide (n ≤ 999) = R := ⟨_, rfl⟩
        have hRi : decide ((n : Int) ≤ 999) = R := by rw [← hR9]; exact decide_eq_decide.2 (by omega)
        by_cases hn0 : n = 0
        · subst hn0
          have KC0 : Hid (∀ w, Calls Tryz.prog 9 #[.int .u16 0] w fun e w' => e = .returned (.bool false) ∧ Below w.heap.size w w') := Lib.hid (fun w => KC w (by omega))
          clear KC hR9 hRi
          by_cases h40 : 40 < m
          · have t1 : (40 : Int) < (m : Int) := by omega
            rw [if_pos h40] at hab
            subst hab
            go_wp2_with (first
              | (go_at_call 9; refine (KC0.out _).mono ?_; rintro e w4 ⟨rfl, h4⟩; have HB4 := Lib.hid (HB3.out.trans (h4.mono HB3.out.size)); clear h4)
              | (go_at_call 8; refine (HQ.out _ (Below.refl _ _)).mono ?_; rintro e w3 ⟨rfl, h3⟩; have HB3 := Lib.hid h3; clear h3))
            go_ret
            exact ⟨by simp, HBu.out.trans (HB4.out.mono hb0)⟩
          · have t1 : ¬ (40 : Int) < (m : Int) := by omega
            rw [if_neg h40] at hab
            subst hab
            go_wp2_with (first
              | (go_at_call 9; refine (KC0.out _).mono ?_; rintro e w4 ⟨rfl, h4⟩; have HB4 := Lib.hid (HB3.out.trans (h4.mono HB3.out.size)); clear h4)
              | (go_at_call 8; refine (HQ.out _ (Below.refl _ _)).mono ?_; rintro e w3 ⟨rfl, h3⟩; have HB3 := Lib.hid h3; clear h3))
            go_ret
            exact ⟨by simp, HBu.out.trans (HB4.out.mono hb0)⟩
        · have hn1 : 1 ≤ n := by omega
          have hn2 : (1 : Int) ≤ (n : Int) := by omega
          have hn3 : decide (1 ≤ n ∧ n ≤ 999) = R := by rw [← hR9]; exact decide_eq_decide.2 (by omega)
          have KC0 : Hid (∀ w, Calls Tryz.prog 9 #[.int .u16 (n : Int)] w fun e w' => e = .returned (.bool R) ∧ Below w.heap.size w w') := Lib.hid (fun w => by rw [← hn3]; exact KC w hn)
          clear KC hn3
          by_cases h40 : 40 < m
          · have t1 : (40 : Int) < (m : Int) := by omega
            rw [if_pos h40] at hab
            subst hab
            go_wp2_with (first
              | (go_at_call 9; refine (KC0.out _).mono ?_; rintro e w4 ⟨rfl, h4⟩; have HB4 := Lib.hid (HB3.out.trans (h4.mono HB3.out.size)); clear h4)
              | (go_at_call 8; refine (HQ.out _ (Below.refl _ _)).mono ?_; rintro e w3 ⟨rfl, h3⟩; have HB3 := Lib.hid h3; clear h3))
            go_ret
            exact ⟨by simp, HBu.out.trans (HB4.out.mono hb0)⟩
          · have t1 : ¬ (40 : Int) < (m : Int) := by omega
            rw [if_neg h40] at hab
            subst hab
            go_wp2_with (first
              | (go_at_call 9; refine (KC0.out _).mono ?_; rintro e w4 ⟨rfl, h4⟩; have HB4 := Lib.hid (HB3.out.trans (h4.mono HB3.out.size)); clear h4)
              | (go_at_call 8; refine (HQ.out _ (Below.refl _ _)).mono ?_; rintro e w3 ⟨rfl, h3⟩; have HB3 := Lib.hid h3; clear h3))
            go_ret
            exact ⟨by simp, HBu.out.trans (HB4.out.mono hb0)⟩
end Go.Proofs.YtaldafgkhcihjaaGreatDoor

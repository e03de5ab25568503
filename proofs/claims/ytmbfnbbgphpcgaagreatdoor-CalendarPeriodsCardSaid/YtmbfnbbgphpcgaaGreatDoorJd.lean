/- The walk of law CalendarPeriods. -/
import Derived.Test.YtmbfnbbgphpcgaaGreatDoorJc
import Derived.BigRegion
namespace Go.Proofs.YtmbfnbbgphpcgaaGreatDoor
open Go.RowKit
set_option linter.unusedVariables false
set_option linter.unusedSimpArgs false
theorem tmod_range (a : Int) {b : Int} (hb : 0 < b) : -b < a.tmod b ∧ a.tmod b < b := ⟨Int.lt_tmod_of_pos a hb, Int.tmod_lt_of_pos a hb⟩
set_option maxHeartbeats 4000000 in
set_option maxRecDepth 100000 in
theorem calperiods_any {I : World → Prop} (C : AllotC) (D : DayC I) (K : KeyC I) (U : UnitC) (LC : CalC I) (v : Value) (l : List Nat) (f t : Int) (hf : -32768 ≤ f ∧ f ≤ 32767) (ht : -32768 ≤ t ∧ t ≤ 32767) (w : World) (hI : I w) (hR : Recs u8c 1 w v l) :
    Calls Tryz.prog 4 #[.int .i16 f, v, .int .i16 t] w fun e w' => e = .returned (.bool true) ∧ Below w.heap.size w w' := by
  have HW := Lib.hid (awake8_any C D K U LC w hI)
  have HM := Lib.hid (fun (w' : World) (h : Below w.heap.size w w') => makeC_c _ l f hf w' (hR.stay h))
  have HI := Lib.hid (fun (w' : World) (h : Below w.heap.size w w') => D.stay hI h)
  have hL := mkS_lens f l
  have HP := Lib.hid (fun (V : Value) (d : Int) (w' : World) (hi : I w') (h : Recs dcl 1 w' V (mkS f l)) (hd : I32 d) => LC.made hf V d w' hi h hd)
  have HQ := Lib.hid (fun (V : Value) (d : Int) (w' : World) (h : Recs dcl 1 w' V (mkS f l)) => lperiod_c V _ (mkE f l) d w' h (mkS_rise f l) (fun x hx => (mkS_range hf x hx).2) (by omega))
  have HK : Hid (∀ (V : Value) (w' : World) (hi : I w') (h : Recs dcl 1 w' V (mkS f l)), Calls Tryz.prog 11 #[.agg #[V, .int .i32 (mkE f l)]] w' fun e w'' => e = .returned (.int .i64 0) ∧ Below w'.heap.size w' w'') := Lib.hid (fun V w' hi h => by
    have := LC.check V (mkS f l) (mkE f l) w' hi h (by omega) (fun x hx => (mkS_range hf x hx).1) (mkE_range hf)
    rwa [mk_ok f l (by omega) (by omega)] at this)
  have hE := mkE_le f l
  have hS0 := mkS_head f l
  generalize mkS f l = S at *
  generalize mkE f l = E at *
  obtain ⟨L, hLL⟩ : ∃ L, S.length = L := ⟨_, rfl⟩
  have HL := Lib.hid hLL
  rw [hLL] at hL HM
  have hS0' := Lib.hid hS0
  clear hR C D K U LC hI hS0 hLL
  go_enter Tryz.func4, Tryz.ntmps4
  go_upto_region 4 with (first
    | (go_at_call 13; refine (HM.out _ HB1.out).mono ?_; rintro e w2 ⟨v2, rfl, ho, h2⟩; have HR2 := Lib.hid (recs_of_owns dcl_len ho HL.out.symm (by omega)); have HB2 := Lib.hid (HB1.out.trans (h2.mono HB1.out.size)); obtain ⟨r2, cap2, rfl⟩ := owns_form ho; clear h2 ho)
    | (go_at_call 8; refine HW.out.mono ?_; rintro e w1 ⟨rfl, h1⟩; have HB1 := Lib.hid h1; clear h1))
  have hbx := Box2.new w2 (.slice r2 L cap2) (.int .i32 E) 27
  have hba := (Below.refl w2.heap.size w2).alloc (Nat.le_refl _) (.cells #[.slice r2 L cap2, .int .i32 E] 27)
  have HRW := Lib.hid (HR2.out.stay hba)
  have HBW := Lib.hid (HB2.out.trans (hba.mono HB2.out.size))
  clear hba HR2 HB2
  have hX := hbx.size
  generalize w2.alloc (.cells #[.slice r2 L cap2, .int .i32 E] 27) = W at hbx HRW HBW hX ⊢
  generalize w2.heap.size = X at hbx hX ⊢
  have HBX := Lib.hid hbx
  obtain ⟨p0, p1, _, _, _⟩ := hbx
  obtain ⟨g, off, rfl, hg, hc⟩ := HRW.out.at hS0'.out
  have c0 := hc 0 _ rfl
  simp only [Nat.zero_mul, Nat.add_zero] at c0
  obtain ⟨z, hz⟩ : ∃ z, t.tmod 200 = z := ⟨_, rfl⟩
  have hzr := tmod_range t (show (0 : Int) < 200 by omega)
  rw [hz] at hzr
  have e1 : IntKind.i32.wrap f = f := by rw [IntKind.wrap_i32]; omega
  have e2 : IntKind.i32.wrap t = t := by rw [IntKind.wrap_i32]; omega
  have e3 : IntKind.i32.wrap z = z := by rw [IntKind.wrap_i32]; omega
  have e4 : IntKind.i32.wrap (f + z) = f + z := by rw [IntKind.wrap_i32]; omega
  have e5 : IntKind.i32.wrap (E - 1) = E - 1 := by rw [IntKind.wrap_i32]; omega
  have e6 : IntKind.i32.wrap (f - 1) = f - 1 := by rw [IntKind.wrap_i32]; omega
  have l0 : (0 : Int) < (L : Int) := by omega
  have l1 : 0 < L := by omega
  have HD9 := Lib.hid (show ∀ x ∈ [t, f + z, E, E - 1, f, f - 1], I32 x by
    intro x hx
    simp only [List.mem_cons, List.not_mem_nil, or_false] at hx
    unfold I32
    omega)
  have hsz : 6 = [t, f + z, E, E - 1, f, f - 1].length := rfl
  have hba := ((Below.refl W.heap.size W).alloc (Nat.le_refl _) (.cells #[.int .i32 t, .int .i32 (f + z), .int .i32 E, .int .i32 (E - 1), .int .i32 f, .int .i32 (f - 1)] 25)).drew
  have HRd := Lib.hid ((recs_lit dcl_len [t, f + z, E, E - 1, f, f - 1] #[.int .i32 t, .int .i32 (f + z), .int .i32 E, .int .i32 (E - 1), .int .i32 f, .int .i32 (f - 1)] 25 6 hsz (by omega) rfl W).stay (Below.refl _ _).drew)
  have HBX1 := Lib.hid (HBX.out.stay hba)
  have HRS := Lib.hid (HRW.out.stay hba)
  have HB0 := Lib.hid (HBW.out.trans (hba.mono HBW.out.size))
  obtain ⟨ds, hds⟩ : ∃ ds, [t, f + z, E, E - 1, f, f - 1] = ds := ⟨_, rfl⟩
  rw [hds] at HD9 HRd hsz
  have HDL := Lib.hid hsz
  clear hba hsz HBW HRW HBX hc
  go_region
  clear p0 p1 c0 hds
  generalize (W.alloc (.cells #[.int .i32 t, .int .i32 (f + z), .int .i32 E, .int .i32 (E - 1), .int .i32 f, .int .i32 (f - 1)] 25)).drew = V at HRd HBX1 HRS HB0 ⊢
  generalize W.heap.size = Y at HRd ⊢
  go_wp2_with fail
  go_loopw [42] (fun i wr => ∃ k : Nat, i = .int .i64 k ∧ k ≤ 6 ∧ Hid (Below V.heap.size V wr)) (fun i _ => 6 - (intOf i).toNat)
  case atStart => exact ⟨0, rfl, by omega, Lib.hid (Below.refl _ _)⟩
  case round =>
    obtain ⟨k, rfl, hk, HBk⟩ := hrel
    rename World => wr
    have HIk := Lib.hid (HI.out _ (HB0.out.trans (HBk.out.mono HB0.out.size)))
    by_cases hlt : k < 6
    · obtain ⟨d, hd⟩ : ∃ d, ds[k]? = some d := ⟨ds[k]'(by have := HDL.out; omega), List.getElem?_eq_getElem (by have := HDL.out; omega)⟩
      obtain ⟨g', off', er, _, hc'⟩ := (HRd.out.stay HBk.out).at hd
      cases er
      have c1 := hc' 0 _ rfl
      simp only [Nat.mul_one, Nat.add_zero, Nat.zero_add] at c1
      have HID := Lib.hid (HD9.out d (List.mem_of_getElem? hd))
      have i1 : (k : Int) < 6 := by omega
      clear hc' hd
      obtain ⟨p0, p1, _, _, _⟩ := HBX1.out.stay HBk.out
      have K1 := Lib.hid (HQ.out _ d _ (HRS.out.stay HBk.out))
      have K2 := Lib.hid (fun (w' : World) (h : Below V.heap.size V w') => HP.out _ d w' (HI.out _ (HB0.out.trans (h.mono HB0.out.size))) (HRS.out.stay h) HID.out)
      generalize perI S E d = p at *
      by_cases hp : 0 ≤ p
      · have m1 : max p 0 = p := by omega
        rw [m1] at K2
        have d1 : decide (0 ≤ p) = true := decide_eq_true hp
        rw [d1] at K2
        go_wp2_with (first
          | (go_at_call 15; refine (K2.out _ HBl.out).mono ?_; rintro e wm ⟨rfl, h2⟩; have HBm := Lib.hid (HBl.out.trans (h2.mono HBl.out.size)); clear h2)
          | (go_at_call 14; refine K1.out.mono ?_; rintro e wl ⟨rfl, h2⟩; have HBl := Lib.hid (HBk.out.trans (h2.mono HBk.out.size)); obtain ⟨q0, q1, _, _, _⟩ := HBX1.out.stay HBl.out; clear h2))
        go_roundw
        case rel => exact ⟨k + 1, by go_num, by omega, HBm⟩
        case measure => simp [intOf]; omega
      · have m1 : max p 0 = 0 := by omega
        rw [m1] at K2
        have d1 : decide (0 ≤ p) = false := decide_eq_false hp
        rw [d1] at K2
        go_wp2_with (first
          | (go_at_call 15; refine (K2.out _ HBl.out).mono ?_; rintro e wm ⟨rfl, h2⟩; have HBm := Lib.hid (HBl.out.trans (h2.mono HBl.out.size)); clear h2)
          | (go_at_call 14; refine K1.out.mono ?_; rintro e wl ⟨rfl, h2⟩; have HBl := Lib.hid (HBk.out.trans (h2.mono HBk.out.size)); obtain ⟨q0, q1, _, _, _⟩ := HBX1.out.stay HBl.out; clear h2))
        go_roundw
        case rel => exact ⟨k + 1, by go_num, by omega, HBm⟩
        case measure => simp [intOf]; omega
    · obtain rfl : k = 6 := by omega
      obtain ⟨p0, p1, _, _, _⟩ := HBX1.out.stay HBk.out
      have K1 := Lib.hid (HK.out _ wr HIk.out (HRS.out.stay HBk.out))
      go_wp2_with (go_at_call 11; refine K1.out.mono ?_; rintro e wl ⟨rfl, h2⟩; have HBl := Lib.hid (HBk.out.trans (h2.mono HBk.out.size)); clear h2)
      go_ret
      exact ⟨by simp, HB0.out.trans (HBl.out.mono HB0.out.size)⟩
end Go.Proofs.YtmbfnbbgphpcgaaGreatDoor

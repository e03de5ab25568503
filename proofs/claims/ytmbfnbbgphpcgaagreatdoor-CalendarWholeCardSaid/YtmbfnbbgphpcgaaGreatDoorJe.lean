/- The walk of law CalendarWhole. -/
import Derived.Test.YtmbfnbbgphpcgaaGreatDoorJc
namespace Go.Proofs.YtmbfnbbgphpcgaaGreatDoor
open Go.RowKit
set_option linter.unusedVariables false
set_option linter.unusedSimpArgs false
theorem rowD_cons (d : Int) (l : List Nat) : ∃ r, rowD d l = d :: r ∧ ∀ x ∈ r, d < x := by
  have h := rowD_rise d l
  cases l with
  | nil => exact ⟨[], rfl, fun x hx => by cases hx⟩
  | cons n r => exact ⟨_, rfl, (List.pairwise_cons.1 h).1⟩
theorem cnt_first (d : Int) (l : List Nat) : cntD (mkS d l) d = 1 := by
  obtain ⟨r, e, h⟩ := rowD_cons d (l.take 12)
  rw [mkS, e, cnt_cons, if_pos (Int.le_refl _), cnt_zero h]
theorem cnt_pos (d x : Int) (l : List Nat) (h : d ≤ x) : 1 ≤ cntD (mkS d l) x := by
  obtain ⟨r, e, _⟩ := rowD_cons d (l.take 12)
  rw [mkS, e, cnt_cons, if_pos h]
  omega
/-- The period of the day ahead; nought at the first. -/
def prevD (S : List Int) (f d : Int) : Int := if d = f then 0 else (cntD S (d - 1) : Int) - 1
set_option maxHeartbeats 4000000 in
set_option maxRecDepth 100000 in
theorem calwhole_any {I : World → Prop} (C : AllotC) (D : DayC I) (K : KeyC I) (U : UnitC) (LC : CalC I) (v : Value) (l : List Nat) (f : Int) (hf : -32768 ≤ f ∧ f ≤ 32767) (w : World) (hI : I w) (hR : Recs u8c 1 w v l) :
    Calls Tryz.prog 6 #[.int .i16 f, v] w fun e w' => e = .returned (.bool true) ∧ Below w.heap.size w w' := by
  have HW := Lib.hid (awake8_any C D K U LC w hI)
  have HM := Lib.hid (fun (w' : World) (h : Below w.heap.size w w') => makeC_c _ l f hf w' (hR.stay h))
  have HI := Lib.hid (fun (w' : World) (h : Below w.heap.size w w') => D.stay hI h)
  have hL := mkS_lens f l
  have hE := mkE_le f l
  have HP : Hid (∀ (V : Value) (d : Int) (w' : World) (hi : I w') (h : Recs dcl 1 w' V (mkS f l)) (hd : f ≤ d ∧ d < mkE f l), Calls Tryz.prog 15 #[.agg #[V, .int .i32 (mkE f l)], .int .i32 d] w' fun e w'' => e = .returned (.tuple #[.int .i64 ((cntD (mkS f l) d : Int) - 1), .bool true]) ∧ Below w'.heap.size w' w'') := Lib.hid (fun V d w' hi h hd => by
    have := LC.made hf V d w' hi h (by unfold I32; omega)
    have hc := cnt_pos f d l hd.1
    have e1 : perI (mkS f l) (mkE f l) d = (cntD (mkS f l) d : Int) - 1 := by unfold perI; rw [if_pos ⟨hd.2, by omega⟩]
    rw [e1, show max ((cntD (mkS f l) d : Int) - 1) 0 = (cntD (mkS f l) d : Int) - 1 by omega, decide_eq_true (by omega)] at this
    exact this)
  have HN := Lib.hid (fun (V : Value) (w' : World) (h : Recs dcl 1 w' V (mkS f l)) => LC.len V _ (mkE f l) w' h (by omega))
  have HC : Hid (∀ d, f ≤ d → d < mkE f l → 0 ≤ (cntD (mkS f l) d : Int) - 1 ∧ (cntD (mkS f l) d : Int) ≤ 100 ∧ prevD (mkS f l) f d ≤ (cntD (mkS f l) d : Int) - 1 ∧ (cntD (mkS f l) d : Int) - 1 ≤ prevD (mkS f l) f d + 1 ∧ (d = f → (cntD (mkS f l) d : Int) - 1 = 0) ∧ prevD (mkS f l) f (d + 1) = (cntD (mkS f l) d : Int) - 1) := Lib.hid (fun d h1 h2 => by
    have hc := cnt_pos f d l h1
    have hl := cnt_le (mkS f l) d
    have hfirst := cnt_first f l
    have hp : prevD (mkS f l) f (d + 1) = (cntD (mkS f l) d : Int) - 1 := by unfold prevD; rw [if_neg (by omega), show d + 1 - 1 = d by omega]
    by_cases e : d = f
    · subst e
      have h0 : prevD (mkS d l) d d = 0 := by unfold prevD; rw [if_pos rfl]
      rw [h0]
      refine ⟨by omega, by omega, by omega, by omega, fun _ => by omega, hp⟩
    · have hn := cnt_next (d - 1) (mkS_rise f l)
      rw [show d - 1 + 1 = d by omega] at hn
      have h0 : prevD (mkS f l) f d = (cntD (mkS f l) (d - 1) : Int) - 1 := by unfold prevD; rw [if_neg e]
      rw [h0]
      refine ⟨by omega, by omega, by omega, by omega, fun h => absurd h e, hp⟩)
  have HZ : Hid (prevD (mkS f l) f (mkE f l) = ((mkS f l).length : Int) - 1) := Lib.hid (by
    unfold prevD
    rw [if_neg (by omega), cnt_all fun x hx => by have := (mkS_range hf x hx).2; omega])
  have HF := Lib.hid (show prevD (mkS f l) f f = 0 by unfold prevD; rw [if_pos rfl])
  have hS0 := mkS_head f l
  generalize mkS f l = S at *
  generalize mkE f l = E at *
  obtain ⟨L, hLL⟩ : ∃ L, S.length = L := ⟨_, rfl⟩
  have HL := Lib.hid hLL
  rw [hLL] at hL HM HN HZ
  have hS0' := Lib.hid hS0
  clear hR C D K U LC hI hS0 hLL
  go_enter Tryz.func6, Tryz.ntmps6
  go_upto_region 4 with (first
    | (go_at_call 13; refine (HM.out _ HB1.out).mono ?_; rintro e w2 ⟨v2, rfl, ho, h2⟩; have HR2 := Lib.hid (recs_of_owns dcl_len ho HL.out.symm (by omega)); have HB2 := Lib.hid (HB1.out.trans (h2.mono HB1.out.size)); obtain ⟨r2, cap2, rfl⟩ := owns_form ho; clear h2 ho)
    | (go_at_call 8; refine HW.out.mono ?_; rintro e w1 ⟨rfl, h1⟩; have HB1 := Lib.hid h1; clear h1))
  have hbx := Box2.new w2 (.slice r2 L cap2) (.int .i32 E) 27
  have hba := (Below.refl w2.heap.size w2).alloc (Nat.le_refl _) (.cells #[.slice r2 L cap2, .int .i32 E] 27)
  have HRS := Lib.hid (HR2.out.stay hba)
  have HB0 := Lib.hid (HB2.out.trans (hba.mono HB2.out.size))
  clear hba HR2 HB2
  generalize w2.alloc (.cells #[.slice r2 L cap2, .int .i32 E] 27) = V at hbx HRS HB0 ⊢
  generalize w2.heap.size = X at hbx ⊢
  have HBX := Lib.hid hbx
  obtain ⟨p0, p1, _, _, _⟩ := hbx
  obtain ⟨g, off, rfl, hg, hc⟩ := HRS.out.at hS0'.out
  have c0 := hc 0 _ rfl
  simp only [Nat.zero_mul, Nat.add_zero] at c0
  clear hc
  have l0 : (0 : Int) < (L : Int) := by omega
  have l1 : 0 < L := by omega
  go_wp2_with fail
  go_loopw [6, 7] (fun s6 s7 wr => ∃ d q : Int, s6 = .int .i64 q ∧ s7 = .int .i32 d ∧ f ≤ d ∧ d ≤ E ∧ 0 ≤ q ∧ q ≤ 100 ∧ Hid (q = prevD S f d) ∧ Hid (Below V.heap.size V wr)) (fun _ s7 _ => (E - intOf s7).toNat)
  case atStart => exact ⟨f, 0, rfl, rfl, by omega, by omega, by omega, by omega, Lib.hid HF.out.symm, Lib.hid (Below.refl _ _)⟩
  case round =>
    clear p0 p1 c0
    obtain ⟨d, q, rfl, rfl, hd, hdE, hq0, hq1, HQ, HBk⟩ := hrel
    rename World => wr
    obtain ⟨p0, p1, _, _, _⟩ := HBX.out.stay HBk.out
    by_cases hlt : d < E
    · obtain ⟨a1, a2, a3, a4, a5, a6⟩ := HC.out d hd hlt
      rw [← HQ.out] at a3 a4
      have K1 := Lib.hid (HP.out _ d wr (HI.out _ (HB0.out.trans (HBk.out.mono HB0.out.size))) (HRS.out.stay HBk.out) ⟨hd, hlt⟩)
      have H6 := Lib.hid a6
      clear a6
      generalize (cntD S d : Int) = n at a1 a2 a3 a4 a5 K1 H6 ⊢
      obtain ⟨p, hp⟩ : ∃ p, n - 1 = p := ⟨_, rfl⟩
      rw [hp] at a1 a3 a4 a5 K1 H6
      have hp9 : p ≤ 100 := by omega
      clear hp a2
      have t1 : ¬ p < q := by omega
      have t2 : ¬ q + 1 < p := by omega
      have t3 : p ≤ q + 1 := by omega
      have t4 : q ≤ p := by omega
      have e1 : IntKind.i32.wrap (d + 1) = d + 1 := by rw [IntKind.wrap_i32]; omega
      by_cases hdf : d = f
      · obtain rfl : p = 0 := a5 hdf
        subst hdf
        clear a5
        go_wp2_with (go_at_call 15; refine K1.out.mono ?_; rintro e wm ⟨rfl, h2⟩; have HBm := Lib.hid (HBk.out.trans (h2.mono HBk.out.size)); obtain ⟨q0, q1, _, _, _⟩ := HBX.out.stay HBm.out; obtain ⟨g', off', er, _, hc'⟩ := (HRS.out.stay HBm.out).at hS0'.out; cases er; have c1 := hc' 0 _ rfl; simp only [Nat.zero_mul, Nat.add_zero] at c1; clear h2 hc')
        go_roundw
        case rel => exact ⟨d + 1, 0, rfl, rfl, by omega, by omega, by omega, by omega, Lib.hid H6.out.symm, HBm⟩
        case measure => simp [intOf]; omega
      · have t5 : (d == f) = false := by simp [hdf]
        clear a5
        go_wp2_with (go_at_call 15; refine K1.out.mono ?_; rintro e wm ⟨rfl, h2⟩; have HBm := Lib.hid (HBk.out.trans (h2.mono HBk.out.size)); obtain ⟨q0, q1, _, _, _⟩ := HBX.out.stay HBm.out; obtain ⟨g', off', er, _, hc'⟩ := (HRS.out.stay HBm.out).at hS0'.out; cases er; have c1 := hc' 0 _ rfl; simp only [Nat.zero_mul, Nat.add_zero] at c1; clear h2 hc')
        go_roundw
        case rel => exact ⟨d + 1, p, rfl, rfl, by omega, by omega, by omega, by omega, Lib.hid H6.out.symm, HBm⟩
        case measure => simp [intOf]; omega
    · obtain rfl : d = E := by omega
      have hqL : q = (L : Int) - 1 := by rw [HQ.out, HZ.out]
      subst hqL
      have K1 := Lib.hid (HN.out _ wr (HRS.out.stay HBk.out))
      go_wp2_with (go_at_call 12; refine K1.out.mono ?_; rintro e wl ⟨rfl, h2⟩; have HBl := Lib.hid (HBk.out.trans (h2.mono HBk.out.size)); clear h2)
      go_ret
      exact ⟨by simp, HB0.out.trans (HBl.out.mono HB0.out.size)⟩
end Go.Proofs.YtmbfnbbgphpcgaaGreatDoor

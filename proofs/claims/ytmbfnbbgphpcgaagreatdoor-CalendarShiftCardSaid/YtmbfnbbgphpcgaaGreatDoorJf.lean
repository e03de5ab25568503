/- The walk of law CalendarShift. -/
import Derived.Test.YtmbfnbbgphpcgaaGreatDoorJc
import Derived.Maps.AppendAt
namespace Go.Proofs.YtmbfnbbgphpcgaaGreatDoor
open Go.RowKit
set_option linter.unusedVariables false
set_option linter.unusedSimpArgs false
theorem rise_shift {S : List Int} (h : RiseD S) (b : Int) : RiseD (S.map (· + b)) := by
  unfold RiseD
  exact List.pairwise_map.2 (h.imp fun h => by omega)
theorem map_self {S : List Int} {b : Int} (h : 1 ≤ S.length) : S = S.map (· + b) ↔ b = 0 := by
  cases S with
  | nil => simp at h
  | cons a r =>
    constructor
    · intro e
      rw [List.map_cons] at e
      injection e with e1 e2
      omega
    · rintro rfl
      simp
theorem tdiv2 (f : Int) (h : -32768 ≤ f ∧ f ≤ 32767) : -32768 ≤ f.tdiv 2 ∧ f.tdiv 2 ≤ 32767 := by
  rcases Int.le_total 0 f with h0 | h0
  · rw [Int.tdiv_eq_ediv_of_nonneg h0]; omega
  · have e : f.tdiv 2 = -((-f).tdiv 2) := by rw [Int.neg_tdiv]; simp
    rw [e, Int.tdiv_eq_ediv_of_nonneg (by omega)]; omega
set_option maxHeartbeats 4000000 in
set_option maxRecDepth 100000 in
theorem calshift_any {I : World → Prop} (C : AllotC) (D : DayC I) (K : KeyC I) (U : UnitC) (LC : CalC I) (v : Value) (l : List Nat) (f t : Int) (b : Nat) (hf : -32768 ≤ f ∧ f ≤ 32767) (ht : -32768 ≤ t ∧ t ≤ 32767) (hb : b < 256) (w : World) (hI : I w) (hR : Recs u8c 1 w v l) :
    Calls Tryz.prog 7 #[.int .i16 f, v, .int .i16 t, .int .u8 (b : Int)] w fun e w' => e = .returned (.bool true) ∧ Below w.heap.size w w' := by
  obtain ⟨i0, hi, hz0, hz1, hz2⟩ := info_parts infoD
  have HW := Lib.hid (awake8_any C D K U LC w hI)
  have hf2 := tdiv2 f hf
  obtain ⟨f2, hff⟩ : ∃ f2, f.tdiv 2 = f2 := ⟨_, rfl⟩
  rw [hff] at hf2
  have HM := Lib.hid (fun (w' : World) (h : Below w.heap.size w w') => makeC_c _ l f2 hf2 w' (hR.stay h))
  have HI := Lib.hid (fun (w' : World) (h : Below w.heap.size w w') => D.stay hI h)
  have hL := mkS_lens f2 l
  have hE := mkE_le f2 l
  have hrg := mkS_range (l := l) hf2
  have HP := Lib.hid (fun (V : Value) (w' : World) (hi : I w') (h : Recs dcl 1 w' V (mkS f2 l)) => LC.made hf2 V t w' hi h (by unfold I32; omega))
  have HQ : Hid (∀ (V : Value) (w' : World) (hi : I w') (h : Recs dcl 1 w' V ((mkS f2 l).map (· + (b : Int)))), Calls Tryz.prog 15 #[.agg #[V, .int .i32 (mkE f2 l + (b : Int))], .int .i32 (t + (b : Int))] w' fun e w'' => e = .returned (.tuple #[.int .i64 (max (perI (mkS f2 l) (mkE f2 l) t) 0), .bool (decide (0 ≤ perI (mkS f2 l) (mkE f2 l) t))]) ∧ Below w'.heap.size w' w'') := Lib.hid (fun V w' hi h => by
    have := LC.period V _ (mkE f2 l + (b : Int)) (t + (b : Int)) w' hi h (rise_shift (mkS_rise _ _) _) (by rw [List.length_map]; omega) (by rw [List.length_map]; omega) (fun x hx => by
      obtain ⟨y, hy, rfl⟩ := List.mem_map.1 hx
      have h1 := hrg y hy
      have h2 := mkS_mem hy
      unfold I32
      omega) (by unfold I32; omega) (by unfold I32; omega)
    rwa [per_shift] at this)
  have HK : Hid (∀ (V : Value) (w' : World) (hi : I w') (h : Recs dcl 1 w' V ((mkS f2 l).map (· + (b : Int)))), Calls Tryz.prog 11 #[.agg #[V, .int .i32 (mkE f2 l + (b : Int))]] w' fun e w'' => e = .returned (.int .i64 0) ∧ Below w'.heap.size w' w'') := Lib.hid (fun V w' hi h => by
    have := LC.check V _ (mkE f2 l + (b : Int)) w' hi h (by rw [List.length_map]; omega) (fun x hx => by
      obtain ⟨y, hy, rfl⟩ := List.mem_map.1 hx
      have h2 := mkS_mem hy
      unfold I32
      omega) (by unfold I32; omega)
    rwa [chkD_ok (by rw [List.length_map]; omega) (by rw [List.length_map]; omega) (rise_shift (mkS_rise _ _) _) (fun x hx => by
      obtain ⟨y, hy, rfl⟩ := List.mem_map.1 hx
      have h2 := mkS_mem hy
      omega) (by omega)] at this)
  obtain ⟨SB, hSB⟩ : ∃ SB, decide (b = 0) = SB := ⟨_, rfl⟩
  have HS : Hid (∀ (V V' : Value) (w' : World) (h : Recs dcl 1 w' V (mkS f2 l)) (h' : Recs dcl 1 w' V' ((mkS f2 l).map (· + (b : Int)))), Calls Tryz.prog 16 #[.agg #[V, .int .i32 (mkE f2 l)], .agg #[V', .int .i32 (mkE f2 l + (b : Int))]] w' fun e w'' => e = .returned (.bool SB) ∧ Below w'.heap.size w' w'') := Lib.hid (fun V V' w' h h' => by
    have := LC.same V V' _ _ (mkE f2 l) (mkE f2 l + (b : Int)) w' h h' (by omega) (by rw [List.length_map]; omega)
    have e : decide (mkS f2 l = (mkS f2 l).map (· + (b : Int)) ∧ mkE f2 l = mkE f2 l + (b : Int)) = SB := by
      rw [← hSB]
      apply decide_eq_decide.2
      rw [map_self hL.1]
      omega
    rwa [e] at this)
  have d1 : ((b : Int) == 0) = SB := by rw [← hSB]; apply Bool.eq_iff_iff.2; simp
  have d2 : (b == 0) = SB := by rw [← hSB]; apply Bool.eq_iff_iff.2; simp
  have d3 : decide (b = 0) = SB := hSB
  have HX9 := Lib.hid (fun x (hx : x ∈ mkS f2 l) => (show -40000 ≤ x ∧ x ≤ 40000 by have := mkS_mem hx; omega))
  generalize perI (mkS f2 l) (mkE f2 l) t = p at HP HQ
  generalize mkS f2 l = S at HM HP HQ HK HS HX9 hL
  generalize mkE f2 l = E at HM HP HQ HK HS hE
  obtain ⟨L, hLL⟩ : ∃ L, S.length = L := ⟨_, rfl⟩
  have HL := Lib.hid hLL
  rw [hLL] at hL HM
  clear hR C D K U LC hI hLL hrg hSB
  obtain ⟨F, hF⟩ : ∃ F, E + (b : Int) = F := ⟨_, rfl⟩
  obtain ⟨T, hT⟩ : ∃ T, t + (b : Int) = T := ⟨_, rfl⟩
  rw [hF, hT] at HQ
  rw [hF] at HK HS
  have e1 : IntKind.i32.wrap F = F := by rw [IntKind.wrap_i32]; omega
  have e2 : IntKind.i32.wrap T = T := by rw [IntKind.wrap_i32]; omega
  have e3 : IntKind.i32.wrap t = t := by rw [IntKind.wrap_i32]; omega
  have e4 : IntKind.i32.wrap (b : Int) = (b : Int) := by rw [IntKind.wrap_i32]; omega
  go_enter Tryz.func7, Tryz.ntmps7
  go_upto_region 4 with (first
    | (go_at_call 13; refine (HM.out _ HB1.out).mono ?_; rintro e w2 ⟨v2, rfl, ho, h2⟩; have HR2 := Lib.hid (recs_of_owns dcl_len ho HL.out.symm (by omega)); have HB2 := Lib.hid (HB1.out.trans (h2.mono HB1.out.size)); obtain ⟨r2, cap2, rfl⟩ := owns_form ho; clear h2 ho)
    | (go_at_call 8; refine HW.out.mono ?_; rintro e w1 ⟨rfl, h1⟩; have HB1 := Lib.hid h1; clear h1))
  have hbx := Box2.new w2 (.slice r2 L cap2) (.int .i32 E) 27
  have hba := (Below.refl w2.heap.size w2).alloc (Nat.le_refl _) (.cells #[.slice r2 L cap2, .int .i32 E] 27)
  have HRS := Lib.hid (HR2.out.stay hba)
  have HB0 := Lib.hid (HB2.out.trans (hba.mono HB2.out.size))
  clear hba HR2 HB2
  generalize w2.alloc (.cells #[.slice r2 L cap2, .int .i32 E] 27) = V at hbx HRS HB0 ⊢
  generalize w2.heap.size = X at hbx ⊢
  have HBX := Lib.hid hbx
  obtain ⟨p0, p1, _, _, hXs⟩ := hbx
  go_upto_region 5 with fail
  have hby := Box2.new V (.slice none 0 0) (.int .i32 F) 27
  have hba := (Below.refl V.heap.size V).alloc (Nat.le_refl _) (.cells #[.slice none 0 0, .int .i32 F] 27)
  have hp0 := (HBX.out.stay hba).a0
  clear p0 p1
  have HBY := Lib.hid hby
  have HBV := Lib.hid hba
  clear hby hba
  generalize V.alloc (.cells #[.slice none 0 0, .int .i32 F] 27) = W at HBY HBV hp0 ⊢
  go_wp2_with fail
  clear hp0
  go_loopw [32] (fun i wr => ∃ (k : Nat) (r : Option Addr) (cap : Nat), i = .int .i64 k ∧ k ≤ L ∧ Hid (wr.ownsRow V.heap.size 25 1 (.slice r k cap) k (((S.take k).map (· + (b : Int))).flatMap dcl)) ∧ Hid ((Value.slice r k cap).ownBlock ≠ some V.heap.size) ∧ Hid (Box2 wr V.heap.size (.slice r k cap) (.int .i32 F)) ∧ Hid (Below V.heap.size V wr)) (fun i _ => L - (intOf i).toNat)
  case atStart => exact ⟨0, none, 0, rfl, Nat.zero_le _, Lib.hid (World.ownsRow_nil _ _ _ _), Lib.hid (fun e => by cases e), HBY, HBV⟩
  case round =>
    clear HBY HBV
    obtain ⟨k, r, cap, rfl, hk, HO, HN, HY, HBk⟩ := hrel
    rename World => wr
    have hbs := HBk.out.size
    obtain ⟨p0, p1, _, _, _⟩ := HBX.out.stay HBk.out
    obtain ⟨y0, y1, y2, y3, hYs⟩ := HY.out
    by_cases hlt : k < L
    · obtain ⟨x, hx⟩ : ∃ x, S[k]? = some x := ⟨S[k]'(by have := HL.out; omega), List.getElem?_eq_getElem (by have := HL.out; omega)⟩
      obtain ⟨g, off, rfl, hg, hc⟩ := (HRS.out.stay HBk.out).at hx
      have c0 := hc 0 _ rfl
      simp only [Nat.mul_one, Nat.add_zero] at c0
      have hxr := HX9.out x (List.mem_of_getElem? hx)
      obtain ⟨z, hz⟩ : ∃ z, x + (b : Int) = z := ⟨_, rfl⟩
      have e5 : IntKind.i32.wrap z = z := by rw [IntKind.wrap_i32]; omega
      have HOL := Lib.hid HO.out.lt
      have HXZ := Lib.hid (And.intro hx hz)
      clear hc hx
      go_wp2_with (at_builtin; refine wpList_append_own_at _ rfl (.tmp 37) (.tmp 42) 24 rfl V.heap.size 25 i0 (.int .i32 0) 1 4 Tryz.underlying24 hi hz0 hz1 hz2 rfl (by decide) _ k _ rfl (HO.out.alloc _) ⟨_, 0, none⟩ 1 1 (dcl z) rfl rfl (cells_new _ (dcl z) _) (dcl_one z) (by unfold maxLen; omega) (by omega) (by simp; omega) ?_; intro v3 w3 hown3 hgrow3 _ hat3; have HB3 := Lib.hid ((HBk.out.alloc hbs _).grown hgrow3 (by simp; omega) (fun j hj => (HOL.out j hj).1)); have HO3 := Lib.hid hown3; have HY3 := Lib.hid ((HY.out.alloc _).grown hgrow3 (fun e => HN.out e.symm)); obtain ⟨r3, cap3, rfl⟩ := owns_form hown3; obtain ⟨q0, q1, q2, q3, q4⟩ := HY3.out; have HAT := Lib.hid hat3; clear hgrow3 hown3 hat3)
      go_roundw
      case rel =>
        have hl := (List.getElem?_eq_some_iff.1 HXZ.out.1).1
        have hsz : (wr.alloc (.cells #[.int .i32 z] 25)).heap.size = wr.heap.size + 1 := by simp
        have ne1 : (Value.slice r3 (k + 1) cap3).ownBlock ≠ some V.heap.size := fun e => by
          rcases HAT.out with h | h
          · exact HN.out (h.symm.trans e)
          · rw [h] at e; have := Option.some.inj e; omega
        have et := List.take_succ_eq_append_getElem hl
        have ex : S[k] = x := by have := HXZ.out.1; rw [List.getElem?_eq_getElem hl] at this; exact Option.some.inj this
        refine ⟨k + 1, r3, cap3, by go_num, by omega, Lib.hid (owns_set_far ?_ _ _ ne1), Lib.hid ne1, Lib.hid (HY3.out.set0 _), Lib.hid (HB3.out.setCell (Nat.le_refl _) _)⟩
        rw [et, ex, List.map_append, List.flatMap_append]
        have := HO3.out
        rw [show [x].map (· + (b : Int)) = [z] by rw [List.map_cons, HXZ.out.2]; rfl]
        simpa using this
      case measure => simp [intOf]; omega
    · obtain rfl : k = L := by omega
      have hfull : (S.take k) = S := List.take_of_length_le (by rw [HL.out]; exact Nat.le_refl _)
      have HRD := Lib.hid (show Recs dcl 1 wr (.slice r k cap) (S.map (· + (b : Int))) from recs_of_owns dcl_len (hfull ▸ HO.out) (by rw [List.length_map, HL.out]) (by omega))
      have HRC := Lib.hid (HRS.out.stay HBk.out)
      have HIw := Lib.hid (fun (w' : World) (h : Below wr.heap.size wr w') => HI.out w' (HB0.out.trans ((HBk.out.trans (h.mono hbs)).mono HB0.out.size)))
      have HXw := Lib.hid (HBX.out.stay HBk.out)
      have K1 := Lib.hid (HP.out _ wr (HIw.out _ (Below.refl _ _)) HRC.out)
      have K2 := Lib.hid (fun w' (h : Below wr.heap.size wr w') => HQ.out _ w' (HIw.out _ h) (HRD.out.stay h))
      have K3 := Lib.hid (fun w' (h : Below wr.heap.size wr w') => HK.out _ w' (HIw.out _ h) (HRD.out.stay h))
      have K4 := Lib.hid (fun w' (h : Below wr.heap.size wr w') => HS.out _ _ w' (HRC.out.stay h) (HRD.out.stay h))
      clear hfull
      generalize max p 0 = mp at *
      generalize decide (0 ≤ p) = bp at *
      go_wp2_with (first
        | (go_at_call 16; refine (K4.out _ H3.out).mono ?_; rintro e x4 ⟨rfl, h⟩; have H4 := Lib.hid (H3.out.trans (h.mono H3.out.size)); clear h)
        | (go_at_call 11; refine (K3.out _ H2.out).mono ?_; rintro e x3 ⟨rfl, h⟩; have H3 := Lib.hid (H2.out.trans (h.mono H2.out.size)); obtain ⟨s0, s1, _, _, _⟩ := HXw.out.stay H3.out; obtain ⟨s2, s3, _, _, _⟩ := HY.out.stay H3.out; clear h)
        | (go_at_call 15; refine (K2.out _ H1.out).mono ?_; rintro e x2 ⟨rfl, h⟩; have H2 := Lib.hid (H1.out.trans (h.mono H1.out.size)); obtain ⟨s0, s1, _, _, _⟩ := HXw.out.stay H2.out; obtain ⟨s2, s3, _, _, _⟩ := HY.out.stay H2.out; clear h)
        | (go_at_call 15; refine K1.out.mono ?_; rintro e x1 ⟨rfl, h⟩; have H1 := Lib.hid h; obtain ⟨s0, s1, _, _, _⟩ := HXw.out.stay H1.out; obtain ⟨s2, s3, _, _, _⟩ := HY.out.stay H1.out; clear h))
      go_ret
      exact ⟨by simp, HB0.out.trans ((HBk.out.trans (H4.out.mono hbs)).mono HB0.out.size)⟩
end Go.Proofs.YtmbfnbbgphpcgaaGreatDoor

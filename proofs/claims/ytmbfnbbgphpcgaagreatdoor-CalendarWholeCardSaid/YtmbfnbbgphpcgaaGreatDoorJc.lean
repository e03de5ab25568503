/- All that the laws ask of package calendar; law 8's Period, Awake. -/
import Derived.Test.YtmbfnbbgphpcgaaGreatDoorJb
import Derived.Test.YtmbfnbbgphpcgaaGreatDoorNg
namespace Go.Proofs.YtmbfnbbgphpcgaaGreatDoor
open Go.RowKit
set_option linter.unusedVariables false
set_option linter.unusedSimpArgs false
def I32 (n : Int) : Prop := -2147483648 ≤ n ∧ n ≤ 2147483647
/-- All that the laws ask of calendar. -/
structure CalC (I : World → Prop) : Prop where
  check : ∀ (v : Value) (S : List Int) (E : Int) (w : World), I w → Recs dcl 1 w v S → S.length ≤ 100 → (∀ x ∈ S, I32 x) → I32 E → Calls Tryz.prog 11 #[.agg #[v, .int .i32 E]] w fun e w' => e = .returned (.int .i64 (chkD S E)) ∧ Below w.heap.size w w'
  len : ∀ (v : Value) (S : List Int) (E : Int) (w : World), Recs dcl 1 w v S → S.length ≤ 100 → Calls Tryz.prog 12 #[.agg #[v, .int .i32 E]] w fun e w' => e = .returned (.int .i64 (S.length : Nat)) ∧ Below w.heap.size w w'
  period : ∀ (v : Value) (S : List Int) (E d : Int) (w : World), I w → Recs dcl 1 w v S → RiseD S → 1 ≤ S.length → S.length ≤ 60 → (∀ x ∈ S, I32 x ∧ x < E) → I32 E → I32 d → Calls Tryz.prog 15 #[.agg #[v, .int .i32 E], .int .i32 d] w fun e w' => e = .returned (.tuple #[.int .i64 (max (perI S E d) 0), .bool (decide (0 ≤ perI S E d))]) ∧ Below w.heap.size w w'
  same : ∀ (v v' : Value) (S S' : List Int) (E E' : Int) (w : World), Recs dcl 1 w v S → Recs dcl 1 w v' S' → S.length ≤ 100 → S'.length ≤ 100 → Calls Tryz.prog 16 #[.agg #[v, .int .i32 E], .agg #[v', .int .i32 E']] w fun e w' => e = .returned (.bool (decide (S = S' ∧ E = E'))) ∧ Below w.heap.size w w'
theorem mkS_range {d : Int} {l : List Nat} (h : -32768 ≤ d ∧ d ≤ 32767) : ∀ x ∈ mkS d l, I32 x ∧ x < mkE d l := fun x hx => by
  have h1 := mkS_mem hx
  unfold I32
  omega
theorem mkE_range {d : Int} {l : List Nat} (h : -32768 ≤ d ∧ d ≤ 32767) : I32 (mkE d l) := by
  have h1 := mkE_le d l
  unfold I32
  omega
theorem mkS_lens (d : Int) (l : List Nat) : 1 ≤ (mkS d l).length ∧ (mkS d l).length ≤ 13 := by rw [mkS_len]; omega
/-- A made calendar's period. -/
theorem CalC.made {I : World → Prop} (K : CalC I) {d0 : Int} {l : List Nat} (hd : -32768 ≤ d0 ∧ d0 ≤ 32767) (v : Value) (d : Int) (w : World) (hI : I w) (hR : Recs dcl 1 w v (mkS d0 l)) (h : I32 d) :
    Calls Tryz.prog 15 #[.agg #[v, .int .i32 (mkE d0 l)], .int .i32 d] w fun e w' => e = .returned (.tuple #[.int .i64 (max (perI (mkS d0 l) (mkE d0 l) d) 0), .bool (decide (0 ≤ perI (mkS d0 l) (mkE d0 l) d))]) ∧ Below w.heap.size w w' :=
  K.period v _ _ d w hI hR (mkS_rise _ _) (mkS_lens _ _).1 (by have := (mkS_lens d0 l).2; omega) (mkS_range hd) (mkE_range hd) h
theorem per_ex1 : perI (mkS 0 []) (mkE 0 []) 30 = 0 := by decide
theorem per_ex2 : perI (mkS 0 []) (mkE 0 []) 31 = -1 := by decide
set_option maxHeartbeats 1000000 in
set_option maxRecDepth 100000 in
theorem awake8_any {I : World → Prop} (C : AllotC) (D : DayC I) (K : KeyC I) (U : UnitC) (L : CalC I) (w : World) (hI : I w) :
    Calls Tryz.prog 8 #[] w fun e w' => e = .returned (.bool true) ∧ Below w.heap.size w w' := by
  have KM := Lib.hid (fun w => makeC_c (.slice none 0 0) [] 0 (by omega) w (.inl ⟨_, _, rfl, rfl⟩))
  have K1 : Hid (∀ v w', I w' → Recs dcl 1 w' v (mkS 0 []) → Calls Tryz.prog 15 #[.agg #[v, .int .i32 (mkE 0 [])], .int .i32 30] w' fun e w'' => e = .returned (.tuple #[.int .i64 0, .bool true]) ∧ Below w'.heap.size w' w'') := Lib.hid (fun v w' h hR => by have := L.made (by omega) v 30 w' h hR (by unfold I32; omega); rwa [per_ex1] at this)
  have K2 : Hid (∀ v w', I w' → Recs dcl 1 w' v (mkS 0 []) → Calls Tryz.prog 15 #[.agg #[v, .int .i32 (mkE 0 [])], .int .i32 31] w' fun e w'' => e = .returned (.tuple #[.int .i64 0, .bool false]) ∧ Below w'.heap.size w' w'') := Lib.hid (fun v w' h hR => by have := L.made (by omega) v 31 w' h hR (by unfold I32; omega); rwa [per_ex2] at this)
  have K4 := Lib.hid (fun (w' : World) (h : Below w.heap.size w w') => awake7_any C D K U w' (D.stay hI h))
  have HI := Lib.hid (fun (w' : World) (h : Below w.heap.size w w') => D.stay hI h)
  have hl := (mkS_lens 0 []).2
  generalize mkS 0 [] = S at *
  generalize mkE 0 [] = E at *
  have HB0 := Lib.hid (Below.refl w.heap.size w)
  clear C D K U L hI
  go_enter Tryz.func8, Tryz.ntmps8
  go_wp2_with (first
    | (go_at_call 17; refine (K4.out _ HB4.out).mono ?_; rintro e w5 ⟨rfl, h5⟩; have HB5 := Lib.hid (HB4.out.trans (h5.mono HB4.out.size)); clear h5)
    | (go_at_call 15; refine (K2.out _ _ (HI.out _ HB3.out) HR3.out).mono ?_; rintro e w4 ⟨rfl, h4⟩; have HB4 := Lib.hid (HB3.out.trans (h4.mono HB3.out.size)); clear h4)
    | (go_at_call 13; refine (KM.out w2).mono ?_; rintro e w3 ⟨v3, rfl, ho, h3⟩; have HR3 := Lib.hid (recs_of_owns dcl_len ho rfl (by omega)); have HB3 := Lib.hid (HB2.out.trans (h3.mono HB2.out.size)); clear h3 ho)
    | (go_at_call 15; refine (K1.out _ _ (HI.out _ HB1.out) HR1.out).mono ?_; rintro e w2 ⟨rfl, h2⟩; have HB2 := Lib.hid (HB1.out.trans (h2.mono HB1.out.size)); clear h2)
    | (go_at_call 13; refine (KM.out _).mono ?_; rintro e w1 ⟨v1, rfl, ho, h1⟩; have HR1 := Lib.hid (recs_of_owns dcl_len ho rfl (by omega)); have HB1 := Lib.hid (HB0.out.trans (h1.mono HB0.out.size)); clear h1 ho))
  go_ret
  exact ⟨by simp, HB5.out⟩
set_option maxHeartbeats 2000000 in
set_option maxRecDepth 100000 in
theorem lperiod_c (v : Value) (S : List Int) (E d : Int) (w : World) (hR : Recs dcl 1 w v S) (hr : RiseD S) (hE : ∀ x ∈ S, x < E) (hl : S.length ≤ 100) :
    Calls Tryz.prog 14 #[.agg #[v, .int .i32 E], .int .i32 d] w fun e w' => e = .returned (.int .i64 (perI S E d)) ∧ Below w.heap.size w w' := by
  obtain ⟨r, cap, rfl, _⟩ := hR.form
  obtain ⟨L, hL⟩ : ∃ L, S.length = L := ⟨_, rfl⟩
  obtain ⟨c, hc⟩ : ∃ c, cntD S d = c := ⟨_, rfl⟩
  obtain ⟨p, hp⟩ : ∃ p, perI S E d = p := ⟨_, rfl⟩
  have HL := Lib.hid hL
  have hcl : c ≤ L := by rw [← hc, ← hL]; exact cnt_le S d
  have HP : Hid (p = if d < E ∧ 0 < c then (c : Int) - 1 else -1) := Lib.hid (by rw [← hp, ← hc]; rfl)
  have HC : Hid (∀ i s, S[i]? = some s → (s ≤ d ↔ i < c)) := Lib.hid (fun i s h => by rw [← hc]; exact cnt_iff hr h)
  have HE := Lib.hid hE
  rw [hL] at hR
  have hbx := Box2.new w (.slice r L cap) (.int .i32 E) 27
  have HB := Lib.hid ((Below.refl w.heap.size w).alloc (Nat.le_refl _) (.cells #[.slice r L cap, .int .i32 E] 27))
  have HR := Lib.hid (show Recs dcl 1 (w.alloc (.cells #[.slice r L cap, .int .i32 E] 27)) (.slice r L cap) S from hR.stay HB.out)
  rw [hL] at hl ⊢
  rw [hp]
  clear hR hL hc hp hr hE
  go_enter Tryz.func14, Tryz.ntmps14
  go_upto_region 1 with fail
  generalize w.alloc (.cells #[.slice r L cap, .int .i32 E] 27) = W at *
  obtain ⟨p0, p1, _, _, _⟩ := hbx
  go_wp2_with fail
  go_loop [10] (fun i => ∃ k : Nat, i = .int .i64 k ∧ k ≤ L ∧ Hid (0 < c ∧ d < E → k < c)) (fun i => L - (intOf i).toNat)
  case atStart => exact ⟨0, rfl, Nat.zero_le _, Lib.hid (fun h => h.1)⟩
  case round =>
    obtain ⟨k, rfl, hk, HK⟩ := hrel
    by_cases hlt : k < L
    · obtain ⟨x, hx⟩ : ∃ x, S[k]? = some x := ⟨S[k]'(by have := HL.out; omega), List.getElem?_eq_getElem (by have := HL.out; omega)⟩
      obtain ⟨g, off, rfl, hg, hc⟩ := HR.out.at hx
      have c0 := hc 0 _ rfl
      simp only [Nat.mul_one, Nat.add_zero] at c0
      have hxi := HC.out _ _ hx
      have hxE := HE.out x (List.mem_of_getElem? hx)
      have HX := Lib.hid hxi
      have NEXT : Hid (∀ h : ¬ x ≤ d ∨ ¬ d < E ∨ k + 1 < c, 0 < c ∧ d < E → k + 1 < c) := Lib.hid (fun h h2 => by
        have := HK.out h2
        rcases h with h | h | h
        · exact absurd (hxi.2 this) h
        · exact absurd h2.2 h
        · exact h)
      by_cases hxd : x ≤ d
      · have hkc := hxi.1 hxd
        by_cases hk1 : k + 1 < L
        · have i1 : (k : Int) + 1 < (L : Int) := by omega
          obtain ⟨y, hy⟩ : ∃ y, S[k + 1]? = some y := ⟨S[k + 1]'(by have := HL.out; omega), List.getElem?_eq_getElem (by have := HL.out; omega)⟩
          obtain ⟨g', off', er, _, hc'⟩ := HR.out.at hy
          cases er
          have c1 := hc' 0 _ rfl
          simp only [Nat.mul_one, Nat.add_zero] at c1
          have hyi := HC.out _ _ hy
          have hyE := HE.out y (List.mem_of_getElem? hy)
          by_cases hyd : d < y
          · have hpe : p = (k : Int) := by rw [HP.out, if_pos (by omega)]; have : ¬ (k + 1 < c) := fun h => by have := hyi.2 h; omega
                                           omega
            subst hpe
            clear hx hc hxi hyi hy hc' hxE hyE hkc
            go_wp2
            go_ret
            exact ⟨rfl, HB.out⟩
          · have E1 := Lib.hid (NEXT.out (.inr (.inr (hyi.1 (by omega)))))
            clear hx hc hxi hyi hy hc' hxE hyE hkc NEXT
            go_wp2
            go_round
            case rel => exact ⟨k + 1, by go_num, by omega, E1⟩
            case measure => simp [intOf]; omega
        · have i1 : ¬ (k : Int) + 1 < (L : Int) := by omega
          by_cases hdE : d < E
          · have hpe : p = (k : Int) := by rw [HP.out, if_pos (by omega)]; omega
            subst hpe
            clear hx hc hxi hxE hkc
            go_wp2
            go_ret
            exact ⟨rfl, HB.out⟩
          · have E1 := Lib.hid (NEXT.out (.inr (.inl hdE)))
            clear hx hc hxi hxE hkc NEXT
            go_wp2
            go_round
            case rel => exact ⟨k + 1, by go_num, by omega, E1⟩
            case measure => simp [intOf]; omega
      · have E1 := Lib.hid (NEXT.out (.inl hxd))
        clear hc hxi hxE NEXT
        by_cases hk1 : k + 1 < L
        · have i1 : (k : Int) + 1 < (L : Int) := by omega
          obtain ⟨y, hy⟩ : ∃ y, S[k + 1]? = some y := ⟨S[k + 1]'(by have := HL.out; omega), List.getElem?_eq_getElem (by have := HL.out; omega)⟩
          obtain ⟨g', off', er, _, hc'⟩ := HR.out.at hy
          cases er
          have c1 := hc' 0 _ rfl
          simp only [Nat.mul_one, Nat.add_zero] at c1
          clear hx hy hc'
          go_wp2
          go_round
          case rel => exact ⟨k + 1, by go_num, by omega, E1⟩
          case measure => simp [intOf]; omega
        · have i1 : ¬ (k : Int) + 1 < (L : Int) := by omega
          clear hx
          go_wp2
          go_round
          case rel => exact ⟨k + 1, by go_num, by omega, E1⟩
          case measure => simp [intOf]; omega
    · obtain rfl : k = L := by omega
      have hpe : p = -1 := by rw [HP.out, if_neg]; intro h; have := HK.out ⟨h.2, h.1⟩; omega
      subst hpe
      go_wp2
      go_ret
      exact ⟨rfl, HB.out⟩
end Go.Proofs.YtmbfnbbgphpcgaaGreatDoor

/- Contract of slices.Clone at entities; the walk of law UnitTurns. -/
import Derived.Test.YtaldafgkhcihjaaGreatDoorNf
import Derived.Test.YtaldafgkhcihjaaGreatDoorNg
namespace Go.Proofs.YtaldafgkhcihjaaGreatDoor
open Go.RowKit
set_option linter.unusedVariables false
set_option linter.unusedSimpArgs false
set_option maxHeartbeats 1000000 in
set_option maxRecDepth 100000 in
theorem clone_u (xs : List Nat) (v : Value) (n base : Nat) (w : World) (ho : w.ownsRow base 23 1 v n (xs.flatMap uc)) (hl : n ≤ 1000) :
    Calls Tryz.prog 10 #[v] w fun e w' => ∃ v', e = .returned v' ∧ w'.ownsRow w.heap.size 23 1 v' n (xs.flatMap uc) ∧ Below w.heap.size w w' := by
  obtain ⟨i0, hi, hz0, hz1, hz2⟩ := info_parts info16
  have q22 : ∀ (w : World) (a : Option Addr) (n c n' c' : Nat), (binOp .eql 25 (.slice a n c) (.slice none n' c')).run Tryz.prog w = .ok (.bool a.isNone) w := fun w a n c n' c' => Lib.run_eql_slice_nil w _ _ a n c n' c' Tryz.underlying25
  have hlen := ho.1
  rcases ho.2 with ⟨rfl, h0⟩ | ⟨g, cap, cur, rfl, _⟩
  · subst h0
    have hx : xs.flatMap uc = [] := List.eq_nil_of_length_eq_zero (by simpa using hlen)
    rw [hx]
    clear ho hlen hx
    go_enter Tryz.func10, Tryz.ntmps10
    go_wp2
    go_ret
    exact ⟨_, rfl, World.ownsRow_nil _ _ _ _, Below.refl _ _⟩
  · have hg := (ho.lt g rfl).2
    have HC := Lib.hid (show ∀ j u, (xs.flatMap uc)[j]? = some u → (w.alloc (.cells #[] 23)).cell? ((⟨g, 0, none⟩ : Addr).add j) = some u from fun j u hu => by
      have e : (⟨g, 0, none⟩ : Addr).add j = ⟨g, j, none⟩ := by unfold Addr.add; split <;> simp_all
      rw [e, World.cell?_alloc_lt _ _ _ hg, ho.cellAt j (by have := (List.getElem?_eq_some_iff.1 hu).1; omega)]
      exact hu)
    have h1 := flat_one uc_one xs
    clear ho
    generalize xs.flatMap uc = zs at *
    go_enter Tryz.func10, Tryz.ntmps10
    go_wp2_with (at_builtin; refine wpList_append_own _ rfl (.tmp 5) (.tmp 6) 25 rfl w.heap.size 23 i0 (.int .u16 0) 1 2 Tryz.underlying25 hi hz0 hz1 hz2 rfl (by decide) _ 0 [] rfl (World.ownsRow_made w #[] 0 (Nat.le_refl _) (by decide) (by simp)) ⟨g, 0, none⟩ n cap zs rfl hlen HC.out h1 (by unfold maxLen; omega) (by omega) (by simp) ?_; intro v3 w3 hown3 hgrow3 _)
    go_ret
    refine ⟨_, rfl, by simpa using hown3, ((Below.refl _ _).alloc (Nat.le_refl _) _).grown hgrow3 (by simp) (fun k hk => by have e : some w.heap.size = some k := hk; injection e with e; omega)⟩
theorem has_iff (u : List Nat) (n : Nat) : decide (((outU u n).length : Int) < (u.length : Int)) = decide (n ∈ u) := by
  apply decide_eq_decide.2
  constructor
  · intro h
    by_cases hn : n ∈ u
    · exact hn
    · rw [outU_same hn] at h; omega
  · intro h
    have := outU_short h
    omega
set_option maxHeartbeats 4000000 in
set_option maxRecDepth 100000 in
theorem unitturns_any {I : World → Prop} (C : AllotC) (D : DayC I) (K : KeyC I) (U : UnitC) (v : Value) (l : List Nat) (n : Nat) (w : World) (hI : I w) (hR : Recs uc 1 w v l) (hn : n < 65536) :
    Calls Tryz.prog 4 #[v, .int .u16 (n : Int)] w fun e w' => e = .returned (.bool true) ∧ Below w.heap.size w w' := by
  obtain ⟨i0, hi, hz0, hz1, hz2⟩ := info_parts info16
  have HW := Lib.hid (awake7_any C D K U w hI)
  have HM := Lib.hid (fun (w' : World) (h : Below w.heap.size w w') => makeU_c _ l w' (hR.stay h))
  have HU := Lib.hid U
  have hlen := mkU_len l
  have HX := Lib.hid (And.intro (mkU_rise l) (fun x (hx : x ∈ mkU l) => (show x < 65536 by have := mkU_small hx; omega)))
  generalize mkU l = u at *
  obtain ⟨L, hL⟩ : ∃ L, u.length = L := ⟨_, rfl⟩
  have HL := Lib.hid hL
  rw [hL] at hlen HM
  obtain ⟨N, hN⟩ : ∃ N, n % 12 = N := ⟨_, rfl⟩
  have hN12 : N < 12 := by omega
  have e1 : (n : Int).tmod 12 = (N : Int) := by rw [Int.tmod_eq_emod_of_nonneg (by omega)]; omega
  have e2 : (n : Int) % 12 = (N : Int) := by omega
  clear hR hL hN hn C D K U hI
  go_enter Tryz.func4, Tryz.ntmps4
  go_wp2_with (first
    | (go_at_call 7; refine (HM.out _ HB2.out).mono ?_; rintro e w3 ⟨v3, rfl, ho, hb⟩; have HO3 := Lib.hid ho; have HB3 := Lib.hid (HB2.out.trans (hb.mono HB2.out.size)); have HR2' := Lib.hid (HR2.out.stay hb); have HR3 := Lib.hid (recs_of_owns uc_len ho HL.out.symm (by omega)); obtain ⟨r3, cap3, rfl⟩ := owns_form ho; clear ho hb)
    | (go_at_call 7; refine (HM.out _ HB1.out).mono ?_; rintro e w2 ⟨v2, rfl, ho, hb⟩; have HB2 := Lib.hid (HB1.out.trans (hb.mono HB1.out.size)); have HR2 := Lib.hid (recs_of_owns uc_len ho HL.out.symm (by omega)); obtain ⟨r2, cap2, rfl⟩ := owns_form ho; clear ho hb)
    | (go_at_call 6; refine HW.out.mono ?_; rintro e w1 ⟨rfl, h1⟩; have HB1 := Lib.hid h1; clear h1))
  clear HR2 HB2 HB1 HM HW HO3
  go_loopw [7, 22] (fun s7 i wr => ∃ (k m : Nat) (r : Option Addr) (cap : Nat) (o : List Nat), s7 = .slice r m cap ∧ i = .int .i64 k ∧ k ≤ L ∧ m ≤ k ∧ wr.ownsRow w3.heap.size 23 1 (.slice r m cap) m (o.flatMap uc) ∧ Hid (o.length = m ∧ o = outU (u.take k) N) ∧ Hid (Below w3.heap.size w3 wr)) (fun _ i _ => L - (intOf i).toNat)
  case atStart => exact ⟨0, 0, none, 0, [], rfl, rfl, Nat.zero_le _, Nat.zero_le _, World.ownsRow_nil _ _ _ _, Lib.hid ⟨rfl, rfl⟩, Lib.hid (Below.refl _ _)⟩
  case round =>
    obtain ⟨k, m, r, cap, o, rfl, rfl, hk, hmk, hown, HC, HB⟩ := hrel
    rename World => wr
    have hbs := HB.out.size
    by_cases hlt : k < L
    · obtain ⟨x, hx⟩ : ∃ x, u[k]? = some x := ⟨u[k]'(by have := HL.out; omega), List.getElem?_eq_getElem (by have := HL.out; omega)⟩
      obtain ⟨g, off, rfl, hg, hc⟩ := (HR2'.out.stay HB.out).at hx
      have c0 := hc 0 _ rfl
      simp only [Nat.mul_one, Nat.add_zero] at c0
      have HS := Lib.hid (outU_step (n := N) hx)
      have HO := Lib.hid hown
      have HOL := Lib.hid hown.lt
      by_cases hxn : x = N
      · have t1 : ((x : Int) != (N : Int)) = false := by simp [hxn]
        have HI := Lib.hid hxn
        clear hx hc hxn hown
        go_wp2
        go_roundw
        case rel => exact ⟨k + 1, m, r, cap, o, rfl, by go_num, by omega, by omega, HO.out, Lib.hid ⟨HC.out.1, by rw [HS.out, if_pos HI.out, HC.out.2]⟩, HB⟩
        case measure => simp [intOf]; omega
      · have t1 : ((x : Int) != (N : Int)) = true := by simp; omega
        have HI := Lib.hid hxn
        clear hx hc hxn hown
        go_wp2_with (at_builtin; refine wpList_append_own _ rfl (.tmp 29) (.tmp 31) 25 rfl w3.heap.size 23 i0 (.int .u16 0) 1 2 Tryz.underlying25 hi hz0 hz1 hz2 rfl (by decide) _ m _ rfl (HO.out.alloc _) ⟨_, 0, none⟩ 1 1 (uc x) rfl rfl (cells_new _ (uc x) _) (uc_one x) (by unfold maxLen; omega) (by omega) (by simp; omega) ?_; intro v5 w5 hown5 hgrow5 _; have HB5 := Lib.hid ((HB.out.alloc hbs _).grown hgrow5 (by simp; omega) (fun j hj => (HOL.out j hj).1)); have HO5 := Lib.hid hown5; obtain ⟨r5, cap5, rfl⟩ := owns_form hown5; clear hgrow5 hown5)
        go_roundw
        case rel => exact ⟨k + 1, m + 1, r5, cap5, o ++ [x], rfl, by go_num, by omega, by omega, by rw [flat_snoc]; exact HO5.out, Lib.hid ⟨by simp; exact HC.out.1, by rw [HS.out, if_neg HI.out, HC.out.2]⟩, HB5⟩
        case measure => simp [intOf]; omega
    · obtain rfl : k = L := by omega
      have ho : o = outU u N := by rw [HC.out.2, List.take_of_length_le (by rw [HL.out]; exact Nat.le_refl _)]
      have HO := Lib.hid ho
      have HOm := Lib.hid HC.out.1
      have hh := has_iff u N
      rw [← ho, HC.out.1, HL.out] at hh
      have hh2 : decide (m < k) = decide (N ∈ u) := by rw [← hh]; exact decide_eq_decide.2 (by omega)
      have KC := Lib.hid (clone_u o _ m w3.heap.size wr hown (by omega))
      have KH := HU.out.has
      have HRa := Lib.hid (recs_of_owns uc_len hown HC.out.1.symm (by omega))
      have HR2w := Lib.hid (HR2'.out.stay HB.out)
      have HR3w := Lib.hid (HR3.out.stay HB.out)
      clear ho hown HC HR2' HR3
      obtain ⟨B, hB⟩ : ∃ B, decide (N ∈ u) = B := ⟨_, rfl⟩
      have HBB := Lib.hid hB
      rw [hB] at hh hh2
      clear hB KH
      go_wp2_with (first
        | (go_at_call 10; refine KC.out.mono ?_; rintro e w4 ⟨v4, rfl, ho4, hb4⟩; have HO4 := Lib.hid ho4; have HOL4 := Lib.hid ho4.lt; have HB4 := Lib.hid hb4; have hs4 := hb4.size; obtain ⟨r4, cap4, rfl⟩ := owns_form ho4; clear ho4 hb4)
        | (at_builtin; refine wpList_append_own _ rfl (.tmp 35) (.tmp 37) 25 rfl wr.heap.size 23 i0 (.int .u16 0) 1 2 Tryz.underlying25 hi hz0 hz1 hz2 rfl (by decide) _ m _ rfl (HO4.out.alloc _) ⟨_, 0, none⟩ 1 1 (uc N) rfl rfl (cells_new _ (uc N) _) (uc_one N) (by unfold maxLen; omega) (by omega) (by simp; omega) ?_; intro v5 w5 hown5 hgrow5 _; have HB5 := Lib.hid ((HB4.out.alloc hs4 _).grown hgrow5 (by simp; omega) (fun j hj => (HOL4.out j hj).1)); have HO5 := Lib.hid hown5; have HOL5 := Lib.hid hown5.lt; obtain ⟨r5, cap5, rfl⟩ := owns_form hown5; clear hgrow5 hown5)
        | (go_at_call 11; refine (sort16 (o ++ [N]) _ (m + 1) wr.heap.size w5 (by rw [flat_snoc]; exact HO5.out) (by simp; exact HOm.out) (by omega)).mono ?_; rintro e w6 ⟨rfl, hs⟩; have HS6 := Lib.hid hs; clear hs))
      obtain ⟨ys, hp, hsr, ho6, hg6⟩ := HS6.out
      have ew : ys = withU u N := sort_with HX.out.1 (by rw [← HO.out]; exact hp) hsr
      have hl6 := hp.length_eq
      rw [show (o ++ [N]).length = m + 1 by simp; exact HOm.out] at hl6
      have HB6 := Lib.hid (HB5.out.grown hg6 (by have := HB5.out.size; omega) (fun j hj => (HOL5.out j hj).1))
      have HRW := Lib.hid (show Recs uc 1 w6 _ (withU u N) from ew ▸ recs_of_owns uc_len ho6 hl6.symm (by omega))
      have HRA := Lib.hid (show Recs uc 1 w6 _ (outU u N) from HO.out ▸ HRa.out.stay HB6.out)
      have HR2x := Lib.hid (HR2w.out.stay HB6.out)
      have HR3x := Lib.hid (HR3w.out.stay HB6.out)
      have HE := Lib.hid (HB3.out.trans ((HB.out.mono HB3.out.size).trans (HB6.out.mono (by have := HB3.out.size; omega))))
      have KH : Hid (Calls Tryz.prog 12 #[.slice r2 k cap2, .int .u16 (N : Int)] w6 fun e w' => e = .returned (.bool B) ∧ Below w6.heap.size w6 w') := Lib.hid (by rw [← HBB.out]; exact HU.out.has _ u N w6 HR2x.out (by rw [HL.out]; omega) (by omega))
      have KO := Lib.hid (fun w' (h : Below w6.heap.size w6 w') => HU.out.without _ u N w' (HR2x.out.stay h) HX.out.1 (by rw [HL.out]; omega) HX.out.2 (by omega))
      have KW := Lib.hid (fun w' (h : Below w6.heap.size w6 w') => HU.out.with' _ u N w' (HR2x.out.stay h) HX.out.1 (by rw [HL.out]; omega) HX.out.2 (by omega))
      have KE1 := Lib.hid (fun v w' (h : Below w6.heap.size w6 w') (hv : Recs uc 1 w' v (outU u N)) => equal_u v _ _ w' hv (HRA.out.stay h))
      have KE2 := Lib.hid (fun v w' (h : Below w6.heap.size w6 w') (hv : Recs uc 1 w' v (withU u N)) => equal_u v _ _ w' hv (HRW.out.stay h))
      have KE3 := Lib.hid (fun w' (h : Below w6.heap.size w6 w') => equal_u _ _ _ w' (HR2x.out.stay h) (HR3x.out.stay h))
      clear hp hsr ho6 hg6 ew hl6 HS6 HRW HRA HR2x HR3x
      go_wp2_with (first
        | (go_at_call 13; refine (KE3.out _ HDb.out).mono ?_; rintro e wc ⟨rfl, hb⟩; have HDc := Lib.hid (HDb.out.trans (hb.mono HDb.out.size)); clear hb)
        | (go_at_call 13; refine (KE2.out _ _ HDa.out HRa1.out).mono ?_; rintro e wb ⟨rfl, hb⟩; have HDb := Lib.hid (HDa.out.trans (hb.mono HDa.out.size)); clear hb)
        | (go_at_call 15; refine (KW.out _ HD9.out).mono ?_; rintro e wa ⟨va, rfl, hv, hb⟩; have HDa := Lib.hid (HD9.out.trans (hb.mono HD9.out.size)); have HRa1 := Lib.hid hv; clear hb hv)
        | (go_at_call 13; refine (KE1.out _ _ HD8.out HR8.out).mono ?_; rintro e w9 ⟨rfl, hb⟩; have HD9 := Lib.hid (HD8.out.trans (hb.mono HD8.out.size)); clear hb)
        | (go_at_call 14; refine (KO.out _ HD7.out).mono ?_; rintro e w8 ⟨v8, rfl, hv, hb⟩; have HD8 := Lib.hid (HD7.out.trans (hb.mono HD7.out.size)); have HR8 := Lib.hid hv; clear hb hv)
        | (go_at_call 12; refine KH.out.mono ?_; rintro e w7 ⟨rfl, hb⟩; have HD7 := Lib.hid hb; clear hb))
      go_ret
      exact ⟨by simp, HE.out.trans (HDc.out.mono HE.out.size)⟩
end Go.Proofs.YtaldafgkhcihjaaGreatDoor

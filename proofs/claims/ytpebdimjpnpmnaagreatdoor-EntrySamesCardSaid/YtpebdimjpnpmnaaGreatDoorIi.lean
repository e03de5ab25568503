/- The walk of law EntrySames. -/
import Derived.Test.YtpebdimjpnpmnaaGreatDoorIh
import Derived.OpenShut
namespace Go.Proofs.YtpebdimjpnpmnaaGreatDoor
open Go.RowKit
set_option linter.unusedVariables false
set_option linter.unusedSimpArgs false
theorem wf_range {n : Int} (h : (Lit.int .i64 n).wf = true) : -9223372036854775808 ≤ n ∧ n ≤ 9223372036854775807 := by
  exact bounds_i64 h
/-- Are the first of both alike, and the lengths and the days? -/
def sameQ (S T : List Ln) (p : Bool) (k : Nat) : Bool := p && decide (S.length = T.length ∧ S.take k = T.take k)
theorem sameQ_zero (S T : List Ln) (p : Bool) : sameQ S T p 0 = (p && decide (S.length = T.length)) := by
  unfold sameQ
  congr 1
  apply decide_eq_decide.2
  simp
theorem sameQ_step {S T : List Ln} {p : Bool} {k : Nat} {x y : Ln} (hx : S[k]? = some x) (hy : T[k]? = some y) : sameQ S T p (k + 1) = (sameQ S T p k && decide (x = y)) := by
  obtain ⟨h1, e1⟩ := List.getElem?_eq_some_iff.1 hx
  obtain ⟨h2, e2⟩ := List.getElem?_eq_some_iff.1 hy
  unfold sameQ
  rw [List.take_succ_eq_append_getElem h1, List.take_succ_eq_append_getElem h2, e1, e2, Bool.and_assoc]
  congr 1
  rw [Bool.eq_iff_iff, Bool.and_eq_true, decide_eq_true_eq, decide_eq_true_eq, decide_eq_true_eq]
  constructor
  · rintro ⟨h, e⟩
    have hl : (S.take k).length = (T.take k).length := by rw [List.length_take, List.length_take]; omega
    obtain ⟨g1, g2⟩ := List.append_inj e hl
    exact ⟨⟨h, g1⟩, by simpa using g2⟩
  · rintro ⟨⟨h, e⟩, rfl⟩
    exact ⟨h, by rw [e]⟩
theorem sameQ_all {S T : List Ln} {a b : Int} {k : Nat} (hk : min S.length T.length ≤ k) : sameQ S T (a == b) k = decide (a = b ∧ S = T) := by
  unfold sameQ
  rw [Bool.eq_iff_iff, Bool.and_eq_true, beq_iff_eq, decide_eq_true_eq, decide_eq_true_eq]
  constructor
  · rintro ⟨h2, h1, h3⟩
    rw [List.take_of_length_le (by omega), List.take_of_length_le (by omega)] at h3
    exact ⟨h2, h3⟩
  · rintro ⟨h, rfl⟩
    exact ⟨h, rfl, rfl⟩
set_option maxHeartbeats 8000000 in
set_option maxRecDepth 100000 in
theorem entrysames_any {I : World → Prop} (C : AllotC) (D : DayC I) (K : KeyC I) (U : UnitC) (LC : CalC I) (EC : EntryC I) (v v' : Value) (ls ms : List Ln) (a b : Int) (same : Bool) (t : Nat) (w : World) (hI : I w) (hR : Recs lc 4 w v ls) (hR' : Recs lc 4 w v' ms) (ha : -32768 ≤ a ∧ a ≤ 32767) (hb : -32768 ≤ b ∧ b ≤ 32767) (ht : t < 256) :
    Calls Tryz.prog 5 #[.int .i16 a, .int .i16 b, v, v', .bool same, .int .u8 (t : Int)] w fun e w' => e = .returned (.bool true) ∧ Below w.heap.size w w' := by
  obtain ⟨r0, cap0, rfl, hm⟩ := hR.form
  obtain ⟨q0, cap0', rfl, hm'⟩ := hR'.form
  have HW := Lib.hid (awake9_any C D K U LC EC w hI)
  have HR := Lib.hid hR
  have HR' := Lib.hid hR'
  have HEC := Lib.hid EC
  obtain ⟨L, hL⟩ : ∃ L, ls.length = L := ⟨_, rfl⟩
  have HL := Lib.hid hL
  obtain ⟨M, hM⟩ : ∃ M, ms.length = M := ⟨_, rfl⟩
  have HM := Lib.hid hM
  rw [hL] at HR hm ⊢
  rw [hM] at HR' hm' ⊢
  clear hR hR' hL hM C D K U LC hI EC
  go_enter Tryz.func5, Tryz.ntmps5
  by_cases hbig : 40 < L
  · have e1 : (40 : Int) < (L : Int) := by omega
    go_wp2_with (go_at_call 7; refine HW.out.mono ?_; rintro e w1 ⟨rfl, h1⟩; have HB1 := Lib.hid h1; clear h1)
    go_ret
    exact ⟨rfl, HB1.out⟩
  · have e1 : ¬ (40 : Int) < (L : Int) := by omega
    by_cases hbig2 : 40 < M
    · have e2 : (40 : Int) < (M : Int) := by omega
      go_wp2_with (go_at_call 7; refine HW.out.mono ?_; rintro e w1 ⟨rfl, h1⟩; have HB1 := Lib.hid h1; clear h1)
      go_ret
      exact ⟨rfl, HB1.out⟩
    · have e2 : ¬ (40 : Int) < (M : Int) := by omega
      go_upto_if 25 with (go_at_call 7; refine HW.out.mono ?_; rintro e w1 ⟨rfl, h1⟩; have HB1 := Lib.hid h1; clear h1)
      have HRa := Lib.hid (HR.out.stay HB1.out)
      go_cut [1, 3] (fun s1 s3 wx => ∃ (b2 : Int) (r : Option Addr) (n cap : Nat) (ys : List Ln), s1 = .int .i16 b2 ∧ s3 = .slice r n cap ∧ (-32768 ≤ b2 ∧ b2 ≤ 32767) ∧ n ≤ 40 ∧ Hid (ys.length = n) ∧ Hid (Recs lc 4 wx (.slice r n cap) ys) ∧ Hid (Below w1.heap.size w1 wx))
      case first =>
        cases same with
        | false =>
          go_wp2
          go_meet
          exact ⟨b, q0, M, cap0', ms, rfl, rfl, hb, by omega, HM, Lib.hid (HR'.out.stay HB1.out), Lib.hid (Below.refl _ _)⟩
        | true =>
          have KC := Lib.hid (clone_l ls r0 L cap0 w1 HRa.out HL.out (by omega))
          by_cases hL0 : L = 0
          · subst hL0
            go_wp2_with (go_at_call 8; refine KC.out.mono ?_; rintro e w2 ⟨v2, rfl, ho, hb⟩; have HO2 := Lib.hid ho; have HB2 := Lib.hid hb; obtain ⟨r2, cap2, rfl⟩ := owns_form ho; clear ho hb)
            go_meet
            exact ⟨a, r2, 0, cap2, ls, rfl, rfl, ha, by omega, HL, Lib.hid (recs_of_owns lc_len HO2.out HL.out.symm (by omega)), HB2⟩
          · have hL1 : 0 < L := by omega
            have hL2 : (0 : Int) < (L : Int) := by omega
            by_cases ht2 : t % 2 = 1
            · have e3 : (t : Int).tmod 2 = 1 := by rw [Int.tmod_eq_emod_of_nonneg (by omega)]; omega
              have e4 : (t : Int) % 2 = 1 := by omega
              obtain ⟨p, hp⟩ : ∃ p, t % L = p := ⟨_, rfl⟩
              have hpL : p < L := by rw [← hp]; exact Nat.mod_lt _ hL1
              have e5 : (t : Int).tmod (L : Int) = (p : Int) := by rw [Int.tmod_eq_emod_of_nonneg (by omega)]; omega
              have e5' : (t : Int) % (L : Int) = (p : Int) := by rw [← hp]; omega
              obtain ⟨f, hf⟩ : ∃ f, t % 4 = f := ⟨_, rfl⟩
              have e6 : (t : Int).tmod 4 = (f : Int) := by rw [Int.tmod_eq_emod_of_nonneg (by omega)]; omega
              have e7 : (t : Int) % 4 = (f : Int) := by omega
              have hL9 : ¬ ((L : Int) = 0) := by omega
              obtain ⟨x, hx⟩ : ∃ x, ls[p]? = some x := ⟨ls[p]'(by have := HL.out; omega), List.getElem?_eq_getElem (by have := HL.out; omega)⟩
              clear ht2 hp hf
              go_upto_if 36 with (go_at_call 8; refine KC.out.mono ?_; rintro e w2 ⟨v2, rfl, ho, hb⟩; have HO2 := Lib.hid ho; have HB2 := Lib.hid hb; obtain ⟨r2, cap2, rfl⟩ := owns_form ho; clear ho hb)
              obtain ⟨G, hr1, hGb⟩ : ∃ G, r2 = some ⟨G, 0, none⟩ ∧ w1.heap.size ≤ G := by
                rcases HO2.out.2 with ⟨h0, h1⟩ | ⟨g', cp, cur, h0, h1, _⟩
                · omega
                · cases h0; exact ⟨g', rfl, h1⟩
              subst hr1
              have hpc := HO2.out.cellAt (p * 4 + 3) (by omega)
              have hz := HO2.out.frozenAt (p * 4 + 3)
              rw [flat_get lc_len hx (j := 3) (u := .int .i64 x.amt) rfl] at hpc
              obtain ⟨n, hn⟩ : ∃ n, Go.bits BinOp.xor IntKind.i64 x.amt (f : Int) = n := ⟨_, rfl⟩
              have hnr : -9223372036854775808 ≤ n ∧ n ≤ 9223372036854775807 := wf_range (by rw [← hn]; exact wf_bits _ _ _ _)
              have HST := Lib.hid (HO2.out.stored (p * 4 + 3) (.int .i64 n)).1
              have HFS := Lib.hid (flat_setL lc_len hx (j := 3) (by omega) (y := x.amtTo n hnr) (u := .int .i64 n) (lc_amt x n hnr))
              have HYL := Lib.hid (show (ls.set p (x.amtTo n hnr)).length = L by rw [List.length_set]; exact HL.out)
              have HNEW := Lib.hid (show Recs lc 4 (w2.setCell ⟨G, p * 4 + 3, none⟩ (.int .i64 n)) (.slice (some ⟨G, 0, none⟩) L cap2) (ls.set p (x.amtTo n hnr)) from recs_of_owns lc_len (by rw [← HFS.out]; exact HST.out) HYL.out.symm (by omega))
              clear hx
              go_wp2_with fail
              go_meet
              exact ⟨a, some ⟨G, 0, none⟩, L, cap2, _, rfl, rfl, ha, by omega, HYL, HNEW, Lib.hid (HB2.out.setCell hGb _)⟩
            · have e3 : ¬ (t : Int) % 2 = 1 := by omega
              have e4 : ((t : Int).tmod 2 == 1) = false := by rw [Int.tmod_eq_emod_of_nonneg (by omega)]; simp; omega
              clear ht2
              go_wp2_with (go_at_call 8; refine KC.out.mono ?_; rintro e w2 ⟨v2, rfl, ho, hb⟩; have HO2 := Lib.hid ho; have HB2 := Lib.hid hb; obtain ⟨r2, cap2, rfl⟩ := owns_form ho; clear ho hb)
              go_meet
              exact ⟨a, r2, L, cap2, ls, rfl, rfl, ha, by omega, HL, Lib.hid (recs_of_owns lc_len HO2.out HL.out.symm (by omega)), HB2⟩
      case rest =>
        obtain ⟨b2, r, n, cap, ys, rfl, rfl, hb2, hn40, HY, HRY, HB9⟩ := hcut
        have HBW := Lib.hid (HB1.out.trans (HB9.out.mono HB1.out.size))
        have HRL := Lib.hid (HRa.out.stay HB9.out)
        have hz := sameQ_zero ls ys (a == b2)
        rw [HL.out, HY.out] at hz
        have KS := Lib.hid (fun w' (h : Below wc.heap.size wc w') => HEC.out.same _ _ a b2 ls ys w' (HRL.out.stay h) (HRY.out.stay h) (by rw [HL.out]; omega) (by rw [HY.out]; omega))
        obtain ⟨mn, hmn⟩ : ∃ mn, min L n = mn := ⟨_, rfl⟩
        have hmi : min (L : Int) (n : Int) = (mn : Int) := by omega
        have hmn1 : mn ≤ L ∧ mn ≤ n ∧ (mn = L ∨ mn = n) := by omega
        have e8 : IntKind.i32.wrap a = a := by rw [IntKind.wrap_i32]; omega
        have e9 : IntKind.i32.wrap b2 = b2 := by rw [IntKind.wrap_i32]; omega
        clear hmn HR HR' HB9 HRa
        go_upto_region 9 with fail
        obtain ⟨W, hW⟩ : ∃ W, wc = W := ⟨_, rfl⟩
        go_cut [13] (fun s13 wx => s13 = .bool (sameQ ls ys (a == b2) 0) ∧ wx = W)
        case first =>
          subst hW
          by_cases hab : a = b2
          · have t1 : (a == b2) = true := by simp [hab]
            rw [t1] at hz
            have HZ0 := Lib.hid hz
            clear hz
            go_wp2_with fail
            go_meet
            exact ⟨by rw [t1, HZ0.out, Bool.true_and]; exact congrArg Value.bool (Bool.eq_iff_iff.2 (by simp only [beq_iff_eq, decide_eq_true_eq]; omega)), rfl⟩
          · have t1 : (a == b2) = false := by simp [hab]
            rw [t1] at hz
            have HZ0 := Lib.hid hz
            clear hz
            go_wp2_with fail
            go_meet
            exact ⟨by rw [t1, HZ0.out, Bool.false_and], rfl⟩
        case rest =>
          obtain ⟨rfl, rfl⟩ := hcut
          subst hW
          clear hz
          go_wp2_with fail
          generalize wc = V at *
          go_loopw [13, 67] (fun s13 i wr => ∃ (k q : Nat), s13 = .bool (sameQ ls ys (a == b2) k) ∧ i = .int .i64 k ∧ k ≤ mn ∧ wr = V.drewN q) (fun _ i _ => mn - (intOf i).toNat)
          case atStart => exact ⟨0, 0, rfl, rfl, Nat.zero_le _, rfl⟩
          case round =>
            obtain ⟨k, q, rfl, rfl, hk, rfl⟩ := hrel
            by_cases hlt : k < mn
            · obtain ⟨x, hx⟩ : ∃ x, ls[k]? = some x := ⟨ls[k]'(by have := HL.out; omega), List.getElem?_eq_getElem (by have := HL.out; omega)⟩
              obtain ⟨y, hy⟩ : ∃ y, ys[k]? = some y := ⟨ys[k]'(by have := HY.out; omega), List.getElem?_eq_getElem (by have := HY.out; omega)⟩
              have hstep := sameQ_step (p := (a == b2)) hx hy
              have hkL : (k : Int) < (L : Int) := by omega
              have hkM : (k : Int) < (n : Int) := by omega
              have hk0 : (0 : Int) ≤ (k : Int) := by omega
              obtain ⟨g2, o2, rfl, _, h2⟩ := HRL.out.at hx
              obtain ⟨g3, o3, rfl, _, h3⟩ := HRY.out.at hy
              obtain ⟨c0, c1, c2, c3⟩ := Recs.cellsL h2
              obtain ⟨d0, d1, d2, d3⟩ := Recs.cellsL h3
              have hne := fun w => eql_l x y w
              clear h2 h3 hx hy
              cases hB : sameQ ls ys (a == b2) k with
              | true =>
                rw [hB] at hstep
                have HST := Lib.hid hstep
                clear hstep hB
                go_wp2_with fail
                go_quiet (fail)
                go_wp2
                go_roundw
                case rel => exact ⟨k + 1, q + nq, by rw [HST.out, Bool.true_and], by go_num, by omega, rfl⟩
                case measure => simp [intOf]; omega
              | false =>
                rw [hB] at hstep
                have HST := Lib.hid hstep
                clear hstep hB
                go_wp2_with fail
                go_quiet (fail)
                go_wp2
                go_roundw
                case rel => exact ⟨k + 1, q + nq, by rw [HST.out, Bool.false_and], by go_num, by omega, rfl⟩
                case measure => simp [intOf]; omega
            · obtain rfl : k = mn := by omega
              have hall := sameQ_all (S := ls) (T := ys) (a := a) (b := b2) (k := k) (by rw [HL.out, HY.out]; omega)
              have hbd : Below V.heap.size V (V.drewN q) := ⟨rfl, rfl, rfl, Nat.le_refl _, fun _ _ => rfl⟩
              have K1 := Lib.hid (KS.out _ hbd)
              rw [← hall] at K1
              have HBD := Lib.hid hbd
              clear hall hbd
              generalize sameQ ls ys (a == b2) k = B at *
              go_wp2_with (go_at_call 14; refine K1.out.mono ?_; rintro e x4 ⟨rfl, h⟩; have H4 := Lib.hid (HBD.out.trans (h.mono HBD.out.size)); clear h)
              go_ret
              exact ⟨by simp, HBW.out.trans (H4.out.mono HBW.out.size)⟩
end Go.Proofs.YtpebdimjpnpmnaaGreatDoor

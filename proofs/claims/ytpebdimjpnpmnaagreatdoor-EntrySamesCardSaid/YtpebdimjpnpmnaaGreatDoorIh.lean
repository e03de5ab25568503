/- The walk of law EntryChecks. -/
import Derived.Test.YtpebdimjpnpmnaaGreatDoorIf
import Derived.OwnWalk
import Derived.Lib.QuietBelow
namespace Go.Proofs.YtpebdimjpnpmnaaGreatDoor
open Go.RowKit
set_option linter.unusedVariables false
set_option linter.unusedSimpArgs false
/-- A line with another amount, with another entity. -/
def Ln.amtTo (x : Ln) (n : Int) (h : -9223372036854775808 ≤ n ∧ n ≤ 9223372036854775807) : Ln := { x with amt := n, hm := h }
theorem lc_amt (x : Ln) (n : Int) (h : -9223372036854775808 ≤ n ∧ n ≤ 9223372036854775807) : lc (x.amtTo n h) = (lc x).set 3 (.int .i64 n) := rfl
set_option maxHeartbeats 8000000 in
set_option maxRecDepth 100000 in
theorem entrychecks_any {I : World → Prop} (C : AllotC) (D : DayC I) (K : KeyC I) (U : UnitC) (LC : CalC I) (EC : EntryC I) (v : Value) (ls : List Ln) (d by' : Int) (even few : Bool) (w : World) (hI : I w) (hR : Recs lc 4 w v ls) (hd : I32 d) (hby : -9223372036854775808 ≤ by' ∧ by' ≤ 9223372036854775807) :
    Calls Tryz.prog 4 #[.int .i32 d, v, .bool even, .bool few, .int .i64 by'] w fun e w' => e = .returned (.bool true) ∧ Below w.heap.size w w' := by
  obtain ⟨i0, hi, hz0, hz1, hz2⟩ := info_parts infoL
  obtain ⟨r0, cap0, rfl, hm⟩ := hR.form
  have HW := Lib.hid (awake9_any C D K U LC EC w hI)
  have HR := Lib.hid hR
  have HEC := Lib.hid EC
  have HI := Lib.hid (fun (w' : World) (h : Below w.heap.size w w') => D.stay hI h)
  have hmix : Tryz.prog.follows .mixedOrders = true := by kernel_rfl
  obtain ⟨L, hL⟩ : ∃ L, ls.length = L := ⟨_, rfl⟩
  have HL := Lib.hid hL
  rw [hL] at HR hm ⊢
  unfold I32 at hd
  clear hR hL C D K U LC hI EC
  go_enter Tryz.func4, Tryz.ntmps4
  by_cases hbig : 31 < L
  · have e1 : (31 : Int) < (L : Int) := by omega
    go_wp2_with (go_at_call 7; refine HW.out.mono ?_; rintro e w1 ⟨rfl, h1⟩; have HB1 := Lib.hid h1; clear h1)
    go_ret
    exact ⟨rfl, HB1.out⟩
  · have e1 : ¬ (31 : Int) < (L : Int) := by omega
    go_wp2_with (first
      | (go_at_call 8; refine (clone_l ls r0 L cap0 w1 (HR.out.stay HB1.out) HL.out (by omega)).mono ?_; rintro e w2 ⟨v2, rfl, ho, hb⟩; have HO2 := Lib.hid ho; have HB2 := Lib.hid hb; obtain ⟨r2, cap2, rfl⟩ := owns_form ho; clear ho hb)
      | (go_at_call 7; refine HW.out.mono ?_; rintro e w1 ⟨rfl, h1⟩; have HB1 := Lib.hid h1; clear h1))
    go_loopw [24] (fun i wr => ∃ (k : Nat) (zs : List Ln), k ≤ L ∧ i = .int .i64 k ∧ Hid (zs.length = L) ∧ Hid (wr.ownsRow w1.heap.size 28 4 (.slice r2 L cap2) L (zs.flatMap lc)) ∧ Hid (Below w1.heap.size w1 wr)) (fun i _ => L - (intOf i).toNat)
    case atStart => exact ⟨0, ls, Nat.zero_le _, rfl, HL, HO2, HB2⟩
    case round =>
      clear HO2 HB2
      obtain ⟨k, zs, hk, rfl, HZ, HO, HB⟩ := hrel
      rename World => wr
      by_cases hlt : k < L
      · cases few with
        | false =>
          go_wp2
          go_roundw
          case rel => exact ⟨k + 1, zs, by omega, by go_num, HZ, HO, HB⟩
          case measure => simp [intOf]; omega
        | true =>
          obtain ⟨x, hx⟩ : ∃ x, zs[k]? = some x := ⟨zs[k]'(by have := HZ.out; omega), List.getElem?_eq_getElem (by have := HZ.out; omega)⟩
          obtain ⟨G, hr1, hGb⟩ : ∃ G, r2 = some ⟨G, 0, none⟩ ∧ w1.heap.size ≤ G := by
            rcases HO.out.2 with ⟨h0, h1⟩ | ⟨g', cp, cur, h0, h1, _⟩
            · omega
            · cases h0; exact ⟨g', rfl, h1⟩
          subst hr1
          have hp := HO.out.cellAt (k * 4 + 1) (by omega)
          have hz := HO.out.frozenAt (k * 4 + 1)
          rw [flat_get lc_len hx (j := 1) (u := .int .u16 (x.ent.n : Int)) rfl] at hp
          obtain ⟨y, hy⟩ : ∃ y, x.ent.n % 2 = y := ⟨_, rfl⟩
          have e2 : (x.ent.n : Int).tmod 2 = (y : Int) := by rw [Int.tmod_eq_emod_of_nonneg (by omega)]; omega
          have e3 : (x.ent.n : Int) % 2 = (y : Int) := by omega
          have HST := Lib.hid (HO.out.stored (k * 4 + 1) (.int .u16 (y : Int))).1
          have HFS := Lib.hid (flat_setL lc_len hx (j := 1) (by omega) (y := fewE true 2 (by omega) x) (u := .int .u16 (y : Int)) (by rw [fewE_cells, hy]))
          clear hx hy
          go_wp2
          go_roundw
          case rel => exact ⟨k + 1, zs.set k (fewE true 2 (by omega) x), by omega, by go_num, Lib.hid (by rw [List.length_set]; exact HZ.out), Lib.hid (by rw [← HFS.out]; exact HST.out), Lib.hid (HB.out.setCell hGb _)⟩
          case measure => simp [intOf]; omega
      · obtain rfl : k = L := by omega
        go_upto_if 37 with fail
        go_cut [0, 1] (fun s0 s1 wx => ∃ (d' : Int) (r : Option Addr) (n cap : Nat) (ys : List Ln), s0 = .int .i32 d' ∧ s1 = .slice r n cap ∧ Hid (I32 d') ∧ n ≤ 62 ∧ Hid (ys.length = n) ∧ Hid (Recs lc 4 wx (.slice r n cap) ys) ∧ Hid (Below w1.heap.size w1 wx))
        case first =>
          cases even with
          | false =>
            go_wp2
            go_meet
            exact ⟨d, r2, k, cap2, zs, rfl, rfl, Lib.hid hd, by omega, HZ, Lib.hid (recs_of_owns lc_len HO.out HZ.out.symm (by omega)), HB⟩
          | true =>
            have KC := Lib.hid (clone_l zs r2 k cap2 wr (recs_of_owns lc_len HO.out HZ.out.symm (by omega)) HZ.out (by omega))
            have hbs := HB.out.size
            go_wp2_with (go_at_call 8; refine KC.out.mono ?_; rintro e w3 ⟨v3, rfl, ho, hb⟩; have HR3 := Lib.hid (recs_of_owns lc_len ho HZ.out.symm (by omega)); have HO3 := Lib.hid ho; have HNE := Lib.hid (show (Value.ownBlock v3 = none ∨ v3.ownBlock ≠ (Value.slice r2 k cap2).ownBlock) from by
              by_cases e : v3.ownBlock = (Value.slice r2 k cap2).ownBlock
              · cases hq : (Value.slice r2 k cap2).ownBlock with
                | none => left; rw [e, hq]
                | some q => exfalso; have h1 := (ho.lt q (e.trans hq)).1; have h2 := (HO.out.lt q hq).2; omega
              · exact .inr e); have HOw := Lib.hid (show w3.ownsRow w1.heap.size 28 4 (.slice r2 k cap2) k (zs.flatMap lc) from owns_stay HO.out hb); have HB3 := Lib.hid (HB.out.trans (hb.mono hbs)); obtain ⟨r3, cap3, rfl⟩ := owns_form ho; clear ho hb)
            go_loopw [1, 41] (fun s1 i wr => ∃ (j m : Nat) (r : Option Addr) (cap : Nat) (ys : List Ln), s1 = .slice r m cap ∧ i = .int .i64 j ∧ j ≤ k ∧ m ≤ k + j ∧ Hid (ys.length = m) ∧ Hid (wr.ownsRow w1.heap.size 28 4 (.slice r m cap) m (ys.flatMap lc)) ∧ Hid (∃ B, wr.ownsRow B 28 4 (.slice r3 k cap3) k (zs.flatMap lc)) ∧ Hid ((Value.slice r3 k cap3).ownBlock = none ∨ (Value.slice r3 k cap3).ownBlock ≠ (Value.slice r m cap).ownBlock) ∧ Hid (Below w1.heap.size w1 wr)) (fun _ i _ => k - (intOf i).toNat)
            case atStart => exact ⟨0, k, r2, cap2, zs, rfl, rfl, Nat.zero_le _, by omega, HZ, HOw, Lib.hid ⟨_, HO3.out⟩, HNE, HB3⟩
            case round =>
              clear HOw HO3 HNE HB3 HO HB HR3 KC
              obtain ⟨j, m, r, cap, ys, rfl, rfl, hj, hmj, HY, HO, HC, HNE, HB⟩ := hrel
              rename World => wq
              have hbs := HB.out.size
              by_cases hlt2 : j < k
              · obtain ⟨x, hx⟩ : ∃ x, zs[j]? = some x := ⟨zs[j]'(by have := HZ.out; omega), List.getElem?_eq_getElem (by have := HZ.out; omega)⟩
                obtain ⟨B3, hC3⟩ := HC.out
                have hrz := recs_of_owns lc_len hC3 HZ.out.symm (by omega)
                obtain ⟨g, off, rfl, hg, hc⟩ := hrz.at hx
                obtain ⟨c0, c1, c2, c3⟩ := Recs.cellsL hc
                have HC3 := Lib.hid hC3
                obtain ⟨n, hn⟩ : ∃ n, IntKind.i64.wrap (-x.amt) = n := ⟨_, rfl⟩
                have hnr : -9223372036854775808 ≤ n ∧ n ≤ 9223372036854775807 := by rw [← hn, IntKind.wrap_i64]; omega
                clear hx hc hrz hC3 HC
                have HOL := Lib.hid HO.out.lt
                have HXN := Lib.hid (show lc (x.amtTo n hnr) = [.int .u32 (x.acc : Int), .int .u16 (x.ent.n : Int), .int .u16 (x.ctr : Int), .int .i64 n] from rfl)
                go_wp2_with (at_builtin; refine wpList_append_own_at _ rfl (.tmp 49) (.tmp 51) 22 rfl w1.heap.size 28 i0 (.agg #[.int .u32 0, .int .u16 0, .int .u16 0, .int .i64 0]) 4 16 Tryz.underlying22 hi hz0 hz1 hz2 rfl (by decide) _ m _ rfl ((HO.out.alloc _).alloc _) ⟨wq.heap.size + 1, 0, none⟩ 1 1 (lc (x.amtTo n hnr)) rfl rfl (cells_new2 _ _ (lc (x.amtTo n hnr)) _) (lc_one _) (by unfold maxLen; omega) (by omega) (by simp; omega) ?_; intro v5 w5 hown5 hgrow5 _ hat5; have HB5 := Lib.hid (((HB.out.alloc hbs _).alloc (by simp; omega) _).grown hgrow5 (by simp; omega) (fun j hj => (HOL.out j hj).1)); have HO5 := Lib.hid hown5; have HC5 := Lib.hid (((HC3.out.alloc _).alloc _).kept hgrow5 HNE.out); have HAT := Lib.hid hat5; obtain ⟨r5, cap5, rfl⟩ := owns_form hown5; clear hgrow5 hown5 hat5)
                go_roundw
                case rel =>
                  refine ⟨j + 1, m + 1, r5, cap5, ys ++ [x.amtTo n hnr], rfl, by go_num, by omega, by omega, Lib.hid (by rw [List.length_append, HY.out]; rfl), Lib.hid (by rw [List.flatMap_append]; simpa using HO5.out), Lib.hid ⟨_, HC5.out⟩, Lib.hid ?_, HB5⟩
                  by_cases e : (Value.slice (some ⟨g, off, none⟩) k cap3).ownBlock = (Value.slice r5 (m + 1) cap5).ownBlock
                  · exfalso
                    rcases HAT.out with h | h
                    · rcases HNE.out with h2 | h2
                      · cases h2
                      · exact h2 (e.trans h)
                    · have h3 := (HC3.out.lt g rfl).2
                      have h4 := e.trans h
                      have := Option.some.inj h4
                      simp at this
                      omega
                  · exact .inr e
                case measure => simp [intOf]; omega
              · obtain rfl : j = k := by omega
                obtain ⟨d2, hd2⟩ : ∃ d2, d.tmod 100000 = d2 := ⟨_, rfl⟩
                have hdr : I32 d2 := by
                  have h1 := Int.lt_tmod_of_pos d (show (0 : Int) < 100000 by omega)
                  have h2 := Int.tmod_lt_of_pos d (show (0 : Int) < 100000 by omega)
                  unfold I32
                  omega
                have HDR := Lib.hid hdr
                clear hdr
                by_cases hm0 : m = 0
                · subst hm0
                  go_wp2_with fail
                  go_meet
                  exact ⟨d2, r, 0, cap, ys, rfl, rfl, HDR, by omega, HY, Lib.hid (recs_of_owns lc_len HO.out HY.out.symm (by omega)), HB⟩
                · have hm1 : 0 < m := by omega
                  have hm2 : (0 : Int) < (m : Int) := by omega
                  by_cases hb4 : by'.tmod 4 = 0
                  · have t4 : (by'.tmod 4 == 0) = true := by simp [hb4]
                    obtain ⟨x, hx⟩ : ∃ x, ys[0]? = some x := ⟨ys[0]'(by have := HY.out; omega), List.getElem?_eq_getElem (by have := HY.out; omega)⟩
                    obtain ⟨G, hr1, hGb⟩ : ∃ G, r = some ⟨G, 0, none⟩ ∧ w1.heap.size ≤ G := by
                      rcases HO.out.2 with ⟨h0, h1⟩ | ⟨g', cp, cur, h0, h1, _⟩
                      · omega
                      · cases h0; exact ⟨g', rfl, h1⟩
                    subst hr1
                    have hp := HO.out.cellAt 3 (by omega)
                    have hz := HO.out.frozenAt 3
                    have hfg := flat_get lc_len hx (j := 3) (u := .int .i64 x.amt) rfl
                    rw [Nat.zero_mul, Nat.zero_add] at hfg
                    rw [hfg] at hp
                    obtain ⟨n, hn⟩ : ∃ n, IntKind.i64.wrap (x.amt + by') = n := ⟨_, rfl⟩
                    have hnr : -9223372036854775808 ≤ n ∧ n ≤ 9223372036854775807 := by rw [← hn, IntKind.wrap_i64]; omega
                    have HST := Lib.hid (HO.out.stored 3 (.int .i64 n)).1
                    have HFS := Lib.hid (flat_setL lc_len hx (j := 3) (by omega) (y := x.amtTo n hnr) (u := .int .i64 n) (lc_amt x n hnr))
                    rw [Nat.zero_mul, Nat.zero_add] at HFS
                    have HYL := Lib.hid (show (ys.set 0 (x.amtTo n hnr)).length = m by rw [List.length_set]; exact HY.out)
                    have HNEW := Lib.hid (show Recs lc 4 (wq.setCell ⟨G, 3, none⟩ (.int .i64 n)) (.slice (some ⟨G, 0, none⟩) m cap) (ys.set 0 (x.amtTo n hnr)) from recs_of_owns lc_len (by rw [← HFS.out]; exact HST.out) HYL.out.symm (by omega))
                    clear hfg hx hb4
                    go_wp2_with fail
                    go_meet
                    exact ⟨d2, some ⟨G, 0, none⟩, m, cap, _, rfl, rfl, HDR, by omega, HYL, HNEW, Lib.hid (HB.out.setCell hGb _)⟩
                  · have t4 : (by'.tmod 4 == 0) = false := by simp [hb4]
                    clear hb4
                    go_wp2_with fail
                    go_meet
                    exact ⟨d2, r, m, cap, ys, rfl, rfl, HDR, by omega, HY, Lib.hid (recs_of_owns lc_len HO.out HY.out.symm (by omega)), HB⟩
        case rest =>
          obtain ⟨d2, r, n, cap, ys, rfl, rfl, HDR, hn62, HY, HRY, HB9⟩ := hcut
          have HBW := Lib.hid (HB1.out.trans (HB9.out.mono HB1.out.size))
          go_upto_region 23 with fail
          have hba := (Below.refl wc.heap.size wc).alloc (Nat.le_refl _) (.cells #[.int .i32 d2, .slice r n cap] 32)
          have hbx := Box2.new wc (.int .i32 d2) (.slice r n cap) 32
          have HRW := Lib.hid (HRY.out.stay hba)
          have HBV := Lib.hid (HBW.out.trans (hba.mono HBW.out.size))
          clear hba
          generalize wc.alloc (.cells #[.int .i32 d2, .slice r n cap] 32) = W at hbx HRW HBV ⊢
          generalize wc.heap.size = X at hbx ⊢
          have u0 := fun d os => cell_regrown hbx.a0 d os
          have u1 := fun d os => cell_regrown hbx.a1 d os
          obtain ⟨res, hres⟩ : ∃ a, chkJ d2 ys = a := ⟨_, rfl⟩
          have KA := Lib.hid (fun d os => HEC.out.check (.slice r n cap) d2 ys (Sort.grow (redrawn W d) os) (HI.out _ (HBV.out.trans ((below_regrown W d os).mono HBV.out.size))) (HRW.out.stay (below_regrown W d os)) (by rw [HY.out]; omega) HDR.out)
          have KB := Lib.hid (fun d os => lcheck_c (.slice r n cap) ys d2 (Sort.grow (redrawn W d) os) (HRW.out.stay (below_regrown W d os)) (by rw [HY.out]; omega) HDR.out)
          rw [hres] at KA KB
          clear hbx hres
          refine wp_region_quiet_below hmix (by kernel_rfl) ?_
          repeat (first | go_big_quiet_step ((first | (go_at_call 12; with_reducible exact Calls.regrown_of (KA.out _ _)) | (go_at_call 13; with_reducible exact Calls.regrown_of (KB.out _ _)))) | quiet_step ((first | (go_at_call 12; with_reducible exact Calls.regrown_of (KA.out _ _)) | (go_at_call 13; with_reducible exact Calls.regrown_of (KB.out _ _)))))
          refine wpQuiet_nil ?_
          intro w3 hw3
          have hb3 : Below W.heap.size W w3 := by obtain ⟨q, rfl⟩ := hw3; exact below_regrown _ _ _
          have HB3 := Lib.hid (HBV.out.trans (hb3.mono HBV.out.size))
          clear hw3 hb3 u0 u1
          go_wp2
          go_ret
          exact ⟨by simp, HB3.out⟩
end Go.Proofs.YtpebdimjpnpmnaaGreatDoor

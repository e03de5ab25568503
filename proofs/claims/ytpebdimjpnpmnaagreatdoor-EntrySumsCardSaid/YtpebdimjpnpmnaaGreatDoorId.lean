/- Contract of slices.Clone at lines; the walk of law EntrySums. -/
import Derived.Test.YtpebdimjpnpmnaaGreatDoorIall
import Derived.Laws.OwnMore
namespace Go.Proofs.YtpebdimjpnpmnaaGreatDoor
open Go.RowKit
set_option linter.unusedVariables false
set_option linter.unusedSimpArgs false
theorem infoL : (Tryz.prog.info? 28).map (fun i => (i.zero, i.size, i.bytes)) = some (some (.agg #[.int .u32 0, .int .u16 0, .int .u16 0, .int .i64 0]), 4, 16) := by kernel_rfl
set_option maxHeartbeats 1000000 in
set_option maxRecDepth 100000 in
theorem clone_l (xs : List Ln) (r : Option Addr) (n cap : Nat) (w : World) (hR : Recs lc 4 w (.slice r n cap) xs) (hn : xs.length = n) (hl : n ≤ 1000) :
    Calls Tryz.prog 8 #[.slice r n cap] w fun e w' => ∃ v', e = .returned v' ∧ w'.ownsRow w.heap.size 28 4 v' n (xs.flatMap lc) ∧ Below w.heap.size w w' := by
  obtain ⟨i0, hi, hz0, hz1, hz2⟩ := info_parts infoL
  have q22 : ∀ (w : World) (a : Option Addr) (n c n' c' : Nat), (binOp .eql 22 (.slice a n c) (.slice none n' c')).run Tryz.prog w = .ok (.bool a.isNone) w := fun w a n c n' c' => Lib.run_eql_slice_nil w _ _ a n c n' c' Tryz.underlying22
  have hlen : (xs.flatMap lc).length = n * 4 := by rw [flat_len lc_len, hn]
  cases r with
  | none =>
    have h0 : n = 0 := by
      rcases hR with ⟨_, _, h1, h2⟩ | ⟨_, _, _, h1, _⟩
      · cases h1; rfl
      · cases h1
    subst h0
    have hx : xs.flatMap lc = [] := List.eq_nil_of_length_eq_zero (by simpa using hlen)
    rw [hx]
    clear hR hlen hx
    go_enter Tryz.func8, Tryz.ntmps8
    go_wp2
    go_ret
    exact ⟨_, rfl, World.ownsRow_nil _ _ _ _, Below.refl _ _⟩
  | some ad =>
    have HC := Lib.hid (show ∀ j u, (xs.flatMap lc)[j]? = some u → (w.alloc (.cells #[] 28)).cell? (ad.add j) = some u from fun j u hu => by
      rcases hR with ⟨_, _, h1, h2⟩ | ⟨g, off, c, h1, hg, h3, h4, h5⟩
      · rw [h2] at hu; simp at hu
      · cases h1
        have e : (⟨g, off, none⟩ : Addr).add j = ⟨g, off + j, none⟩ := by unfold Addr.add; split <;> simp_all
        rw [e, World.cell?_alloc_lt _ _ _ hg]
        exact recs_flat lc_len (by omega) (.inr ⟨g, off, cap, rfl, hg, h3, h4, h5⟩) j u hu)
    have h1 := flat_one lc_one xs
    clear hR
    generalize xs.flatMap lc = zs at *
    go_enter Tryz.func8, Tryz.ntmps8
    go_wp2_with (at_builtin; refine wpList_append_own _ rfl (.tmp 5) (.tmp 6) 22 rfl w.heap.size 28 i0 (.agg #[.int .u32 0, .int .u16 0, .int .u16 0, .int .i64 0]) 4 16 Tryz.underlying22 hi hz0 hz1 hz2 rfl (by decide) _ 0 [] rfl (World.ownsRow_made w #[] 0 (Nat.le_refl _) (by decide) (by simp)) ad n cap zs rfl hlen HC.out h1 (by unfold maxLen; omega) (by omega) (by simp) ?_; intro v3 w3 hown3 hgrow3 _)
    go_ret
    refine ⟨_, rfl, by simpa using hown3, ((Below.refl _ _).alloc (Nat.le_refl _) _).grown hgrow3 (by simp) (fun k hk => by have e : some w.heap.size = some k := hk; injection e with e; omega)⟩
theorem field_hi9 (a b : Value) (w : World) : (Instr.field 41 (.agg #[a, b]) 0).run Tryz.prog w = .ok a w := by kernel_rfl
theorem field_lo9 (a b : Value) (w : World) : (Instr.field 41 (.agg #[a, b]) 1).run Tryz.prog w = .ok b w := by kernel_rfl
/-- A line whose entity is one of a few. -/
def fewE (few : Bool) (m : Nat) (hm : m ≠ 0) (x : Ln) : Ln := if few then { x with ent := ⟨x.ent.n % m, Nat.lt_of_le_of_lt (Nat.mod_le _ _) x.ent.h⟩ } else x
theorem at_splitL {α : Type} {xs : List α} {k : Nat} {x : α} (h : xs[k]? = some x) : ∃ A B, xs = A ++ x :: B ∧ A.length = k := by
  obtain ⟨hk, e⟩ := List.getElem?_eq_some_iff.1 h
  refine ⟨xs.take k, xs.drop (k + 1), ?_, by rw [List.length_take]; omega⟩
  have := (List.take_append_drop k xs).symm
  rwa [List.drop_eq_getElem_cons hk, e] at this
/-- One cell of a row of records turned. -/
theorem flat_setL {α : Type} {enc : α → List Value} {sz : Nat} (hk : ∀ x, (enc x).length = sz) {xs : List α} {k j : Nat} {x y : α} {u : Value} (h : xs[k]? = some x) (hj : j < sz) (hy : enc y = (enc x).set j u) : (xs.flatMap enc).set (k * sz + j) u = (xs.set k y).flatMap enc := by
  obtain ⟨A, B, rfl, hA⟩ := at_splitL h
  have hl : (A.flatMap enc).length = k * sz := by rw [flat_len hk, hA]
  rw [List.flatMap_append, List.flatMap_cons, List.set_append_right _ _ (by omega), hl, show k * sz + j - k * sz = j by omega, List.set_append_left _ _ (by rw [hk]; exact hj), ← hy]
  rw [List.set_append_right _ _ (by omega), hA, Nat.sub_self, List.set_cons_zero, List.flatMap_append, List.flatMap_cons]
theorem curL_at {α : Type} {c : List α} {k : Nat} {a : α} (g : α → α) (h : c[k]? = some a) : ((c.take k).map g ++ c.drop k)[k]? = some a := by
  obtain ⟨hk, e⟩ := List.getElem?_eq_some_iff.1 h
  rw [List.getElem?_append_right (by simp; omega)]
  simp
  rw [Nat.min_eq_left (by omega), Nat.sub_self, Nat.add_zero]
  exact h
theorem curL_step {α : Type} {c : List α} {k : Nat} {a : α} (g : α → α) (h : c[k]? = some a) : (c.take (k + 1)).map g ++ c.drop (k + 1) = ((c.take k).map g ++ c.drop k).set k (g a) := by
  obtain ⟨hk, e⟩ := List.getElem?_eq_some_iff.1 h
  rw [List.take_succ_eq_append_getElem hk, e, List.map_append, List.drop_eq_getElem_cons hk, e, List.set_append_right _ _ (by simp; omega)]
  simp
  rw [Nat.min_eq_left (by omega), Nat.sub_self, List.set_cons_zero]
theorem curL_id {α : Type} {c : List α} {k : Nat} : (c.take k).map id ++ c.drop k = c := by simp
theorem fewE_no (m : Nat) (hm : m ≠ 0) : fewE false m hm = id := by funext x; rfl
theorem fewE_cells (m : Nat) (hm : m ≠ 0) (x : Ln) : lc (fewE true m hm x) = (lc x).set 1 (.int .u16 ((x.ent.n % m : Nat) : Int)) := rfl
set_option maxHeartbeats 8000000 in
set_option maxRecDepth 100000 in
theorem entrysums_any {I : World → Prop} (C : AllotC) (D : DayC I) (K : KeyC I) (U : UnitC) (LC : CalC I) (EC : EntryC I) (v : Value) (ls : List Ln) (few : Bool) (w : World) (hI : I w) (hR : Recs lc 4 w v ls) :
    Calls Tryz.prog 3 #[v, .bool few] w fun e w' => e = .returned (.bool true) ∧ Below w.heap.size w w' := by
  obtain ⟨r0, cap0, rfl, hm⟩ := hR.form
  have HW := Lib.hid (awake9_any C D K U LC EC w hI)
  have HR := Lib.hid hR
  have HEC := Lib.hid EC
  obtain ⟨L, hL⟩ : ∃ L, ls.length = L := ⟨_, rfl⟩
  have HL := Lib.hid hL
  rw [hL] at HR hm ⊢
  clear hR hL C D K U LC hI EC
  go_enter Tryz.func3, Tryz.ntmps3
  by_cases hbig : 70 < L
  · have e1 : (70 : Int) < (L : Int) := by omega
    go_wp2_with (go_at_call 7; refine HW.out.mono ?_; rintro e w1 ⟨rfl, h1⟩; have HB1 := Lib.hid h1; clear h1)
    go_ret
    exact ⟨rfl, HB1.out⟩
  · have e1 : ¬ (70 : Int) < (L : Int) := by omega
    go_wp2_with (first
      | (go_at_call 8; refine (clone_l ls r0 L cap0 w1 (HR.out.stay HB1.out) HL.out (by omega)).mono ?_; rintro e w2 ⟨v2, rfl, ho, hb⟩; have HO2 := Lib.hid ho; have HB2 := Lib.hid hb; obtain ⟨r2, cap2, rfl⟩ := owns_form ho; clear ho hb)
      | (go_at_call 7; refine HW.out.mono ?_; rintro e w1 ⟨rfl, h1⟩; have HB1 := Lib.hid h1; clear h1))
    obtain ⟨g, hg⟩ : ∃ g, fewE few 3 (by omega) = g := ⟨_, rfl⟩
    have HG := Lib.hid hg
    clear hg
    go_loopw [21] (fun i wr => ∃ k : Nat, k ≤ L ∧ i = .int .i64 k ∧ Hid (wr.ownsRow w1.heap.size 28 4 (.slice r2 L cap2) L (((ls.take k).map g ++ ls.drop k).flatMap lc)) ∧ Hid (Below w1.heap.size w1 wr)) (fun i _ => L - (intOf i).toNat)
    case atStart => exact ⟨0, Nat.zero_le _, rfl, by simpa using HO2, HB2⟩
    case round =>
      clear HO2 HB2
      obtain ⟨k, hk, rfl, HO, HB⟩ := hrel
      rename World => wr
      by_cases hlt : k < L
      · cases few with
        | false =>
          have hgi : g = id := by rw [← HG.out]; exact fewE_no _ _
          subst hgi
          go_wp2
          go_roundw
          case rel => exact ⟨k + 1, by omega, by go_num, Lib.hid (by have := HO.out; rw [curL_id] at this ⊢; exact this), HB⟩
          case measure => simp [intOf]; omega
        | true =>
          obtain ⟨x, hx⟩ : ∃ x, ls[k]? = some x := ⟨ls[k]'(by have := HL.out; omega), List.getElem?_eq_getElem (by have := HL.out; omega)⟩
          have hca := curL_at g hx
          have hcs := curL_step g hx
          obtain ⟨G, hr1, hGb⟩ : ∃ G, r2 = some ⟨G, 0, none⟩ ∧ w1.heap.size ≤ G := by
            rcases HO.out.2 with ⟨h0, h1⟩ | ⟨g', cp, cur, h0, h1, _⟩
            · omega
            · cases h0; exact ⟨g', rfl, h1⟩
          subst hr1
          have hp := HO.out.cellAt (k * 4 + 1) (by omega)
          have hz := HO.out.frozenAt (k * 4 + 1)
          rw [flat_get lc_len hca (j := 1) (u := .int .u16 (x.ent.n : Int)) rfl] at hp
          obtain ⟨y, hy⟩ : ∃ y, x.ent.n % 3 = y := ⟨_, rfl⟩
          have e2 : (x.ent.n : Int).tmod 3 = (y : Int) := by rw [Int.tmod_eq_emod_of_nonneg (by omega)]; omega
          have e3 : (x.ent.n : Int) % 3 = (y : Int) := by omega
          have HST := Lib.hid (HO.out.stored (k * 4 + 1) (.int .u16 (y : Int))).1
          have HFS := Lib.hid (flat_setL lc_len hca (j := 1) (by omega) (y := g x) (u := .int .u16 (y : Int)) (by rw [← HG.out, fewE_cells, hy]))
          rw [← hcs] at HFS
          clear hca hcs hx hy
          go_wp2
          go_roundw
          case rel => exact ⟨k + 1, by omega, by go_num, Lib.hid (by rw [← HFS.out]; exact HST.out), Lib.hid (HB.out.setCell hGb _)⟩
          case measure => simp [intOf]; omega
      · obtain rfl : k = L := by omega
        have he : ((ls.take k).map g ++ ls.drop k) = ls.map g := by rw [List.take_of_length_le (by have := HL.out; omega), List.drop_eq_nil_of_le (by have := HL.out; omega), List.append_nil]
        obtain ⟨zs, hzs⟩ : ∃ zs, ls.map g = zs := ⟨_, rfl⟩
        have hzl : zs.length = k := by rw [← hzs, List.length_map]; exact HL.out
        have HRZ := Lib.hid (show Recs lc 4 wr (.slice r2 k cap2) zs from recs_of_owns lc_len (by have := HO.out; rw [he, hzs] at this; exact this) hzl.symm (by omega))
        have HZL := Lib.hid hzl
        have KS := Lib.hid (HEC.out.sums _ 0 zs wr HRZ.out (by omega))
        clear he hzs hzl HO HG
        go_wp2_with (first
          | (at_range; refine wpList_range_of _ map_b rfl _ rfl b5 M5 rfl HM5.out ?_; intro w6 hR6 hb6 hs6; have HB6 := Lib.hid hb6)
          | (go_at_call 10; refine (lsums_c _ zs w4 (HRZ.out.stay HB4.out)).mono ?_; rintro e w5 ⟨b5, M5, rfl, hM, hs, hl, hb0, hb⟩; have HM5 := Lib.hid hM; have HS5 := Lib.hid hs; have HB5 := Lib.hid hb; clear hM hs hl hb)
          | (go_at_call 9; refine KS.out.mono ?_; rintro e w4 ⟨m4, M4, rfl, hM, hs, hb⟩; have HM4 := Lib.hid hM; have HS4 := Lib.hid hs; have HB4 := Lib.hid hb; clear hM hs hb))
        have hlen := same_len HM4.out.nodup HM5.out.nodup (fun n => by rw [HS4.out, HS5.out])
        have HLE := Lib.hid hlen
        have HS := Lib.hid (fun (p : En × Int) (hp : p ∈ M5) => (show (getK M4 p.1).getD 0 = p.2 by rw [HS4.out, sumE_mem HM5.out.nodup HS5.out hp]; rfl))
        have HM4w := Lib.hid ((HM4.out.stay HB5.out))
        have HBW := Lib.hid (HB1.out.trans ((HB.out.trans ((HB4.out.trans (HB5.out.mono HB4.out.size)).mono HB.out.size)).mono HB1.out.size))
        have hza := zeroArr
        have HR6 := Lib.hid hR6
        have hs5 : w5.heap.size < w6.heap.size := by omega
        clear hlen hR6 hb6 hs6 HM4 HM5 HS4 HS5 KS HB4 HB5 HRZ hza
        obtain ⟨r, hr⟩ : ∃ r, w5.heap.size = r := ⟨_, rfl⟩
        have HRE := Lib.hid hr
        rw [hr] at HR6 hs5 ⊢
        clear hr
        simp only [Act.put, List.getElem_toArray, List.getElem_cons_zero, List.getElem_cons_succ, List.setIfInBounds_toArray, List.set_cons_zero, List.set_cons_succ]
        go_loopw [8] (fun _ wr => ∃ left : List (En × Int), Hid (RangeOf ec bv b5 r M5 left wr) ∧ Hid (∀ q ∈ left, q ∈ M5) ∧ Hid (Below w5.heap.size w5 wr)) (fun _ wr => wr.rangeLeft b5 r)
        case atStart => exact ⟨M5, HR6, Lib.hid (fun q h => h), HB6⟩
        case round =>
          clear HR6 HB6
          obtain ⟨left, HRO, HLM, HBr⟩ := hrel
          rename World => wr
          go_wp2_with (at_next; refine wpList_next_of _ map_b rfl _ rfl b5 r M5 left rfl HRO.out ?_ ?_)
          · intro hleft
            have hl4 := (HM4w.out.stay HBr.out).len
            have hl5 := fun ty => HRO.out.owns.len map_b ty
            rw [HLE.out] at hl4
            go_wp2_with fail
            go_ret
            exact ⟨by simp, HBW.out.trans (HBr.out.mono HBW.out.size)⟩
          · intro A qe qs B w7 hleft hR7 hg7 hs7 hen
            have hqM := HLM.out (qe, qs) (by rw [hleft]; simp)
            have HQ := Lib.hid (HS.out _ hqM)
            have hB7 : Below w5.heap.size w5 w7 := HBr.out.grown hg7 HBr.out.size (fun j hj => by cases hj; have := HRE.out; omega)
            have HB7 := Lib.hid hB7
            have HR7 := Lib.hid hR7
            have HLQ := Lib.hid hleft
            unfold bv ec at hen ⊢
            have hza := zeroArr
            have N1 := Lib.hid (IsArr.new w7 (fun _ => 0))
            have N2 := Lib.hid ((IsArr.new w7 (fun _ => 0)).setRow (bitZ qs))
            have HD7 := Lib.hid (below_setRow ((Below.refl w7.heap.size w7).alloc (Nat.le_refl _) (.cells (arr fun _ => 0) 36)) (Nat.le_refl _) (arr (bitZ qs)))
            have KN := Lib.hid (fun w => number_any qs w)
            have hf0 := fun w => field_hi9 (.int .i64 (hiW qs)) (.int .u64 (loW qs)) w
            have hf1 := fun w => field_lo9 (.int .i64 (hiW qs)) (.int .u64 (loW qs)) w
            clear hqM hB7 hR7 hleft hs7 hg7
            go_wp2_with (first
              | refine wpList_store_row rfl 36 _ _ rfl w7.heap.size _ rfl rfl 36 _ N1.out (infoArr _) (by rw [arr_size, arr_size]) (arr_one _) ?_
              | refine wpList_load_row rfl 36 _ rfl w7.heap.size rfl 36 _ (0, 0) _ N2.out Tryz.underlying36 rfl (infoArr _) ?_
              | (go_at_call 11; refine (KN.out _).mono ?_; rintro e w8 ⟨rfl, hb8⟩; have HD8 := Lib.hid (HD7.out.trans (hb8.mono HD7.out.size)); have hlk := (HM4w.out.stay (HB7.out.trans (HD8.out.mono HB7.out.size))).look qe; rw [HQ.out] at hlk; unfold ec wv9 at hlk; clear hb8))
            go_roundw
            case rel =>
              refine ⟨A ++ B, Lib.hid (HR7.out.same (HD8.out.block b5 HR7.out.owns.lt) (HD8.out.block r HR7.out.lt)), Lib.hid (fun q hq => HLM.out q (by rw [HLQ.out]; rcases List.mem_append.1 hq with h | h <;> simp [h])), Lib.hid (HB7.out.trans (HD8.out.mono HB7.out.size))⟩
            case measure =>
              have h9 := HR7.out.same (HD8.out.block b5 HR7.out.owns.lt) (HD8.out.block r HR7.out.lt)
              rw [h9.left_eq, HRO.out.left_eq, HLQ.out]
              simp
end Go.Proofs.YtpebdimjpnpmnaaGreatDoor

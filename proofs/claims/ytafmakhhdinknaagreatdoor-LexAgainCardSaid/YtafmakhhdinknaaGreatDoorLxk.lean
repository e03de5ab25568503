/- Package lex: Split: as the document says, for every text. -/
import Derived.Test.YtafmakhhdinknaaGreatDoorLxp
import Derived.Test.YtafmakhhdinknaaGreatDoorLxg
namespace Go.Proofs.YtafmakhhdinknaaGreatDoor
open Go.RowKit Go.Lib
set_option linter.unusedVariables false
set_option linter.unusedSimpArgs false
theorem oneF_text {s : List UInt8} {t : Tk} {n N : Nat} (h : oneF s = .ok (t, n)) (hN : s.length ≤ N) : t.text.length ≤ N := by
  unfold oneF at h
  split at h
  · cases h; exact Nat.le_trans (tw_len _) hN
  · split at h
    · split at h
      · split at h
        · cases h
        · cases h; exact Nat.le_trans (tw_len _) hN
      · split at h
        · cases h
        · cases h; exact Nat.le_trans (tw_len _) hN
    · split at h
      · cases h
      · rename_i c r _ _
        simp only [List.length_cons] at hN
        split at h
        · cases h; simp; omega
        · split at h
          · split at h
            · cases h; have := tw_len (p := inQ) r; show (r.takeWhile inQ).length ≤ N; omega
            · cases h
          · cases h
set_option maxHeartbeats 8000000 in
set_option maxRecDepth 100000 in
theorem dsplit_c {I : World → Prop} (D : DayC I) (s : ByteArray) (w : World) (hI : I w) (hs : s.size ≤ 65536) :
    Calls Tryz.prog 8 #[.string s] w fun e w' => SplR (splitF s.data.toList) e w w' := by
  obtain ⟨i0, hi, hz0, hz1, hz2⟩ := info_parts info_tk
  obtain ⟨l, hl⟩ : ∃ l, s.data.toList = l := ⟨_, rfl⟩
  have hlen : l.length = s.size := by rw [← hl]; simp
  have hget : ∀ (i : Nat) (h : i < s.size), l[i]? = some s[i] := fun i h => by subst hl; rw [List.getElem?_eq_getElem (by simpa using h)]; rfl
  obtain ⟨RR, hRR⟩ : ∃ r, splitF l = r := ⟨_, rfl⟩
  have hinv0 : preT [] (spl (l.length - 0 + 1) 0 (l.drop 0)) = RR := by
    rw [← hRR]; unfold splitF; rw [Nat.sub_zero, List.drop_zero]
    cases spl (l.length + 1) 0 l with
    | error e => rfl
    | ok us => rfl
  have HINV0 := Lib.hid hinv0
  have HLEN := Lib.hid hlen
  have HI := Lib.hid hI
  have HD := Lib.hid D
  have KN0 : Hid (∀ W', Calls Tryz.prog 13 #[.string s, .int .i64 0] W' fun e w' => (∃ k' : Nat, e = .returned (.int .i64 (k' : Int)) ∧ k' ≤ s.size ∧ 0 ≤ k' ∧ spl (l.length - 0 + 1) 0 (l.drop 0) = spl (l.length - k' + 1) k' (l.drop k') ∧ (∀ h : k' < l.length, ¬ (l[k'] = 32 ∨ l[k'] = 10) ∧ l[k'] ≠ 35)) ∧ w' = W') := Lib.hid (fun W' => next_c s l hl 0 (by omega) (by omega) W')
  have KN2 : Hid (∀ (k n : Nat), k + n ≤ s.size → ∀ W', Calls Tryz.prog 13 #[.string s, .int .i64 ((k : Int) + (n : Int))] W' fun e w' => (∃ k' : Nat, e = .returned (.int .i64 (k' : Int)) ∧ k' ≤ s.size ∧ k + n ≤ k' ∧ spl (l.length - (k + n) + 1) (k + n) (l.drop (k + n)) = spl (l.length - k' + 1) k' (l.drop k') ∧ (∀ h : k' < l.length, ¬ (l[k'] = 32 ∨ l[k'] = 10) ∧ l[k'] ≠ 35)) ∧ w' = W') := Lib.hid (fun k n h W' => by rw [← Int.natCast_add]; exact next_c s l hl (k + n) h (by omega) W')
  have SS1 := Lib.hid (fun (i : Nat) (h : i ≤ s.size) (W' : World) => show (Instr.slice 9 (.string s) (some (.int .i64 (i : Int))) none none).run Tryz.prog W' = .ok (.string ⟨(l.drop i).toArray⟩) W' by rw [← hl]; exact slice_l s i h W')
  have t0 : decide ((65536 : Int) < (s.size : Int)) = false := decide_eq_false (by omega)
  rw [hl, hRR]
  clear hl hlen hget hRR hinv0 hI D
  go_enter Tryz.func8, Tryz.ntmps8
  go_wp2_with (go_at_call 13; refine (KN0.out _).mono ?_; rintro e w10 ⟨⟨k0, rfl, hk0, _, hsp0, hat0⟩, h10⟩; obtain rfl : w = w10 := h10.symm)
  go_loopw [5, 6] (fun o i wr => ∃ (k m : Nat) (r : Option Addr) (cap : Nat) (ts : List Tk), o = .slice r m cap ∧ i = .int .i64 (k : Int) ∧ k ≤ s.size ∧ m ≤ k ∧ Hid (ts.length = m) ∧ Hid (wr.ownsRow w.heap.size 31 5 (.slice r m cap) m (ts.flatMap tkc)) ∧ Hid (preT ts (spl (l.length - k + 1) k (l.drop k)) = RR) ∧ Hid (∀ h : k < l.length, ¬ (l[k] = 32 ∨ l[k] = 10) ∧ l[k] ≠ 35) ∧ Hid (Below w.heap.size w wr)) (fun _ i _ => s.size - (RowKit.intOf i).toNat)
  case atStart => exact ⟨k0, 0, none, 0, [], rfl, rfl, hk0, Nat.zero_le _, Lib.hid rfl, Lib.hid (World.ownsRow_nil _ _ _ _), Lib.hid (by rw [← hsp0]; exact HINV0.out), Lib.hid hat0, Lib.hid (Below.refl _ _)⟩
  case round =>
    clear HINV0 hsp0 hat0 hk0
    obtain ⟨k, m, r, cap, ts, rfl, rfl, hk, hmk, HM, HO, HR, HAT, HB⟩ := hrel
    rename World => wr
    by_cases hlt : k < s.size
    case neg =>
      obtain rfl : k = s.size := by omega
      have hE : RR = .ok (ts ++ [⟨0, [], 0, 0, s.size⟩]) := by
        rw [← HR.out, ← HLEN.out, sp_end, preT_ok]
      have HE := Lib.hid hE
      have hsz : w.heap.size ≤ wr.heap.size := HB.out.size
      have HSZ := Lib.hid hsz
      clear hE hsz
      go_wp2_with (at_builtin; refine wpList_append_own _ rfl (.tmp 46) (.tmp 49) 23 rfl w.heap.size 31 i0 (.agg #[.int .i64 0, .string ⟨#[]⟩, .int .i64 0, .int .i32 0, .int .i64 0]) 5 48 Tryz.underlying23 hi hz0 hz1 hz2 rfl (by decide) _ m _ rfl (HO.out.alloc _) ⟨_, 0, none⟩ 1 1 [.int .i64 0, .string ⟨#[]⟩, .int .i64 0, .int .i32 0, .int .i64 (s.size : Int)] rfl rfl (cells_new _ [.int .i64 0, .string ⟨#[]⟩, .int .i64 0, .int .i32 0, .int .i64 (s.size : Int)] _) (fun v hv => by simp at hv; rcases hv with rfl | rfl | rfl | rfl | rfl <;> rfl) (by unfold maxLen; omega) (by omega) (by simp; have := HSZ.out; omega) ?_; intro v9 w9 hown9 hgrow9 _; have HB9 := Lib.hid ((HB.out.alloc (by have := HSZ.out; omega) _).grown hgrow9 (by simp; have := HSZ.out; omega) (fun j hj => (HO.out.lt j hj).1)); have HO9 := Lib.hid hown9; obtain ⟨r9, c9, rfl⟩ := owns_form hown9; clear hgrow9 hown9)
      refine bodyPost_ret (v := .tuple #[.slice r9 (m + 1) c9, .int .i64 0, .int .i64 0]) (by simp [results, Tryz.results8, go_sem]) rfl ⟨HB9.out, ?_⟩
      rw [HE.out]
      exact ⟨_, rfl, recs_of_ownsT tkc_len (by rw [List.flatMap_append]; exact HO9.out) (by simp [HM.out]) (by have := HM.out; simp; omega)⟩
    case pos =>
      have hlt2 : k < l.length := by rw [HLEN.out]; exact hlt
      obtain ⟨c, hcl⟩ : ∃ c, l[k] = c := ⟨_, rfl⟩
      have hat := HAT.out hlt2
      rw [hcl] at hat
      obtain ⟨hbl, h35⟩ := hat
      have J := SS1.out k (by omega)
      have hdl : (l.drop k).length = s.size - k := by rw [List.length_drop, HLEN.out]
      have K1 := first_c HD.out (l.drop k) (by intro h; rw [h] at hdl; simp at hdl; omega) (by omega) wr (HD.out.stay HI.out HB.out)
      have hsz : w.heap.size ≤ wr.heap.size := HB.out.size
      have HSZ := Lib.hid hsz
      cases h1 : oneF (l.drop k) with
      | error e =>
        have hst := sp_bad hlt2 hcl hbl h35 h1
        have HE : Hid (RR = .error (k, e)) := Lib.hid (by rw [← HR.out, hst, preT_err])
        unfold OneR at K1
        rw [h1] at K1
        unfold tokV at K1
        have KK1 := Lib.hid K1
        have hne : e ≠ 0 := oneF_ne h1
        have ne0 : (e != 0) = true := by rw [bne_iff_ne]; exact hne
        clear K1 hst h1 hdl hcl hbl h35 hsz hne hlt2
        go_wp2_with (go_at_call 14; refine KK1.out.mono ?_; rintro e2 w4 ⟨rfl, h4⟩; have HB4 := Lib.hid (HB.out.trans (h4.mono HB.out.size)); clear h4)
        refine bodyPost_ret (v := .tuple #[.slice none 0 0, .int .i64 (k : Int), .int .i64 e]) (by simp [results, Tryz.results8, go_sem]) rfl ⟨HB4.out.alloc (by have := HB4.out.size; omega) _, ?_⟩
        rw [HE.out]
      | ok p =>
        obtain ⟨t, n⟩ := p
        obtain ⟨hn0, hkn, hst⟩ := sp_tok ts hlt2 hcl hbl h35 h1
        have HR2 : Hid (preT (ts ++ [{ t with at_ := k }]) (spl (l.length - (k + n) + 1) (k + n) (l.drop (k + n))) = RR) := Lib.hid (by rw [← hst]; exact HR.out)
        have hkn2 : k + n ≤ s.size := by rw [← HLEN.out]; exact hkn
        have hat := oneF_zero h1
        have htx : (⟨t.text.toArray⟩ : ByteArray).size ≤ 281474976710656 := by rw [mk_size]; exact oneF_text h1 (by omega)
        have KC := Lib.hid (fun (W' : World) => clone_s ⟨t.text.toArray⟩ W' htx)
        unfold OneR at K1
        rw [h1] at K1
        unfold tokV at K1
        have KK1 := Lib.hid K1
        clear K1 hst h1 hdl hcl hbl h35 hsz hkn hlt2 htx
        go_upto_region 9 with (go_at_call 14; refine KK1.out.mono ?_; rintro e2 w4 ⟨rfl, h4⟩; have HO4 := Lib.hid (owns_stay HO.out h4); have HB4 := Lib.hid (HB.out.trans (h4.mono HB.out.size)); clear h4)
        have hb5 := (Below.refl w4.heap.size w4).alloc (Nat.le_refl _) (.cells #[.int .i64 (t.kind : Int), .string ⟨t.text.toArray⟩, .int .i64 t.num, .int .i32 t.day, .int .i64 0] 31)
        have hx5 : HBox (w4.alloc (.cells #[.int .i64 (t.kind : Int), .string ⟨t.text.toArray⟩, .int .i64 t.num, .int .i32 t.day, .int .i64 0] 31)) w4.heap.size [.int .i64 (t.kind : Int), .string ⟨t.text.toArray⟩, .int .i64 t.num, .int .i32 t.day, .int .i64 0] 31 := HBox.new w4 [.int .i64 (t.kind : Int), .string ⟨t.text.toArray⟩, .int .i64 t.num, .int .i32 t.day, .int .i64 0] 31
        change Hid _ at HO4
        obtain ⟨Y, hY⟩ : ∃ Y, w4.heap.size = Y := ⟨_, rfl⟩
        have hs5 : Y ≤ (w4.alloc (.cells #[.int .i64 (t.kind : Int), .string ⟨t.text.toArray⟩, .int .i64 t.num, .int .i32 t.day, .int .i64 0] 31)).heap.size := by rw [← hY]; simp
        rw [hY] at hb5 hx5 ⊢
        generalize w4.alloc (.cells #[.int .i64 (t.kind : Int), .string ⟨t.text.toArray⟩, .int .i64 t.num, .int .i32 t.day, .int .i64 0] 31) = W5 at hb5 hx5 hs5 ⊢
        have hx6 := hx5.set 4 (.int .i64 (k : Int))
        simp only [List.set_cons_zero, List.set_cons_succ] at hx6
        have hb6 := hb5.grown (grownBy_set W5 ⟨Y, 4, none⟩ (.int .i64 (k : Int))) hs5 (fun j hj => by cases hj; exact Nat.le_refl _)
        have HO6 := Lib.hid (owns_stay HO4.out (by rw [hY]; exact hb6))
        have HB6 := Lib.hid (HB4.out.trans (hb6.mono (by rw [← hY]; exact HB4.out.size)))
        have HY := Lib.hid (show w.heap.size ≤ Y by rw [← hY]; exact HB4.out.size)
        have HY2 := Lib.hid (show ∀ W', Below Y w4 W' → W'.ownsRow w.heap.size 31 5 (.slice r m cap) m (ts.flatMap tkc) from fun W' h => owns_stay HO4.out (by rw [hY]; exact h))
        have z4 := hx5.cell (j := 4) rfl
        have zf := hx5.frozen 4
        have zs := hx5.size
        go_upto_region 10 with fail
        generalize W5.setCell ⟨Y, 4, none⟩ (.int .i64 (k : Int)) = W6 at hx6 HO6 HB6 hb6 ⊢
        have HX6 := Lib.hid hx6
        have HBY := Lib.hid hb6
        clear z4 zf zs hx5 hx6 hb5 hs5 hb6
        have z1 := HX6.out.cell (j := 1) rfl
        go_upto_region 11 with (go_at_call 15; refine (KC.out _).mono ?_; rintro e2 w7 ⟨rfl, h7⟩; have hx7 := HX6.out.stay h7; have HX7 := Lib.hid hx7; have y1 := hx7.cell (j := 1) rfl; have yf := hx7.frozen 1; have ys := hx7.size; have HBY7 := Lib.hid (HBY.out.trans (h7.mono (Nat.le_of_lt HX6.out.size))); clear h7 hx7)
        have hx8 := HX7.out.set 1 (.string ⟨t.text.toArray⟩)
        simp only [List.set_cons_zero, List.set_cons_succ] at hx8
        have hb8 := HBY7.out.grown (grownBy_set w7 ⟨Y, 1, none⟩ (.string ⟨t.text.toArray⟩)) (Nat.le_of_lt HX7.out.size) (fun j hj => by cases hj; exact Nat.le_refl _)
        have HO8 := Lib.hid (HY2.out _ hb8)
        have HB8 := Lib.hid (HB4.out.trans (hb8.mono HY.out))
        clear z1 y1 yf ys
        generalize w7.setCell ⟨Y, 1, none⟩ (.string ⟨t.text.toArray⟩) = W8 at hx8 HO8 HB8 hb8 ⊢
        have HX8 := Lib.hid hx8
        clear hx8 hb8 hat hY
        have z0 := HX8.out.cell (j := 0) rfl
        have z1 := HX8.out.cell (j := 1) rfl
        have z2 := HX8.out.cell (j := 2) rfl
        have z3 := HX8.out.cell (j := 3) rfl
        have z4 := HX8.out.cell (j := 4) rfl
        have hsz8 : w.heap.size ≤ W8.heap.size := HB8.out.size
        have HSZ8 := Lib.hid hsz8
        clear hsz8
        go_wp2_with (first
          | (go_at_call 13; refine (KN2.out k n hkn2 _).mono ?_; rintro e w10 ⟨⟨k2, rfl, hk2, hkk2, hsp2, hat2⟩, rfl⟩)
          | (at_builtin; refine wpList_append_own _ rfl (.tmp 37) (.tmp 39) 23 rfl w.heap.size 31 i0 (.agg #[.int .i64 0, .string ⟨#[]⟩, .int .i64 0, .int .i32 0, .int .i64 0]) 5 48 Tryz.underlying23 hi hz0 hz1 hz2 rfl (by decide) _ m _ rfl (HO8.out.alloc _) ⟨_, 0, none⟩ 1 1 [.int .i64 (t.kind : Int), .string ⟨t.text.toArray⟩, .int .i64 t.num, .int .i32 t.day, .int .i64 (k : Int)] rfl rfl (cells_new _ [.int .i64 (t.kind : Int), .string ⟨t.text.toArray⟩, .int .i64 t.num, .int .i32 t.day, .int .i64 (k : Int)] _) (fun v hv => by simp at hv; rcases hv with rfl | rfl | rfl | rfl | rfl <;> rfl) (by unfold maxLen; omega) (by omega) (by simp; have := HSZ8.out; omega) ?_; intro v9 w9 hown9 hgrow9 _; have HB9 := Lib.hid ((HB8.out.alloc (by have := HSZ8.out; omega) _).grown hgrow9 (by simp; have := HSZ8.out; omega) (fun j hj => (HO8.out.lt j hj).1)); have HO9 := Lib.hid hown9; obtain ⟨r9, c9, rfl⟩ := owns_form hown9; clear hgrow9 hown9))
        go_roundw
        case rel => exact ⟨k2, m + 1, r9, c9, ts ++ [{ t with at_ := k }], rfl, by go_num, hk2, by omega, Lib.hid (by simp [HM.out]), Lib.hid (by rw [List.flatMap_append]; exact HO9.out), Lib.hid (by rw [← hsp2]; exact HR2.out), Lib.hid hat2, HB9⟩
        case measure => simp [RowKit.intOf]; omega
set_option maxHeartbeats 1000000 in
theorem dlong_c (s : ByteArray) (w : World) (hs : 65536 < s.size) (hs2 : s.size ≤ 9223372036854775807) :
    Calls Tryz.prog 8 #[.string s] w fun e w' => e = .returned (.tuple #[.slice none 0 0, .int .i64 0, .int .i64 2]) ∧ w' = w := by
  have t0 : decide ((65536 : Int) < (s.size : Int)) = true := decide_eq_true (by omega)
  go_enter Tryz.func8, Tryz.ntmps8
  go_wp2
  exact bodyPost_ret (v := .tuple #[.slice none 0 0, .int .i64 0, .int .i64 2]) (by simp [results, Tryz.results8, go_sem]) rfl ⟨rfl, rfl⟩
theorem lexC : LexC InI where
  split := fun s w hI hs => by
    by_cases h : 65536 < s.size
    · refine (dlong_c s w h (by omega)).mono ?_
      rintro e w' ⟨rfl, rfl⟩
      have hl : 65536 < s.data.toList.length := by simpa using h
      unfold splT
      rw [if_pos hl]
      exact ⟨none, 0, rfl, .inl ⟨_, _, rfl, rfl⟩, Below.refl _ _⟩
    · refine (dsplit_c dayC s w hI (by omega)).mono ?_
      rintro e w' ⟨hb, h2⟩
      have hl : ¬ 65536 < s.data.toList.length := by simp; omega
      unfold splT
      rw [if_neg hl]
      cases hr : splitF s.data.toList with
      | error p =>
        rw [hr] at h2
        exact ⟨none, 0, h2, .inl ⟨_, _, rfl, rfl⟩, hb⟩
      | ok ts =>
        rw [hr] at h2
        obtain ⟨v, rfl, h3⟩ := h2
        obtain ⟨r, c, rfl, _⟩ := h3.form
        exact ⟨r, c, rfl, h3, hb⟩
end Go.Proofs.YtafmakhhdinknaaGreatDoor

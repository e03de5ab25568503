/- Law 12's Split: its contract. -/
import Derived.Test.YtafmakhhdinknaaGreatDoorLxe
import Derived.Test.YtafmakhhdinknaaGreatDoorLxb
import Derived.Test.YtafmakhhdinknaaGreatDoorBa
import Derived.Deep.DeepCutAuto
namespace Go.Proofs.YtafmakhhdinknaaGreatDoor
open Go.RowKit Go.Lib
set_option linter.unusedVariables false
set_option linter.unusedSimpArgs false
/-- Tokens that stand, and what comes of the rest. -/
noncomputable def preT (ts : List Tk) (r : Except (Nat × Int) (List Tk)) : Except (Nat × Int) (List Tk) := match r with | .error e => .error e | .ok us => .ok (ts ++ us)
theorem preT_err (ts : List Tk) (e : Nat × Int) : preT ts (.error e) = .error e := rfl
theorem preT_ok (ts us : List Tk) : preT ts (.ok us) = .ok (ts ++ us) := rfl
theorem idx_tw (c : UInt8) : ∀ l : List UInt8, indexByte l c = if c ∈ l then (((l.takeWhile (fun b => b != c)).length : Nat) : Int) else -1
  | [] => by unfold indexByte; simp
  | b :: l => by
    have h := idx_tw c l
    unfold indexByte
    by_cases e : b = c
    · subst e; simp [List.takeWhile_cons]
    · have e2 : (b == c) = false := by simp [e]
      have e3 : (b != c) = true := by simp [e]
      have e4 : (c ∈ b :: l) = (c ∈ l) := by simp [List.mem_cons, Ne.symm e]
      rw [e2, h]
      by_cases h2 : c ∈ l
      · have e5 : ((((l.takeWhile (fun b => b != c)).length : Nat) : Int) == -1) = false := by rw [beq_eq_false_iff_ne]; omega
        simp only [e4, h2, if_true, e5, Bool.false_eq_true, if_false, List.takeWhile_cons, e3, List.length_cons]
        omega
      · simp [e4, h2]
theorem tw_none {c : UInt8} {l : List UInt8} (h : c ∉ l) : l.takeWhile (fun b => b != c) = l := by
  induction l with
  | nil => rfl
  | cons b r ih =>
    have h1 : (b != c) = true := by rw [bne_iff_ne]; intro e; subst e; simp at h
    rw [List.takeWhile_cons, if_pos h1, ih (fun h2 => h (by simp [h2]))]
/-- What a call answers that looks for a text's tokens. -/
def SplR (r : Except (Nat × Int) (List Tk)) (e : Ending) (w w' : World) : Prop := Below w.heap.size w w' ∧ match r with
  | .error p => e = .returned (.tuple #[.slice none 0 0, .int .i64 (p.1 : Int), .int .i64 p.2])
  | .ok ts => ∃ v, e = .returned (.tuple #[v, .int .i64 0, .int .i64 0]) ∧ Recs tkc 5 w' v ts
theorem info_tk : (Tryz.prog.info? 31).map (fun i => (i.zero, i.size, i.bytes)) = some (some (.agg #[.int .i64 0, .string ⟨#[]⟩, .int .i64 0, .int .i32 0, .int .i64 0]), 5, 48) := by kernel_rfl
theorem spl_at {l : List UInt8} {i : Nat} (h : i < l.length) : l.drop i = l[i] :: l.drop (i + 1) := List.drop_eq_getElem_cons h
/-- One byte that lies between tokens. -/
theorem sp_blank {l : List UInt8} {i : Nat} {c : UInt8} (h : i < l.length) (hc : l[i] = c) (hb : c = 32 ∨ c = 10) : spl (l.length - i + 1) i (l.drop i) = spl (l.length - (i + 1) + 1) (i + 1) (l.drop (i + 1)) := by
  rw [spl_at h, hc, spl_cons, if_pos hb, show l.length - i = l.length - (i + 1) + 1 by omega]
theorem sp_note {l : List UInt8} {i : Nat} (h : i < l.length) (hc : l[i] = 35) : spl (l.length - i + 1) i (l.drop i) = spl (l.length - (i + ((l.drop i).takeWhile notNl).length) + 1) (i + ((l.drop i).takeWhile notNl).length) (l.drop (i + ((l.drop i).takeWhile notNl).length)) ∧ 0 < ((l.drop i).takeWhile notNl).length ∧ i + ((l.drop i).takeWhile notNl).length ≤ l.length := by
  have hp : 0 < ((l.drop i).takeWhile notNl).length := by rw [spl_at h, hc, List.takeWhile_cons]; simp [notNl]
  have hl := tw_len (p := notNl) (l.drop i)
  rw [List.length_drop] at hl
  refine ⟨?_, hp, by omega⟩
  obtain ⟨n, hn⟩ : ∃ n, ((l.drop i).takeWhile notNl).length = n := ⟨_, rfl⟩
  rw [hn] at hp hl ⊢
  conv => lhs; rw [spl_at h, hc, spl_cons, if_neg (by decide), if_pos rfl, ← hc, ← spl_at h, hn, List.drop_drop]
  exact spl_fuel _ _ _ _ (by rw [List.length_drop]; omega) (by rw [List.length_drop]; omega)
theorem sp_bad {l : List UInt8} {i : Nat} {c : UInt8} {e : Int} (h : i < l.length) (hc : l[i] = c) (h1 : ¬ (c = 32 ∨ c = 10)) (h2 : c ≠ 35) (h3 : oneF (l.drop i) = .error e) : spl (l.length - i + 1) i (l.drop i) = .error (i, e) := by
  rw [spl_at h, hc] at h3 ⊢
  rw [spl_cons, if_neg h1, if_neg h2, h3]
theorem sp_tok {l : List UInt8} {i n : Nat} {c : UInt8} {t : Tk} (ts : List Tk) (h : i < l.length) (hc : l[i] = c) (h1 : ¬ (c = 32 ∨ c = 10)) (h2 : c ≠ 35) (h3 : oneF (l.drop i) = .ok (t, n)) : 0 < n ∧ i + n ≤ l.length ∧ preT ts (spl (l.length - i + 1) i (l.drop i)) = preT (ts ++ [{ t with at_ := i }]) (spl (l.length - (i + n) + 1) (i + n) (l.drop (i + n))) := by
  have hp := oneF_pos h3
  rw [List.length_drop] at hp
  refine ⟨hp.1, by omega, ?_⟩
  have e : spl (l.length - i + 1) i (l.drop i) = (match spl (l.length - (i + n) + 1) (i + n) (l.drop (i + n)) with | .error e => .error e | .ok ts => .ok ({ t with at_ := i } :: ts) : Except (Nat × Int) (List Tk)) := by
    rw [spl_at h, hc] at h3
    conv => lhs; rw [spl_at h, hc, spl_cons, if_neg h1, if_neg h2, h3]
    dsimp only
    rw [← hc, ← spl_at h, List.drop_drop, spl_fuel (l.length - i) (l.length - (i + n) + 1) (i + n) (l.drop (i + n)) (by rw [List.length_drop]; omega) (by rw [List.length_drop]; omega)]
    rfl
  rw [e]
  cases spl (l.length - (i + n) + 1) (i + n) (l.drop (i + n)) with
  | error e => rfl
  | ok us => simp [preT]
theorem oneF_zero {s : List UInt8} {t : Tk} {n : Nat} (h : oneF s = .ok (t, n)) : t.at_ = 0 := (oneF_again h []).2.2.1
theorem sp_end (l : List UInt8) : spl (l.length - l.length + 1) l.length (l.drop l.length) = .ok [⟨0, [], 0, 0, l.length⟩] := by
  rw [List.drop_length]; rfl
set_option maxHeartbeats 8000000 in
set_option maxRecDepth 100000 in
theorem lsplit_c {I : World → Prop} (D : DayC I) (s : ByteArray) (w : World) (hI : I w) (hs : s.size ≤ 10000) :
    Calls Tryz.prog 9 #[.string s] w fun e w' => SplR (splitF s.data.toList) e w w' := by
  obtain ⟨i0, hi, hz0, hz1, hz2⟩ := info_parts info_tk
  obtain ⟨l, hl⟩ : ∃ l, s.data.toList = l := ⟨_, rfl⟩
  have hlen : l.length = s.size := by rw [← hl]; simp
  have hget : ∀ (i : Nat) (h : i < s.size), l[i]? = some s[i] := fun i h => by subst hl; rw [List.getElem?_eq_getElem (by simpa using h)]; rfl
  obtain ⟨RR, hRR⟩ : ∃ r, splitF l = r := ⟨_, rfl⟩
  have hinv0 : preT [] (spl (l.length - 0 + 1) 0 (l.drop 0)) = RR := by
    rw [← hRR]; unfold splitF; rw [Nat.sub_zero, List.drop_zero]
    cases spl (l.length + 1) 0 l with
    | error e => rfl
    | ok us => rfl
  have HINV0 := Lib.hid hinv0
  have HL := Lib.hid hl
  have HLEN := Lib.hid hlen
  have HGET := Lib.hid hget
  have HI := Lib.hid hI
  have HD := Lib.hid D
  have S1 := fun (i : Nat) (h : i ≤ s.size) (W' : World) => slice_l s i h W'
  rw [hl, hRR]
  rw [hl] at S1
  have SS1 := Lib.hid S1
  clear hl hlen hget hRR hinv0 hI D S1
  go_enter Tryz.func9, Tryz.ntmps9
  go_wp2_with fail
  go_loopw [5, 6] (fun o i wr => ∃ (k m : Nat) (r : Option Addr) (cap : Nat) (ts : List Tk), o = .slice r m cap ∧ i = .int .i64 (k : Int) ∧ k ≤ s.size ∧ m ≤ k ∧ Hid (ts.length = m) ∧ Hid (wr.ownsRow w.heap.size 31 5 (.slice r m cap) m (ts.flatMap tkc)) ∧ Hid (preT ts (spl (l.length - k + 1) k (l.drop k)) = RR) ∧ Hid (Below w.heap.size w wr)) (fun _ i _ => s.size - (RowKit.intOf i).toNat)
  case atStart => exact ⟨0, 0, none, 0, [], rfl, rfl, Nat.zero_le _, Nat.le_refl _, Lib.hid rfl, Lib.hid (World.ownsRow_nil _ _ _ _), HINV0, Lib.hid (Below.refl _ _)⟩
  case round =>
    clear HINV0
    obtain ⟨k, m, r, cap, ts, rfl, rfl, hk, hmk, HM, HO, HR, HB⟩ := hrel
    rename World => wr
    by_cases hlt : k < s.size
    case neg =>
      obtain rfl : k = s.size := by omega
      have hE : RR = .ok (ts ++ [⟨0, [], 0, 0, s.size⟩]) := by
        rw [← HR.out, ← HLEN.out, sp_end, preT_ok]
      have HE := Lib.hid hE
      have hsz : w.heap.size ≤ wr.heap.size := HB.out.size
      have HSZ := Lib.hid hsz
      clear hE hsz
      go_wp2_with (at_builtin; refine wpList_append_own _ rfl (.tmp 65) (.tmp 68) 23 rfl w.heap.size 31 i0 (.agg #[.int .i64 0, .string ⟨#[]⟩, .int .i64 0, .int .i32 0, .int .i64 0]) 5 48 Tryz.underlying23 hi hz0 hz1 hz2 rfl (by decide) _ m _ rfl (HO.out.alloc _) ⟨_, 0, none⟩ 1 1 [.int .i64 0, .string ⟨#[]⟩, .int .i64 0, .int .i32 0, .int .i64 (s.size : Int)] rfl rfl (cells_new _ [.int .i64 0, .string ⟨#[]⟩, .int .i64 0, .int .i32 0, .int .i64 (s.size : Int)] _) (fun v hv => by simp at hv; rcases hv with rfl | rfl | rfl | rfl | rfl <;> rfl) (by unfold maxLen; omega) (by omega) (by simp; have := HSZ.out; omega) ?_; intro v9 w9 hown9 hgrow9 _; have HB9 := Lib.hid ((HB.out.alloc (by have := HSZ.out; omega) _).grown hgrow9 (by simp; have := HSZ.out; omega) (fun j hj => (HO.out.lt j hj).1)); have HO9 := Lib.hid hown9; obtain ⟨r9, c9, rfl⟩ := owns_form hown9; clear hgrow9 hown9)
      refine bodyPost_ret (v := .tuple #[.slice r9 (m + 1) c9, .int .i64 0, .int .i64 0]) (by simp [results, Tryz.results9, go_sem]) rfl ⟨HB9.out, ?_⟩
      rw [HE.out]
      exact ⟨_, rfl, recs_of_ownsT tkc_len (by rw [List.flatMap_append]; exact HO9.out) (by simp [HM.out]) (by have := HM.out; simp; omega)⟩
    case pos =>
      have hlt2 : k < l.length := by rw [HLEN.out]; exact hlt
      obtain ⟨c, hc⟩ : ∃ c, s[k] = c := ⟨_, rfl⟩
      have hcl : l[k] = c := by
        have hg := HGET.out k hlt
        rw [List.getElem?_eq_getElem hlt2] at hg
        exact (Option.some.inj hg).trans hc
      have hc8 := c.toNat_lt
      by_cases hbl : c = 32 ∨ c = 10
      · have hst := sp_blank hlt2 hcl hbl
        have HR2 : Hid (preT ts (spl (l.length - (k + 1) + 1) (k + 1) (l.drop (k + 1))) = RR) := Lib.hid (by rw [← hst]; exact HR.out)
        have BL : ((c.toNat : Int) == 32) = true ∨ (((c.toNat : Int) == 32) = false ∧ ((c.toNat : Int) == 10) = true) := by
          rcases hbl with rfl | rfl
          · exact Or.inl (by decide)
          · exact Or.inr ⟨by decide, by decide⟩
        clear hst hbl hcl
        rcases BL with b1 | ⟨b1, b2⟩
        all_goals
          go_wp2_with fail
          go_roundw
          case rel => exact ⟨k + 1, m, r, cap, ts, rfl, by go_num, by omega, by omega, HM, HO, HR2, HB⟩
          case measure => simp [RowKit.intOf]; omega
      have n32 : ((c.toNat : Int) == 32) = false := u8_ne (fun h => hbl (Or.inl h))
      have n10 : ((c.toNat : Int) == 10) = false := u8_ne (fun h => hbl (Or.inr h))
      have J := SS1.out k (by omega)
      by_cases h35 : c = 35
      · subst h35
        obtain ⟨hst, hp, hle⟩ := sp_note hlt2 hcl
        obtain ⟨n, hn⟩ : ∃ n, ((l.drop k).takeWhile notNl).length = n := ⟨_, rfl⟩
        rw [hn] at hst hp hle
        have HR2 : Hid (preT ts (spl (l.length - (k + n) + 1) (k + n) (l.drop (k + n))) = RR) := Lib.hid (by rw [← hst]; exact HR.out)
        have hle2 : k + n ≤ s.size := by rw [← HLEN.out]; exact hle
        have K := fun W' => Tryz.strings_IndexByte ⟨(l.drop k).toArray⟩ 10 W'
        have hix := idx_tw 10 (l.drop k)
        have e10 : (10 : Int).toNat.toUInt8 = 10 := by decide
        have ed : (⟨(l.drop k).toArray⟩ : ByteArray).data.toList = l.drop k := rfl
        rw [e10, ed, hix] at K
        by_cases hm10 : (10 : UInt8) ∈ l.drop k
        · rw [if_pos hm10] at K
          have K2 : Hid (∀ W', Calls Tryz.prog 16 #[.string ⟨(l.drop k).toArray⟩, .int .u8 10] W' fun e w' => e = .returned (.int .i64 (n : Int)) ∧ w' = W') := Lib.hid (by rw [← hn]; exact K)
          have n0 : decide ((n : Int) < 0) = false := decide_eq_false (by omega)
          clear hst hn K hix e10 ed hm10 hcl hle hbl
          go_wp2_with (go_at_call 16; refine (K2.out _).mono ?_; rintro e w1 ⟨rfl, rfl⟩)
          go_roundw
          case rel => exact ⟨k + n, m, r, cap, ts, rfl, by go_num, hle2, by omega, HM, HO, HR2, HB⟩
          case measure => simp [RowKit.intOf]; omega
        · rw [if_neg hm10] at K
          have K2 := Lib.hid K
          have hnn : n = s.size - k := by rw [← hn, show (l.drop k).takeWhile notNl = l.drop k from tw_none hm10, List.length_drop, HLEN.out]
          clear hst hn K hix e10 ed hm10 hcl hle hbl
          go_wp2_with (go_at_call 16; refine (K2.out _).mono ?_; rintro e w1 ⟨rfl, rfl⟩)
          go_roundw
          case rel => exact ⟨k + n, m, r, cap, ts, rfl, by rw [hnn]; go_num, hle2, by omega, HM, HO, HR2, HB⟩
          case measure => simp [RowKit.intOf]; omega
      · have n35 : ((c.toNat : Int) == 35) = false := u8_ne h35
        have hdl : (⟨(l.drop k).toArray⟩ : ByteArray).size = s.size - k := by show (l.drop k).toArray.size = _; simp [HLEN.out]
        have K1 := one_c HD.out ⟨(l.drop k).toArray⟩ wr (HD.out.stay HI.out HB.out) (by omega) (by omega)
        have ed : (⟨(l.drop k).toArray⟩ : ByteArray).data.toList = l.drop k := rfl
        rw [ed] at K1
        have hsz : w.heap.size ≤ wr.heap.size := HB.out.size
        have HSZ := Lib.hid hsz
        cases h1 : oneF (l.drop k) with
        | error e =>
          have hst := sp_bad hlt2 hcl hbl h35 h1
          have HE : Hid (RR = .error (k, e)) := Lib.hid (by rw [← HR.out, hst, preT_err])
          unfold OneR at K1
          rw [h1] at K1
          unfold tokV at K1
          have KK1 := Lib.hid K1
          have hne : e ≠ 0 := oneF_ne h1
          have ne0 : (e != 0) = true := by rw [bne_iff_ne]; exact hne
          clear K1 hst h1 ed hdl hcl hbl h35 hsz hne
          go_wp2_with (go_at_call 17; refine KK1.out.mono ?_; rintro e2 w4 ⟨rfl, h4⟩; have HB4 := Lib.hid (HB.out.trans (h4.mono HB.out.size)); clear h4)
          refine bodyPost_ret (v := .tuple #[.slice none 0 0, .int .i64 (k : Int), .int .i64 e]) (by simp [results, Tryz.results9, go_sem]) rfl ⟨HB4.out.alloc (by have := HB4.out.size; omega) _, ?_⟩
          rw [HE.out]
        | ok p =>
          obtain ⟨t, n⟩ := p
          obtain ⟨hn0, hkn, hst⟩ := sp_tok ts hlt2 hcl hbl h35 h1
          have HR2 : Hid (preT (ts ++ [{ t with at_ := k }]) (spl (l.length - (k + n) + 1) (k + n) (l.drop (k + n))) = RR) := Lib.hid (by rw [← hst]; exact HR.out)
          have hkn2 : k + n ≤ s.size := by rw [← HLEN.out]; exact hkn
          have hat := oneF_zero h1
          unfold OneR at K1
          rw [h1] at K1
          unfold tokV at K1
          have KK1 := Lib.hid K1
          clear K1 hst h1 ed hdl hcl hbl h35 hsz hkn
          go_upto_region 14 with (go_at_call 17; refine KK1.out.mono ?_; rintro e2 w4 ⟨rfl, h4⟩; have HO4 := Lib.hid (owns_stay HO.out h4); have HB4 := Lib.hid (HB.out.trans (h4.mono HB.out.size)); clear h4)
          have hb5 := (Below.refl w4.heap.size w4).alloc (Nat.le_refl _) (.cells #[.int .i64 (t.kind : Int), .string ⟨t.text.toArray⟩, .int .i64 t.num, .int .i32 t.day, .int .i64 0] 31)
          have hx5 : HBox (w4.alloc (.cells #[.int .i64 (t.kind : Int), .string ⟨t.text.toArray⟩, .int .i64 t.num, .int .i32 t.day, .int .i64 0] 31)) w4.heap.size [.int .i64 (t.kind : Int), .string ⟨t.text.toArray⟩, .int .i64 t.num, .int .i32 t.day, .int .i64 0] 31 := HBox.new w4 [.int .i64 (t.kind : Int), .string ⟨t.text.toArray⟩, .int .i64 t.num, .int .i32 t.day, .int .i64 0] 31
          change Hid _ at HO4
          obtain ⟨Y, hY⟩ : ∃ Y, w4.heap.size = Y := ⟨_, rfl⟩
          have hs5 : Y ≤ (w4.alloc (.cells #[.int .i64 (t.kind : Int), .string ⟨t.text.toArray⟩, .int .i64 t.num, .int .i32 t.day, .int .i64 0] 31)).heap.size := by rw [← hY]; simp
          rw [hY] at hb5 hx5 ⊢
          generalize w4.alloc (.cells #[.int .i64 (t.kind : Int), .string ⟨t.text.toArray⟩, .int .i64 t.num, .int .i32 t.day, .int .i64 0] 31) = W5 at hb5 hx5 hs5 ⊢
          have hx6 := hx5.set 4 (.int .i64 (k : Int))
          simp only [List.set_cons_zero, List.set_cons_succ] at hx6
          have hb6 := hb5.grown (grownBy_set W5 ⟨Y, 4, none⟩ (.int .i64 (k : Int))) hs5 (fun j hj => by cases hj; exact Nat.le_refl _)
          have HO6 := Lib.hid (owns_stay HO4.out (by rw [hY]; exact hb6))
          have HB6 := Lib.hid (HB4.out.trans (hb6.mono (by rw [← hY]; exact HB4.out.size)))
          have z4 := hx5.cell (j := 4) rfl
          have zf := hx5.frozen 4
          have zs := hx5.size
          clear hb5 hb6 hs5 hY hat
          go_upto_region 15 with fail
          generalize W5.setCell ⟨Y, 4, none⟩ (.int .i64 (k : Int)) = W6 at hx6 HO6 HB6 ⊢
          have HX6 := Lib.hid hx6
          clear z4 zf zs hx5 hx6
          have z0 := HX6.out.cell (j := 0) rfl
          have z1 := HX6.out.cell (j := 1) rfl
          have z2 := HX6.out.cell (j := 2) rfl
          have z3 := HX6.out.cell (j := 3) rfl
          have z4 := HX6.out.cell (j := 4) rfl
          have hsz6 : w.heap.size ≤ W6.heap.size := HB6.out.size
          have HSZ6 := Lib.hid hsz6
          clear hsz6
          go_wp2_with (at_builtin; refine wpList_append_own _ rfl (.tmp 58) (.tmp 60) 23 rfl w.heap.size 31 i0 (.agg #[.int .i64 0, .string ⟨#[]⟩, .int .i64 0, .int .i32 0, .int .i64 0]) 5 48 Tryz.underlying23 hi hz0 hz1 hz2 rfl (by decide) _ m _ rfl (HO6.out.alloc _) ⟨_, 0, none⟩ 1 1 [.int .i64 (t.kind : Int), .string ⟨t.text.toArray⟩, .int .i64 t.num, .int .i32 t.day, .int .i64 (k : Int)] rfl rfl (cells_new _ [.int .i64 (t.kind : Int), .string ⟨t.text.toArray⟩, .int .i64 t.num, .int .i32 t.day, .int .i64 (k : Int)] _) (fun v hv => by simp at hv; rcases hv with rfl | rfl | rfl | rfl | rfl <;> rfl) (by unfold maxLen; omega) (by omega) (by simp; have := HSZ6.out; omega) ?_; intro v9 w9 hown9 hgrow9 _; have HB9 := Lib.hid ((HB6.out.alloc (by have := HSZ6.out; omega) _).grown hgrow9 (by simp; have := HSZ6.out; omega) (fun j hj => (HO6.out.lt j hj).1)); have HO9 := Lib.hid hown9; obtain ⟨r9, c9, rfl⟩ := owns_form hown9; clear hgrow9 hown9)
          go_roundw
          case rel => exact ⟨k + n, m + 1, r9, c9, ts ++ [{ t with at_ := k }], rfl, by go_num, hkn2, by omega, Lib.hid (by simp [HM.out]), Lib.hid (by rw [List.flatMap_append]; exact HO9.out), HR2, HB9⟩
          case measure => simp [RowKit.intOf]; omega
end Go.Proofs.YtafmakhhdinknaaGreatDoor

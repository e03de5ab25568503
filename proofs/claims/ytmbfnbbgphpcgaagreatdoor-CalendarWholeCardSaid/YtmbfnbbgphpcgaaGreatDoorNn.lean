/- Contracts of the library's IndexFunc and DeleteFunc at entities, of package unit's Without. -/
import Derived.Test.YtmbfnbbgphpcgaaGreatDoorNm
namespace Go.Proofs.YtmbfnbbgphpcgaaGreatDoor
open Go.RowKit
set_option linter.unusedVariables false
set_option linter.unusedSimpArgs false
theorem uzero16 : ∀ w, (zeroValue 54).run Tryz.prog w = .ok (.int .u16 0) w := fun w => by kernel_rfl
/-- The closure of Without: is a number the one that lies in a cell? -/
theorem without1 (x n B : Nat) (w : World) (hc : w.cell? ⟨B, 0, none⟩ = some (.int .u16 (n : Int))) :
    Calls Tryz.prog 46 #[.int .u16 (x : Int), .pointer (some ⟨B, 0, none⟩)] w fun e w' => e = .returned (.bool (decide (x = n))) ∧ w' = w := by
  by_cases h : x = n
  · have hd : ((x : Int) == (n : Int)) = true := by simp [h]
    rw [decide_eq_true h]
    clear h
    go_enter Tryz.func46, Tryz.ntmps46
    go_wp2
    go_ret
    exact ⟨rfl, rfl⟩
  · have hd : ((x : Int) == (n : Int)) = false := by simp; omega
    rw [decide_eq_false h]
    clear h
    go_enter Tryz.func46, Tryz.ntmps46
    go_wp2
    go_ret
    exact ⟨rfl, rfl⟩
set_option maxHeartbeats 1000000 in
set_option maxRecDepth 100000 in
theorem indexfunc_u (v : Value) (u : List Nat) (n B : Nat) (w : World) (hR : Recs uc 1 w v u) (hc : w.cell? ⟨B, 0, none⟩ = some (.int .u16 (n : Int))) :
    Calls Tryz.prog 55 #[v, .func (.func 46) #[] #[.pointer (some ⟨B, 0, none⟩)]] w fun e w' => e = .returned (.int .i64 (fstU u n 0)) ∧ w' = w := by
  obtain ⟨r, cap, rfl, hm⟩ := hR.form
  have HR := Lib.hid hR
  obtain ⟨L, hL⟩ : ∃ L, u.length = L := ⟨_, rfl⟩
  have HL := Lib.hid hL
  rw [hL] at HR hm ⊢
  obtain ⟨F, hF⟩ : ∃ F, fstU u n 0 = F := ⟨_, rfl⟩
  have HF : Hid (F = fstU (u.drop 0) n 0) := Lib.hid hF.symm
  have KC := Lib.hid (fun x => without1 x n B w hc)
  rw [hF]
  clear hR hL hF hc
  go_enter Tryz.func55, Tryz.ntmps55
  go_wp2
  go_loop [8] (fun i => ∃ k : Nat, k ≤ L ∧ i = .int .i64 k ∧ Hid (F = fstU (u.drop k) n k)) (fun i => L - (intOf i).toNat)
  case atStart => exact ⟨0, Nat.zero_le _, rfl, HF⟩
  case round =>
    obtain ⟨k, hk, rfl, HK⟩ := hrel
    by_cases hlt : k < L
    · obtain ⟨x, hx⟩ : ∃ x, u[k]? = some x := ⟨u[k]'(by have := HL.out; omega), List.getElem?_eq_getElem (by have := HL.out; omega)⟩
      obtain ⟨g, off, rfl, hg, hcx⟩ := HR.out.at hx
      have c0 := hcx 0 _ rfl
      simp only [Nat.mul_one, Nat.add_zero] at c0
      have HS : Hid (F = if x = n then (k : Int) else fstU (u.drop (k + 1)) n (k + 1)) := Lib.hid (by rw [HK.out, fstU_drop hx])
      clear hcx hx HK
      by_cases h : x = n
      · have K1 := KC.out x
        rw [decide_eq_true h] at K1
        have K2 := Lib.hid K1
        have HE : F = (k : Int) := by rw [HS.out, if_pos h]
        clear K1 h HS
        go_wp2_with (go_at_call 46; refine K2.out.mono ?_; rintro e w1 ⟨rfl, rfl⟩)
        go_ret
        exact ⟨by first | rfl | (rw [HE]; rfl), rfl⟩
      · have K1 := KC.out x
        rw [decide_eq_false h] at K1
        have K2 := Lib.hid K1
        have HE : Hid (F = fstU (u.drop (k + 1)) n (k + 1)) := Lib.hid (by rw [HS.out, if_neg h])
        clear K1 h HS
        go_wp2_with (go_at_call 46; refine K2.out.mono ?_; rintro e w1 ⟨rfl, rfl⟩)
        go_round
        case rel => exact ⟨k + 1, by omega, by go_num, HE⟩
        case measure => simp [intOf]; omega
    · obtain rfl : k = L := by omega
      have HE : F = -1 := by rw [HK.out, List.drop_eq_nil_of_le (by have := HL.out; omega)]; rfl
      clear HK
      go_wp2
      go_ret
      exact ⟨by first | rfl | (rw [HE]; rfl), rfl⟩
theorem owns_cut {w : World} {base g n cap : Nat} {e : TypeId} {l : List Nat} (h : w.ownsRow base e 1 (.slice (some ⟨g, 0, none⟩) n cap) n (l.flatMap uc)) (i : Nat) (hi : i ≤ n) : w.ownsRow base e 1 (.slice (some ⟨g, 0, none⟩) i cap) i ((l.take i).flatMap uc) := by
  have hl := h.1
  have ht : ∀ (l : List Nat) (i : Nat), (l.take i).flatMap uc = (l.flatMap uc).take i := by
    intro l
    induction l with
    | nil => intro i; simp
    | cons a r ih =>
      intro i
      cases i with
      | zero => rfl
      | succ i => rw [List.take_succ_cons, List.flatMap_cons, List.flatMap_cons, ih]; rfl
  rw [ht]
  refine ⟨by rw [List.length_take]; omega, ?_⟩
  rcases h.2 with ⟨h', _⟩ | ⟨g', cap', cur, h', hb, hg, hnc, hcm, hcs, htake⟩
  · cases h'
  · cases h'
    refine .inr ⟨g, cap, cur, rfl, hb, hg, by omega, hcm, hcs, ?_⟩
    rw [← htake, List.take_take]
    congr 1
    omega
theorem owns_past {base g n cap : Nat} {e : TypeId} {xs : List Value} : ∀ (vs : List Value) (o : Nat) (w : World), w.ownsRow base e 1 (.slice (some ⟨g, 0, none⟩) n cap) n xs → n ≤ o → (w.setCells g o vs).ownsRow base e 1 (.slice (some ⟨g, 0, none⟩) n cap) n xs ∧ w.grownBy (w.setCells g o vs) (some g)
  | [], o, w, h, _ => ⟨h, World.grownBy.refl _ _⟩
  | v :: r, o, w, h, ho => by
    obtain ⟨h1, h2⟩ := h.stored o v
    rw [List.set_eq_of_length_le (by have := h.1; omega)] at h1
    obtain ⟨h3, h4⟩ := owns_past r (o + 1) _ h1 (by omega)
    exact ⟨h3, h2.trans h4⟩
/-- What DeleteFunc has done at a place: so many are kept, the rest stands as it stood. -/
structure Kept (u ys : List Nat) (n L i j : Nat) : Prop where
  len : ys.length = L
  low : ys.take i = outU (u.take j) n
  high : ys.drop j = u.drop j
theorem Kept.get {u ys : List Nat} {n L i j : Nat} (h : Kept u ys n L i j) : ys[j]? = u[j]? := by
  have := congrArg (fun l : List Nat => l[0]?) h.high
  simpa using this
theorem Kept.skip {u ys : List Nat} {n L i j : Nat} (h : Kept u ys n L i j) (hx : u[j]? = some n) : Kept u ys n L i (j + 1) := by
  refine ⟨h.len, ?_, ?_⟩
  · rw [h.low, outU_step hx, if_pos rfl]
  · have := congrArg (List.drop 1) h.high
    simpa [List.drop_drop] using this
theorem Kept.keep {u ys : List Nat} {n L i j x : Nat} (h : Kept u ys n L i j) (hx : u[j]? = some x) (hn : x ≠ n) (hij : i < j) (hj : j < L) : Kept u (ys.set i x) n L (i + 1) (j + 1) := by
  refine ⟨by rw [List.length_set]; exact h.len, ?_, ?_⟩
  · rw [outU_step hx, if_neg hn, ← h.low]
    have hi : i < (ys.set i x).length := by rw [List.length_set, h.len]; omega
    rw [List.take_succ_eq_append_getElem hi, List.getElem_set_self, List.take_set_of_le (Nat.le_refl _)]
  · have := congrArg (List.drop 1) h.high
    rw [List.drop_set_of_lt (by omega)]
    simpa [List.drop_drop] using this
theorem Kept.start {u : List Nat} {n i : Nat} (h : u[i]? = some n) (hn : n ∉ u.take i) : Kept u u n u.length i (i + 1) := by
  refine ⟨rfl, ?_, rfl⟩
  rw [outU_step h, if_pos rfl, outU_same hn]
set_option maxHeartbeats 4000000 in
set_option maxRecDepth 100000 in
theorem deletefunc_u (v : Value) (u : List Nat) (L n B base : Nat) (w : World) (ho : w.ownsRow base 54 1 v L (u.flatMap uc)) (hL : u.length = L) (hl : L ≤ 1000) (hc : w.cell? ⟨B, 0, none⟩ = some (.int .u16 (n : Int))) (hB : B < base) :
    Calls Tryz.prog 44 #[v, .func (.func 46) #[] #[.pointer (some ⟨B, 0, none⟩)]] w fun e w' =>
      ∃ v', e = .returned v' ∧ w'.ownsRow base 54 1 v' (outU u n).length ((outU u n).flatMap uc) ∧ w.grownBy w' v.ownBlock := by
  have hR : Recs uc 1 w v u := recs_of_owns uc_len ho hL.symm hl
  have K := Lib.hid (indexfunc_u v u n B w hR hc)
  rcases fstU_spec n u 0 with ⟨h1, h2⟩ | ⟨i, h1, h2, h3, h4⟩
  · rw [h1] at K
    rw [outU_same h2, hL]
    have HO := Lib.hid ho
    clear ho hR hc h1 h2 hL
    generalize u.flatMap uc = us at *
    go_enter Tryz.func44, Tryz.ntmps44
    go_wp2_with (go_at_call 55; refine K.out.mono ?_; rintro e w1 ⟨rfl, rfl⟩)
    go_ret
    exact ⟨_, rfl, HO.out, World.grownBy.refl _ _⟩
  · rw [Nat.zero_add] at h2
    rw [h2] at K
    obtain ⟨g, cap, rfl⟩ : ∃ g cap, v = .slice (some ⟨g, 0, none⟩) L cap := by
      rcases ho.2 with ⟨_, h0⟩ | ⟨g, cap, cur, rfl, _⟩
      · omega
      · exact ⟨g, cap, rfl⟩
    have hcap : L ≤ cap := by
      rcases ho.2 with ⟨h0, _⟩ | ⟨g', cap', cur, h0, _, _, h, _⟩
      · cases h0
      · cases h0; exact h
    have hcm : cap ≤ 9223372036854775807 := by
      rcases ho.2 with ⟨h0, _⟩ | ⟨g', cap', cur, h0, _, _, _, h, _⟩
      · cases h0
      · cases h0; unfold maxLen at h; omega
    have hgb := (ho.lt g rfl).1
    have hne : (some B : Option Nat) ≠ some g := fun e => by cases e; omega
    have HK0 := Kept.start h3 h4
    rw [hL] at HK0
    have HK := Lib.hid HK0
    have HL := Lib.hid hL
    have HO := Lib.hid ho
    have hi1 : i < L := by omega
    have HCC := Lib.hid (fun (x : Nat) (w' : World) (h : w.grownBy w' (some g)) => without1 x n B w' (h.cell hc hne))
    have hz := uzero16
    have hni : ((i : Int) == -1) = false := by simp
    clear hR h1 h2 h3 h4 hL HK0 ho hc hne
    go_enter Tryz.func44, Tryz.ntmps44
    go_wp2_with (go_at_call 55; refine K.out.mono ?_; rintro e w1 ⟨rfl, rfl⟩)
    go_loopw [5, 6] (fun s5 s6 wr => ∃ (i j : Nat) (ys : List Nat), s5 = .int .i64 i ∧ s6 = .int .i64 j ∧ i < j ∧ j ≤ L ∧ Hid (wr.ownsRow base 54 1 (.slice (some ⟨g, 0, none⟩) L cap) L (ys.flatMap uc)) ∧ Hid (w1.grownBy wr (some g)) ∧ Hid (Kept u ys n L i j)) (fun _ s6 _ => L - (intOf s6).toNat)
    case atStart => exact ⟨i, i + 1, u, rfl, by go_num, by omega, by omega, HO, Lib.hid (World.grownBy.refl _ _), HK⟩
    case round =>
      obtain ⟨i, j, ys, rfl, rfl, hij, hjL, HOr, HGr, HKr⟩ := hrel
      rename World => wr
      by_cases hlt : j < L
      · obtain ⟨x, hx⟩ : ∃ x, u[j]? = some x := ⟨u[j]'(by have := HL.out; omega), List.getElem?_eq_getElem (by have := HL.out; omega)⟩
        have c0 := row_at HOr.out (HKr.out.get.trans hx)
        obtain ⟨y, hy⟩ : ∃ y, ys[i]? = some y := ⟨ys[i]'(by have := HKr.out.len; omega), List.getElem?_eq_getElem (by have := HKr.out.len; omega)⟩
        have c1 := row_at HOr.out hy
        have f1 := HOr.out.frozenAt i
        have K1 := HCC.out x wr HGr.out
        have HX := Lib.hid hx
        clear hx hy
        by_cases h : x = n
        · rw [decide_eq_true h] at K1
          have K2 := Lib.hid K1
          have HN := Lib.hid h
          clear K1 h
          go_wp2_with (go_at_call 46; refine K2.out.mono ?_; rintro e w2 ⟨rfl, rfl⟩)
          go_roundw
          case rel => exact ⟨i, j + 1, ys, rfl, by go_num, by omega, by omega, HOr, HGr, Lib.hid (HKr.out.skip (HN.out ▸ HX.out))⟩
          case measure => simp [intOf]; omega
        · rw [decide_eq_false h] at K1
          have K2 := Lib.hid K1
          have HN := Lib.hid h
          clear K1 h
          go_wp2_with (go_at_call 46; refine K2.out.mono ?_; rintro e w2 ⟨rfl, rfl⟩)
          go_roundw
          case rel => exact ⟨i + 1, j + 1, ys.set i x, by go_num, by go_num, by omega, by omega, Lib.hid (row_set HOr.out i x), Lib.hid (HGr.out.trans (row_setg _ g i _)), Lib.hid (HKr.out.keep HX.out HN.out hij hlt)⟩
          case measure => simp [intOf]; omega
      · obtain rfl : j = L := by omega
        have hcl : ∀ ty, (Builtin.clear_ #[53] ty #[.slice (some ⟨g, i, none⟩) (j - i) (cap - i)]).run Tryz.prog wr = .ok (.tuple #[]) (wr.setCells g i (List.replicate (j - i) (.int .u16 0))) := fun ty =>
          Lib.run_clear_slice wr _ _ ty _ Tryz.underlying53 uzero16 rfl rfl g i _ _ (by omega) (fun t ht => by
            obtain ⟨y, hy⟩ : ∃ y, ys[i + t]? = some y := ⟨ys[i + t]'(by have := HKr.out.len; omega), List.getElem?_eq_getElem (by have := HKr.out.len; omega)⟩
            rw [row_at HOr.out hy]; rfl) (fun t _ => HOr.out.frozenAt _)
        have hci : ¬ cap = i := by omega
        have e1 : (i : Int) ≤ (j : Int) := by omega
        obtain ⟨h5, h6⟩ := owns_past (List.replicate (j - i) (.int .u16 0)) i wr (owns_cut HOr.out i (by omega)) (Nat.le_refl _)
        have H5 : Hid ((wr.setCells g i (List.replicate (j - i) (.int .u16 0))).ownsRow base 54 1 (.slice (some ⟨g, 0, none⟩) i cap) (outU u n).length ((outU u n).flatMap uc)) := Lib.hid (by
          have h7 := HKr.out.low
          rw [show u.take j = u from List.take_of_length_le (by have := HL.out; omega)] at h7
          rw [← h7, show (ys.take i).length = i by rw [List.length_take]; have := HKr.out.len; omega]
          exact h5)
        have H6 := Lib.hid (HGr.out.trans h6)
        clear h5 h6
        go_wp2
        go_ret
        exact ⟨_, rfl, H5.out, H6.out⟩
end Go.Proofs.YtmbfnbbgphpcgaaGreatDoor

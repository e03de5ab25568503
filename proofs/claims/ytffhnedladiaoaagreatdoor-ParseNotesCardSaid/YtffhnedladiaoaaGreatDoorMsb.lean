/- Scripts' ops in plain words: from their texts, one behind the other, the ops are told. -/
import Derived.Test.YtffhnedladiaoaaGreatDoorMsa
import Derived.Test.YtffhnedladiaoaaGreatDoorLxz
import Derived.Test.YtffhnedladiaoaaGreatDoorKall
namespace Go.Proofs.YtffhnedladiaoaaGreatDoor
open Go.RowKit Go.Lib
set_option linter.unusedVariables false
set_option linter.unusedSimpArgs false
theorem digL_dig : ∀ (k n : Nat), ∀ c ∈ digL n k, digB c = true
  | 0, _, c, h => by unfold digL at h; cases h
  | k + 1, n, c, h => by
    unfold digL at h
    rcases List.mem_cons.1 h with h | h
    · rw [h]
      exact (dg_ofNat (show n / 10 ^ k % 10 < 10 by omega)).1
    · exact digL_dig k _ c h
theorem dig_dim {c : UInt8} (h : digB c = true) : dimB c = true := by unfold dimB; rw [h]; rfl
theorem dateL_dim (y m d : Int) : ∀ c ∈ dateL y m d, dimB c = true := by
  intro c hc
  unfold dateL at hc
  simp only [List.mem_append, List.mem_singleton] at hc
  rcases hc with (((hc | hc) | hc) | hc) | hc
  all_goals first | exact dig_dim (digL_dig _ _ c hc) | (subst hc; decide)
theorem dayT_of {n : Int} (h : IsDay n) : ∃ y m d, RightD y m d ∧ n = numD y m d ∧ dayT n = dateL y m d := by
  have h' : ∃ y m d, RightD y m d ∧ n = numD y m d := h
  unfold dayT
  rw [dif_pos h']
  exact ⟨_, _, _, h.choose_spec.choose_spec.choose_spec.1, h.choose_spec.choose_spec.choose_spec.2, rfl⟩
theorem dayT_dim {n : Int} (h : IsDay n) : ∀ c ∈ dayT n, dimB c = true := by
  obtain ⟨y, m, d, _, _, e⟩ := dayT_of h
  rw [e]; exact dateL_dim y m d
theorem dayT_inj {a b : Int} (ha : IsDay a) (hb : IsDay b) (h : dayT a = dayT b) : a = b := by
  obtain ⟨y, m, d, h1, h2, h3⟩ := dayT_of ha
  obtain ⟨y', m', d', k1, k2, k3⟩ := dayT_of hb
  rw [h3, k3] at h
  obtain ⟨rfl, rfl, rfl⟩ := date_inj h1 k1 h
  rw [h2, k2]
theorem dayT_head {n : Int} (h : IsDay n) : ∃ c x, dayT n = c :: x ∧ c ≠ 117 := by
  have hd := dayT_dim h
  cases e : dayT n with
  | nil =>
    obtain ⟨y, m, d, _, _, h3⟩ := dayT_of h
    rw [e] at h3
    exact absurd h3.symm (dateL_ne y m d)
  | cons c x =>
    refine ⟨c, x, rfl, ?_⟩
    rintro rfl
    have := hd 117 (by rw [e]; simp)
    exact absurd this (by decide)
theorem cut_day {a b : Int} {c d : UInt8} {r r' : List UInt8} (ha : IsDay a) (hb : IsDay b) (hc : dimB c = false) (hd : dimB d = false) (h : dayT a ++ c :: r = dayT b ++ d :: r') : a = b ∧ c = d ∧ r = r' := by
  obtain ⟨e1, e2, e3⟩ := cut_run hc hd _ _ (dayT_dim ha) (dayT_dim hb) h
  exact ⟨dayT_inj ha hb e1, e2, e3⟩
theorem cut_starts : ∀ (xs ys : List Int) (r r' : List UInt8), (∀ d ∈ xs, IsDay d) → (∀ d ∈ ys, IsDay d) → startsT xs ++ 117 :: r = startsT ys ++ 117 :: r' → xs = ys ∧ r = r'
  | [], [], r, r', _, _, h => by unfold startsT at h; simp at h; exact ⟨rfl, h⟩
  | [], y :: ys, r, r', _, hy, h => by
    obtain ⟨c, x, e, hc⟩ := dayT_head (hy y (by simp))
    unfold startsT at h
    simp only [List.flatMap_nil, List.nil_append, List.flatMap_cons, e, List.cons_append, List.cons.injEq] at h
    exact absurd h.1.symm hc
  | x :: xs, [], r, r', hx, _, h => by
    obtain ⟨c, z, e, hc⟩ := dayT_head (hx x (by simp))
    unfold startsT at h
    simp only [List.flatMap_nil, List.nil_append, List.flatMap_cons, e, List.cons_append, List.cons.injEq] at h
    exact absurd h.1 hc
  | x :: xs, y :: ys, r, r', hx, hy, h => by
    have e : ∀ (x : Int) (xs : List Int) (r : List UInt8), startsT (x :: xs) ++ 117 :: r = dayT x ++ 32 :: (startsT xs ++ 117 :: r) := fun x xs r => by unfold startsT; simp
    rw [e, e] at h
    obtain ⟨e1, _, e3⟩ := cut_day (hx x (by simp)) (hy y (by simp)) (by decide) (by decide) h
    obtain ⟨e4, e5⟩ := cut_starts xs ys r r' (fun d hd => hx d (by simp [hd])) (fun d hd => hy d (by simp [hd])) e3
    exact ⟨by rw [e1, e4], e5⟩
theorem word_run : ∀ k : Fin 8, ∀ c ∈ wordK k.val, (c != 32) = true := by decide
theorem word_inj : ∀ k j : Fin 8, wordK k.val = wordK j.val → k = j := by decide
theorem Opp.eq_of {o p : Opp} (h1 : o.kind = p.kind) (h2 : o.frm = p.frm) (h3 : o.to = p.to) (h4 : o.name = p.name) (h5 : o.parts = p.parts) (h6 : o.starts = p.starts) (h7 : o.en = p.en) : o = p := by
  cases o; cases p; simp only at h1 h2 h3 h4 h5 h6 h7; subst h1 h2 h3 h4 h5 h6 h7; rfl
theorem text_cut {o p : Opp} {r r' : List UInt8} (ho : OkO o) (hp : OkO p) (h : textO o ++ r = textO p ++ r') : o = p ∧ r = r' := by
  unfold textO at h
  rw [List.append_assoc, List.append_assoc, List.cons_append, List.cons_append] at h
  have hk := ho.kind
  have hj := hp.kind
  obtain ⟨e1, _, h⟩ := cut_run (p := fun b => b != 32) (by decide) (by decide) _ _ (word_run ⟨o.kind, by omega⟩) (word_run ⟨p.kind, by omega⟩) h
  have ek : o.kind = p.kind := congrArg Fin.val (word_inj ⟨o.kind, by omega⟩ ⟨p.kind, by omega⟩ e1)
  unfold restO at h
  rw [← ek] at h
  by_cases k1 : o.kind = 1
  · rw [if_pos k1, if_pos k1] at h
    simp only [List.append_assoc, List.cons_append, List.nil_append] at h
    obtain ⟨e2, _, h⟩ := cut_num (by decide) (by decide) h
    simp only [List.cons.injEq, true_and] at h
    obtain ⟨e3, _, h⟩ := cut_run (p := fun b => b != 34) (by decide) (by decide) _ _ (fun c hc => by simpa using ho.name.1 c hc) (fun c hc => by simpa using hp.name.1 c hc) h
    simp only [List.cons.injEq, true_and] at h
    have p1 : p.kind = 1 := by omega
    refine ⟨Opp.eq_of ek e2 ?_ e3 ?_ ?_ ?_, h⟩
    · rw [ho.to (Or.inl k1), hp.to (Or.inl p1)]
    · rw [ho.parts.2 (by omega), hp.parts.2 (by omega)]
    · rw [(ho.days.2 (by omega)).1, (hp.days.2 (by omega)).1]
    · rw [(ho.days.2 (by omega)).2, (hp.days.2 (by omega)).2]
  rw [if_neg k1, if_neg k1] at h
  by_cases k4 : o.kind = 4
  · rw [if_pos k4, if_pos k4] at h
    simp only [List.append_assoc, List.cons_append, List.nil_append] at h
    obtain ⟨e2, _, h⟩ := cut_num (by decide) (by decide) h
    have h := List.append_cancel_left h
    have p4 : p.kind = 4 := by omega
    obtain ⟨e3, h⟩ := cut_parts (ho.parts.1 k4) (hp.parts.1 p4) h
    refine ⟨Opp.eq_of ek e2 ?_ ?_ e3 ?_ ?_, h⟩
    · rw [ho.to (Or.inr (Or.inl k4)), hp.to (Or.inr (Or.inl p4))]
    · rw [ho.name.2 k1, hp.name.2 (by omega)]
    · rw [(ho.days.2 (by omega)).1, (hp.days.2 (by omega)).1]
    · rw [(ho.days.2 (by omega)).2, (hp.days.2 (by omega)).2]
  rw [if_neg k4, if_neg k4] at h
  by_cases k7 : o.kind = 7
  · rw [if_pos k7, if_pos k7] at h
    simp only [List.append_assoc, List.cons_append, List.nil_append] at h
    have p7 : p.kind = 7 := by omega
    obtain ⟨d1, d2⟩ := ho.days.1 k7
    obtain ⟨d3, d4⟩ := hp.days.1 p7
    have e8 : ∀ x : List UInt8, linkK 7 ++ x = 117 :: 110 :: 116 :: 105 :: 108 :: x := fun x => rfl
    rw [e8, e8] at h
    obtain ⟨e3, h⟩ := cut_starts _ _ _ _ d1 d3 h
    simp only [List.cons.injEq, true_and] at h
    obtain ⟨e4, _, h⟩ := cut_day d2 d4 (by decide) (by decide) h
    refine ⟨Opp.eq_of ek ?_ ?_ ?_ ?_ e3 e4, h⟩
    · rw [ho.frm k7, hp.frm p7]
    · rw [ho.to (Or.inr (Or.inr k7)), hp.to (Or.inr (Or.inr p7))]
    · rw [ho.name.2 k1, hp.name.2 (by omega)]
    · rw [ho.parts.2 k4, hp.parts.2 (by omega)]
  rw [if_neg k7, if_neg k7] at h
  simp only [List.append_assoc, List.cons_append, List.nil_append] at h
  obtain ⟨e2, _, h⟩ := cut_num (by decide) (by decide) h
  have h := List.append_cancel_left h
  simp only [List.cons.injEq, true_and] at h
  obtain ⟨e3, _, h⟩ := cut_num (by decide) (by decide) h
  refine ⟨Opp.eq_of ek e2 e3 ?_ ?_ ?_ ?_, h⟩
  · rw [ho.name.2 k1, hp.name.2 (by omega)]
  · rw [ho.parts.2 k4, hp.parts.2 (by omega)]
  · rw [(ho.days.2 k7).1, (hp.days.2 (by omega)).1]
  · rw [(ho.days.2 k7).2, (hp.days.2 (by omega)).2]
/-- Texts of ops, one behind the other, tell the ops. -/
theorem texts_inj : ∀ (xs ys : List Opp), (∀ o ∈ xs, OkO o) → (∀ o ∈ ys, OkO o) → xs.flatMap textO = ys.flatMap textO → xs = ys
  | [], [], _, _, _ => rfl
  | [], y :: ys, _, _, h => by
    rw [List.flatMap_cons] at h
    unfold textO at h
    simp at h
  | x :: xs, [], _, _, h => by
    rw [List.flatMap_cons] at h
    unfold textO at h
    simp at h
  | x :: xs, y :: ys, hx, hy, h => by
    rw [List.flatMap_cons, List.flatMap_cons] at h
    obtain ⟨e1, e2⟩ := text_cut (hx x (by simp)) (hy y (by simp)) h
    rw [e1, texts_inj xs ys (fun o ho => hx o (by simp [ho])) (fun o ho => hy o (by simp [ho])) e2]
end Go.Proofs.YtffhnedladiaoaaGreatDoor

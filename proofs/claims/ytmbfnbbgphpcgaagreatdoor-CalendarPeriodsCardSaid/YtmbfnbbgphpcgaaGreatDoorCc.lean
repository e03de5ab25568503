/- What law 6 says of charts, in plain words: what lies in what; without, with, moved, and back. -/
import Derived.Test.YtmbfnbbgphpcgaaGreatDoorCb
namespace Go.Proofs.YtmbfnbbgphpcgaaGreatDoor
open Go.RowKit
set_option linter.unusedVariables false
set_option linter.unusedSimpArgs false
/-- Does one lie in another? -/
def inB (c : List Ac) (n o : Nat) : Bool := decide (o ∈ wayF 13 c n)
theorem Made.in_self {c : List Ac} {n : Nat} (h : Made c n) {a : Ac} (ha : a ∈ c) : inB c a.code a.code = true := by
  unfold inB; rw [h.way_par ha]; simp
theorem Made.in_par {c : List Ac} {n : Nat} (h : Made c n) {a : Ac} (ha : a ∈ c) (h0 : a.par ≠ 0) : inB c a.code a.par = true ∧ inB c a.par a.code = false := by
  rcases h.up a ha with e | ⟨p, hp, e1, e2, e3⟩
  · contradiction
  · refine ⟨?_, ?_⟩
    · unfold inB; rw [h.way_par ha, ← e1, h.way_par hp]; simp
    · unfold inB
      rw [← e1]
      exact decide_eq_false fun hm => by have := (h.on_way 13 p hp _ hm).1; omega
theorem Made.in_kind {c : List Ac} {n : Nat} (h : Made c n) {a b : Ac} (ha : a ∈ c) (hb : b ∈ c) (hi : inB c a.code b.code = true) : a.kind = b.kind ∧ b.code ≤ a.code := by
  unfold inB at hi
  obtain ⟨h1, x, h2, h3, h4⟩ := h.on_way 13 a ha _ (of_decide_eq_true hi)
  rw [h.rise.inj h2 hb h3] at h4
  exact ⟨h4.symm, h1⟩
theorem Made.in_both {c : List Ac} {n : Nat} (h : Made c n) {a b : Ac} (ha : a ∈ c) (hb : b ∈ c) (hi : inB c a.code b.code = true) (hj : inB c b.code a.code = true) : a.code = b.code := by
  have h1 := (h.in_kind ha hb hi).2
  have h2 := (h.in_kind hb ha hj).2
  omega
theorem Made.in_step {c : List Ac} {n : Nat} (h : Made c n) {a b : Ac} (ha : a ∈ c) (hb : b ∈ c) (hne : a.code ≠ b.code) : inB c a.code b.code = (decide (a.par ≠ 0) && inB c a.par b.code) := by
  unfold inB
  rw [h.way_par ha]
  by_cases h0 : a.par = 0
  · rw [h0, wayF_zero fun x hx => (h.pos x hx).1]
    simp; omega
  · simp [h0]; omega
/-- The others. -/
def outA (c : List Ac) (n : Nat) : List Ac := c.filter (fun a => !(a.code == n))
/-- With one, in its place. -/
def withA (c : List Ac) (a : Ac) : List Ac := c.filter (fun b => decide (b.code < a.code)) ++ a :: c.filter (fun b => decide (a.code < b.code))
/-- In another one. -/
def Ac.to (a : Ac) (t : Nat) (h : t < 4294967296) : Ac := ⟨a.code, a.name, a.kind, t, a.hc, a.hk, h, a.hn⟩
def moveA (c : List Ac) (f t : Nat) (h : t < 4294967296) : List Ac := c.map (fun a => if a.par = f then a.to t h else a)
theorem RiseA.filter {c : List Ac} (h : RiseA c) (p : Ac → Bool) : RiseA (c.filter p) := List.Pairwise.filter p h
theorem outA_rise {c : List Ac} (h : RiseA c) (n : Nat) : RiseA (outA c n) := h.filter _
/-- The place of a code parts codes that rise. -/
theorem below_parts {c : List Ac} (h : RiseA c) (n : Nat) : c.take (belowA c n) = c.filter (fun a => decide (a.code < n)) ∧ c.drop (belowA c n) = c.filter (fun a => decide (n ≤ a.code)) := by
  induction c with
  | nil => exact ⟨rfl, rfl⟩
  | cons x r ih =>
    obtain ⟨h1, h2⟩ := List.pairwise_cons.1 h
    obtain ⟨i1, i2⟩ := ih h2
    unfold belowA at i1 i2 ⊢
    by_cases hx : x.code < n
    · rw [List.countP_cons_of_pos (by simpa using hx), List.take_succ_cons, List.drop_succ_cons, i1, i2]
      rw [List.filter_cons_of_pos (by simpa using hx), List.filter_cons_of_neg (by simp; omega)]
      exact ⟨rfl, rfl⟩
    · have hz : r.countP (fun a => decide (a.code < n)) = 0 := by
        rw [List.countP_eq_zero]; intro b hb; have := h1 b hb; simp; omega
      have hf : r.filter (fun a => decide (a.code < n)) = [] := by
        rw [List.filter_eq_nil_iff]; intro b hb; have := h1 b hb; simp; omega
      have hg : r.filter (fun a => decide (n ≤ a.code)) = r := by
        rw [List.filter_eq_self]; intro b hb; have := h1 b hb; simp; omega
      rw [List.countP_cons_of_neg (by simpa using hx), hz]
      rw [List.filter_cons_of_neg (by simpa using hx), List.filter_cons_of_pos (by simp; omega), hf, hg]
      exact ⟨rfl, rfl⟩
/-- Taking out what is at its place. -/
theorem out_parts {c : List Ac} (h : RiseA c) {n : Nat} {a : Ac} (ha : getA c n = some a) : c[belowA c n]? = some a ∧ outA c n = c.take (belowA c n) ++ c.drop (belowA c n + 1) := by
  obtain ⟨hm, hn⟩ := getA_some ha
  have hd := (below_parts h n)
  have e : c.filter (fun x => decide (n ≤ x.code)) = a :: c.filter (fun x => decide (n < x.code)) := by
    clear hd ha
    induction c with
    | nil => cases hm
    | cons x r ih =>
      obtain ⟨h1, h2⟩ := List.pairwise_cons.1 h
      rcases List.mem_cons.1 hm with rfl | hm'
      · rw [List.filter_cons_of_pos (by simp; omega), List.filter_cons_of_neg (by simp; omega)]
        congr 1
        apply List.filter_congr
        intro b hb
        have := h1 b hb
        simp; omega
      · have := h1 a hm'
        rw [List.filter_cons_of_neg (by simp; omega), List.filter_cons_of_neg (by simp; omega)]
        exact ih h2 hm'
  have e1 : c.drop (belowA c n) = a :: c.filter (fun x => decide (n < x.code)) := hd.2.trans e
  refine ⟨?_, ?_⟩
  · have : (c.drop (belowA c n))[0]? = some a := by rw [e1]; rfl
    rw [List.getElem?_drop] at this
    simpa using this
  · have e2 : c.drop (belowA c n + 1) = c.filter (fun x => decide (n < x.code)) := by
      rw [← List.drop_drop, e1]; rfl
    rw [e2, hd.1]
    unfold outA
    have hs := List.filter_append_perm (fun x : Ac => decide (x.code < n)) (outA c n)
    clear hs e e1 e2 hd ha
    induction c with
    | nil => cases hm
    | cons x r ih =>
      obtain ⟨h1, h2⟩ := List.pairwise_cons.1 h
      rcases List.mem_cons.1 hm with rfl | hm'
      · have hf : r.filter (fun x => decide (x.code < n)) = [] := by
          rw [List.filter_eq_nil_iff]; intro b hb; have := h1 b hb; simp; omega
        rw [List.filter_cons_of_neg (by simp; omega), List.filter_cons_of_neg (by simp; omega), List.filter_cons_of_neg (by simp; omega), hf, List.nil_append]
        apply List.filter_congr
        intro b hb
        have := h1 b hb
        have e1 : (b.code == n) = false := by simp; omega
        have e2 : decide (n < b.code) = true := by simp; omega
        rw [e1, e2]; rfl
      · have := h1 a hm'
        rw [List.filter_cons_of_pos (by simp; omega), List.filter_cons_of_pos (by simp; omega), List.filter_cons_of_neg (by simp; omega), ih h2 hm']
        rfl
theorem out_none {c : List Ac} {n : Nat} (ha : getA c n = none) : outA c n = c := by
  unfold outA
  rw [List.filter_eq_self]
  intro b hb
  have := getA_none.1 ha b hb
  simpa using this
/-- With one, in parts of the others. -/
theorem with_parts {c : List Ac} (h : RiseA c) (a : Ac) : withA c a = (outA c a.code).take (belowA (outA c a.code) a.code) ++ ([a] ++ (outA c a.code).drop (belowA (outA c a.code) a.code)) := by
  obtain ⟨h1, h2⟩ := below_parts (outA_rise h a.code) a.code
  rw [h1, h2]
  unfold withA outA
  rw [List.filter_filter, List.filter_filter]
  congr 1
  · apply List.filter_congr
    intro b _
    by_cases hb : b.code < a.code
    · have : (b.code == a.code) = false := by simp; omega
      simp [hb, this]
    · simp [hb]
  · show _ = a :: _
    congr 1
    apply List.filter_congr
    intro b _
    by_cases hb : a.code < b.code
    · have e1 : (b.code == a.code) = false := by simp; omega
      have e2 : decide (a.code ≤ b.code) = true := by simp; omega
      simp [hb, e1, e2]
    · by_cases he : a.code = b.code
      · have e1 : (b.code == a.code) = true := by simp [he]
        simp [he]
      · have e2 : decide (a.code ≤ b.code) = false := by simp; omega
        simp [hb, e2]
/-- Out, and in again. -/
theorem with_out {c : List Ac} (h : RiseA c) {a : Ac} (ha : a ∈ c) : withA (outA c a.code) a = c := by
  obtain ⟨h1, h2⟩ := below_parts h a.code
  have hg := getA_mem h ha
  obtain ⟨h3, h4⟩ := out_parts h hg
  have e1 : withA (outA c a.code) a = withA c a := by
    unfold withA outA
    rw [List.filter_filter, List.filter_filter]
    congr 1
    · apply List.filter_congr
      intro b _
      by_cases hb : b.code < a.code
      · have : (b.code == a.code) = false := by simp; omega
        simp [hb, this]
      · simp [hb]
    · congr 1
      apply List.filter_congr
      intro b _
      by_cases hb : a.code < b.code
      · have : (b.code == a.code) = false := by simp; omega
        simp [hb, this]
      · simp [hb]
  rw [e1]
  have hlt : belowA c a.code < c.length := (List.getElem?_eq_some_iff.1 h3).1
  have e2 : c = c.take (belowA c a.code) ++ a :: c.drop (belowA c a.code + 1) := by
    have e := (List.getElem?_eq_some_iff.1 h3).2
    have := (List.take_append_drop (belowA c a.code) c).symm
    rwa [List.drop_eq_getElem_cons hlt, e] at this
  have e3 : c.drop (belowA c a.code + 1) = c.filter (fun b => decide (a.code < b.code)) := by
    have : c.filter (fun b => decide (a.code < b.code)) = (c.filter (fun b => decide (a.code ≤ b.code))).filter (fun b => decide (a.code < b.code)) := by
      rw [List.filter_filter]
      apply List.filter_congr
      intro b _
      by_cases hb : a.code < b.code
      · have : a.code ≤ b.code := by omega
        simp [hb, this]
      · simp [hb]
    rw [this, ← h2, List.drop_eq_getElem_cons hlt, (List.getElem?_eq_some_iff.1 h3).2]
    rw [List.filter_cons_of_neg (by simp)]
    symm
    rw [List.filter_eq_self]
    intro b hb
    have hp : (c.drop (belowA c a.code)).Pairwise (fun a b => a.code < b.code) := h.sublist (List.drop_sublist _ _)
    rw [List.drop_eq_getElem_cons hlt, (List.getElem?_eq_some_iff.1 h3).2] at hp
    simpa using (List.pairwise_cons.1 hp).1 b hb
  unfold withA
  rw [← h1, ← e3]
  exact e2.symm
/-- Moved to where none lies, and back. -/
theorem move_back {c : List Ac} {f t : Nat} (ht : t < 4294967296) (hf : f < 4294967296) (h : ∀ a ∈ c, a.par ≠ t) : moveA (moveA c f t ht) t f hf = c := by
  unfold moveA
  rw [List.map_map]
  have : ∀ a ∈ c, ((fun a : Ac => if a.par = t then a.to f hf else a) ∘ (fun a : Ac => if a.par = f then a.to t ht else a)) a = a := by
    intro a ha
    have h1 := h a ha
    simp only [Function.comp_apply]
    by_cases hp : a.par = f
    · rw [if_pos hp, if_pos (by rfl)]
      exact Ac.eq_of rfl rfl rfl hp.symm
    · rw [if_neg hp, if_neg h1]
  rw [List.map_congr_left this]; simp
theorem move_kids {c : List Ac} {f t : Nat} (ht : t < 4294967296) (hne : f ≠ t) (h : ∀ a ∈ c, a.par ≠ t) : kidsA (moveA c f t ht) f = [] ∧ kidsA (moveA c f t ht) t = kidsA c f := by
  unfold kidsA moveA
  induction c with
  | nil => exact ⟨rfl, rfl⟩
  | cons x r ih =>
    obtain ⟨i1, i2⟩ := ih fun a ha => h a (List.mem_cons_of_mem _ ha)
    have hx := h x (List.mem_cons_self ..)
    simp only [List.map_cons]
    by_cases hp : x.par = f
    · rw [if_pos hp, List.filter_cons_of_neg (by show ¬ (t == f) = true; simp; omega), List.filter_cons_of_pos (by show (t == t) = true; simp), List.filter_cons_of_pos (by simpa using hp), List.map_cons, List.map_cons, i2]
      exact ⟨i1, rfl⟩
    · rw [if_neg hp, List.filter_cons_of_neg (by simpa using hp), List.filter_cons_of_neg (by simpa using hx), List.filter_cons_of_neg (by simpa using hp)]
      exact ⟨i1, i2⟩
theorem move_rise {c : List Ac} (h : RiseA c) (f t : Nat) (ht : t < 4294967296) : RiseA (moveA c f t ht) := by
  unfold RiseA moveA
  rw [List.pairwise_map]
  refine h.imp fun {a b} hab => ?_
  have e : ∀ x : Ac, (if x.par = f then x.to t ht else x).code = x.code := fun x => by split <;> rfl
  rw [e, e]; exact hab
end Go.Proofs.YtmbfnbbgphpcgaaGreatDoor

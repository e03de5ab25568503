/- Entities in plain words: rising numbers, with one more, without one, what may be; what law 7 makes. -/
import Derived.WalkKit
namespace Go.Proofs.YtmbfnbbgphpcgaaGreatDoor
open Go.RowKit
set_option linter.unusedVariables false
set_option linter.unusedSimpArgs false
def uc (n : Nat) : List Value := [.int .u16 (n : Int)]
theorem uc_len (n : Nat) : (uc n).length = 1 := rfl
theorem uc_one (n : Nat) : ∀ v ∈ uc n, v.oneCell' = true := fun v hv => by simp [uc] at hv; subst hv; rfl
def RiseU (l : List Nat) : Prop := l.Pairwise (fun a b => a < b)
/-- Without one; with one, in its place, once. -/
def outU (l : List Nat) (n : Nat) : List Nat := l.filter (fun a => !(a == n))
def withU (l : List Nat) (n : Nat) : List Nat := l.filter (fun a => decide (a < n)) ++ n :: l.filter (fun a => decide (n < a))
/-- What is wrong with entities behind one. -/
def chkU1 : Nat → List Nat → Int
  | _, [] => 0
  | h, a :: r => if a = 0 ∨ 999 < a then 5 else if a ≤ h then 6 else chkU1 a r
def chkU (l : List Nat) : Int := if 40 < l.length then 2 else chkU1 0 l
theorem rise_ext {l m : List Nat} (hl : RiseU l) (hm : RiseU m) (h : ∀ x, x ∈ l ↔ x ∈ m) : l = m := by
  induction l generalizing m with
  | nil => cases m with
    | nil => rfl
    | cons a r => have := (h a).2 (List.mem_cons_self ..); cases this
  | cons a r ih =>
    cases m with
    | nil => have := (h a).1 (List.mem_cons_self ..); cases this
    | cons b s =>
      obtain ⟨h1, h2⟩ := List.pairwise_cons.1 hl
      obtain ⟨h3, h4⟩ := List.pairwise_cons.1 hm
      have e : a = b := by
        rcases List.mem_cons.1 ((h a).1 (List.mem_cons_self ..)) with e | e
        · exact e
        · rcases List.mem_cons.1 ((h b).2 (List.mem_cons_self ..)) with e' | e'
          · exact e'.symm
          · have g1 := h3 a e; have g2 := h1 b e'; omega
      subst e
      congr 1
      refine ih h2 h4 fun x => ⟨fun hx => ?_, fun hx => ?_⟩
      · rcases List.mem_cons.1 ((h x).1 (List.mem_cons_of_mem _ hx)) with e | e
        · have := h1 x hx; omega
        · exact e
      · rcases List.mem_cons.1 ((h x).2 (List.mem_cons_of_mem _ hx)) with e | e
        · have := h3 x hx; omega
        · exact e
theorem withU_mem {l : List Nat} {n x : Nat} : x ∈ withU l n ↔ x = n ∨ x ∈ l := by
  unfold withU
  simp only [List.mem_append, List.mem_cons, List.mem_filter, decide_eq_true_eq]
  constructor
  · rintro (⟨h, _⟩ | rfl | ⟨h, _⟩)
    · exact .inr h
    · exact .inl rfl
    · exact .inr h
  · rintro (rfl | h)
    · exact .inr (.inl rfl)
    · rcases Nat.lt_trichotomy x n with g | g | g
      · exact .inl ⟨h, g⟩
      · exact .inr (.inl g)
      · exact .inr (.inr ⟨h, g⟩)
theorem withU_rise {l : List Nat} (h : RiseU l) (n : Nat) : RiseU (withU l n) := by
  unfold withU RiseU
  refine List.pairwise_append.2 ⟨h.filter _, List.pairwise_cons.2 ⟨fun b hb => ?_, h.filter _⟩, fun a ha b hb => ?_⟩
  · simp only [List.mem_filter, decide_eq_true_eq] at hb; exact hb.2
  · simp only [List.mem_filter, decide_eq_true_eq] at ha
    rcases List.mem_cons.1 hb with rfl | hb
    · exact ha.2
    · simp only [List.mem_filter, decide_eq_true_eq] at hb; omega
theorem withU_len (l : List Nat) (n : Nat) : (withU l n).length ≤ l.length + 1 := by
  unfold withU
  rw [List.length_append, List.length_cons]
  have e : ∀ m : List Nat, (m.filter (fun a => decide (a < n))).length + (m.filter (fun a => decide (n < a))).length ≤ m.length := by
    intro m
    induction m with
    | nil => simp
    | cons a r ih =>
      by_cases g : a < n
      · rw [List.filter_cons_of_pos (by simpa using g), List.filter_cons_of_neg (by simp; omega)]; simp only [List.length_cons]; omega
      · by_cases g2 : n < a
        · rw [List.filter_cons_of_neg (by simpa using g), List.filter_cons_of_pos (by simpa using g2)]; simp only [List.length_cons]; omega
        · rw [List.filter_cons_of_neg (by simpa using g), List.filter_cons_of_neg (by simpa using g2)]; simp only [List.length_cons]; omega
  have := e l
  omega
theorem outU_mem {l : List Nat} {n x : Nat} : x ∈ outU l n ↔ x ∈ l ∧ x ≠ n := by
  unfold outU
  simp [List.mem_filter]
theorem outU_rise {l : List Nat} (h : RiseU l) (n : Nat) : RiseU (outU l n) := h.filter _
theorem outU_len (l : List Nat) (n : Nat) : (outU l n).length ≤ l.length := List.length_filter_le _ _
theorem outU_short {l : List Nat} {n : Nat} (h : n ∈ l) : (outU l n).length < l.length := by
  unfold outU
  exact List.length_filter_lt_length_iff_exists.2 ⟨n, h, by simp⟩
theorem outU_same {l : List Nat} {n : Nat} (h : n ∉ l) : outU l n = l := by
  unfold outU
  rw [List.filter_eq_self]
  intro a ha
  have : a ≠ n := fun e => h (e ▸ ha)
  simpa using this
theorem withU_there {l : List Nat} (hl : RiseU l) {n : Nat} (h : n ∈ l) : withU l n = l :=
  rise_ext (withU_rise hl n) hl fun x => by rw [withU_mem]; exact ⟨fun g => g.elim (fun e => e ▸ h) id, .inr⟩
theorem out_with {l : List Nat} (hl : RiseU l) {n : Nat} (h : n ∉ l) : outU (withU l n) n = l :=
  rise_ext (outU_rise (withU_rise hl n) n) hl fun x => by
    rw [outU_mem, withU_mem]
    exact ⟨fun ⟨g1, g2⟩ => g1.elim (fun e => absurd e g2) id, fun g => ⟨.inr g, fun e => h (e ▸ g)⟩⟩
theorem with_with {l : List Nat} (hl : RiseU l) (n : Nat) : withU (withU l n) n = withU l n := withU_there (withU_rise hl n) (withU_mem.2 (.inl rfl))
theorem with_comm {l : List Nat} (hl : RiseU l) (n m : Nat) : withU (withU l n) m = withU (withU l m) n :=
  rise_ext (withU_rise (withU_rise hl n) m) (withU_rise (withU_rise hl m) n) fun x => by
    simp only [withU_mem]
    constructor
    · rintro (h | h | h)
      · exact .inr (.inl h)
      · exact .inl h
      · exact .inr (.inr h)
    · rintro (h | h | h)
      · exact .inr (.inl h)
      · exact .inl h
      · exact .inr (.inr h)
theorem with_end {l : List Nat} {n : Nat} (h : ∀ x ∈ l, x < n) : withU l n = l ++ [n] := by
  unfold withU
  rw [List.filter_eq_self.2 (by intro a ha; simpa using h a ha), List.filter_eq_nil_iff.2 (by intro a ha; have := h a ha; simp; omega)]
theorem chkU1_ok : ∀ {l : List Nat} {h : Nat}, RiseU l → (∀ x ∈ l, h < x ∧ x ≤ 999) → chkU1 h l = 0
  | [], _, _, _ => rfl
  | a :: r, h, hr, ha => by
    obtain ⟨h1, h2⟩ := List.pairwise_cons.1 hr
    have h3 := ha a (List.mem_cons_self ..)
    unfold chkU1
    rw [if_neg (by omega), if_neg (by omega)]
    exact chkU1_ok h2 fun x hx => ⟨h1 x hx, (ha x (List.mem_cons_of_mem _ hx)).2⟩
theorem chkU_ok {l : List Nat} (h : RiseU l) (h1 : ∀ x ∈ l, 1 ≤ x ∧ x ≤ 999) (hl : l.length ≤ 40) : chkU l = 0 := by
  unfold chkU
  rw [if_neg (by omega)]
  exact chkU1_ok h fun x hx => ⟨(h1 x hx).1, (h1 x hx).2⟩
theorem chkU_big {l : List Nat} (h : 40 < l.length) : chkU l = 2 := by unfold chkU; rw [if_pos h]
/-- Rising numbers above one and up to another are few. -/
theorem rise_few : ∀ {l : List Nat} {a b : Nat}, RiseU l → (∀ x ∈ l, a < x ∧ x ≤ b) → a ≤ b → l.length ≤ b - a
  | [], _, _, _, _, _ => by simp
  | x :: r, a, b, h, h2, h3 => by
    obtain ⟨g1, g2⟩ := List.pairwise_cons.1 h
    have g3 := h2 x (List.mem_cons_self ..)
    have := rise_few g2 (a := x) (b := b) (fun y hy => ⟨g1 y hy, (h2 y (List.mem_cons_of_mem _ hy)).2⟩) g3.2
    rw [List.length_cons]
    omega
/-- One number more of law 7's, if it is a new one. -/
def addU (o : List Nat) (x : Nat) : List Nat := if 1 + x % 9 ∈ o then o else o ++ [1 + x % 9]
def stU (l : List Nat) (i : Nat) : List Nat := (l.take i).foldl addU []
theorem stU_step {l : List Nat} {i x : Nat} (h : l[i]? = some x) : stU l (i + 1) = addU (stU l i) x := by
  obtain ⟨hk, e⟩ := List.getElem?_eq_some_iff.1 h
  unfold stU
  rw [List.take_succ_eq_append_getElem hk, List.foldl_append, e]; rfl
theorem addU_mem {o : List Nat} {x m : Nat} : m ∈ addU o x ↔ m ∈ o ∨ m = 1 + x % 9 := by
  unfold addU
  split
  · rename_i h
    exact ⟨.inl, fun g => g.elim id (fun e => e ▸ h)⟩
  · simp
theorem addU_nodup {o : List Nat} {x : Nat} (h : o.Nodup) : (addU o x).Nodup := by
  unfold addU
  split
  · exact h
  · rename_i g
    refine List.nodup_append.2 ⟨h, by simp, fun a ha b hb => ?_⟩
    simp at hb
    subst hb
    exact fun e => g (e ▸ ha)
theorem foldU_mem : ∀ (l o : List Nat) (m : Nat), m ∈ l.foldl addU o ↔ m ∈ o ∨ ∃ x ∈ l, m = 1 + x % 9
  | [], o, m => by simp
  | x :: r, o, m => by
    rw [List.foldl_cons, foldU_mem r, addU_mem]
    constructor
    · rintro ((h | h) | ⟨y, h1, h2⟩)
      · exact .inl h
      · exact .inr ⟨x, List.mem_cons_self .., h⟩
      · exact .inr ⟨y, List.mem_cons_of_mem _ h1, h2⟩
    · rintro (h | ⟨y, h1, h2⟩)
      · exact .inl (.inl h)
      · rcases List.mem_cons.1 h1 with rfl | h1
        · exact .inl (.inr h2)
        · exact .inr ⟨y, h1, h2⟩
theorem foldU_nodup : ∀ (l o : List Nat), o.Nodup → (l.foldl addU o).Nodup
  | [], _, h => h
  | x :: r, o, h => by rw [List.foldl_cons]; exact foldU_nodup r _ (addU_nodup h)
/-- Unlike numbers from 1 to 9 are nine at most. -/
theorem nodup_few : ∀ (b : Nat) (l : List Nat), l.Nodup → (∀ x ∈ l, 1 ≤ x ∧ x ≤ b) → l.length ≤ b
  | 0, l, _, h => by
    cases l with
    | nil => simp
    | cons a r => have := h a (List.mem_cons_self ..); omega
  | b + 1, l, hn, h => by
    by_cases hb : b + 1 ∈ l
    · have h1 := nodup_few b (l.erase (b + 1)) (hn.erase _) fun x hx => by
        have hx' := (hn.mem_erase_iff).1 hx
        have := h x hx'.2
        omega
      rw [List.length_erase_of_mem hb] at h1
      omega
    · have := nodup_few b l hn fun x hx => by
        have := h x hx
        have hne : x ≠ b + 1 := fun e => hb (e ▸ hx)
        omega
      omega
theorem stU_mem {l : List Nat} {i m : Nat} : m ∈ stU l i ↔ ∃ x ∈ l.take i, m = 1 + x % 9 := by unfold stU; rw [foldU_mem]; simp
theorem stU_nodup (l : List Nat) (i : Nat) : (stU l i).Nodup := foldU_nodup _ _ List.nodup_nil
theorem stU_few (l : List Nat) (i : Nat) : (stU l i).length ≤ 9 := nodup_few 9 _ (stU_nodup l i) fun x hx => by
  obtain ⟨y, _, rfl⟩ := stU_mem.1 hx
  have : y % 9 < 9 := Nat.mod_lt _ (by omega)
  omega
/-- The entities that law 7 makes. -/
def mkU (l : List Nat) : List Nat := (List.range 10).filter (fun k => decide (k ∈ stU l l.length))
theorem mkU_rise (l : List Nat) : RiseU (mkU l) := (List.pairwise_lt_range (n := 10)).filter _
theorem mkU_mem {l : List Nat} {m : Nat} : m ∈ mkU l ↔ m ∈ stU l l.length := by
  unfold mkU
  simp only [List.mem_filter, List.mem_range, decide_eq_true_eq]
  constructor
  · exact fun h => h.2
  · intro h
    refine ⟨?_, h⟩
    obtain ⟨y, _, rfl⟩ := stU_mem.1 h
    have : y % 9 < 9 := Nat.mod_lt _ (by omega)
    omega
theorem mkU_small {l : List Nat} {m : Nat} (h : m ∈ mkU l) : 1 ≤ m ∧ m ≤ 9 := by
  obtain ⟨y, _, rfl⟩ := stU_mem.1 (mkU_mem.1 h)
  have : y % 9 < 9 := Nat.mod_lt _ (by omega)
  omega
theorem mkU_len (l : List Nat) : (mkU l).length ≤ 9 := rise_few (mkU_rise l) (a := 0) (b := 9) (fun x hx => by have := mkU_small hx; omega) (by omega)
/-- Sorted, of unlike numbers: rising. -/
theorem sorted_rise {l : List Nat} (h : l.Pairwise (fun a b => a ≤ b)) (hn : l.Nodup) : RiseU l := by
  induction l with
  | nil => exact List.Pairwise.nil
  | cons a r ih =>
    obtain ⟨h1, h2⟩ := List.pairwise_cons.1 h
    obtain ⟨h3, h4⟩ := List.nodup_cons.1 hn
    refine List.Pairwise.cons (fun b hb => ?_) (ih h2 h4)
    have := h1 b hb
    have hne : a ≠ b := fun e => h3 (e ▸ hb)
    omega
theorem sort_mk {l ys : List Nat} (hp : ys.Perm (stU l l.length)) (hs : ys.Pairwise (fun a b => a ≤ b)) : ys = mkU l :=
  rise_ext (sorted_rise hs (hp.nodup_iff.2 (stU_nodup _ _))) (mkU_rise l) fun x => by rw [mkU_mem]; exact hp.mem_iff
theorem sort_with {l ys : List Nat} {n : Nat} (hl : RiseU l) (hp : ys.Perm (outU l n ++ [n])) (hs : ys.Pairwise (fun a b => a ≤ b)) : ys = withU l n := by
  have hnd : (outU l n ++ [n]).Nodup := by
    refine List.nodup_append.2 ⟨(outU_rise hl n).imp (fun h => by omega), by simp, fun a ha b hb => ?_⟩
    simp at hb
    subst hb
    exact (outU_mem.1 ha).2
  refine rise_ext (sorted_rise hs (hp.nodup_iff.2 hnd)) (withU_rise hl n) fun x => ?_
  rw [hp.mem_iff, withU_mem, List.mem_append, outU_mem]
  simp only [List.mem_singleton]
  constructor
  · rintro (⟨h, _⟩ | h)
    · exact .inr h
    · exact .inl h
  · rintro (h | h)
    · exact .inr h
    · by_cases e : x = n
      · exact .inr e
      · exact .inl ⟨h, e⟩
theorem outU_step {u : List Nat} {k n x : Nat} (h : u[k]? = some x) : outU (u.take (k + 1)) n = if x = n then outU (u.take k) n else outU (u.take k) n ++ [x] := by
  obtain ⟨hk, e⟩ := List.getElem?_eq_some_iff.1 h
  unfold outU
  rw [List.take_succ_eq_append_getElem hk, List.filter_append, e]
  by_cases hp : x = n
  · rw [if_pos hp, List.filter_cons_of_neg (by simpa using hp)]; simp
  · rw [if_neg hp, List.filter_cons_of_pos (by simpa using hp)]; simp
end Go.Proofs.YtmbfnbbgphpcgaaGreatDoor

/- Notes and line feeds about an op's end change nothing but where ops stand. -/
import Derived.Test.YtffhnedladiaoaaGreatDoorPsy
import Derived.Test.YtffhnedladiaoaaGreatDoorMsc
import Derived.Lib.Replace
import Derived.Lib.CountLaws
namespace Go.Proofs.YtffhnedladiaoaaGreatDoor
open Go.RowKit Go.Lib
set_option linter.unusedVariables false
set_option linter.unusedSimpArgs false
theorem goes_note (i : Nat) {s : List UInt8} (hs : ∀ c ∈ s, notNl c = true) (r : List UInt8) : Goes i (35 :: (s ++ 10 :: r)) (i + (s.length + 1)) (10 :: r) [] := fun f g hf hg => by
  have e : (35 :: (s ++ 10 :: r)).takeWhile notNl = 35 :: s := tw_all (p := notNl) (x := 10) (by decide) r (35 :: s) (by
    intro c hc
    rcases List.mem_cons.1 hc with rfl | hc
    · decide
    · exact hs c hc)
  cases f with
  | zero => exact absurd hf (by simp)
  | succ f =>
    have e2 : (35 :: (s ++ 10 :: r)).drop (35 :: s).length = 10 :: r := by rw [← List.cons_append, List.drop_left]
    rw [spl_cons, if_neg (by decide), if_pos rfl, e, behind_nil, e2]
    exact spl_fuel f g _ _ (by simp at hf ⊢; omega) hg
/-- A note of one's own, and its line feed. -/
def noteT (n : List UInt8) : List UInt8 := 35 :: (n ++ [10])
theorem goes_noteT (i : Nat) {n : List UInt8} (hn : ∀ c ∈ n, notNl c = true) (r : List UInt8) : Goes i (noteT n ++ r) (i + (noteT n).length) r [] := by
  have e : noteT n ++ r = 35 :: (n ++ 10 :: r) := by simp [noteT]
  rw [e]
  exact ((goes_note i hn r).trans (goes_blank _ (.inr rfl) r)).at_ (by simp [noteT]; omega)
/-- What stands in the place of an op's end. -/
def endT (n : List UInt8) : List UInt8 := 32 :: (noteT n ++ [59, 10, 10])
noncomputable def bodyO (o : Opp) : List UInt8 := (textO o).dropLast
noncomputable def nPrint (n : List UInt8) (os : List Opp) : List UInt8 := os.flatMap fun o => bodyO o ++ endT n
theorem nprint_goes {n : List UInt8} (hn : ∀ c ∈ n, notNl c = true) : ∀ (os : List Opp) (i : Nat), (∀ o ∈ os, TextB o) → ∃ ts ps, Goes i (nPrint n os) (i + (nPrint n os).length) [] ts ∧ List.map Prod.fst ps = os ∧ ∀ k, os.length ≤ k → ∀ l, isT 0 [] l = true → opsR k (ts ++ l) = .ok ps
  | [], i, _ => ⟨[], [], goes_refl i _, rfl, fun k _ l hl => by cases k <;> simp [opsR, hl]⟩
  | o :: os, i, h => by
    obtain ⟨b, hb, ho⟩ := h o (by simp)
    have eb : bodyO o = b := by unfold bodyO; rw [hb]; simp
    have e : nPrint n (o :: os) = b ++ 32 :: (noteT n ++ 59 :: 10 :: 10 :: nPrint n os) := by simp [nPrint, eb, endT]
    have hl : (nPrint n (o :: os)).length = b.length + 1 + (noteT n).length + 3 + (nPrint n os).length := by rw [e]; simp; omega
    obtain ⟨ts, g1, hr⟩ := ho i 32 (noteT n ++ 59 :: 10 :: 10 :: nPrint n os) (by decide)
    obtain ⟨us, ps, g2, hp, hr2⟩ := nprint_goes hn os (i + b.length + 1 + (noteT n).length + 1 + 1 + 1) (fun x hx => h x (by simp [hx]))
    have g := g1.trans ((goes_blank _ (.inl rfl) _).trans ((goes_noteT _ hn (59 :: 10 :: 10 :: nPrint n os)).trans ((goes_sign _ (.inr rfl) (10 :: 10 :: nPrint n os)).trans ((goes_blank _ (.inr rfl) (10 :: nPrint n os)).trans ((goes_blank _ (.inr rfl) (nPrint n os)).trans g2)))))
    rw [hl, e]
    refine ⟨_, (o, i) :: ps, g.at_ (by omega), by rw [List.map_cons, hp], fun k hk l hl => ?_⟩
    cases k with
    | zero => simp at hk
    | succ k =>
      have hx := hr2 k (by simp at hk; omega) l hl
      simp only [List.nil_append, List.append_assoc, List.cons_append]
      rw [hr k _ (us ++ l), hx]
      rfl
/-- With notes the same ops are parsed. -/
theorem prs_notes {n : List UInt8} (hn : ∀ c ∈ n, notNl c = true) {os : List Opp} (h : ∀ o ∈ os, FitO o) (hk : os.length ≤ 100) (hl : (noteT n ++ nPrint n os).length ≤ 65536) :
    ∃ ps, prsT (noteT n ++ nPrint n os) = (ps, 0, 0) ∧ List.map Prod.fst ps = os := by
  obtain ⟨ts, ps, g, hp, hr⟩ := nprint_goes hn os (noteT n).length (fun o ho => text_b (h o ho))
  have g0 := (goes_noteT 0 hn (nPrint n os)).trans (g.at_ rfl |> fun g => (by rw [Nat.zero_add]; exact g : Goes (0 + (noteT n).length) (nPrint n os) ((noteT n).length + (nPrint n os).length) [] ts))
  have hs := g0 ((noteT n ++ nPrint n os).length + 1) 1 (by omega) (by simp)
  have e1 : splT (noteT n ++ nPrint n os) = (ts ++ [⟨0, [], 0, 0, (noteT n).length + (nPrint n os).length⟩], 0, 0) := by
    unfold splT splitF
    rw [if_neg (by omega), hs]
    rfl
  refine ⟨ps, ?_, hp⟩
  unfold prsT
  rw [e1, if_neg (by simp), hr 100 hk _ (by simp [isT])]
theorem posO_fst : ∀ (os : List Opp) (i : Nat), (posO i os).map Prod.fst = os
  | [], _ => rfl
  | o :: os, i => by simp [posO, posO_fst os]
/-- An instance that no sign ahead begins. -/
theorem index_end (b : List UInt8) (hb : b.count 59 = 0) (r : List UInt8) : Lib.index (b ++ 59 :: 10 :: r) [59, 10] = b.length := by
  refine Lib.index_first (by simp) ?_ fun j hj => ?_
  · unfold Lib.occAt
    rw [List.drop_left]
    simp
  · unfold Lib.occAt
    rw [List.drop_append_of_le_length (by omega)]
    obtain ⟨c, hc⟩ : ∃ c, b[j]? = some c := ⟨b[j], List.getElem?_eq_getElem hj⟩
    have hm : c ∈ b := List.mem_of_getElem? hc
    have h59 : c ≠ 59 := fun e => by
      have := List.count_eq_zero.1 hb
      exact this (e ▸ hm)
    rw [List.drop_eq_getElem_cons hj]
    have : b[j] = c := by rw [List.getElem?_eq_getElem hj] at hc; exact Option.some.inj hc
    rw [this, List.cons_append]
    show ((59 : UInt8) == c && _) = false
    rw [beq_eq_false_iff_ne.2 (Ne.symm h59), Bool.false_and]
theorem body_of {o : Opp} (h : TextB o) : textO o = bodyO o ++ [59] := by
  obtain ⟨b, hb, _⟩ := h
  unfold bodyO
  rw [hb]
  simp
theorem body_count {o : Opp} (h : TextB o) (hc : (textO o).count 59 = 1) : (bodyO o).count 59 = 0 := by
  rw [body_of h, List.count_append] at hc
  simpa using hc
theorem replaceK_print (x : List UInt8) : ∀ os : List Opp, (∀ o ∈ os, TextB o ∧ (textO o).count 59 = 1) → Lib.count (printO os) [59, 10] = os.length ∧ Lib.replaceK [59, 10] x os.length (printO os) = os.flatMap fun o => bodyO o ++ x
  | [], _ => ⟨by decide, rfl⟩
  | o :: os, h => by
    obtain ⟨h1, h2⟩ := h o (by simp)
    obtain ⟨i1, i2⟩ := replaceK_print x os (fun y hy => h y (by simp [hy]))
    have e : printO (o :: os) = bodyO o ++ 59 :: 10 :: printO os := by simp [printO, body_of h1]
    have hi := index_end (bodyO o) (body_count h1 h2) (printO os)
    have hd : (bodyO o ++ 59 :: 10 :: printO os).drop ((bodyO o).length + [(59 : UInt8), 10].length) = printO os := by
      rw [show bodyO o ++ 59 :: 10 :: printO os = (bodyO o ++ [59, 10]) ++ printO os by simp]
      rw [show (bodyO o).length + [(59 : UInt8), 10].length = (bodyO o ++ [59, 10]).length by simp]
      exact List.drop_left
    refine ⟨?_, ?_⟩
    · rw [e, Lib.count_hit (sub := [59, 10]) (by simp) hi, hd, i1]
      simp; omega
    · rw [e, List.length_cons, Lib.replaceK_hit _ _ _ _ _ hi, hd, i2]
      simp
theorem replace_print {x : List UInt8} (hx : x ≠ [59, 10]) {os : List Opp} (h : ∀ o ∈ os, TextB o ∧ (textO o).count 59 = 1) : Lib.replaceAll (printO os) [59, 10] x = os.flatMap fun o => bodyO o ++ x := by
  obtain ⟨h1, h2⟩ := replaceK_print x os h
  unfold Lib.replaceAll Lib.replace Lib.replaceNum
  rw [if_neg (by simpa using fun e => hx e.symm), if_pos (Or.inl (by omega)), h1, h2]
end Go.Proofs.YtffhnedladiaoaaGreatDoor

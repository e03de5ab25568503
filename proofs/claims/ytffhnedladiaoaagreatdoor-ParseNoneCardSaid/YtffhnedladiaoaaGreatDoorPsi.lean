/- Blanks, line feeds and notes have no ops; a word that is no op's. -/
import Derived.Test.YtffhnedladiaoaaGreatDoorPsh
namespace Go.Proofs.YtffhnedladiaoaaGreatDoor
open Go.RowKit Go.Lib
set_option linter.unusedVariables false
set_option linter.unusedSimpArgs false
/-- What lies between. -/
def gapT (n : List UInt8) (k : Nat) : List UInt8 := match k % 3 with
  | 0 => [32]
  | 1 => [10]
  | _ => noteT n
def gapsT (n : List UInt8) (l : List Nat) : List UInt8 := l.flatMap (gapT n)
theorem goes_gaps {n : List UInt8} (hn : ∀ c ∈ n, notNl c = true) : ∀ (l : List Nat) (i : Nat) (r : List UInt8), Goes i (gapsT n l ++ r) (i + (gapsT n l).length) r []
  | [], i, r => goes_refl i r
  | k :: l, i, r => by
    have e : gapsT n (k :: l) ++ r = gapT n k ++ (gapsT n l ++ r) := by simp [gapsT]
    have hl : (gapsT n (k :: l)).length = (gapT n k).length + (gapsT n l).length := by simp [gapsT]
    rw [e, hl]
    have ih := goes_gaps hn l (i + (gapT n k).length) r
    have h0 : k % 3 = 0 ∨ k % 3 = 1 ∨ k % 3 = 2 := by omega
    have h : Goes i (gapT n k ++ (gapsT n l ++ r)) (i + (gapT n k).length) (gapsT n l ++ r) [] := by
      unfold gapT
      rcases h0 with h0 | h0 | h0 <;> rw [h0]
      · exact goes_blank i (.inl rfl) _
      · exact goes_blank i (.inr rfl) _
      · exact goes_noteT i hn _
    exact (h.trans ih).at_ (by omega)
theorem prs_gaps {n : List UInt8} (hn : ∀ c ∈ n, notNl c = true) (l : List Nat) (hl : (gapsT n l).length ≤ 65536) : prsT (gapsT n l) = ([], 0, 0) := by
  have g := goes_gaps hn l 0 []
  rw [List.append_nil, Nat.zero_add] at g
  have hs := g ((gapsT n l).length + 1) 1 (by omega) (by simp)
  have e1 : splT (gapsT n l) = ([⟨0, [], 0, 0, (gapsT n l).length⟩], 0, 0) := by
    unfold splT splitF
    rw [if_neg (by omega), hs]
    rfl
  unfold prsT
  rw [e1, if_neg (by simp)]
  rfl
theorem one_end {w : List UInt8} (hw : w ≠ []) (hl : ∀ c ∈ w, lowB c = true) : oneF w = .ok (⟨1, w, 0, 0, 0⟩, w.length) := by
  unfold oneF
  have e : w.takeWhile lowB = w := tw_self w hl
  rw [e, if_pos hw]
theorem prs_word {n : List UInt8} (hn : ∀ c ∈ n, notNl c = true) (l : List Nat) {w : List UInt8} (hw : ∀ c ∈ w, lowB c = true) (hl : (gapsT n l ++ 120 :: w).length ≤ 65536) :
    prsT (gapsT n l ++ 120 :: w) = ([], (gapsT n l).length, 17) := by
  have g := goes_gaps hn l 0 (120 :: w)
  rw [Nat.zero_add] at g
  have hw' : ∀ c ∈ (120 :: w), lowB c = true := by
    intro c hc
    rcases List.mem_cons.1 hc with rfl | hc
    · decide
    · exact hw c hc
  have h1 := goes_tok (gapsT n l).length (c := 120) (r := w) (by decide) (by decide) (one_end (by simp) hw')
  rw [List.drop_length] at h1
  have hs := (g.trans h1) ((gapsT n l ++ 120 :: w).length + 1) 1 (by omega) (by simp)
  have e1 : splT (gapsT n l ++ 120 :: w) = ([⟨1, 120 :: w, 0, 0, (gapsT n l).length⟩, ⟨0, [], 0, 0, (gapsT n l).length + (120 :: w).length⟩], 0, 0) := by
    unfold splT splitF
    rw [if_neg (by omega), hs]
    rfl
  have e2 : kindT [⟨1, 120 :: w, 0, 0, (gapsT n l).length⟩, ⟨0, [], 0, 0, (gapsT n l).length + (120 :: w).length⟩] = none := by
    unfold kindT
    rw [List.find?_eq_none]
    intro k hk
    have h8 : k < 8 := by simpa using hk
    have hf : ∀ k : Fin 8, ∃ c r, wordK k.val = c :: r ∧ c ≠ 120 := by
      intro k
      match k with
      | 0 => exact ⟨_, _, rfl, by decide⟩
      | 1 => exact ⟨_, _, rfl, by decide⟩
      | 2 => exact ⟨_, _, rfl, by decide⟩
      | 3 => exact ⟨_, _, rfl, by decide⟩
      | 4 => exact ⟨_, _, rfl, by decide⟩
      | 5 => exact ⟨_, _, rfl, by decide⟩
      | 6 => exact ⟨_, _, rfl, by decide⟩
      | 7 => exact ⟨_, _, rfl, by decide⟩
    obtain ⟨c, r, h, hc⟩ := hf ⟨k, h8⟩
    simp only at h
    unfold isT
    rw [h]
    simp [hc, Ne.symm hc]
  unfold prsT
  rw [e1, if_neg (by simp)]
  have e3 : opsR 100 [⟨1, 120 :: w, 0, 0, (gapsT n l).length⟩, ⟨0, [], 0, 0, (gapsT n l).length + (120 :: w).length⟩] = .error ((gapsT n l).length, 17) := by
    unfold opsR
    rw [if_neg (by simp [isT]), e2]
    rfl
  rw [e3]
end Go.Proofs.YtffhnedladiaoaaGreatDoor

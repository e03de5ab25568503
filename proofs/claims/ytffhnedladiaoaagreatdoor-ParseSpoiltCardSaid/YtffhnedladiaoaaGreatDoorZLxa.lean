/- Scripts in plain words: a text's tokens. -/
import Derived.Test.YtffhnedladiaoaaGreatDoorZKall
namespace Go.Proofs.YtffhnedladiaoaaGreatDoor
open Go.RowKit
set_option linter.unusedVariables false
set_option linter.unusedSimpArgs false
/-- A token: what it is, its bytes, its number, its day, where it begins. -/
structure Tk where
  kind : Nat
  text : List UInt8
  num : Int
  day : Int
  at_ : Nat
/-- Small letters; digits; digits and the sign between them. -/
def lowB (b : UInt8) : Bool := decide (97 ≤ b) && decide (b ≤ 122)
def digB (b : UInt8) : Bool := decide (48 ≤ b) && decide (b ≤ 57)
def dimB (b : UInt8) : Bool := digB b || b == 45
def notNl (b : UInt8) : Bool := b != 10
def inQ (b : UInt8) : Bool := b != 10 && b != 34
open Classical in
/-- The day that a text tells. -/
noncomputable def dayOf (l : List UInt8) : Option Int := if h : ∃ y m d, RightD y m d ∧ l = dateL y m d then some (numD h.choose h.choose_spec.choose h.choose_spec.choose_spec.choose) else none
/-- The number that digits tell. -/
def numL (l : List UInt8) : Int := l.foldl (fun x b => x * 10 + ((b.toNat : Int) - 48)) 0
/-- A text's first token, and how many bytes; or why there is none. -/
noncomputable def oneF (s : List UInt8) : Except Int (Tk × Nat) :=
  if s.takeWhile lowB ≠ [] then .ok (⟨1, s.takeWhile lowB, 0, 0, 0⟩, (s.takeWhile lowB).length)
  else if s.takeWhile dimB ≠ [] ∧ s.head? ≠ some 45 then
    if (45 : UInt8) ∈ s.takeWhile dimB then
      match dayOf (s.takeWhile dimB) with
      | none => .error 13
      | some d => .ok (⟨3, s.takeWhile dimB, 0, d, 0⟩, (s.takeWhile dimB).length)
    else if 7 < (s.takeWhile dimB).length ∨ (1 < (s.takeWhile dimB).length ∧ s.head? = some 48) then .error 5
    else .ok (⟨2, s.takeWhile dimB, numL (s.takeWhile dimB), 0, 0⟩, (s.takeWhile dimB).length)
  else match s with
    | [] => .error 1
    | c :: r =>
      if c = 44 ∨ c = 59 then .ok (⟨5, [c], 0, 0, 0⟩, 1)
      else if c = 34 then
        if (r.drop (r.takeWhile inQ).length).head? = some 34 then .ok (⟨4, r.takeWhile inQ, 0, 0, 0⟩, (r.takeWhile inQ).length + 2) else .error 3
      else .error 1
/-- A text's tokens, from a place on; or where it goes wrong, and why. -/
noncomputable def spl : Nat → Nat → List UInt8 → Except (Nat × Int) (List Tk)
  | 0, i, _ => .ok [⟨0, [], 0, 0, i⟩]
  | _ + 1, i, [] => .ok [⟨0, [], 0, 0, i⟩]
  | f + 1, i, c :: r =>
    if c = 32 ∨ c = 10 then spl f (i + 1) r
    else if c = 35 then spl f (i + ((c :: r).takeWhile notNl).length) ((c :: r).drop ((c :: r).takeWhile notNl).length)
    else match oneF (c :: r) with
      | .error e => .error (i, e)
      | .ok (t, n) => match spl f (i + n) ((c :: r).drop n) with
        | .error e => .error e
        | .ok ts => .ok ({ t with at_ := i } :: ts)
theorem spl_cons (f i : Nat) (c : UInt8) (r : List UInt8) : spl (f + 1) i (c :: r) = if c = 32 ∨ c = 10 then spl f (i + 1) r
    else if c = 35 then spl f (i + ((c :: r).takeWhile notNl).length) ((c :: r).drop ((c :: r).takeWhile notNl).length)
    else match oneF (c :: r) with
      | .error e => .error (i, e)
      | .ok (t, n) => match spl f (i + n) ((c :: r).drop n) with
        | .error e => .error e
        | .ok ts => .ok ({ t with at_ := i } :: ts) := rfl
noncomputable def splitF (s : List UInt8) : Except (Nat × Int) (List Tk) := spl (s.length + 1) 0 s
/-- Split: above so many bytes ErrSize. -/
noncomputable def splT (s : List UInt8) : List Tk × Nat × Int :=
  if 65536 < s.length then ([], 0, 2) else match splitF s with
    | .error e => ([], e.1, e.2)
    | .ok ts => (ts, 0, 0)
theorem tw_len {p : UInt8 → Bool} (l : List UInt8) : (l.takeWhile p).length ≤ l.length := (List.takeWhile_sublist p).length_le
theorem oneF_pos {s : List UInt8} {t : Tk} {n : Nat} (h : oneF s = .ok (t, n)) : 0 < n ∧ n ≤ s.length := by
  unfold oneF at h
  split at h
  · rename_i h1
    cases h
    exact ⟨List.length_pos_iff.2 h1, tw_len _⟩
  · split at h
    · rename_i h2
      split at h
      · split at h
        · cases h
        · cases h; exact ⟨List.length_pos_iff.2 h2.1, tw_len _⟩
      · split at h
        · cases h
        · cases h; exact ⟨List.length_pos_iff.2 h2.1, tw_len _⟩
    · split at h
      · cases h
      · rename_i c r _ _
        split at h
        · cases h; exact ⟨by omega, by simp⟩
        · split at h
          · split at h
            · rename_i h5
              cases h
              refine ⟨by omega, ?_⟩
              have : (r.takeWhile inQ).length < r.length := by
                rcases Nat.lt_or_ge (r.takeWhile inQ).length r.length with h6 | h6
                · exact h6
                · rw [List.drop_eq_nil_of_le h6] at h5; cases h5
              simp; omega
            · cases h
          · cases h
/-- How many rounds are left over makes no difference. -/
theorem spl_fuel : ∀ (f g i : Nat) (s : List UInt8), s.length < f → s.length < g → spl f i s = spl g i s
  | 0, _, _, _, h, _ => absurd h (Nat.not_lt_zero _)
  | _ + 1, 0, _, _, _, h => absurd h (Nat.not_lt_zero _)
  | f + 1, g + 1, i, [], _, _ => rfl
  | f + 1, g + 1, i, c :: r, h1, h2 => by
    simp only [List.length_cons] at h1 h2
    unfold spl
    split
    · exact spl_fuel f g _ r (by omega) (by omega)
    · rename_i hb
      split
      · rename_i hc
        have hp : 0 < ((c :: r).takeWhile notNl).length := by subst hc; simp [List.takeWhile_cons, notNl]
        exact spl_fuel f g _ _ (by rw [List.length_drop]; simp only [List.length_cons]; omega) (by rw [List.length_drop]; simp only [List.length_cons]; omega)
      · cases h : oneF (c :: r) with
        | error e => rfl
        | ok p =>
          obtain ⟨t, n⟩ := p
          have hp := oneF_pos h
          simp only [List.length_cons] at hp
          dsimp only
          rw [spl_fuel f g (i + n) ((c :: r).drop n) (by rw [List.length_drop]; simp only [List.length_cons]; omega) (by rw [List.length_drop]; simp only [List.length_cons]; omega)]
end Go.Proofs.YtffhnedladiaoaaGreatDoor

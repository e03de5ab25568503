/- A text's tokens, step by step. -/
import Derived.Test.YtffhnedladiaoaaGreatDoorZPsa
import Derived.Test.YtffhnedladiaoaaGreatDoorZLxb
import Derived.Test.YtffhnedladiaoaaGreatDoorZMsb
namespace Go.Proofs.YtffhnedladiaoaaGreatDoor
open Go.RowKit Go.Lib
set_option linter.unusedVariables false
set_option linter.unusedSimpArgs false
def behind (ts : List Tk) : Except (Nat × Int) (List Tk) → Except (Nat × Int) (List Tk)
  | .error e => .error e
  | .ok us => .ok (ts ++ us)
/-- The tokens of s, from place i on, are ts and then those of r, from i' on. -/
def Goes (i : Nat) (s : List UInt8) (i' : Nat) (r : List UInt8) (ts : List Tk) : Prop := ∀ f g, s.length < f → r.length < g → spl f i s = behind ts (spl g i' r)
theorem behind_app (ts us : List Tk) (x : Except (Nat × Int) (List Tk)) : behind ts (behind us x) = behind (ts ++ us) x := by cases x <;> simp [behind]
theorem Goes.trans {i j k : Nat} {s r q : List UInt8} {ts us : List Tk} (h : Goes i s j r ts) (h' : Goes j r k q us) : Goes i s k q (ts ++ us) := fun f g hf hg => by
  rw [h f (r.length + 1) hf (Nat.lt_succ_self _), h' (r.length + 1) g (Nat.lt_succ_self _) hg, behind_app]
theorem goes_tok (i : Nat) {c : UInt8} {r : List UInt8} {t : Tk} {n : Nat} (h1 : ¬ (c = 32 ∨ c = 10)) (h2 : c ≠ 35) (h : oneF (c :: r) = .ok (t, n)) : Goes i (c :: r) (i + n) ((c :: r).drop n) [{ t with at_ := i }] := fun f g hf hg => by
  have hn := oneF_pos h
  cases f with
  | zero => exact absurd hf (by simp)
  | succ f =>
    rw [spl_cons, if_neg h1, if_neg h2, h]
    simp only
    rw [spl_fuel f g (i + n) ((c :: r).drop n) (by rw [List.length_drop]; simp at hf ⊢; omega) hg]
    cases spl g (i + n) ((c :: r).drop n) <;> rfl
theorem goes_sign (i : Nat) {c : UInt8} (hc : c = 44 ∨ c = 59) (r : List UInt8) : Goes i (c :: r) (i + 1) r [⟨5, [c], 0, 0, i⟩] := by
  have h0 : oneF (c :: r) = .ok (⟨5, [c], 0, 0, 0⟩, 1) := by
    have hl : lowB c = false := by rcases hc with rfl | rfl <;> decide
    have hm : dimB c = false := by rcases hc with rfl | rfl <;> decide
    unfold oneF
    rw [List.takeWhile_cons_of_neg (by simp [hl]), if_neg (by simp), List.takeWhile_cons_of_neg (by simp [hm]), if_neg (by simp)]
    simp only
    rw [if_pos hc]
  have h := goes_tok i (c := c) (r := r) (by rcases hc with rfl | rfl <;> decide) (by rcases hc with rfl | rfl <;> decide) h0
  exact h
end Go.Proofs.YtffhnedladiaoaaGreatDoor
/- Ops' texts have tokens that are read as the ops: the kinds of two codes, and names. -/
namespace Go.Proofs.YtffhnedladiaoaaGreatDoor
open Go.RowKit Go.Lib
set_option linter.unusedVariables false
set_option linter.unusedSimpArgs false
theorem Goes.at_ {i j k : Nat} {s r : List UInt8} {ts : List Tk} (h : Goes i s j r ts) (e : j = k) : Goes i s k r ts := e ▸ h
/-- What behind an op is read. -/
def moreO (p : Opp × Nat) : Except (Nat × Int) (List (Opp × Nat)) → Except (Nat × Int) (List (Opp × Nat))
  | .error e => .error e
  | .ok os => .ok (p :: os)
/-- An op's text has tokens that are read as it. -/
def TextR (o : Opp) : Prop := ∀ i r, ∃ ts, Goes i (textO o ++ r) (i + (textO o).length) r ts ∧ ∀ n l, opsR (n + 1) (ts ++ l) = moreO (o, i) (opsR n l)
/-- Likewise, its end being wherever it is. -/
def TextB (o : Opp) : Prop := ∃ b, textO o = b ++ [59] ∧ ∀ i d r, dimB d = false → ∃ ts, Goes i (b ++ d :: r) (i + b.length) (d :: r) ts ∧ ∀ n j l, opsR (n + 1) (ts ++ ⟨5, [59], 0, 0, j⟩ :: l) = moreO (o, i) (opsR n l)
theorem TextB.text {o : Opp} (h : TextB o) : TextR o := by
  obtain ⟨b, hb, h⟩ := h
  intro i r
  obtain ⟨ts, g, hr⟩ := h i 59 r (by decide)
  have e : textO o ++ r = b ++ 59 :: r := by rw [hb]; simp
  have hl : (textO o).length = b.length + 1 := by rw [hb]; simp
  rw [e, hl]
  refine ⟨ts ++ [⟨5, [59], 0, 0, i + b.length⟩], (g.trans (goes_sign _ (.inr rfl) r)).at_ (by omega), fun n l => ?_⟩
  rw [List.append_assoc]
  exact hr n _ l
end Go.Proofs.YtffhnedladiaoaaGreatDoor
/- Ops' texts have tokens that are read as the ops: names, calendars, splits. -/
namespace Go.Proofs.YtffhnedladiaoaaGreatDoor
open Go.RowKit Go.Lib
set_option linter.unusedVariables false
set_option linter.unusedSimpArgs false
end Go.Proofs.YtffhnedladiaoaaGreatDoor
/- Ops' texts have tokens that are read as the ops: splits; all kinds; what is printed is parsed. -/
namespace Go.Proofs.YtffhnedladiaoaaGreatDoor
open Go.RowKit Go.Lib
set_option linter.unusedVariables false
set_option linter.unusedSimpArgs false
end Go.Proofs.YtffhnedladiaoaaGreatDoor
/- What is printed of ops is parsed as they, where they stand. -/
namespace Go.Proofs.YtffhnedladiaoaaGreatDoor
open Go.RowKit Go.Lib
set_option linter.unusedVariables false
set_option linter.unusedSimpArgs false
theorem dec_len7 {n : Nat} (h : n < 10000000) : (decDigits n).length ≤ 7 := by
  have key : ∀ k n, n < 10 ^ (k + 1) → (decDigits n).length ≤ k + 1 := by
    intro k
    induction k with
    | zero => intro n hn; rw [decDigits, dif_pos (by simpa using hn)]; simp
    | succ k ih =>
      intro n hn
      rw [decDigits]
      split
      · simp
      · have := ih (n / 10) (by rw [Nat.div_lt_iff_lt_mul (by omega)]; rw [Nat.pow_succ] at hn; exact hn)
        simp
        omega
  exact key 6 n (by simpa using h)
/-- An op that chapter 14 can answer. -/
structure FitO (o : Opp) : Prop where
  ok : OkO o
  frm : o.kind ≠ 7 → 1 ≤ o.frm ∧ o.frm ≤ if o.kind = 5 ∨ o.kind = 6 then 999 else 999999
  tgt : o.kind ≠ 1 → o.kind ≠ 4 → o.kind ≠ 7 → (if o.kind = 2 then 0 else 1) ≤ o.to ∧ o.to ≤ if o.kind = 5 ∨ o.kind = 6 then 999 else 999999
  name : ∀ c ∈ o.name, inQ c = true
  parts : o.parts.length ≤ 8 ∧ ∀ p ∈ o.parts, (1 ≤ p.1 ∧ p.1 ≤ 999999) ∧ (1 ≤ p.2 ∧ p.2 ≤ 1000000)
end Go.Proofs.YtffhnedladiaoaaGreatDoor

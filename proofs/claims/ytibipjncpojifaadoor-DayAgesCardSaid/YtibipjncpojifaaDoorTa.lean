/- Plain facts on an amount's text: a minus, the whole hundreds, a point, two digits. -/
import Derived.Lib.ItoaNum
import Derived.Lib.ItoaLen
import Derived.WalkKit
namespace Go.Proofs.YtibipjncpojifaaDoor
open Go.Lib Go.RowKit
set_option linter.unusedVariables false
set_option linter.unusedSimpArgs false
/-- Two digits. -/
def two (c : Nat) : List UInt8 := [UInt8.ofNat (48 + c / 10), UInt8.ofNat (48 + c % 10)]
/-- An amount's text. -/
def textL (n : Int) : List UInt8 := (if n < 0 then [45] else []) ++ (Lib.decDigits (n.natAbs / 100) ++ 46 :: two (n.natAbs % 100))
theorem decDigits_ten {u : Nat} (h : ¬ u < 10) : Lib.decDigits u = Lib.decDigits (u / 10) ++ [UInt8.ofNat (48 + u % 10)] := by
  rw [Lib.decDigits]; simp [h]
theorem hundred_two (c : Nat) (h : c < 100) : Lib.decDigits (100 + c) = 49 :: two c := by
  rw [decDigits_ten (by omega), decDigits_ten (by omega), Lib.decDigits_one (by omega)]
  have e1 : (100 + c) / 10 / 10 = 1 := by omega
  have e2 : (100 + c) / 10 % 10 = c / 10 := by omega
  have e3 : (100 + c) % 10 = c % 10 := by omega
  rw [e1, e2, e3]
  rfl
theorem textL_neg {n : Int} (h : n < 0) : textL n = 45 :: (Lib.decDigits (n.natAbs / 100) ++ 46 :: two (n.natAbs % 100)) := by unfold textL; rw [if_pos h]; rfl
theorem textL_pos {n : Int} (h : ¬ n < 0) : textL n = Lib.decDigits (n.natAbs / 100) ++ 46 :: two (n.natAbs % 100) := by unfold textL; rw [if_neg h]; rfl
theorem bytes_app (a b : List UInt8) : (⟨a.toArray⟩ : ByteArray) ++ (⟨b.toArray⟩ : ByteArray) = ⟨(a ++ b).toArray⟩ := by
  apply ByteArray.ext
  simp
theorem bytes_eq (a b : List UInt8) : ((⟨a.toArray⟩ : ByteArray) = ⟨b.toArray⟩) ↔ a = b := by
  constructor
  · intro h; have := congrArg (fun x => x.data.toList) h; simpa using this
  · rintro rfl; rfl
/-- What the digits of a text make, whatever stands between them. -/
def digs (z : Nat) : List UInt8 → Nat
  | [] => z
  | b :: l => digs (if 48 ≤ b.toNat ∧ b.toNat ≤ 57 then (z * 10 + (b.toNat - 48)) % 18446744073709551616 else z) l
theorem digs_app (z : Nat) (a b : List UInt8) : digs z (a ++ b) = digs (digs z a) b := by
  induction a generalizing z with
  | nil => rfl
  | cons x a ih => simp only [List.cons_append, digs]; exact ih _
/-- The amount of which a text may be the text. -/
def guessL (l : List UInt8) : Int :=
  let n := wrap64 (digs 0 l)
  if l.head? = some 45 then wrap64 (-n) else n
theorem of_digit (d : Nat) (h : d < 10) : (UInt8.ofNat (48 + d)).toNat = 48 + d := by
  rw [UInt8.toNat_ofNat']; omega
theorem digs_digit (z d : Nat) (h : d < 10) (l : List UInt8) : digs z (UInt8.ofNat (48 + d) :: l) = digs ((z * 10 + d) % 18446744073709551616) l := by
  have e := of_digit d h
  simp only [digs]
  rw [if_pos (by omega), e]
  congr 3; omega
theorem digs_dec : ∀ (u z : Nat), digs z (Lib.decDigits u) = (if z = 0 then u % 18446744073709551616 else digs z (Lib.decDigits u)) := by
  intro u
  induction u using Nat.strongRecOn with
  | _ u ih =>
    intro z
    by_cases hz : z = 0
    · subst hz
      rw [if_pos rfl]
      by_cases h : u < 10
      · rw [Lib.decDigits_one h, digs_digit 0 u h]; simp [digs]
      · rw [decDigits_ten h, digs_app, ih (u / 10) (by omega) 0, if_pos rfl, digs_digit _ _ (by omega)]
        simp only [digs]; omega
    · rw [if_neg hz]
theorem digs_dec0 (u : Nat) : digs 0 (Lib.decDigits u) = u % 18446744073709551616 := by rw [digs_dec, if_pos rfl]
theorem digs_text (u : Nat) : digs 0 (Lib.decDigits (u / 100) ++ 46 :: two (u % 100)) = u % 18446744073709551616 := by
  rw [digs_app, digs_dec0]
  have e : digs (u / 100 % 18446744073709551616) (46 :: two (u % 100)) = digs (u / 100 % 18446744073709551616) (two (u % 100)) := rfl
  rw [e]
  unfold two
  rw [digs_digit _ _ (by omega), digs_digit _ _ (by omega)]
  simp only [digs]; omega
theorem dec_head (u : Nat) : ∃ b l, Lib.decDigits u = b :: l ∧ 48 ≤ b.toNat ∧ b.toNat ≤ 57 := by
  induction u using Nat.strongRecOn with
  | _ u ih =>
    by_cases h : u < 10
    · exact ⟨_, _, Lib.decDigits_one h, by rw [of_digit u h]; omega, by rw [of_digit u h]; omega⟩
    · obtain ⟨b, l, e, h1, h2⟩ := ih (u / 10) (by omega)
      exact ⟨b, l ++ [UInt8.ofNat (48 + u % 10)], by rw [decDigits_ten h, e]; rfl, h1, h2⟩
/-- A text's amount is the amount of which it is the text. -/
theorem guess_text (n : Int) (h : -9223372036854775808 ≤ n ∧ n < 9223372036854775808) : guessL (textL n) = n := by
  unfold guessL
  by_cases hn : n < 0
  · rw [textL_neg hn]
    simp only [List.head?_cons, if_true]
    have e : digs 0 (45 :: (Lib.decDigits (n.natAbs / 100) ++ 46 :: two (n.natAbs % 100))) = n.natAbs := by
      show digs 0 (Lib.decDigits (n.natAbs / 100) ++ 46 :: two (n.natAbs % 100)) = n.natAbs
      rw [digs_text]; omega
    rw [e]
    unfold wrap64; omega
  · rw [textL_pos hn]
    obtain ⟨b, l, e, h1, h2⟩ := dec_head (n.natAbs / 100)
    rw [digs_text]
    have hb : ¬ (Lib.decDigits (n.natAbs / 100) ++ 46 :: two (n.natAbs % 100)).head? = some 45 := by
      rw [e]
      simp only [List.cons_append, List.head?_cons, Option.some.injEq]
      intro hb; rw [hb] at h1; revert h1; decide
    rw [if_neg hb]
    unfold wrap64; omega
end Go.Proofs.YtibipjncpojifaaDoor

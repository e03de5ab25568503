/- Plain facts on an amount's text without its point, without the minus and the noughts ahead. -/
import Derived.Test.YtcfdanfebpgplaaDoorTa
import Derived.Lib.Replace
import Derived.Lib.CountLaws
import Derived.Lib.IndexBytes
import Derived.Lib.SlTrimSet
namespace Go.Proofs.YtcfdanfebpgplaaDoor
open Go.Lib Go.RowKit
set_option linter.unusedVariables false
set_option linter.unusedSimpArgs false
theorem index_mid (c : UInt8) (b : List UInt8) : ∀ a : List UInt8, (∀ x ∈ a, x ≠ c) → Lib.indexByte (a ++ c :: b) c = (a.length : Int)
  | [], _ => by simp [Lib.indexByte]
  | x :: a, h => by
    have ih := index_mid c b a (fun y hy => h y (List.mem_cons_of_mem _ hy))
    have hx : (x == c) = false := beq_eq_false_iff_ne.2 (h x (by simp))
    show (if x == c then 0 else if Lib.indexByte (a ++ c :: b) c == -1 then -1 else Lib.indexByte (a ++ c :: b) c + 1) = _
    rw [ih, hx]
    have : ((a.length : Int) == -1) = false := beq_eq_false_iff_ne.2 (by omega)
    rw [this]
    simp
theorem replace_dot (a b : List UInt8) (h : ∀ x ∈ a, x ≠ 46) : Lib.replace (a ++ 46 :: b) [46] [] 1 = a ++ b := by
  have hi : Lib.index (a ++ 46 :: b) [46] = (a.length : Int) := by rw [Lib.index_one]; exact index_mid 46 b a h
  have hc := Lib.count_hit (sub := [46]) (by simp) hi
  have hn : Lib.replaceNum (a ++ 46 :: b) [46] 1 = 1 := by
    unfold Lib.replaceNum
    rw [if_neg (by rw [hc]; omega)]
    rfl
  unfold Lib.replace
  rw [if_neg (by decide), hn, Lib.replaceK_hit _ _ 0 _ a.length hi]
  simp [Lib.replaceK]
theorem dig_ne (d : Nat) (h : d < 10) : UInt8.ofNat (48 + d) ≠ 46 := by
  intro e
  have := congrArg UInt8.toNat e
  rw [of_digit d h] at this
  simp at this
  omega
theorem dec_ne (u : Nat) : ∀ x ∈ Lib.decDigits u, x ≠ 46 := by
  induction u using Nat.strongRecOn with
  | _ u ih =>
    intro x hx
    by_cases h : u < 10
    · rw [Lib.decDigits_one h] at hx
      obtain rfl := List.mem_singleton.1 hx
      exact dig_ne u h
    · rw [decDigits_ten h] at hx
      rcases List.mem_append.1 hx with hx | hx
      · exact ih (u / 10) (by omega) x hx
      · obtain rfl := List.mem_singleton.1 hx
        exact dig_ne _ (by omega)
theorem dot_neg {n : Int} (h : n < 0) : Lib.replace (textL n) [46] [] 1 = 45 :: (Lib.decDigits (n.natAbs / 100) ++ two (n.natAbs % 100)) := by
  rw [textL_neg h, ← List.cons_append]
  rw [replace_dot]
  · rfl
  · intro x hx
    rcases List.mem_cons.1 hx with rfl | hx
    · decide
    · exact dec_ne _ x hx
theorem dot_pos {n : Int} (h : ¬ n < 0) : Lib.replace (textL n) [46] [] 1 = Lib.decDigits (n.natAbs / 100) ++ two (n.natAbs % 100) := by
  rw [textL_pos h]
  exact replace_dot _ _ (dec_ne _)
theorem dig_out : ∀ d : Fin 10, d.val ≠ 0 → [45, 48].contains (UInt8.ofNat (48 + d.val)) = false := by decide
theorem dec_first (u : Nat) (h : 1 ≤ u) : ∃ d l, Lib.decDigits u = UInt8.ofNat (48 + d) :: l ∧ 1 ≤ d ∧ d < 10 := by
  induction u using Nat.strongRecOn with
  | _ u ih =>
    by_cases h10 : u < 10
    · exact ⟨u, [], Lib.decDigits_one h10, h, h10⟩
    · obtain ⟨d, l, e, h1, h2⟩ := ih (u / 10) (by omega) (by omega)
      exact ⟨d, l ++ [UInt8.ofNat (48 + u % 10)], by rw [decDigits_ten h10, e]; rfl, h1, h2⟩
theorem trim_stop (d : Nat) (l : List UInt8) (h1 : 1 ≤ d) (h2 : d < 10) : Lib.trimLeftS (UInt8.ofNat (48 + d) :: l) [45, 48] = UInt8.ofNat (48 + d) :: l := by
  have := dig_out ⟨d, h2⟩ (by simp; omega)
  unfold Lib.trimLeftS
  rw [List.dropWhile_cons, this]
  rfl
theorem trim_zero (l : List UInt8) : Lib.trimLeftS (48 :: l) [45, 48] = Lib.trimLeftS l [45, 48] := rfl
theorem trim_minus (l : List UInt8) : Lib.trimLeftS (45 :: l) [45, 48] = Lib.trimLeftS l [45, 48] := rfl
theorem trim_num (u : Nat) (h : 1 ≤ u) : Lib.trimLeftS (Lib.decDigits (u / 100) ++ two (u % 100)) [45, 48] = Lib.decDigits u := by
  by_cases h100 : u < 100
  · have e0 : u / 100 = 0 := by omega
    have e1 : u % 100 = u := by omega
    rw [e0, e1, Lib.decDigits_one (by decide)]
    show Lib.trimLeftS (48 :: two u) [45, 48] = _
    rw [trim_zero]
    by_cases h10 : u < 10
    · have e2 : u / 10 = 0 := by omega
      have e3 : u % 10 = u := by omega
      unfold two
      rw [e2, e3, Lib.decDigits_one h10]
      show Lib.trimLeftS (48 :: [UInt8.ofNat (48 + u)]) [45, 48] = _
      rw [trim_zero]
      exact trim_stop u [] h h10
    · rw [Lib.decDigits_two h10 h100]
      exact trim_stop (u / 10) _ (by omega) (by omega)
  · have e : Lib.decDigits (u / 100) ++ two (u % 100) = Lib.decDigits u := by
      rw [decDigits_ten (u := u) (by omega), decDigits_ten (u := u / 10) (by omega)]
      have e1 : u / 10 / 10 = u / 100 := by omega
      have e2 : u % 100 / 10 = u / 10 % 10 := by omega
      have e3 : u % 100 % 10 = u % 10 := by omega
      unfold two
      rw [e1, e2, e3, List.append_assoc]
      rfl
    rw [e]
    obtain ⟨d, l, e, h1, h2⟩ := dec_first u h
    rw [e]
    exact trim_stop d l h1 h2
theorem hundred_neg {n : Int} (h : n < 0) : textL (n * 100) = 45 :: (Lib.decDigits n.natAbs ++ [46, 48, 48]) := by
  rw [textL_neg (by omega)]
  have e1 : (n * 100).natAbs / 100 = n.natAbs := by omega
  have e2 : (n * 100).natAbs % 100 = 0 := by omega
  rw [e1, e2]
  rfl
theorem hundred_pos {n : Int} (h : ¬ n < 0) : textL (n * 100) = Lib.decDigits n.natAbs ++ [46, 48, 48] := by
  rw [textL_pos (by omega)]
  have e1 : (n * 100).natAbs / 100 = n.natAbs := by omega
  have e2 : (n * 100).natAbs % 100 = 0 := by omega
  rw [e1, e2]
  rfl
end Go.Proofs.YtcfdanfebpgplaaDoor

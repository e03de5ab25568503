/- Contracts of package unit's Code, Has, Check, Without; of the library's IndexFunc and DeleteFunc at entities. -/
import Derived.Test.YtmbfnbbgphpcgaaGreatDoorNl
import Derived.Lib.SliceRun
import Derived.Laws.OwnMore
namespace Go.Proofs.YtmbfnbbgphpcgaaGreatDoor
open Go.RowKit
set_option linter.unusedVariables false
set_option linter.unusedSimpArgs false
theorem parts_with {l : List Nat} (h : RiseU l) (n : Nat) : (outU l n).take (belowU (outU l n) n) ++ n :: (outU l n).drop (belowU (outU l n) n) = withU l n := by
  obtain ⟨h1, h2⟩ := below_parts16 (outU_rise h n) n
  rw [h1, h2]
  unfold withU outU
  rw [List.filter_filter, List.filter_filter]
  congr 1
  · refine List.filter_congr fun a _ => ?_
    by_cases g : a < n
    · have : a ≠ n := by omega
      simp [g, this]
    · simp [g]
  · congr 1
    refine List.filter_congr fun a _ => ?_
    by_cases g : n < a
    · have h3 : a ≠ n := by omega
      have h4 : n ≤ a := by omega
      simp [g, h3, h4]
    · by_cases h3 : a = n
      · simp [h3]
      · have h4 : ¬ n ≤ a := by omega
        simp [g, h4]
/-- The first place of a number, or -1. -/
def fstU : List Nat → Nat → Nat → Int
  | [], _, _ => -1
  | a :: r, n, k => if a = n then (k : Int) else fstU r n (k + 1)
theorem fstU_drop {u : List Nat} {n k x : Nat} (h : u[k]? = some x) : fstU (u.drop k) n k = if x = n then (k : Int) else fstU (u.drop (k + 1)) n (k + 1) := by
  obtain ⟨hk, e⟩ := List.getElem?_eq_some_iff.1 h
  rw [List.drop_eq_getElem_cons hk, e]; rfl
theorem fstU_spec (n : Nat) : ∀ (u : List Nat) (k : Nat), (fstU u n k = -1 ∧ n ∉ u) ∨ ∃ i, i < u.length ∧ fstU u n k = ((k + i : Nat) : Int) ∧ u[i]? = some n ∧ n ∉ u.take i
  | [], k => .inl ⟨rfl, by simp⟩
  | a :: r, k => by
    by_cases h : a = n
    · exact .inr ⟨0, by simp, by simp [fstU, h], by simp [h], by simp⟩
    · rcases fstU_spec n r (k + 1) with ⟨h1, h2⟩ | ⟨i, h1, h2, h3, h4⟩
      · refine .inl ⟨by rw [fstU, if_neg h]; exact h1, ?_⟩
        intro hm
        rcases List.mem_cons.1 hm with e | e
        · exact h e.symm
        · exact h2 e
      · refine .inr ⟨i + 1, by rw [List.length_cons]; omega, by rw [fstU, if_neg h, h2]; congr 1; omega, by simpa using h3, ?_⟩
        intro hm
        rw [List.take_succ_cons] at hm
        rcases List.mem_cons.1 hm with e | e
        · exact h e.symm
        · exact h4 e
theorem code_u (n : Nat) (w : World) (hn : n < 65536) : Calls Tryz.prog 26 #[.int .u16 (n : Int)] w fun e w' => e = .returned (.bool (decide (1 ≤ n ∧ n ≤ 999))) ∧ Below w.heap.size w w' := by
  by_cases h1 : 1 ≤ n
  · have e1 : (1 : Int) ≤ (n : Int) := by omega
    by_cases h2 : n ≤ 999
    · have e2 : (n : Int) ≤ 999 := by omega
      rw [decide_eq_true ⟨h1, h2⟩]
      go_enter Tryz.func26, Tryz.ntmps26
      go_wp2
      go_ret
      exact ⟨rfl, Below.refl _ _⟩
    · have e2 : ¬ (n : Int) ≤ 999 := by omega
      rw [decide_eq_false (fun h => h2 h.2)]
      go_enter Tryz.func26, Tryz.ntmps26
      go_wp2
      go_ret
      exact ⟨rfl, Below.refl _ _⟩
  · have e1 : ¬ (1 : Int) ≤ (n : Int) := by omega
    rw [decide_eq_false (fun h => h1 h.1)]
    go_enter Tryz.func26, Tryz.ntmps26
    go_wp2
    go_ret
    exact ⟨rfl, Below.refl _ _⟩
theorem chkU1_drop {u : List Nat} {k x h : Nat} (hx : u[k]? = some x) : chkU1 h (u.drop k) = if x = 0 ∨ 999 < x then 5 else if x ≤ h then 6 else chkU1 x (u.drop (k + 1)) := by
  obtain ⟨hk, e⟩ := List.getElem?_eq_some_iff.1 hx
  rw [List.drop_eq_getElem_cons hk, e]; rfl
end Go.Proofs.YtmbfnbbgphpcgaaGreatDoor

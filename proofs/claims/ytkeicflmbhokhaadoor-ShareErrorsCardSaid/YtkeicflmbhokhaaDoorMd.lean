/- An array of 128 numbers as a value: what lies at each place. -/
import Derived.Test.YtkeicflmbhokhaaDoorMa
import Derived.Laws.Rows
import Derived.Laws.Tables
namespace Go.Proofs.YtkeicflmbhokhaaDoor
open Go.RowKit
set_option linter.unusedVariables false
set_option linter.unusedSimpArgs false
/-- The cells of an array of 128 whole numbers. -/
def arr (f : Nat → Int) : Array Value := Array.ofFn (n := 128) fun i => Value.int .i64 (f i)
theorem arr_size (f : Nat → Int) : (arr f).size = 128 := by unfold arr; simp
theorem arr_get {f : Nat → Int} {j : Nat} (h : j < 128) : (arr f)[j]? = some (.int .i64 (f j)) := by unfold arr; simp [h]
theorem arr_set (f : Nat → Int) (j : Nat) (x : Int) : (arr f).setIfInBounds j (.int .i64 x) = arr (fun i => if i = j then x else f i) := by
  apply Array.ext_getElem?
  intro i
  rw [Array.getElem?_setIfInBounds]
  by_cases hi : i < 128
  · rw [arr_get hi, arr_get hi]
    by_cases e : j = i
    · subst e; simp [arr_size, hi]
    · simp [e, Ne.symm e]
  · have h1 : (arr f)[i]? = none := by simp [arr_size]; omega
    have h2 : (arr (fun i => if i = j then x else f i))[i]? = none := by simp [arr_size]; omega
    rw [h1, h2, arr_size]
    by_cases e : j = i
    · subst e; simp [hi]
    · simp [e]
theorem arr_congr {f g : Nat → Int} (h : ∀ j, j < 128 → f j = g j) : arr f = arr g := by
  unfold arr; congr 1; funext i; rw [h i i.2]
theorem arr_one (f : Nat → Int) : (arr f).all (·.oneCell') = true := by
  rw [Array.all_eq_true]; intro i hi; simp [arr, Value.oneCell']
/-- Bit i of an integer. -/
def bitZ (v : Int) (i : Nat) : Int := v / 2 ^ i % 2
end Go.Proofs.YtkeicflmbhokhaaDoor

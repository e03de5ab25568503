/- Contracts of law 6's get; of slices.Index, Contains, Equal at numbers of 32 bits. -/
import Derived.Test.YtmbfnbbgphpcgaaGreatDoorCf
import Derived.Test.YtmbfnbbgphpcgaaGreatDoorThree
import Derived.Deep.QuietTactic
namespace Go.Proofs.YtmbfnbbgphpcgaaGreatDoor
open Go.RowKit
set_option linter.unusedVariables false
set_option linter.unusedSimpArgs false
theorem getA_at : ∀ {c : List Ac} {n k : Nat} {a : Ac}, (∀ j b, j < k → c[j]? = some b → b.code ≠ n) → c[k]? = some a → a.code = n → getA c n = some a
  | [], n, k, a, _, ha, _ => by simp at ha
  | x :: r, n, 0, a, _, ha, hn => by
    simp only [List.getElem?_cons_zero, Option.some.injEq] at ha
    subst ha
    unfold getA
    rw [List.find?_cons_of_pos (by simpa using hn)]
  | x :: r, n, k + 1, a, h, ha, hn => by
    have hx : x.code ≠ n := h 0 x (by omega) rfl
    have := getA_at (c := r) (k := k) (fun j b hj hb => h (j + 1) b (by omega) (by simpa using hb)) (by simpa using ha) hn
    unfold getA at this ⊢
    rw [List.find?_cons_of_neg (by simpa using hx)]
    exact this
theorem getA_out {c : List Ac} {n : Nat} (h : ∀ j b, j < c.length → c[j]? = some b → b.code ≠ n) : getA c n = none :=
  getA_none.2 fun a ha => by
    obtain ⟨i, hi, e⟩ := List.getElem_of_mem ha
    exact h i a hi (by rw [List.getElem?_eq_getElem hi, e])
end Go.Proofs.YtmbfnbbgphpcgaaGreatDoor

/- The walk of law KeyLinks. -/
import Derived.Test.YtnmnjoleebhhiaaDoorVp
import Derived.Carry
namespace Go.Proofs.YtnmnjoleebhhiaaDoor
open Go.RowKit Go.Sort
set_option linter.unusedVariables false
set_option linter.unusedSimpArgs false
/-- A link of small keys, once. -/
def lp (x : Kt × Kt) : (Kt × Kt) × Int := ((x.1.small, x.2.small), 1)
theorem take_lp (zs : List (Kt × Kt)) (k : Nat) {x : Kt × Kt} (h : zs[k]? = some x) : (zs.take (k + 1)).map lp = (zs.take k).map lp ++ [lp x] := by
  obtain ⟨hk, e⟩ := List.getElem?_eq_some_iff.1 h
  rw [List.take_succ_eq_append_getElem hk, List.map_append, e]; rfl
/-- How often: no less than nothing, no more than there are links; more than nothing just where there is one. -/
theorem count_bd (zs : List (Kt × Kt)) (y : Kt × Kt) : ∀ k, 0 ≤ (sumK ((zs.take k).map lp) y).getD 0 ∧ (sumK ((zs.take k).map lp) y).getD 0 ≤ k ∧ ((sumK ((zs.take k).map lp) y).isSome = true ↔ 0 < (sumK ((zs.take k).map lp) y).getD 0)
  | 0 => by simp [sumK]
  | k + 1 => by
    obtain ⟨h1, h2, h3⟩ := count_bd zs y k
    by_cases hk : k < zs.length
    · rw [take_lp zs k (List.getElem?_eq_getElem hk), sumK_snoc]
      by_cases h : (lp zs[k]).1 = y
      · rw [if_pos h]
        have : (lp zs[k]).2 = 1 := rfl
        rw [this]
        simp only [Option.getD_some, Option.isSome_some, true_iff]
        exact ⟨by omega, by omega, by omega⟩
      · rw [if_neg h]
        exact ⟨h1, by omega, h3⟩
    · rw [List.take_of_length_le (by omega)]
      rw [List.take_of_length_le (by omega)] at h1 h2 h3
      exact ⟨h1, by omega, h3⟩
theorem count_bd' (zs : List (Kt × Kt)) (y : Kt × Kt) : 0 ≤ (sumK (zs.map lp) y).getD 0 ∧ (sumK (zs.map lp) y).getD 0 ≤ zs.length ∧ ((sumK (zs.map lp) y).isSome = true ↔ 0 < (sumK (zs.map lp) y).getD 0) := by
  have := count_bd zs y zs.length
  rwa [List.take_length] at this
/-- All elements of a map, told key by key. -/
theorem sum_keys {κ : Type} [DecidableEq κ] : ∀ {L : List (κ × Int)}, (L.map Prod.fst).Nodup → ((L.map Prod.fst).map (fun y => (getK L y).getD 0)) = L.map Prod.snd := fun {L} hn => by
  rw [List.map_map]
  refine List.map_congr_left fun p hp => ?_
  have : getK L p.1 = some p.2 := getK_of_mem hn hp
  simp [this]
def totL (G : Kt × Kt → Int) (ks : List (Kt × Kt)) (j : Nat) : Int := ((ks.take j).map G).sum
theorem totL_succ (G : Kt × Kt → Int) (ks : List (Kt × Kt)) {j : Nat} {y : Kt × Kt} (h : ks[j]? = some y) : totL G ks (j + 1) = totL G ks j + G y := by
  obtain ⟨hk, e⟩ := List.getElem?_eq_some_iff.1 h
  unfold totL
  rw [List.take_succ_eq_append_getElem hk, List.map_append, e]; simp
theorem totL_bd {G : Kt × Kt → Int} {m : Int} (hm : 0 ≤ m) (hG : ∀ y, 0 ≤ G y ∧ G y ≤ m) (ks : List (Kt × Kt)) : ∀ j, 0 ≤ totL G ks j ∧ totL G ks j ≤ m * j
  | 0 => by simp [totL]
  | j + 1 => by
    obtain ⟨h1, h2⟩ := totL_bd hm hG ks j
    have e1 : m * ((j + 1 : Nat) : Int) = m * j + m := by rw [Int.natCast_add, Int.mul_add]; simp
    rw [e1]
    by_cases hj : j < ks.length
    · have := hG ks[j]
      rw [totL_succ G ks (List.getElem?_eq_getElem hj)]
      omega
    · unfold totL at *
      rw [List.take_of_length_le (by omega)]
      rw [List.take_of_length_le (by omega)] at h1 h2
      omega
end Go.Proofs.YtnmnjoleebhhiaaDoor

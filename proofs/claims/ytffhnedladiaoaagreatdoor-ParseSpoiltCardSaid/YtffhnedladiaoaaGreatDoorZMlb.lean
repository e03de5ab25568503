/- Law 13: its ops are ops; what a pushed op leaves. -/
import Derived.Test.YtffhnedladiaoaaGreatDoorZMtall
import Derived.Test.YtffhnedladiaoaaGreatDoorZMtx
namespace Go.Proofs.YtffhnedladiaoaaGreatDoor
open Go.RowKit Go.Lib Go.Sort
set_option linter.unusedVariables false
set_option linter.unusedSimpArgs false
theorem nm5_len : ∀ k : Fin 5, (nm5 k.val).data.toList.length ≤ 1000000 := by decide
theorem raw_in {x : On} (h : OnIn x) : OpIn (rawO x) := by
  have ha := h.a
  have hb := h.b
  refine ⟨(raw_ok h).1, ?_, ?_, ?_, ?_, ?_⟩
  · unfold rawO; simp only; split <;> omega
  · unfold rawO; simp only; split
    · omega
    · split <;> omega
  · unfold rawO; simp only; split
    · exact nm5_len ⟨x.name % 5, Nat.mod_lt _ (by omega)⟩
    · simp
  · unfold rawO; simp only; split
    · refine ⟨?_, fun p hp => ?_⟩
      · simp [rawP]; omega
      · rcases List.mem_cons.1 hp with rfl | hp
        · exact ⟨by simp only; omega, by simp only; omega⟩
        · obtain ⟨y, hy, rfl⟩ := List.mem_map.1 hp
          obtain ⟨h1, h2⟩ := h.parts y (List.mem_of_mem_take hy)
          exact ⟨by simp only; omega, by simp only; omega⟩
    · exact ⟨by simp, fun p hp => by cases hp⟩
  · unfold rawO; simp only; split
    · rw [mkS_len]; omega
    · simp
theorem take_map_next {α β : Type} {l : List α} {f : α → β} {k : Nat} {x : α} (h : l[k]? = some x) : (l.take (k + 1)).map f = (l.take k).map f ++ [f x] := by
  rw [List.take_add_one, h, List.map_append]; rfl
theorem printO_snoc (l : List Opp) (o : Opp) : printO (l ++ [o]) = printO l ++ (textO o ++ [10]) := by rw [print_app]; congr 1; simp [printO]
theorem OpOwn.far {base Z : Nat} {w w' : World} {p : Om} {cs : List Value} (h : OpOwn base w p) (hg : w.grownBy w' (some Z)) (hx : HBox w Z cs 38) : OpOwn base w' p := by
  obtain ⟨r1, c1, e1⟩ := owns_form h.parts
  obtain ⟨r2, c2, e2⟩ := owns_form h.starts
  obtain ⟨h1, h2, h3⟩ := h
  rw [e1] at h1
  rw [e2] at h2
  refine ⟨?_, ?_, h3⟩
  · rw [e1]; exact h1.kept hg (.inr (owns_type_far h1 hx (by decide)))
  · rw [e2]; exact h2.kept hg (.inr (owns_type_far h2 hx (by decide)))
theorem OOwn.far {base Z : Nat} {w w' : World} {v : Value} {ps : List Om} {cs : List Value} (h : OOwn base w v ps) (hg : w.grownBy w' (some Z)) (hx : HBox w Z cs 38) (hv : v.ownBlock ≠ some Z) : OOwn base w' v ps :=
  ⟨h.row.kept hg (.inr hv), fun p hp => (h.ops p hp).far hg hx⟩
end Go.Proofs.YtffhnedladiaoaaGreatDoor

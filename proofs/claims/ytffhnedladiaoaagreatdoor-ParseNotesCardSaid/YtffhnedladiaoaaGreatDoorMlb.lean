/- Law 13: its ops are ops; what a pushed op leaves. -/
import Derived.Test.YtffhnedladiaoaaGreatDoorMtall
import Derived.Test.YtffhnedladiaoaaGreatDoorMtx
namespace Go.Proofs.YtffhnedladiaoaaGreatDoor
open Go.RowKit Go.Lib Go.Sort
set_option linter.unusedVariables false
set_option linter.unusedSimpArgs false
theorem infoOp : (Tryz.prog.info? 38).map (fun i => (i.zero, i.size, i.bytes)) = some (some (.agg #[.int .i64 0, .int .u32 0, .int .u32 0, .string ⟨#[]⟩, .slice none 0 0, .slice none 0 0, .int .i32 0, .int .i64 0]), 8, 96) := by kernel_rfl
theorem nm5_len : ∀ k : Fin 5, (nm5 k.val).data.toList.length ≤ 1000000 := by decide
theorem raw_in {x : On} (h : OnIn x) : OpIn (rawO x) := by
  have ha := h.a
  have hb := h.b
  refine ⟨(raw_ok h).1, ?_, ?_, ?_, ?_, ?_⟩
  · unfold rawO; simp only; split <;> omega
  · unfold rawO; simp only; split
    · omega
    · split <;> omega
  · unfold rawO; simp only; split
    · exact nm5_len ⟨x.name % 5, Nat.mod_lt _ (by omega)⟩
    · simp
  · unfold rawO; simp only; split
    · refine ⟨?_, fun p hp => ?_⟩
      · simp [rawP]; omega
      · rcases List.mem_cons.1 hp with rfl | hp
        · exact ⟨by simp only; omega, by simp only; omega⟩
        · obtain ⟨y, hy, rfl⟩ := List.mem_map.1 hp
          obtain ⟨h1, h2⟩ := h.parts y (List.mem_of_mem_take hy)
          exact ⟨by simp only; omega, by simp only; omega⟩
    · exact ⟨by simp, fun p hp => by cases hp⟩
  · unfold rawO; simp only; split
    · rw [mkS_len]; omega
    · simp
/-- A row of ops grows by one that lies in a box of its own, ahead of the row's cells. -/
theorem oown_push {base : Nat} {w w' : World} {v v' : Value} {ps : List Om} {p : Om} {m : Nat} (hm : ps.length = m) (h : OOwn base w v ps) (hp : OpOwn base w p) (hg : w.grownBy w' v.ownBlock)
    (ho : w'.ownsRow base 38 8 v' (m + 1) (ps.flatMap oc ++ oc p)) : OOwn base w' v' (ps ++ [p]) := OOwn.push h hp hg (by rw [hm]; exact ho)
theorem mem_snoc {ps : List Om} {p : Om} (h : ∀ q ∈ ps, OpIn q.o) (hp : OpIn p.o) : ∀ q ∈ ps ++ [p], OpIn q.o := fun q hq => by
  rcases List.mem_append.1 hq with h1 | h1
  · exact h q h1
  · rw [List.mem_singleton] at h1; subst h1; exact hp
/-- An op whose name has no semicolon and no newline. -/
def OpJ (o : Opp) : Prop := OpIn o ∧ ∀ c ∈ o.name, c ≠ 59 ∧ c ≠ 10
theorem raw_j {x : On} (h : OnIn x) : OpJ (rawO x) := ⟨raw_in h, (raw_ok h).2⟩
theorem mem_snocJ {ps : List Om} {p : Om} (h : ∀ q ∈ ps, OpJ q.o) (hp : OpJ p.o) : ∀ q ∈ ps ++ [p], OpJ q.o := fun q hq => by
  rcases List.mem_append.1 hq with h1 | h1
  · exact h q h1
  · rw [List.mem_singleton] at h1; subst h1; exact hp
theorem take_map_next {α β : Type} {l : List α} {f : α → β} {k : Nat} {x : α} (h : l[k]? = some x) : (l.take (k + 1)).map f = (l.take k).map f ++ [f x] := by
  rw [List.take_add_one, h, List.map_append]; rfl
theorem printO_snoc (l : List Opp) (o : Opp) : printO (l ++ [o]) = printO l ++ (textO o ++ [10]) := by rw [print_app]; congr 1; simp [printO]
theorem OpOwn.far {base Z : Nat} {w w' : World} {p : Om} {cs : List Value} (h : OpOwn base w p) (hg : w.grownBy w' (some Z)) (hx : HBox w Z cs 38) : OpOwn base w' p := by
  obtain ⟨r1, c1, e1⟩ := owns_form h.parts
  obtain ⟨r2, c2, e2⟩ := owns_form h.starts
  obtain ⟨h1, h2, h3⟩ := h
  rw [e1] at h1
  rw [e2] at h2
  refine ⟨?_, ?_, h3⟩
  · rw [e1]; exact h1.kept hg (.inr (owns_type_far h1 hx (by decide)))
  · rw [e2]; exact h2.kept hg (.inr (owns_type_far h2 hx (by decide)))
theorem OOwn.far {base Z : Nat} {w w' : World} {v : Value} {ps : List Om} {cs : List Value} (h : OOwn base w v ps) (hg : w.grownBy w' (some Z)) (hx : HBox w Z cs 38) (hv : v.ownBlock ≠ some Z) : OOwn base w' v ps :=
  ⟨h.row.kept hg (.inr hv), fun p hp => (h.ops p hp).far hg hx⟩
end Go.Proofs.YtffhnedladiaoaaGreatDoor

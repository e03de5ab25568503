/- A slice of records that came in. -/
import Derived.Test.YtffhnedladiaoaaGreatDoorZCall
import Derived.Test.YtffhnedladiaoaaGreatDoorZLall
import Derived.Test.YtffhnedladiaoaaGreatDoorZNall
import Derived.Deep.Slices
namespace Go.Proofs.YtffhnedladiaoaaGreatDoor
open Go.ChangeShapes Go.WideShapes Go.ChangeAt Go.RowKit Go.Joins
set_option linter.unusedVariables false
set_option linter.unusedSimpArgs false
section
variable {H : Type} {enc : TypeId × Value → H}
/-- A slice of records that came in. -/
theorem recs_open {P : Program} {α : Type} {en : α → List Value} {k : Nat} {t e : TypeId} (hk : ∀ x, (en x).length = k) (hk0 : 0 < k) (ht : P.underlying t = some (.slice e)) (hC : P.cellsOf e = k) {W : World} {r : Reach} {base b : Nat} {held : Bool} {v : Value} {d : DataW H} {p : List MemPlace}
    (hv : Value.okWide P W r base t v) (h : DataW.Trod enc P W b (fun _ => true) held t v d p) (hrd : ∀ {fuel : Nat} {cs : List Value} {x : DataW H × List MemPlace}, DataW.trod enc P W b (fun _ => true) held fuel e cs = some x → ∃ z : α, cs = en z) : ∃ zs : List α, Recs en k W v zs := by
  obtain ⟨a0, len, cap, rfl⟩ := okWide_slice ht hv
  obtain ⟨fuel, hf⟩ := h
  rcases Go.Deep.open_slice ht hf with ⟨hcs, hx⟩ | ⟨a, len', cap', m, n, D, Pl, hcs, _, hl, hm, hmm, hx, hi⟩
  · simp [Value.cells] at hcs
    obtain ⟨rfl, rfl, rfl⟩ := hcs
    exact ⟨[], .inl ⟨_, _, rfl, rfl⟩⟩
  · simp [Value.cells] at hcs
    obtain ⟨rfl, rfl, rfl⟩ := hcs
    simp only [if_true] at hmm
    subst hmm
    by_cases h0 : len = 0
    · subst h0
      exact ⟨[], .inl ⟨_, _, rfl, rfl⟩⟩
    · have hall : ∀ i : Fin len, ∃ z : α, ∀ j u, (en z)[j]? = some u → W.cell? (a.add (i.val * k + j)) = some u := by
        intro i
        obtain ⟨cs', hc, ht'⟩ := hi i.val (by have := i.isLt; omega)
        obtain ⟨z, rfl⟩ := hrd ht'
        rw [hC] at hc
        obtain ⟨_, hcl, hat⟩ := World.cells?_some hc
        refine ⟨z, fun j u hu => ?_⟩
        have hj : j < k := by have := (List.getElem?_eq_some_iff.1 hu).1; rwa [hk] at this
        rw [← Go.Deep.add_add, hat j hj, hu]
      obtain ⟨f, hfz⟩ := Classical.axiomOfChoice hall
      have hc0 : ∃ u, W.cell? a = some u := by
        have hlen : 0 < (en (f ⟨0, by omega⟩)).length := by rw [hk]; exact hk0
        have := hfz ⟨0, by omega⟩ 0 _ (List.getElem?_eq_getElem hlen)
        have e0 : a.add (0 * k + 0) = a := by unfold Addr.add; simp
        rw [e0] at this
        exact ⟨_, this⟩
      obtain ⟨u0, hu0⟩ := hc0
      have hs := spot_none hu0
      have hab := World.block_lt_of_cell? W _ hu0
      obtain ⟨ab, ao, sp⟩ := a
      cases hs
      refine ⟨List.ofFn f, .inr ⟨ab, ao, m, by rw [List.length_ofFn], hab, by rw [List.length_ofFn]; unfold maxLen at hm; omega, by rw [List.length_ofFn]; exact hl, fun i x hx j u hu => ?_⟩⟩
      have hil : i < len := by have := (List.getElem?_eq_some_iff.1 hx).1; simpa using this
      have hx' : x = f ⟨i, hil⟩ := by
        rw [List.getElem?_eq_getElem (by simpa using hil)] at hx
        simpa using hx.symm
      subst hx'
      have := hfz ⟨i, hil⟩ j u hu
      have e1 : (⟨ab, ao, none⟩ : Addr).add (i * k + j) = ⟨ab, ao + i * k + j, none⟩ := by
        unfold Addr.add
        split
        · rename_i h; simp [h, Nat.add_assoc]
        · simp [Nat.add_assoc]
      rw [e1] at this
      exact this
end
end Go.Proofs.YtffhnedladiaoaaGreatDoor
/- Arguments of law 7: slices of numbers of 16 bits. -/
namespace Go.Proofs.YtffhnedladiaoaaGreatDoor
open Go.ChangeShapes Go.WideShapes Go.ChangeAt Go.RowKit Go.Joins
set_option linter.unusedVariables false
set_option linter.unusedSimpArgs false
theorem u8_nat' {a : Int} (h : (Lit.int .u8 a).wf = true) : ∃ n : Nat, a = (n : Int) ∧ n < 256 := by
  have b : 0 ≤ a ∧ a < 256 := by simp [Lit.wf, IntKind.min, IntKind.max, IntKind.bits, IntKind.signed] at h; omega
  exact ⟨a.toNat, by omega, by omega⟩
theorem Recs.mapped {α β : Type} {f : α → β} {en : β → List Value} {k : Nat} {w : World} {v : Value} {zs : List α} (h : Recs (fun z => en (f z)) k w v zs) : Recs en k w v (zs.map f) := by
  rcases h with ⟨r, cap, h1, rfl⟩ | ⟨g, off, cap, h1, h2, h3, h4, h5⟩
  · exact .inl ⟨r, cap, h1, rfl⟩
  · refine .inr ⟨g, off, cap, by rw [List.length_map]; exact h1, h2, by rw [List.length_map]; exact h3, by rw [List.length_map]; exact h4, fun i x hx j u hu => ?_⟩
    rw [List.getElem?_map] at hx
    cases hz : zs[i]? with
    | none => rw [hz] at hx; cases hx
    | some z =>
      rw [hz] at hx
      cases hx
      exact h5 i z hz j u hu
section
variable {H : Type} {enc : TypeId × Value → H} {P : Program}
end
end Go.Proofs.YtffhnedladiaoaaGreatDoor

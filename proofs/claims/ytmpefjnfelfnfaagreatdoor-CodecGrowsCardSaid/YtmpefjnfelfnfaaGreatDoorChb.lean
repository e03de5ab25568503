/- Bytes: one slice's behind another's; the first of them (law 11). -/
import Derived.Test.YtmpefjnfelfnfaaGreatDoorChall
import Derived.Deep.Upon
import Derived.Maps.AppendAt
import Derived.Lib.AppendZerosOnto
import Derived.Lib.SliceRun
namespace Go.Proofs.YtmpefjnfelfnfaaGreatDoor
open Go.RowKit
set_option linter.unusedVariables false
set_option linter.unusedSimpArgs false
theorem byc_take {w : World} {g off n cap : Nat} {l : List Nat} (h : Recs byc 1 w (.slice (some ⟨g, off, none⟩) n cap) l) (hl : l.length = n) (i : Nat) (hi : i ≤ n) : Recs byc 1 w (.slice (some ⟨g, off, none⟩) i cap) (l.take i) := by
  rcases Nat.eq_zero_or_pos i with h0 | h0
  · subst h0; exact .inl ⟨_, _, rfl, rfl⟩
  · rcases h with ⟨r', cap', e1, e2⟩ | ⟨g', off', cap', e1, h2, h3, h4, h5⟩
    · rw [e2] at hl; simp at hl; omega
    · cases e1
      have hl2 : (l.take i).length = i := by rw [List.length_take]; omega
      refine .inr ⟨g, off, cap, by rw [hl2], h2, by rw [hl2]; omega, by rw [hl2]; omega, fun j x hx m u hu => ?_⟩
      rw [List.getElem?_take] at hx
      split at hx
      · exact h5 j x hx m u hu
      · cases hx
theorem append_8 (v y : Value) (xs cs : List Nat) (base : Nat) (w : World) (ho : w.ownsRow base 5 1 v xs.length (xs.flatMap byc)) (hR : Recs byc 1 w y cs) (hn : xs.length + cs.length ≤ 100000000) (hb : base ≤ w.heap.size) :
    ∃ v' w', (∀ ty, (Builtin.append_ #[25, 25] ty #[v, y]).run Tryz.prog w = .ok v' w') ∧ w'.ownsRow base 5 1 v' (xs ++ cs).length ((xs ++ cs).flatMap byc) ∧ Below base w w' := by
  obtain ⟨i0, hi, hz0, hz1, hz2⟩ := info_of8
  have hu := Tryz.underlying25
  by_cases h0 : cs = []
  · subst h0
    obtain ⟨r, cap, rfl, _⟩ := hR.form
    obtain ⟨r1, cap1, rfl⟩ := own_form ho
    have hc : xs.length ≤ cap1 := by
      rcases ho.2 with ⟨h0, h1⟩ | ⟨g, cp, cur, h0, _, _, h1, _⟩
      · omega
      · cases h0; exact h1
    have hs : Src Tryz.prog i0.size 25 (.slice r 0 cap) 0 [] w := by
      refine ⟨.inl ⟨_, hu⟩, fun w' => ?_, ?_, ?_, by simp, by simp⟩
      · simp [Builtin.lenOf]
      · cases r <;> simp [Builtin.firstCells, loadCells, loadCellsFrom]
      · cases r <;> simp [Builtin.firstCells, loadCells, loadCellsFrom]
    refine ⟨_, _, fun ty => run_append_nothing w _ _ ty _ i0 hu hi r1 xs.length cap1 hc _ hs, ?_, Below.refl _ _⟩
    simpa using ho
  · have hpos : 0 < cs.length := List.length_pos_iff.2 h0
    obtain ⟨r, cap, rfl, _⟩ := hR.form
    obtain ⟨g, off, rfl, _, _⟩ := hR.at (List.getElem?_eq_getElem hpos)
    have hcells : ∀ j u, (cs.flatMap byc)[j]? = some u → w.cell? ((⟨g, off, none⟩ : Addr).add j) = some u := fun j u hj => by
      have e1 : (⟨g, off, none⟩ : Addr).add j = ⟨g, off + j, none⟩ := by unfold Addr.add; split <;> simp_all
      rw [e1]
      exact recs_flat byc_len (by omega) hR j u hj
    have hrun : ∃ v' w', (∀ ty, (Builtin.append_ #[25, 25] ty #[v, .slice (some ⟨g, off, none⟩) cs.length cap]).run Tryz.prog w = .ok v' w') ∧ w'.ownsRow base 5 1 v' (xs.length + cs.length) (xs.flatMap byc ++ cs.flatMap byc) ∧ w.grownBy w' v.ownBlock := by
      obtain ⟨v', w', h1, h2, h3, _⟩ := run_append_own_at (P := Tryz.prog) w base 25 0 5 i0 _ 1 1 hu hi hz0 hz1 hz2 rfl (by decide) v xs.length (xs.flatMap byc) ho ⟨g, off, none⟩ cs.length cap (cs.flatMap byc) (flat_len byc_len cs) hcells (flat_one byc_one cs) (by unfold maxLen; omega) (by omega) hb
      exact ⟨v', w', fun ty => h1, h2, h3⟩
    obtain ⟨v', w', h1, h2, h3⟩ := hrun
    refine ⟨v', w', h1, ?_, (Below.refl base w).grown h3 hb (fun j hj => (ho.lt j hj).1)⟩
    rw [List.length_append, List.flatMap_append]
    exact h2
end Go.Proofs.YtmpefjnfelfnfaaGreatDoor

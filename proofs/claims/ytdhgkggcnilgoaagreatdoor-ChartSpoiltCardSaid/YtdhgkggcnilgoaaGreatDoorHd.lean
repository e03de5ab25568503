/- The walk of law ChartChecks. -/
import Derived.Test.YtdhgkggcnilgoaaGreatDoorHc
import Derived.Test.YtdhgkggcnilgoaaGreatDoorCl
import Derived.Test.YtdhgkggcnilgoaaGreatDoorCm
import Derived.Deep.Upon
import Derived.Maps.AppendAt
namespace Go.Proofs.YtdhgkggcnilgoaaGreatDoor
open Go.RowKit
set_option linter.unusedVariables false
set_option linter.unusedSimpArgs false
/-- Of what is appended only whether it is a slice matters, not its type's name. -/
theorem append_tx {P : Program} (w : World) (t tx ty e e' : TypeId) (s x : Value) (ht : P.underlying t = some (.slice e)) (hk : P.underlying tx = some (.slice e')) :
    (Builtin.append_ #[t, tx] ty #[s, x]).run P w = (Builtin.append_ #[t, t] ty #[s, x]).run P w := by
  cases s <;> simp [Builtin.append_, run_underlying ht, run_underlying hk]
theorem wpList_append_run {P : Program} {w : World} {ops : Array Oper} {rest : List Oper} {o : Oper} {a : Act} {Q : Exit → Act → World → Prop} (hgd : o.guard = none) (s x : Operand) (t tx : TypeId)
    (ho : o.op = .call { callee := .builtin .append, args := #[s, x], argTypes := #[t, tx] }) (vs vx v' : Value) (w' : World) (hs : a.eval s = vs) (hx : a.eval x = vx)
    (hrun : ∀ ty, (Builtin.append_ #[t, tx] ty #[vs, vx]).run P w = .ok v' w') (h : wpList P ops Q rest (a.put o.dst v') w') : wpList P ops Q (o :: rest) a w := by
  refine wpList_plain hgd fun K hK => ?_
  unfold Oper.wp
  simp [execOp, ho, resolve, invoke, builtin, hs, hx, hrun, Result.andThen]
  exact hK _ _ h
theorem recs_append (v y : Value) (xs cs : List Ac) (base : Nat) (w : World) (ho : w.ownsRow base 34 4 v xs.length (xs.flatMap cc)) (hR : Recs cc 4 w y cs) (hn : xs.length + cs.length ≤ 1000) (hb : base ≤ w.heap.size) :
    ∃ v' w', (∀ ty, (Builtin.append_ #[25, 22] ty #[v, y]).run Tryz.prog w = .ok v' w') ∧ w'.ownsRow base 34 4 v' (xs ++ cs).length ((xs ++ cs).flatMap cc) ∧ Below base w w' := by
  obtain ⟨i0, hi, hz0, hz1, hz2⟩ := info_parts info35
  have hu := Tryz.underlying25
  have hk := Tryz.underlying22
  by_cases h0 : cs = []
  · subst h0
    obtain ⟨r, cap, rfl, _⟩ := hR.form
    obtain ⟨r1, cap1, rfl⟩ := owns_form ho
    have hc : xs.length ≤ cap1 := by
      rcases ho.2 with ⟨h0, h1⟩ | ⟨g, cp, cur, h0, _, _, h1, _⟩
      · omega
      · cases h0; exact h1
    have hs : Src Tryz.prog i0.size 22 (.slice r 0 cap) 0 [] w := by
      refine ⟨.inl ⟨_, hk⟩, fun w' => ?_, ?_, ?_, by simp, by simp⟩
      · simp [Builtin.lenOf]
      · cases r <;> simp [Builtin.firstCells, loadCells, loadCellsFrom]
      · cases r <;> simp [Builtin.firstCells, loadCells, loadCellsFrom]
    refine ⟨_, _, fun ty => run_append_nothing w _ _ ty _ i0 hu hi r1 xs.length cap1 hc _ hs, ?_, Below.refl _ _⟩
    simpa using ho
  · have hpos : 0 < cs.length := List.length_pos_iff.2 h0
    obtain ⟨r, cap, rfl, _⟩ := hR.form
    obtain ⟨g, off, rfl, _, _⟩ := hR.at (List.getElem?_eq_getElem hpos)
    have hcells : ∀ j u, (cs.flatMap cc)[j]? = some u → w.cell? ((⟨g, off, none⟩ : Addr).add j) = some u := fun j u hj => by
      have e1 : (⟨g, off, none⟩ : Addr).add j = ⟨g, off + j, none⟩ := by unfold Addr.add; split <;> simp_all
      rw [e1]
      exact recs_flat cc_len (by omega) hR j u hj
    have hrun : ∃ v' w', (∀ ty, (Builtin.append_ #[25, 25] ty #[v, .slice (some ⟨g, off, none⟩) cs.length cap]).run Tryz.prog w = .ok v' w') ∧ w'.ownsRow base 34 4 v' (xs.length + cs.length) (xs.flatMap cc ++ cs.flatMap cc) ∧ w.grownBy w' v.ownBlock := by
      obtain ⟨v', w', h1, h2, h3, _⟩ := run_append_own_at (P := Tryz.prog) w base 25 0 34 i0 _ 4 32 hu hi hz0 hz1 hz2 rfl (by decide) v xs.length (xs.flatMap cc) ho ⟨g, off, none⟩ cs.length cap (cs.flatMap cc) (flat_len cc_len cs) hcells (flat_one cc_one cs) (by unfold maxLen; omega) (by omega) hb
      exact ⟨v', w', fun ty => h1, h2, h3⟩
    obtain ⟨v', w', h1, h2, h3⟩ := hrun
    refine ⟨v', w', fun ty => (append_tx w _ _ ty _ _ _ _ hu hk).trans (h1 ty), ?_, (Below.refl base w).grown h3 hb (fun j hj => (ho.lt j hj).1)⟩
    rw [List.length_append, List.flatMap_append]
    exact h2
end Go.Proofs.YtdhgkggcnilgoaaGreatDoor

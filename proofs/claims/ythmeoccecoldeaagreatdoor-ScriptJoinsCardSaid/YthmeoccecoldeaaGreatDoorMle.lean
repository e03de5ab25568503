/- Rows of ops, cloned and put one behind the other. -/
import Derived.Test.YthmeoccecoldeaaGreatDoorMlb
import Derived.Deep.Upon
import Derived.Maps.AppendAt
import Derived.Lib.AppendZerosOnto
import Derived.OwnWalk
namespace Go.Proofs.YthmeoccecoldeaaGreatDoor
open Go.RowKit Go.Lib
set_option linter.unusedVariables false
set_option linter.unusedSimpArgs false
theorem opm_one {w : World} {p : Om} (h : OpM w p) : ∀ u ∈ oc p, u.oneCell' = true := by
  obtain ⟨r1, c1, e1, _⟩ := h.parts.form
  obtain ⟨r2, c2, e2, _⟩ := h.starts.form
  intro u hu
  unfold oc at hu
  rw [e1, e2] at hu
  simp at hu
  rcases hu with rfl | rfl | rfl | rfl | rfl | rfl | rfl | rfl <;> rfl
theorem orow_one {w : World} {ps : List Om} (h : ∀ p ∈ ps, OpM w p) : ∀ u ∈ ps.flatMap oc, u.oneCell' = true := fun u hu => by
  obtain ⟨p, hp, h2⟩ := List.mem_flatMap.1 hu
  exact opm_one (h p hp) u h2
set_option maxHeartbeats 1000000 in
set_option maxRecDepth 100000 in
theorem clone_o (xs : List Om) (r : Option Addr) (n cap : Nat) (w : World) (hR : Recs oc 8 w (.slice r n cap) xs) (hn : xs.length = n) (hl : n ≤ 1000) (hone : ∀ u ∈ xs.flatMap oc, u.oneCell' = true) :
    Calls Tryz.prog 16 #[.slice r n cap] w fun e w' => ∃ v', e = .returned v' ∧ w'.ownsRow w.heap.size 38 8 v' n (xs.flatMap oc) ∧ Below w.heap.size w w' := by
  obtain ⟨i0, hi, hz0, hz1, hz2⟩ := info_parts infoOp
  have q22 : ∀ (w : World) (a : Option Addr) (n c n' c' : Nat), (binOp .eql 24 (.slice a n c) (.slice none n' c')).run Tryz.prog w = .ok (.bool a.isNone) w := fun w a n c n' c' => Lib.run_eql_slice_nil w _ _ a n c n' c' Tryz.underlying24
  have hlen : (xs.flatMap oc).length = n * 8 := by rw [flat_len oc_len, hn]
  cases r with
  | none =>
    have h0 : n = 0 := by
      rcases hR with ⟨_, _, h1, h2⟩ | ⟨_, _, _, h1, _⟩
      · cases h1; rfl
      · cases h1
    subst h0
    have hx : xs.flatMap oc = [] := List.eq_nil_of_length_eq_zero (by simpa using hlen)
    rw [hx]
    clear hR hlen hx
    go_enter Tryz.func16, Tryz.ntmps16
    go_wp2
    go_ret
    exact ⟨_, rfl, World.ownsRow_nil _ _ _ _, Below.refl _ _⟩
  | some ad =>
    have HC := Lib.hid (show ∀ j u, (xs.flatMap oc)[j]? = some u → (w.alloc (.cells #[] 38)).cell? (ad.add j) = some u from fun j u hu => by
      rcases hR with ⟨_, _, h1, h2⟩ | ⟨g, off, c, h1, hg, h3, h4, h5⟩
      · rw [h2] at hu; simp at hu
      · cases h1
        have e : (⟨g, off, none⟩ : Addr).add j = ⟨g, off + j, none⟩ := by unfold Addr.add; split <;> simp_all
        rw [e, World.cell?_alloc_lt _ _ _ hg]
        exact recs_flat oc_len (by omega) (.inr ⟨g, off, cap, rfl, hg, h3, h4, h5⟩) j u hu)
    have h1 := hone
    clear hR hone
    generalize xs.flatMap oc = zs at *
    go_enter Tryz.func16, Tryz.ntmps16
    go_wp2_with (at_builtin; refine wpList_append_own _ rfl (.tmp 5) (.tmp 6) 24 rfl w.heap.size 38 i0 _ 8 96 Tryz.underlying24 hi hz0 hz1 hz2 rfl (by decide) _ 0 [] rfl (World.ownsRow_made w #[] 0 (Nat.le_refl _) (by decide) (by simp)) ad n cap zs rfl hlen HC.out h1 (by unfold maxLen; omega) (by omega) (by simp) ?_; intro v3 w3 hown3 hgrow3 _)
    go_ret
    refine ⟨_, rfl, by simpa using hown3, ((Below.refl _ _).alloc (Nat.le_refl _) _).grown hgrow3 (by simp) (fun k hk => by have e : some w.heap.size = some k := hk; injection e with e; omega)⟩
theorem append_ops (v y : Value) (xs cs : List Om) (base : Nat) (w : World) (ho : w.ownsRow base 38 8 v xs.length (xs.flatMap oc)) (hR : Recs oc 8 w y cs) (hone : ∀ u ∈ cs.flatMap oc, u.oneCell' = true) (hn : xs.length + cs.length ≤ 1000) (hb : base ≤ w.heap.size) :
    ∃ v' w', (∀ ty, (Builtin.append_ #[24, 24] ty #[v, y]).run Tryz.prog w = .ok v' w') ∧ w'.ownsRow base 38 8 v' (xs ++ cs).length ((xs ++ cs).flatMap oc) ∧ Below base w w' := by
  obtain ⟨i0, hi, hz0, hz1, hz2⟩ := info_parts infoOp
  have hu := Tryz.underlying24
  by_cases h0 : cs = []
  · subst h0
    obtain ⟨r, cap, rfl, _⟩ := hR.form
    obtain ⟨r1, cap1, rfl⟩ := owns_form ho
    have hc : xs.length ≤ cap1 := by
      rcases ho.2 with ⟨h0, h1⟩ | ⟨g, cp, cur, h0, _, _, h1, _⟩
      · omega
      · cases h0; exact h1
    have hs : Src Tryz.prog i0.size 24 (.slice r 0 cap) 0 [] w := by
      refine ⟨.inl ⟨_, hu⟩, fun w' => ?_, ?_, ?_, by simp, by simp⟩
      · simp [Builtin.lenOf]
      · cases r <;> simp [Builtin.firstCells, loadCells, loadCellsFrom]
      · cases r <;> simp [Builtin.firstCells, loadCells, loadCellsFrom]
    refine ⟨_, _, fun ty => run_append_nothing w _ _ ty _ i0 hu hi r1 xs.length cap1 hc _ hs, ?_, Below.refl _ _⟩
    simpa using ho
  · have hpos : 0 < cs.length := List.length_pos_iff.2 h0
    obtain ⟨r, cap, rfl, _⟩ := hR.form
    obtain ⟨g, off, rfl, _, _⟩ := hR.at (List.getElem?_eq_getElem hpos)
    have hcells : ∀ j u, (cs.flatMap oc)[j]? = some u → w.cell? ((⟨g, off, none⟩ : Addr).add j) = some u := fun j u hj => by
      have e1 : (⟨g, off, none⟩ : Addr).add j = ⟨g, off + j, none⟩ := by unfold Addr.add; split <;> simp_all
      rw [e1]
      exact recs_flat oc_len (by omega) hR j u hj
    have hrun : ∃ v' w', (∀ ty, (Builtin.append_ #[24, 24] ty #[v, .slice (some ⟨g, off, none⟩) cs.length cap]).run Tryz.prog w = .ok v' w') ∧ w'.ownsRow base 38 8 v' (xs.length + cs.length) (xs.flatMap oc ++ cs.flatMap oc) ∧ w.grownBy w' v.ownBlock := by
      obtain ⟨v', w', h1, h2, h3, _⟩ := run_append_own_at (P := Tryz.prog) w base 24 0 38 i0 _ 8 96 hu hi hz0 hz1 hz2 rfl (by decide) v xs.length (xs.flatMap oc) ho ⟨g, off, none⟩ cs.length cap (cs.flatMap oc) (flat_len oc_len cs) hcells hone (by unfold maxLen; omega) (by omega) hb
      exact ⟨v', w', fun ty => h1, h2, h3⟩
    obtain ⟨v', w', h1, h2, h3⟩ := hrun
    refine ⟨v', w', h1, ?_, (Below.refl base w).grown h3 hb (fun j hj => (ho.lt j hj).1)⟩
    rw [List.length_append, List.flatMap_append]
    exact h2
end Go.Proofs.YthmeoccecoldeaaGreatDoor

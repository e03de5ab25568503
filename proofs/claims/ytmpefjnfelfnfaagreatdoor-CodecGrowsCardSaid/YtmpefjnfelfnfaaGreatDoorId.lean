/- Contract of slices.Clone at lines; the walk of law EntrySums. -/
import Derived.Test.YtmpefjnfelfnfaaGreatDoorIall
import Derived.Laws.OwnMore
namespace Go.Proofs.YtmpefjnfelfnfaaGreatDoor
open Go.RowKit
set_option linter.unusedVariables false
set_option linter.unusedSimpArgs false
theorem infoL : (Tryz.prog.info? 89).map (fun i => (i.zero, i.size, i.bytes)) = some (some (.agg #[.int .u32 0, .int .u16 0, .int .u16 0, .int .i64 0]), 4, 16) := by kernel_rfl
set_option maxHeartbeats 1000000 in
set_option maxRecDepth 100000 in
theorem clone_l (xs : List Ln) (r : Option Addr) (n cap : Nat) (w : World) (hR : Recs lc 4 w (.slice r n cap) xs) (hn : xs.length = n) (hl : n ≤ 1000) :
    Calls Tryz.prog 47 #[.slice r n cap] w fun e w' => ∃ v', e = .returned v' ∧ w'.ownsRow w.heap.size 89 4 v' n (xs.flatMap lc) ∧ Below w.heap.size w w' := by
  obtain ⟨i0, hi, hz0, hz1, hz2⟩ := info_parts infoL
  have q22 : ∀ (w : World) (a : Option Addr) (n c n' c' : Nat), (binOp .eql 64 (.slice a n c) (.slice none n' c')).run Tryz.prog w = .ok (.bool a.isNone) w := fun w a n c n' c' => Lib.run_eql_slice_nil w _ _ a n c n' c' Tryz.underlying64
  have hlen : (xs.flatMap lc).length = n * 4 := by rw [flat_len lc_len, hn]
  cases r with
  | none =>
    have h0 : n = 0 := by
      rcases hR with ⟨_, _, h1, h2⟩ | ⟨_, _, _, h1, _⟩
      · cases h1; rfl
      · cases h1
    subst h0
    have hx : xs.flatMap lc = [] := List.eq_nil_of_length_eq_zero (by simpa using hlen)
    rw [hx]
    clear hR hlen hx
    go_enter Tryz.func47, Tryz.ntmps47
    go_wp2
    go_ret
    exact ⟨_, rfl, World.ownsRow_nil _ _ _ _, Below.refl _ _⟩
  | some ad =>
    have HC := Lib.hid (show ∀ j u, (xs.flatMap lc)[j]? = some u → (w.alloc (.cells #[] 89)).cell? (ad.add j) = some u from fun j u hu => by
      rcases hR with ⟨_, _, h1, h2⟩ | ⟨g, off, c, h1, hg, h3, h4, h5⟩
      · rw [h2] at hu; simp at hu
      · cases h1
        have e : (⟨g, off, none⟩ : Addr).add j = ⟨g, off + j, none⟩ := by unfold Addr.add; split <;> simp_all
        rw [e, World.cell?_alloc_lt _ _ _ hg]
        exact recs_flat lc_len (by omega) (.inr ⟨g, off, cap, rfl, hg, h3, h4, h5⟩) j u hu)
    have h1 := flat_one lc_one xs
    clear hR
    generalize xs.flatMap lc = zs at *
    go_enter Tryz.func47, Tryz.ntmps47
    go_wp2_with (at_builtin; refine wpList_append_own _ rfl (.tmp 5) (.tmp 6) 64 rfl w.heap.size 89 i0 (.agg #[.int .u32 0, .int .u16 0, .int .u16 0, .int .i64 0]) 4 16 Tryz.underlying64 hi hz0 hz1 hz2 rfl (by decide) _ 0 [] rfl (World.ownsRow_made w #[] 0 (Nat.le_refl _) (by decide) (by simp)) ad n cap zs rfl hlen HC.out h1 (by unfold maxLen; omega) (by omega) (by simp) ?_; intro v3 w3 hown3 hgrow3 _)
    go_ret
    refine ⟨_, rfl, by simpa using hown3, ((Below.refl _ _).alloc (Nat.le_refl _) _).grown hgrow3 (by simp) (fun k hk => by have e : some w.heap.size = some k := hk; injection e with e; omega)⟩
theorem field_hi9 (a b : Value) (w : World) : (Instr.field 179 (.agg #[a, b]) 0).run Tryz.prog w = .ok a w := by kernel_rfl
theorem field_lo9 (a b : Value) (w : World) : (Instr.field 179 (.agg #[a, b]) 1).run Tryz.prog w = .ok b w := by kernel_rfl
/-- A line whose entity is one of a few. -/
def fewE (few : Bool) (m : Nat) (hm : m ≠ 0) (x : Ln) : Ln := if few then { x with ent := ⟨x.ent.n % m, Nat.lt_of_le_of_lt (Nat.mod_le _ _) x.ent.h⟩ } else x
theorem at_splitL {α : Type} {xs : List α} {k : Nat} {x : α} (h : xs[k]? = some x) : ∃ A B, xs = A ++ x :: B ∧ A.length = k := by
  obtain ⟨hk, e⟩ := List.getElem?_eq_some_iff.1 h
  refine ⟨xs.take k, xs.drop (k + 1), ?_, by rw [List.length_take]; omega⟩
  have := (List.take_append_drop k xs).symm
  rwa [List.drop_eq_getElem_cons hk, e] at this
/-- One cell of a row of records turned. -/
theorem flat_setL {α : Type} {enc : α → List Value} {sz : Nat} (hk : ∀ x, (enc x).length = sz) {xs : List α} {k j : Nat} {x y : α} {u : Value} (h : xs[k]? = some x) (hj : j < sz) (hy : enc y = (enc x).set j u) : (xs.flatMap enc).set (k * sz + j) u = (xs.set k y).flatMap enc := by
  obtain ⟨A, B, rfl, hA⟩ := at_splitL h
  have hl : (A.flatMap enc).length = k * sz := by rw [flat_len hk, hA]
  rw [List.flatMap_append, List.flatMap_cons, List.set_append_right _ _ (by omega), hl, show k * sz + j - k * sz = j by omega, List.set_append_left _ _ (by rw [hk]; exact hj), ← hy]
  rw [List.set_append_right _ _ (by omega), hA, Nat.sub_self, List.set_cons_zero, List.flatMap_append, List.flatMap_cons]
theorem curL_at {α : Type} {c : List α} {k : Nat} {a : α} (g : α → α) (h : c[k]? = some a) : ((c.take k).map g ++ c.drop k)[k]? = some a := by
  obtain ⟨hk, e⟩ := List.getElem?_eq_some_iff.1 h
  rw [List.getElem?_append_right (by simp; omega)]
  simp
  rw [Nat.min_eq_left (by omega), Nat.sub_self, Nat.add_zero]
  exact h
theorem curL_step {α : Type} {c : List α} {k : Nat} {a : α} (g : α → α) (h : c[k]? = some a) : (c.take (k + 1)).map g ++ c.drop (k + 1) = ((c.take k).map g ++ c.drop k).set k (g a) := by
  obtain ⟨hk, e⟩ := List.getElem?_eq_some_iff.1 h
  rw [List.take_succ_eq_append_getElem hk, e, List.map_append, List.drop_eq_getElem_cons hk, e, List.set_append_right _ _ (by simp; omega)]
  simp
  rw [Nat.min_eq_left (by omega), Nat.sub_self, List.set_cons_zero]
theorem curL_id {α : Type} {c : List α} {k : Nat} : (c.take k).map id ++ c.drop k = c := by simp
theorem fewE_no (m : Nat) (hm : m ≠ 0) : fewE false m hm = id := by funext x; rfl
theorem fewE_cells (m : Nat) (hm : m ≠ 0) (x : Ln) : lc (fewE true m hm x) = (lc x).set 1 (.int .u16 ((x.ent.n % m : Nat) : Int)) := rfl
end Go.Proofs.YtmpefjnfelfnfaaGreatDoor

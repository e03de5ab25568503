/- Contracts of package wide: Neg, Sub. -/
import Derived.Test.YtibipjncpojifaaDoorWa
import Derived.Deep.RegionHeld3
import Derived.WalkSmall
namespace Go.Proofs.YtibipjncpojifaaDoor
open Go.RowKit
set_option linter.unusedVariables false
set_option linter.unusedSimpArgs false
/-- Two cells that a world holds are held behind a call that makes memory alone; and the blocks that were there still are. -/
theorem keep2 {w0 w w1 : World} {A B : Nat} {p q : Addr} {u v : Option Value} (h : w.cell? p = u ∧ w.cell? q = v ∧ B < w.heap.size ∧ Below A w0 w) (hb : Below w.heap.size w w1) (hA : A ≤ B) (hp : p.block ≤ B) (hq : q.block ≤ B) :
    w1.cell? p = u ∧ w1.cell? q = v ∧ B < w1.heap.size ∧ Below A w0 w1 := by
  obtain ⟨h1, h2, h3, h4⟩ := h
  refine ⟨?_, ?_, Nat.lt_of_lt_of_le h3 hb.size, h4.trans (hb.mono (by omega))⟩
  · rw [hb.cell (by omega)]; exact h1
  · rw [hb.cell (by omega)]; exact h2
theorem keep4 {w0 w w1 : World} {A B : Nat} {p q p' q' : Addr} {u v u' v' : Option Value} (h : w.cell? p = u ∧ w.cell? q = v ∧ w.cell? p' = u' ∧ w.cell? q' = v' ∧ B < w.heap.size ∧ Below A w0 w) (hb : Below w.heap.size w w1) (hA : A ≤ B) (hp : p.block ≤ B) (hq : q.block ≤ B) (hp' : p'.block ≤ B) (hq' : q'.block ≤ B) :
    w1.cell? p = u ∧ w1.cell? q = v ∧ w1.cell? p' = u' ∧ w1.cell? q' = v' ∧ B < w1.heap.size ∧ Below A w0 w1 := by
  obtain ⟨h1, h2, h5, h6, h3, h4⟩ := h
  refine ⟨?_, ?_, ?_, ?_, Nat.lt_of_lt_of_le h3 hb.size, h4.trans (hb.mono (by omega))⟩
  · rw [hb.cell (by omega)]; exact h1
  · rw [hb.cell (by omega)]; exact h2
  · rw [hb.cell (by omega)]; exact h5
  · rw [hb.cell (by omega)]; exact h6
theorem bcell {W w1 : World} (hb : Below W.heap.size W w1) : (∀ b o, b < W.heap.size → w1.cell? ⟨b, o, none⟩ = W.cell? ⟨b, o, none⟩) ∧ (∀ b o, b < W.heap.size → w1.frozen? ⟨b, o, none⟩ = W.frozen? ⟨b, o, none⟩) :=
  ⟨fun b o h => hb.cell (p := ⟨b, o, none⟩) h, fun b o h => hb.frozen (p := ⟨b, o, none⟩) h⟩
theorem neg_any (a : Int) (w : World) :
    Calls Tryd.prog 41 #[.agg #[.int .i64 (hiW a), .int .u64 (loW a)]] w fun e w' => e = .returned (.agg #[.int .i64 (hiW (-a)), .int .u64 (loW (-a))]) ∧ Below w.heap.size w w' := by
  have q1 := not_hi a
  have q2 := not_lo a
  have q3 : -a - 1 + 1 = -a := by omega
  go_enter Tryd.func41, Tryd.ntmps41
  go_wp2
  go_region_held3 (fun w' => w'.cell? ⟨w.heap.size, 0, none⟩ = some (.int .i64 (hiW a)) ∧ w'.cell? ⟨w.heap.size, 1, none⟩ = some (.int .u64 (loW a)) ∧ w.heap.size + 1 < w'.heap.size ∧ Below w.heap.size w w') (first | assumption | (refine ⟨by simp, by simp, by simp, ?_⟩; exact (((Below.refl _ _).alloc (Nat.le_refl _) _).alloc (by simp) _).drew) | (refine ⟨by go_simp, by go_simp, by go_simp, ?_⟩; exact (hS2.2.2.2.setCell (by simp) _).setCell (by simp) _))
    (first | (go_at_call 48; refine (of_any 1 _ (by decide)).mono ?_; rintro e w1 ⟨rfl, hb1⟩; have hS1 := keep2 (by assumption) hb1 (by simp) (by simp) (by simp); obtain ⟨hc1, hf1⟩ := bcell hb1) | (go_at_call 54; refine (add_any (-a - 1) 1 _).mono ?_; rintro e w2 ⟨rfl, hb2⟩; have hS2 := keep2 (by assumption) hb2 (by simp) (by simp) (by simp); obtain ⟨hc2, hf2⟩ := bcell hb2))
  go_wp2
  exact bodyPost_ret (v := .agg #[.int .i64 (hiW (-a)), .int .u64 (loW (-a))]) (by simp [results, Tryd.results41, go_sem, *]) rfl ⟨rfl, (hS2.2.2.2.setCell (by simp) _).setCell (by simp) _⟩
end Go.Proofs.YtibipjncpojifaaDoor

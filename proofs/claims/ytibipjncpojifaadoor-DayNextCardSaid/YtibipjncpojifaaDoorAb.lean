/- A slice of numbers of whatever kind, in memory; a row of numbers that grows by one. -/
import Derived.Test.YtibipjncpojifaaDoorAa
import Derived.LoopTactic
import Derived.Maps.AppendAt
namespace Go.Proofs.YtibipjncpojifaaDoor
open Go.RowKit
set_option linter.unusedVariables false
set_option linter.unusedSimpArgs false
/-- A slice of numbers of a kind in memory that is there. -/
def Nums (k : IntKind) (w : World) (v : Value) (zs : List Int) : Prop :=
  (∃ r cap, v = .slice r 0 cap ∧ zs = []) ∨ ∃ b off cap, v = .slice (some ⟨b, off, none⟩) zs.length cap ∧ b < w.heap.size ∧ zs.length ≤ 9223372036854775807 ∧ zs.length ≤ cap ∧
    ∀ i, i < zs.length → w.cell? ⟨b, off + i, none⟩ = some (.int k (zs.getD i 0)) ∧ (Lit.int k (zs.getD i 0)).wf = true
theorem Nums.stay {k : IntKind} {w w' : World} {v : Value} {zs : List Int} (h : Nums k w v zs) (hb : Below w.heap.size w w') : Nums k w' v zs := by
  rcases h with h | ⟨b, off, cap, h1, h2, h3, h5, h4⟩
  · exact .inl h
  · exact .inr ⟨b, off, cap, h1, Nat.lt_of_lt_of_le h2 hb.size, h3, h5, fun i hi => ⟨by rw [hb.cell (p := ⟨b, off + i, none⟩) h2]; exact (h4 i hi).1, (h4 i hi).2⟩⟩
theorem amts_nums {w : World} {v : Value} {zs : List Int} : Amts w v zs ↔ Nums .i64 w v zs := Iff.rfl
/-- What owns a row of numbers still owns it behind a call that makes memory. -/
theorem owns_stay {w w' : World} {base : Nat} {e : TypeId} {size : Nat} {v : Value} {n : Nat} {xs : List Value} (h : w.ownsRow base e size v n xs) (hb : Below w.heap.size w w') : w'.ownsRow base e size v n xs := by
  refine ⟨h.1, ?_⟩
  rcases h.2 with hn | ⟨g, cap, cur, rfl, hg, hgg, rest⟩
  · exact .inl hn
  · refine .inr ⟨g, cap, cur, rfl, hg, ?_, rest⟩
    rw [hb.block g (Array.getElem?_eq_some_iff.1 hgg).1]
    exact hgg
theorem getD_map (f : Int → Int) (zs : List Int) (j : Nat) (h : j < zs.length) : (zs.map f).getD j 0 = f (zs.getD j 0) := by
  simp [List.getD, h]
theorem take_map_step (f : Int → Int) (zs : List Int) (j : Nat) (h : j < zs.length) : ints ((zs.take j).map f) ++ [.int .i64 (f (zs.getD j 0))] = ints ((zs.take (j + 1)).map f) := by
  rw [List.take_succ_eq_append_getElem h, List.map_append]
  unfold ints
  simp [List.getD, h]
end Go.Proofs.YtibipjncpojifaaDoor

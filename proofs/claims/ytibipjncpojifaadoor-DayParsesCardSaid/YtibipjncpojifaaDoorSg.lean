/- What law 3 asks of share.Allot, as one word; law 3's Awake and ShareAllots from it. -/
import Derived.Test.YtibipjncpojifaaDoorSb
import Derived.Test.YtibipjncpojifaaDoorSf
import Derived.Test.YtibipjncpojifaaDoorTf
namespace Go.Proofs.YtibipjncpojifaaDoor
open Go.RowKit
set_option linter.unusedVariables false
set_option linter.unusedSimpArgs false
/-- The shares of an amount, as a list. -/
def sharesV (a : Int) (zs : List Int) : List Int :=
  match sharesL a.natAbs zs.length (wOf zs) with
  | none => []
  | some O => allotL (decide (a < 0)) zs.length O
def GoodW (zs : List Int) : Prop := ∀ i, i < zs.length → 1 ≤ zs.getD i 0 ∧ zs.getD i 0 ≤ 1000000
/-- What the document says of Allot. -/
structure AllotC : Prop where
  good : ∀ (v : Value) (zs : List Int) (a : Int) (w : World), Amts w v zs → (Lit.int .i64 a).wf = true → 0 < zs.length → zs.length ≤ 8 → GoodW zs →
    Calls Tryd.prog 24 #[.int .i64 a, v] w fun e w' => ∃ u, e = .returned (.tuple #[u, .int .i64 0]) ∧ w'.ownsRow w.heap.size 2 1 u zs.length (ints (sharesV a zs)) ∧ Below w.heap.size w w'
  size : ∀ (v : Value) (zs : List Int) (a : Int) (w : World), Amts w v zs → (Lit.int .i64 a).wf = true → ¬ (0 < zs.length ∧ zs.length ≤ 8) →
    Calls Tryd.prog 24 #[.int .i64 a, v] w fun e w' => ∃ r c, e = .returned (.tuple #[.slice r 0 c, .int .i64 2]) ∧ Below w.heap.size w w'
  range : ∀ (v : Value) (zs : List Int) (a : Int) (w : World), Amts w v zs → (Lit.int .i64 a).wf = true → 0 < zs.length → zs.length ≤ 8 → ¬ GoodW zs →
    Calls Tryd.prog 24 #[.int .i64 a, v] w fun e w' => ∃ r c, e = .returned (.tuple #[.slice r 0 c, .int .i64 5]) ∧ Below w.heap.size w w'
theorem good_total {zs : List Int} (h : GoodW zs) (h0 : 0 < zs.length) (h8 : zs.length ≤ 8) : 0 < sumTo (wOf zs) zs.length ∧ ∀ i, i < zs.length → wOf zs i ≤ sumTo (wOf zs) zs.length := by
  have h1 : ∀ i, i < zs.length → wOf zs i ≤ sumTo (wOf zs) zs.length := by
    intro i hi
    have h2 : sumTo (wOf zs) (i + 1) ≤ sumTo (wOf zs) zs.length := sumTo_mono _ hi
    have h3 : sumTo (wOf zs) (i + 1) = sumTo (wOf zs) i + wOf zs i := rfl
    omega
  refine ⟨?_, h1⟩
  have h4 := h1 0 h0
  have h5 := (h 0 h0).1
  have h6 : wOf zs 0 = (zs.getD 0 0).toNat := rfl
  omega
theorem allotL_length (neg : Bool) (n : Nat) (O : Nat → Int) : (allotL neg n O).length = n := by unfold allotL; simp
theorem allotL_getD (neg : Bool) (n : Nat) (O : Nat → Int) (i : Nat) (h : i < n) : (allotL neg n O).getD i 0 = wrap64 (if neg then IntKind.u64.wrap (-(O i)) else O i) := by
  unfold allotL
  simp [List.getD, h]
theorem wrap64_wf (n : Int) : (Lit.int .i64 (wrap64 n)).wf = true := WalkArith.wf_i64 (by rw [w64w]; omega)
/-- Shares in plain words: each is its part with the amount's sign. -/
theorem sharesV_spec {a : Int} {zs : List Int} (ha : (Lit.int .i64 a).wf = true) (h : GoodW zs) (h0 : 0 < zs.length) (h8 : zs.length ≤ 8) :
    ∃ P d : Nat → Nat, (sharesV a zs).length = zs.length ∧ (∀ i, i < zs.length → (sharesV a zs).getD i 0 = if a < 0 then -(P i : Int) else (P i : Int)) ∧
      ((∀ t, d t ≤ 1) ∧ ∀ t, d t = 1 → 0 < a.natAbs * wOf zs t % sumTo (wOf zs) zs.length) ∧ (∀ t, P t = a.natAbs * wOf zs t / sumTo (wOf zs) zs.length + d t) ∧ sumTo P zs.length = a.natAbs ∧ ∀ t, t < zs.length → P t ≤ a.natAbs := by
  have hba := wf_bd_i64 ha
  obtain ⟨ht, hw⟩ := good_total h h0 h8
  obtain ⟨P, d, ⟨O, h1, h2⟩, h3, h4, h5, h6⟩ := shares_some a.natAbs zs.length (wOf zs) ht (by omega) hw
  have hs : sharesV a zs = allotL (decide (a < 0)) zs.length O := by unfold sharesV; rw [h1]
  refine ⟨P, d, by rw [hs, allotL_length], ?_, h3, h4, h5, h6⟩
  intro i hi
  have h7 := h6 i hi
  rw [hs, allotL_getD _ _ _ _ hi, h2 i hi, w64w]
  by_cases hneg : a < 0
  · rw [if_pos (by simpa using hneg), if_pos hneg]
    simp only [IntKind.wrap, IntKind.signed, IntKind.bits]
    simp
    omega
  · rw [if_neg (by simpa using hneg), if_neg hneg]
    omega
theorem sharesV_wf {a : Int} {zs : List Int} : ∀ z ∈ sharesV a zs, (Lit.int .i64 z).wf = true := by
  intro z hz
  unfold sharesV at hz
  split at hz
  · simp at hz
  · unfold allotL at hz
    obtain ⟨i, _, rfl⟩ := List.mem_map.1 hz
    exact wrap64_wf _
theorem sharesV_length {a : Int} {zs : List Int} (ha : (Lit.int .i64 a).wf = true) (h : GoodW zs) (h0 : 0 < zs.length) (h8 : zs.length ≤ 8) : (sharesV a zs).length = zs.length := by
  obtain ⟨_, _, h1, _⟩ := sharesV_spec ha h h0 h8
  exact h1
end Go.Proofs.YtibipjncpojifaaDoor

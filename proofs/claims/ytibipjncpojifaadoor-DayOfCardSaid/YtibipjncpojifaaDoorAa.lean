/- A slice of numbers of 64 bits with a sign, in memory: what it holds, behind a call that makes memory, parts of it, what owns a row of them. -/
import Derived.Test.YtibipjncpojifaaDoorChecked
import Derived.Test.YtibipjncpojifaaDoorMa
import Derived.WalkKit
import Derived.Below
import Derived.OwnWalk
import Derived.Laws.AppendOwn
import Derived.Lib.SliceRun
import Derived.Lib.ItoaMem
namespace Go.Proofs.YtibipjncpojifaaDoor
open Go.RowKit
set_option linter.unusedVariables false
set_option linter.unusedSimpArgs false
/-- A slice of amounts in memory that is there. -/
def Amts (w : World) (v : Value) (zs : List Int) : Prop :=
  (∃ r cap, v = .slice r 0 cap ∧ zs = []) ∨ ∃ b off cap, v = .slice (some ⟨b, off, none⟩) zs.length cap ∧ b < w.heap.size ∧ zs.length ≤ 9223372036854775807 ∧ zs.length ≤ cap ∧
    ∀ i, i < zs.length → w.cell? ⟨b, off + i, none⟩ = some (.int .i64 (zs.getD i 0)) ∧ (Lit.int .i64 (zs.getD i 0)).wf = true
theorem Amts.stay {w w' : World} {v : Value} {zs : List Int} (h : Amts w v zs) (hb : Below w.heap.size w w') : Amts w' v zs := by
  rcases h with h | ⟨b, off, cap, h1, h2, h3, h5, h4⟩
  · exact .inl h
  · exact .inr ⟨b, off, cap, h1, Nat.lt_of_lt_of_le h2 hb.size, h3, h5, fun i hi => ⟨by rw [hb.cell (p := ⟨b, off + i, none⟩) h2]; exact (h4 i hi).1, (h4 i hi).2⟩⟩
theorem sum_take (zs : List Int) (k : Nat) (h : k < zs.length) : (zs.take (k + 1)).sum = (zs.take k).sum + zs.getD k 0 := by
  rw [List.take_succ_eq_append_getElem h, List.sum_append]
  simp [List.getD, h]
theorem amts_two (w : World) (t : TypeId) (a b : Int) (ha : (Lit.int .i64 a).wf = true) (hb : (Lit.int .i64 b).wf = true) :
    Amts (w.alloc (.cells #[.int .i64 a, .int .i64 b] t)) (.slice (some ⟨w.heap.size, 0, none⟩) 2 2) [a, b] := by
  refine .inr ⟨w.heap.size, 0, 2, rfl, by simp, by simp, by simp, fun i hi => ?_⟩
  have hi' : i < 2 := by simpa using hi
  rcases (by omega : i = 0 ∨ i = 1) with rfl | rfl
  · exact ⟨by simp, by simpa using ha⟩
  · exact ⟨by simp, by simpa using hb⟩
/-- The cells of a row of amounts. -/
def ints (zs : List Int) : List Value := zs.map (Value.int .i64)
theorem ints_one (zs : List Int) : ∀ u ∈ ints zs, u.oneCell' = true := by
  intro u hu
  unfold ints at hu
  obtain ⟨z, _, rfl⟩ := List.mem_map.1 hu
  rfl
theorem ints_len (zs : List Int) : (ints zs).length = zs.length := by unfold ints; simp
theorem ints_get {zs : List Int} {j : Nat} {u : Value} (h : (ints zs)[j]? = some u) : j < zs.length ∧ u = .int .i64 (zs.getD j 0) := by
  unfold ints at h
  rw [List.getElem?_map] at h
  cases hq : zs[j]? with
  | none => rw [hq] at h; cases h
  | some z =>
    rw [hq] at h
    obtain ⟨hj, _⟩ := List.getElem?_eq_some_iff.1 hq
    refine ⟨hj, ?_⟩
    simp only [Option.map_some, Option.some.injEq] at h
    rw [← h, List.getD, hq]; rfl
theorem ints_app (a b : List Int) : ints a ++ ints b = ints (a ++ b) := by unfold ints; simp
theorem infoI : ∃ i, Tryd.prog.info? 2 = some i ∧ i.zero = some (.int .i64 0) ∧ i.size = 1 ∧ i.bytes = 8 := by
  have h : (Tryd.prog.info? 2).map (fun i => (i.zero, i.size, i.bytes)) = some (some (.int .i64 0), 1, 8) := by kernel_rfl
  cases hq : Tryd.prog.info? 2 with
  | none => rw [hq] at h; cases h
  | some i =>
    rw [hq] at h
    simp only [Option.map_some, Option.some.injEq, Prod.mk.injEq] at h
    exact ⟨i, rfl, h.1, h.2.1, h.2.2⟩
/-- What owns a row of amounts is a slice of them. -/
theorem amts_owns {w : World} {base : Nat} {v : Value} {zs : List Int} (h : w.ownsRow base 2 1 v zs.length (ints zs)) (hl : zs.length ≤ 9223372036854775807) (hw : ∀ z ∈ zs, (Lit.int .i64 z).wf = true) : Amts w v zs := by
  rcases h.2 with ⟨rfl, h0⟩ | ⟨g, cap, cur, rfl, hb, hg, hcap, _⟩
  · exact .inl ⟨none, 0, rfl, List.length_eq_zero_iff.1 h0⟩
  · refine .inr ⟨g, 0, cap, rfl, (h.lt g rfl).2, hl, hcap, fun i hi => ⟨?_, ?_⟩⟩
    · have hu : (ints zs)[i]? = some (.int .i64 (zs.getD i 0)) := by
        unfold ints
        simp [List.getD, hi]
      have := h.cells (g := g) rfl i _ hu
      rwa [Lib.add_plain] at this
    · refine hw _ ?_
      simp [List.getD, hi]
theorem amts_sub {w : World} {b off cap : Nat} {zs : List Int} (hb : b < w.heap.size) (hl : zs.length ≤ 9223372036854775807)
    (hz : ∀ i, i < zs.length → w.cell? ⟨b, off + i, none⟩ = some (.int .i64 (zs.getD i 0)) ∧ (Lit.int .i64 (zs.getD i 0)).wf = true) (j m c : Nat) (h1 : j + m ≤ zs.length) (h2 : m ≤ c) :
    Amts w (.slice (some ⟨b, off + j, none⟩) m c) ((zs.drop j).take m) := by
  have e : ((zs.drop j).take m).length = m := by rw [List.length_take, List.length_drop]; omega
  refine .inr ⟨b, off + j, c, by rw [e], hb, by rw [e]; omega, by rw [e]; exact h2, fun t ht => ?_⟩
  rw [e] at ht
  have g : ((zs.drop j).take m).getD t 0 = zs.getD (j + t) 0 := by
    simp [List.getD, List.getElem?_take, List.getElem?_drop, ht]
  rw [g, Nat.add_assoc]
  exact hz (j + t) (by omega)
theorem amts_take {w : World} {b off cap : Nat} {zs : List Int} (hb : b < w.heap.size) (hl : zs.length ≤ 9223372036854775807)
    (hz : ∀ i, i < zs.length → w.cell? ⟨b, off + i, none⟩ = some (.int .i64 (zs.getD i 0)) ∧ (Lit.int .i64 (zs.getD i 0)).wf = true) (m c : Nat) (h1 : m ≤ zs.length) (h2 : m ≤ c) :
    Amts w (.slice (some ⟨b, off, none⟩) m c) (zs.take m) := by
  have := amts_sub (cap := cap) hb hl hz 0 m c (by omega) h2
  simpa using this
theorem amts_drop {w : World} {b off cap : Nat} {zs : List Int} (hb : b < w.heap.size) (hl : zs.length ≤ 9223372036854775807)
    (hz : ∀ i, i < zs.length → w.cell? ⟨b, off + i, none⟩ = some (.int .i64 (zs.getD i 0)) ∧ (Lit.int .i64 (zs.getD i 0)).wf = true) (j c : Nat) (h1 : j ≤ zs.length) (h2 : zs.length - j ≤ c) :
    Amts w (.slice (some ⟨b, off + j, none⟩) (zs.length - j) c) (zs.drop j) := by
  have := amts_sub (cap := cap) hb hl hz j (zs.length - j) c (by omega) h2
  rwa [List.take_of_length_le (by rw [List.length_drop]; exact Nat.le_refl _)] at this
theorem slice_from (a : Addr) (n cap i : Nat) (hi : i ≤ n) (hc : i < cap) (w : World) :
    (Instr.slice 44 (.slice (some a) n cap) (some (.int .i64 (i : Int))) none none).run Tryd.prog w = .ok (.slice (some (a.add i)) (n - i) (cap - i)) w := by
  have hu : Tryd.prog.underlying 44 = some (.slice (Tryd.prog.elem 44)) := by kernel_rfl
  have hs : (sizeOf (Tryd.prog.elem 44)).run Tryd.prog w = .ok 1 w := by kernel_rfl
  rw [run_slice_l w 44 (some a) n cap hu .i64 (i : Int) (by omega) (by omega), hs]
  simp only [Result.andThen_ok, sliced, Int.toNat_natCast]
  rw [if_neg (by omega), Nat.mul_one]
  rfl
theorem slice_to (a : Addr) (n cap i : Nat) (hc : i < cap) (w : World) :
    (Instr.slice 44 (.slice (some a) n cap) none (some (.int .i64 (i : Int))) none).run Tryd.prog w = .ok (.slice (some a) i cap) w := by
  have hu : Tryd.prog.underlying 44 = some (.slice (Tryd.prog.elem 44)) := by kernel_rfl
  have hs : (sizeOf (Tryd.prog.elem 44)).run Tryd.prog w = .ok 1 w := by kernel_rfl
  rw [run_slice_h w 44 (some a) n cap hu .i64 (i : Int) (by omega) (by omega), hs]
  simp only [Result.andThen_ok, sliced, Int.toNat_natCast]
  rw [if_neg (by omega)]
  simp [Addr.add]
end Go.Proofs.YtibipjncpojifaaDoor

/- Contract of slices.Equal at numbers of 64 bits with a sign. -/
import Derived.Test.YtibipjncpojifaaDoorAb
import Derived.RegionTactic
import Derived.Deep.RegionWith
namespace Go.Proofs.YtibipjncpojifaaDoor
open Go.RowKit
set_option linter.unusedVariables false
set_option linter.unusedSimpArgs false
theorem Amts.form {w : World} {v : Value} {zs : List Int} (h : Amts w v zs) : ∃ r cap, v = .slice r zs.length cap ∧ zs.length ≤ 9223372036854775807 ∧
    (0 < zs.length → ∃ b off, r = some ⟨b, off, none⟩ ∧ b < w.heap.size ∧ zs.length ≤ cap ∧ ∀ i, i < zs.length → w.cell? ⟨b, off + i, none⟩ = some (.int .i64 (zs.getD i 0)) ∧ (Lit.int .i64 (zs.getD i 0)).wf = true) := by
  rcases h with ⟨r, cap, rfl, rfl⟩ | ⟨b, off, cap, rfl, hb, hl, hc, hz⟩
  · exact ⟨r, cap, rfl, by simp, fun h => by simp at h⟩
  · exact ⟨_, cap, rfl, hl, fun _ => ⟨b, off, rfl, hb, hc, hz⟩⟩
theorem equal_len (r1 r2 : Option Addr) (n1 n2 c1 c2 : Nat) (w : World) (h : n1 ≠ n2) :
    Calls Tryd.prog 25 #[.slice r1 n1 c1, .slice r2 n2 c2] w fun e w' => e = .returned (.bool false) ∧ Below w.heap.size w w' := by
  have h1 : ((n1 : Int) != (n2 : Int)) = true := by simp; omega
  go_enter Tryd.func25, Tryd.ntmps25
  go_wp2
  go_ret
  exact ⟨rfl, Below.refl _ _⟩
theorem equal_zero (r1 r2 : Option Addr) (c1 c2 : Nat) (w : World) :
    Calls Tryd.prog 25 #[.slice r1 0 c1, .slice r2 0 c2] w fun e w' => e = .returned (.bool true) ∧ Below w.heap.size w w' := by
  go_enter Tryd.func25, Tryd.ntmps25
  go_wp2
  go_loopw [13] (fun i wr => i = .int .i64 0 ∧ Below w.heap.size w wr) (fun i _ => 0)
  case atStart => exact ⟨rfl, Below.refl _ _⟩
  case round =>
    obtain ⟨rfl, hB⟩ := hrel
    go_wp2
    go_ret
    exact ⟨rfl, hB⟩
theorem take_eq_step {xs ys : List Int} {j : Nat} (h : xs.take j = ys.take j) (hx : j < xs.length) (hy : j < ys.length) (e : xs.getD j 0 = ys.getD j 0) : xs.take (j + 1) = ys.take (j + 1) := by
  rw [List.take_succ_eq_append_getElem hx, List.take_succ_eq_append_getElem hy, h]
  simp [List.getD, hx, hy] at e
  rw [e]
set_option maxHeartbeats 2000000 in
theorem equal_some (b1 o1 c1 b2 o2 c2 : Nat) (xs ys : List Int) (w : World) (hl : xs.length = ys.length) (hm : xs.length ≤ 9223372036854775807) (hb1 : b1 < w.heap.size) (hb2 : b2 < w.heap.size)
    (hx : ∀ i, i < xs.length → w.cell? ⟨b1, o1 + i, none⟩ = some (.int .i64 (xs.getD i 0))) (hy : ∀ i, i < ys.length → w.cell? ⟨b2, o2 + i, none⟩ = some (.int .i64 (ys.getD i 0))) :
    Calls Tryd.prog 25 #[.slice (some ⟨b1, o1, none⟩) xs.length c1, .slice (some ⟨b2, o2, none⟩) xs.length c2] w fun e w' => e = .returned (.bool (decide (xs = ys))) ∧ Below w.heap.size w w' := by
  have Hx := Lib.hid hx
  have Hy := Lib.hid hy
  have Hl := Lib.hid hl
  clear hx hy hl
  go_enter Tryd.func25, Tryd.ntmps25
  go_wp2
  go_loopw [13] (fun i wr => ∃ j : Nat, j ≤ xs.length ∧ i = .int .i64 j ∧ Hid (xs.take j = ys.take j) ∧ Below w.heap.size w wr) (fun i _ => xs.length - (RowKit.intOf i).toNat)
  case atStart => exact ⟨0, Nat.zero_le _, rfl, rfl, Below.refl _ _⟩
  case round =>
    obtain ⟨j, hj, rfl, hE, hB⟩ := hrel
    rename World => wr
    by_cases hlt : j < xs.length
    · have h1 : wr.cell? ⟨b1, o1 + j, none⟩ = some (.int .i64 (xs.getD j 0)) := by rw [hB.cell (p := ⟨b1, o1 + j, none⟩) hb1]; exact Hx.out j hlt
      have h2 : wr.cell? ⟨b2, o2 + j, none⟩ = some (.int .i64 (ys.getD j 0)) := by rw [hB.cell (p := ⟨b2, o2 + j, none⟩) hb2]; exact Hy.out j (by have := Hl.out; omega)
      have hst := fun e => take_eq_step hE.out hlt (by have := Hl.out; omega) e
      have hno : xs.getD j 0 ≠ ys.getD j 0 → decide (xs = ys) = false := fun h => decide_eq_false (fun e => h (by rw [e]))
      generalize xs.getD j 0 = x at *
      generalize ys.getD j 0 = y at *
      have Hst := Lib.hid hst
      have Hno := Lib.hid hno
      clear hst hno
      by_cases hxy : x = y
      · subst hxy
        have Hs := Lib.hid (Hst.out rfl)
        clear Hst
        go_wp2
        go_region
        all_goals
          go_wp2
          go_roundw
          case rel => exact ⟨j + 1, by omega, by go_num, Hs, hB.drew⟩
          case measure => simp [RowKit.intOf]; omega
      · have hxy' : (x != y) = true := by simpa using hxy
        have hd := Hno.out hxy
        go_wp2
        go_region
        all_goals
          go_wp2
          go_ret
          exact ⟨by rw [hd]; rfl, hB.drew⟩
    · obtain rfl : j = xs.length := by omega
      have he : xs = ys := by
        have := hE.out
        rw [List.take_length, Hl.out, List.take_length] at this
        exact this
      have hd : decide (xs = ys) = true := decide_eq_true he
      go_wp2
      go_ret
      exact ⟨by rw [hd]; rfl, hB⟩
theorem equal_any (v1 v2 : Value) (xs ys : List Int) (w : World) (h1 : Amts w v1 xs) (h2 : Amts w v2 ys) :
    Calls Tryd.prog 25 #[v1, v2] w fun e w' => e = .returned (.bool (decide (xs = ys))) ∧ Below w.heap.size w w' := by
  obtain ⟨r1, c1, rfl, m1, f1⟩ := h1.form
  obtain ⟨r2, c2, rfl, m2, f2⟩ := h2.form
  by_cases hl : xs.length = ys.length
  · by_cases h0 : xs.length = 0
    · have e1 := List.length_eq_zero_iff.1 h0
      have e2 := List.length_eq_zero_iff.1 (hl ▸ h0 : ys.length = 0)
      subst e1 e2
      exact equal_zero r1 r2 c1 c2 w
    · obtain ⟨b1, o1, rfl, hb1, _, hx⟩ := f1 (by omega)
      obtain ⟨b2, o2, rfl, hb2, _, hy⟩ := f2 (by omega)
      have := equal_some b1 o1 c1 b2 o2 c2 xs ys w hl m1 hb1 hb2 (fun i hi => (hx i hi).1) (fun i hi => (hy i hi).1)
      rwa [← hl]
  · have hd : decide (xs = ys) = false := decide_eq_false (fun e => hl (by rw [e]))
    rw [hd]
    exact equal_len r1 r2 _ _ c1 c2 w hl
end Go.Proofs.YtibipjncpojifaaDoor

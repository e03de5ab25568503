/- The contract of wide.Quo. -/
import Derived.Test.YtibipjncpojifaaDoorWb
import Derived.Test.YtibipjncpojifaaDoorMc
import Derived.LoopTactic
namespace Go.Proofs.YtibipjncpojifaaDoor
open Go.RowKit
set_option linter.unusedVariables false
set_option linter.unusedSimpArgs false
set_option maxHeartbeats 1000000 in
theorem quo_core (h l d : Nat) (w : World) (h1 : h < d) (hl : l < 18446744073709551616) (hd : d < 9223372036854775808) :
    Calls Tryd.prog 42 #[.agg #[.int .i64 (h : Int), .int .u64 (l : Int)], .int .i64 (d : Int)] w fun e w' => e = .returned (.tuple #[.int .u64 (quoN h l d 0 : Nat), .int .u64 (remN h l d 0 : Nat)]) ∧ Below w.heap.size w w' := by
  have g1 : IntKind.u64.wrap (h : Int) = h := by rw [IntKind.wrap_u64]; omega
  have g2 : IntKind.u64.wrap (d : Int) = d := by rw [IntKind.wrap_u64]; omega
  have t1 : (h : Int) < d := by omega
  have t0 : (0 : Int) ≤ h := by omega
  have t2 : (0 : Int) ≤ l := by omega
  have HD := Lib.hid hd
  have HL := Lib.hid hl
  clear hd hl
  go_enter Tryd.func42, Tryd.ntmps42
  go_wp2
  go_loop [4, 5, 7] (fun q r b => ∃ k : Nat, k ≤ 64 ∧ b = .int .i64 ((k : Int) - 1) ∧ q = .int .u64 (quoN h l d k : Nat) ∧ r = .int .u64 (remN h l d k : Nat)) (fun _ _ b => (intOf b + 1).toNat)
  case atStart =>
    have e1 : top h l 64 = h := by
      unfold top; rw [Nat.div_eq_of_lt (by have := HL.out; omega)]; simp
    exact ⟨64, by omega, rfl, int_int (by unfold quoN; rw [e1, Nat.div_eq_of_lt h1]; simp), int_int (by unfold remN; rw [e1, Nat.mod_eq_of_lt h1])⟩
  case round =>
    obtain ⟨k, hk, rfl, rfl, rfl⟩ := hrel
    by_cases hz : k = 0
    · subst hz
      go_wp2
      go_ret2
      exact ⟨rfl, (Below.refl _ _).alloc (Nat.le_refl _) _⟩
    · obtain ⟨j, rfl⟩ : ∃ j, k = j + 1 := ⟨k - 1, by omega⟩
      have e : ((j + 1 : Nat) : Int) - 1 = (j : Int) := by omega
      have hj : j < 64 := by omega
      have hdp : 0 < d := by omega
      have hr : remN h l d (j + 1) < d := Nat.mod_lt _ hdp
      have n1 := next_bits (remN h l d (j + 1)) l j (by have := HD.out; omega) HL.out
      have s1 := set_bit (quoN h l d (j + 1)) j hj (quoN_lt h l d (j + 1) hk h1 HL.out) (quoN_mod h l d (j + 1))
      rw [e]
      by_cases hc : d ≤ 2 * remN h l d (j + 1) + l / 2 ^ j % 2
      · obtain ⟨x1, x2⟩ := quo_step_yes h l d j hj hdp hc
        have c1 : (d : Int) ≤ ((2 * remN h l d (j + 1) + l / 2 ^ j % 2 : Nat) : Int) := by omega
        have c2 : IntKind.u64.wrap (((2 * remN h l d (j + 1) + l / 2 ^ j % 2 : Nat) : Int) - d) = (remN h l d j : Nat) := by
          have := HD.out
          rw [x2, IntKind.wrap_u64]; omega
        have X1 := Lib.hid x1
        have X2 := Lib.hid x2
        generalize 2 * remN h l d (j + 1) + l / 2 ^ j % 2 = m at *
        clear x1 x2 hc
        go_wp2
        go_round
        case rel => exact ⟨j, by omega, rfl, nat_int X1.out.symm, rfl⟩
        case measure => simp [intOf]
      · obtain ⟨x1, x2⟩ := quo_step_no h l d j hj hdp hc
        have c1 : ((2 * remN h l d (j + 1) + l / 2 ^ j % 2 : Nat) : Int) < d := by omega
        have X1 := Lib.hid x1
        have X2 := Lib.hid x2
        generalize 2 * remN h l d (j + 1) + l / 2 ^ j % 2 = m at *
        clear x1 x2 hc
        go_wp2
        go_round
        case rel => exact ⟨j, by omega, rfl, nat_int X1.out.symm, nat_int X2.out.symm⟩
        case measure => simp [intOf]
theorem cast_div (H K L D : Nat) : (((H * K + L) / D : Nat) : Int) = ((H : Int) * K + L) / D := by push_cast; rfl
theorem cast_mod (H K L D : Nat) : (((H * K + L) % D : Nat) : Int) = ((H : Int) * K + L) % D := by push_cast; rfl
theorem quo_yes (h l d : Int) (w : World) (h0 : 0 ≤ h) (h1 : h < d) (wl : (Lit.int .u64 l).wf = true) (wd : (Lit.int .i64 d).wf = true) :
    Calls Tryd.prog 42 #[.agg #[.int .i64 h, .int .u64 l], .int .i64 d] w fun e w' => e = .returned (.tuple #[.int .u64 ((h * 18446744073709551616 + l) / d), .int .u64 ((h * 18446744073709551616 + l) % d)]) ∧ Below w.heap.size w w' := by
  have bl := wf_bd_u64 wl
  have bd := wf_bd_i64 wd
  obtain ⟨H, rfl⟩ := Int.eq_ofNat_of_zero_le h0
  obtain ⟨L, rfl⟩ := Int.eq_ofNat_of_zero_le bl.1
  obtain ⟨D, rfl⟩ := Int.eq_ofNat_of_zero_le (by omega : 0 ≤ d)
  refine (quo_core H L D w (by omega) (by omega) (by omega)).mono ?_
  rintro e w' ⟨rfl, hb⟩
  have e0 : top H L 0 = H * 18446744073709551616 + L := by unfold top; simp
  have e1 : ((quoN H L D 0 : Nat) : Int) = ((H : Int) * 18446744073709551616 + L) / D := by
    unfold quoN; rw [e0, Nat.pow_zero, Nat.mul_one]; exact cast_div H 18446744073709551616 L D
  have e2 : ((remN H L D 0 : Nat) : Int) = ((H : Int) * 18446744073709551616 + L) % D := by
    unfold remN; rw [e0]; exact cast_mod H 18446744073709551616 L D
  exact ⟨by rw [e1, e2], hb⟩
theorem quo_no1 (h l d : Int) (w : World) (h0 : h < 0) :
    Calls Tryd.prog 42 #[.agg #[.int .i64 h, .int .u64 l], .int .i64 d] w fun e w' => e = .returned (.tuple #[.int .u64 0, .int .u64 0]) ∧ Below w.heap.size w w' := by
  go_enter Tryd.func42, Tryd.ntmps42
  go_wp2
  go_ret2
  exact ⟨rfl, (Below.refl _ _).alloc (Nat.le_refl _) _⟩
theorem quo_no2 (h l d : Int) (w : World) (h0 : 0 ≤ h) (h1 : d ≤ h) :
    Calls Tryd.prog 42 #[.agg #[.int .i64 h, .int .u64 l], .int .i64 d] w fun e w' => e = .returned (.tuple #[.int .u64 0, .int .u64 0]) ∧ Below w.heap.size w w' := by
  go_enter Tryd.func42, Tryd.ntmps42
  go_wp2
  go_ret2
  exact ⟨rfl, (Below.refl _ _).alloc (Nat.le_refl _) _⟩
theorem quo_no (h l d : Int) (w : World) (hn : ¬ (0 ≤ h ∧ h < d)) :
    Calls Tryd.prog 42 #[.agg #[.int .i64 h, .int .u64 l], .int .i64 d] w fun e w' => e = .returned (.tuple #[.int .u64 0, .int .u64 0]) ∧ Below w.heap.size w w' := by
  by_cases h0 : h < 0
  · exact quo_no1 h l d w h0
  · exact quo_no2 h l d w (by omega) (by omega)
end Go.Proofs.YtibipjncpojifaaDoor

/- Contract of law 3's quo: a product of two numbers, divided by a third, bit by bit. -/
import Derived.Test.YtkeicflmbhokhaaDoorMc
import Derived.Test.YtkeicflmbhokhaaDoorYd
namespace Go.Proofs.YtkeicflmbhokhaaDoor
open Go.RowKit
set_option linter.unusedVariables false
set_option linter.unusedSimpArgs false
theorem half_step (N j : Nat) : N / 2 ^ j = 2 * (N / 2 ^ (j + 1)) + N / 2 ^ j % 2 := by
  have e : N / 2 ^ (j + 1) = N / 2 ^ j / 2 := by rw [Nat.pow_succ, Nat.div_div_eq_div_mul]
  rw [e]; omega
theorem bit_nat (N j : Nat) : bitZ (N : Int) j = ((N / 2 ^ j % 2 : Nat) : Int) := by
  unfold bitZ
  push_cast
  rfl
theorem quo_small (N D j : Nat) (h : N / D < 18446744073709551616) : N / 2 ^ j / D < 18446744073709551616 :=
  Nat.lt_of_le_of_lt (Nat.div_le_div_right (Nat.div_le_self _ _)) h
set_option maxHeartbeats 4000000 in
set_option maxRecDepth 100000 in
theorem lquo_any (a b D : Nat) (w : World) (ha : a < 18446744073709551616) (hb : b < 9223372036854775808) (hD : 0 < D) (hD2 : D < 4611686018427387904) (hq : a * b / D < 18446744073709551616) :
    Calls Tryd.prog 24 #[.int .u64 (a : Int), .int .i64 (b : Int), .int .i64 (D : Int)] w fun e w' => e = .returned (.tuple #[.int .u64 ((a * b / D : Nat) : Int), .int .u64 ((a * b % D : Nat) : Int)]) ∧ Below w.heap.size w w' := by
  have z1 : hiW (a : Int) = 0 := by unfold hiW; rw [i64w]; omega
  have z2 : loW (a : Int) = a := by unfold loW; omega
  have cb := fun w' => bits_any (a : Int) w'
  rw [z1, z2] at cb
  have wb : (Lit.int .u64 (b : Int)).wf = true := WalkArith.wf_u64 (by omega)
  have cm := fun w' => rmul_any (a : Int) (b : Int) w' wb
  have em : (a : Int) * (b : Int) = ((a * b : Nat) : Int) := by push_cast; rfl
  rw [em] at cm
  have hN : a * b < 170141183460469231731687303715884105728 := by
    have h1 : a * b ≤ a * 9223372036854775808 := Nat.mul_le_mul_left _ (by omega)
    have h2 : a * 9223372036854775808 < 18446744073709551616 * 9223372036854775808 := Nat.mul_lt_mul_of_pos_right ha (by omega)
    omega
  have hza := zeroArr
  have kb : IntKind.u64.wrap (b : Int) = b := by rw [IntKind.wrap_u64]; omega
  have kD : IntKind.u64.wrap (D : Int) = D := by rw [IntKind.wrap_u64]; omega
  have Em := Lib.hid em
  clear em z1 z2
  generalize a * b = N at *
  have HN := Lib.hid hN
  have HQ := Lib.hid hq
  clear hN hq
  go_enter Tryd.func24, Tryd.ntmps24
  go_wp2_with (first
    | (go_at_call 37; refine (cb _).mono ?_; rintro e w1 ⟨rfl, hb1⟩)
    | (go_at_call 36; refine (cm _).mono ?_; rintro e w2 ⟨rfl, hb2⟩; have N0 := Lib.hid (IsArr.new w2 (fun _ => 0)))
    | refine wpList_store_row rfl 64 _ _ rfl w2.heap.size _ rfl rfl 64 _ N0.out (infoArr _) (by rw [arr_size, arr_size]) (arr_one _) ?_)
  have hs1 := hb1.size
  have hs2 := hb2.size
  have hA := N0.out.setRow (bitZ (N : Int))
  have hB : Below w.heap.size w ((w2.alloc (.cells (arr fun _ => 0) 64)).setRow w2.heap.size (arr (bitZ (N : Int)))) := below_setRow ((hb1.trans (hb2.mono hs1)).alloc (by omega) _) (by omega) _
  generalize ((w2.alloc (.cells (arr fun _ => 0) 64)).setRow w2.heap.size (arr (bitZ (N : Int)))) = w3 at *
  have HA := Lib.hid hA
  clear hA N0 cb cm hza
  go_loop [9, 10, 11] (fun q r i => ∃ k : Nat, k ≤ 128 ∧ i = .int .i64 ((k : Int) - 1) ∧ q = .int .u64 ((N / 2 ^ k / D : Nat) : Int) ∧ r = .int .u64 ((N / 2 ^ k % D : Nat) : Int)) (fun _ _ i => (intOf i + 1).toNat)
  case atStart =>
    have e1 : N / 2 ^ 128 = 0 := Nat.div_eq_of_lt (by have := HN.out; omega)
    exact ⟨128, by omega, rfl, int_int (by rw [e1, Nat.zero_div]; rfl), int_int (by rw [e1, Nat.zero_mod]; rfl)⟩
  case round =>
    obtain ⟨k, hk, rfl, rfl, rfl⟩ := hrel
    by_cases hz : k = 0
    · subst hz
      rw [Nat.pow_zero, Nat.div_one]
      go_wp2
      go_ret2
      exact ⟨rfl, hB⟩
    · obtain ⟨j, rfl⟩ : ∃ j, k = j + 1 := ⟨k - 1, by omega⟩
      have e : ((j + 1 : Nat) : Int) - 1 = (j : Int) := by omega
      have hc := HA.out.cell (j := j) (by omega)
      rw [bit_nat] at hc
      have hd := step_div (N / 2 ^ (j + 1)) (N / 2 ^ j % 2) D hD (by omega)
      rw [← half_step] at hd
      have hr : N / 2 ^ (j + 1) % D < D := Nat.mod_lt _ hD
      have hqj := quo_small N D j HQ.out
      have hbit : N / 2 ^ j % 2 < 2 := by omega
      rw [e]
      obtain ⟨d1, d2⟩ := hd
      generalize N / 2 ^ (j + 1) / D = q at *
      generalize N / 2 ^ (j + 1) % D = r at *
      generalize hbt : N / 2 ^ j % 2 = t at *
      by_cases hle : D ≤ 2 * r + t
      · rw [if_pos hle] at d1 d2
        have D1 := Lib.hid d1
        have D2 := Lib.hid d2
        rw [d1] at hqj
        clear d1 d2 hbt
        go_wp2
        go_round
        case rel => exact ⟨j, by omega, rfl, int_int (by rw [D1.out]; push_cast; omega), int_int (by rw [D2.out]; omega)⟩
        case measure => simp [intOf]
      · rw [if_neg hle] at d1 d2
        have D1 := Lib.hid d1
        have D2 := Lib.hid d2
        rw [d1] at hqj
        clear d1 d2 hbt
        go_wp2
        go_round
        case rel => exact ⟨j, by omega, rfl, int_int (by rw [D1.out]; push_cast; omega), int_int (by rw [D2.out]; omega)⟩
        case measure => simp [intOf]
end Go.Proofs.YtkeicflmbhokhaaDoor

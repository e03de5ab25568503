/- Contracts of the document's answer for layer 1: Mul. -/
import Derived.Test.YtkeicflmbhokhaaDoorYb
namespace Go.Proofs.YtkeicflmbhokhaaDoor
open Go.RowKit
set_option linter.unusedVariables false
set_option linter.unusedSimpArgs false
theorem mul_bit_yes (v b : Int) (k : Nat) (h : b / 2 ^ k % 2 = 1) : v * (b % 2 ^ k) + v * 2 ^ k = v * (b % 2 ^ (k + 1)) := by
  have := mod_step b k
  unfold bitZ at this
  rw [this, h, Int.one_mul, Int.mul_add]
theorem mul_bit_no (v b : Int) (k : Nat) (h : ¬ b / 2 ^ k % 2 = 1) : v * (b % 2 ^ k) = v * (b % 2 ^ (k + 1)) := by
  have := mod_step b k
  unfold bitZ at this
  rw [this, show b / 2 ^ k % 2 = 0 by omega, Int.zero_mul, Int.add_zero]
theorem bit_none (v b : Int) (j : Nat) : 0 = bitZ (v * (b % 2 ^ 0)) j := by
  have e : b % 2 ^ 0 = 0 := by rw [Int.pow_zero]; omega
  rw [e, Int.mul_zero]; unfold bitZ; simp
theorem mul_all {b : Int} (h : 0 ≤ b ∧ b < 18446744073709551616) (v : Int) : v * (b % 2 ^ 64) = v * b := by
  have : b % 18446744073709551616 = b := by omega
  exact congrArg (v * ·) this
theorem mkArr_low (v : Int) (k j : Nat) : 0 = mkArr (bitZ (v * 2 ^ k)) k j := by
  unfold mkArr
  by_cases h : j < k
  · rw [if_pos h, bit_shift_low v k j h]
  · rw [if_neg h]
set_option maxRecDepth 100000 in
set_option maxHeartbeats 2000000 in
theorem rmul_any (v b : Int) (w : World) (wb : (Lit.int .u64 b).wf = true) :
    Calls Tryd.prog 36 #[.agg (arr (bitZ v)), .int .u64 b] w fun e w' => e = .returned (.agg (arr (bitZ (v * b)))) ∧ Below w.heap.size w w' := by
  have bb := wf_bd_u64 wb
  have B0 : 0 ≤ b := bb.1
  have BB := Lib.hid bb
  clear bb
  have hza := zeroArr
  go_enter Tryd.func36, Tryd.ntmps36
  go_wp2
  go_loopw [6] (fun i wr => ∃ k : Nat, k ≤ 64 ∧ i = .int .i64 k ∧ IsArr wr w.heap.size (bitZ v) ∧ IsArr wr (w.heap.size + 1) (fun _ => 0) ∧ IsArr wr (w.heap.size + 1 + 1) (bitZ (v * (b % 2 ^ k))) ∧ Below w.heap.size w wr) (fun i _ => (64 - (intOf i)).toNat)
  case atStart =>
    have a0 := ((IsArr.new w (bitZ v)).alloc (.cells (arr fun _ => 0) 64)).alloc (.cells (arr fun _ => 0) 64)
    have a1 := (IsArr.new1 w (.cells (arr (bitZ v)) 64) (fun _ => 0)).alloc (.cells (arr fun _ => 0) 64)
    have a2 := IsArr.new2 w (.cells (arr (bitZ v)) 64) (.cells (arr fun _ => 0) 64) (fun _ => 0)
    exact ⟨0, by omega, rfl, a0, a1, a2.congr (fun j _ => bit_none v b j), (((Below.refl _ _).alloc (Nat.le_refl _) _).alloc (by simp) _).alloc (by simp; omega) _⟩
  case round =>
    rename World => w0
    obtain ⟨k, hk, rfl, ha0, ha1, ha2, hbl⟩ := hrel
    by_cases hz : k < 64
    · by_cases hb : b / 2 ^ k % 2 = 1
      · have p0 := quo_pow_nonneg B0 k
        have t1 : (b / 2 ^ k % 2 == 1) = true := by rw [beq_iff_eq]; exact hb
        have HB := Lib.hid hb
        have A0 := Lib.hid ha0
        have A1 := Lib.hid ha1
        have A2 := Lib.hid ha2
        clear ha0 ha1 ha2 hb
        have hsz := A2.out.lt
        go_wp2
        go_loopw [8] (fun i wq => ∃ m : Nat, k ≤ m ∧ m ≤ 128 ∧ i = .int .i64 m ∧ IsArr wq w.heap.size (bitZ v) ∧ IsArr wq (w.heap.size + 1) (fun _ => 0) ∧ IsArr wq (w.heap.size + 1 + 1) (bitZ (v * (b % 2 ^ k))) ∧ IsArr wq w0.heap.size (mkArr (bitZ (v * 2 ^ k)) m) ∧ Below w.heap.size w wq) (fun i _ => (128 - (intOf i)).toNat)
        case atStart =>
          refine ⟨k, by omega, by omega, rfl, A0.out.alloc _, A1.out.alloc _, A2.out.alloc _, (IsArr.new w0 _).congr (fun j _ => ?_), hbl.alloc (by omega) _⟩
          exact mkArr_low v k j
        case round =>
          obtain ⟨m, hkm, hm, rfl, c0, c1, c2, c3, hbq⟩ := hrel
          by_cases hy : m < 128
          · have hc0 := c0.cell (j := m - k) (by omega)
            have hc3 := c3.cell (j := m) hy
            have hf3 := c3.frozen m
            have C := Lib.hid (And.intro c0 (And.intro c1 (And.intro c2 c3)))
            clear c0 c1 c2 c3
            go_wp2
            go_roundw
            case rel =>
              obtain ⟨c0, c1, c2, c3⟩ := C.out
              refine ⟨m + 1, by omega, by omega, by go_num, c0.setOther _ (by simp; omega) _, c1.setOther _ (by simp; omega) _, c2.setOther _ (by simp; omega) _, ?_, hbq.setCell (by simp; omega) _⟩
              exact (c3.set _ _).congr fun j _ => mkArr_step _ m j _ (bit_shift v k m hkm).symm
            case measure => simp [intOf]; omega
          · obtain rfl : m = 128 := by omega
            have C0 := Lib.hid c0
            have C1 := Lib.hid c1
            have C2 := Lib.hid c2
            have C3 := Lib.hid (c3.congr (fun j hj => by unfold mkArr; rw [if_pos hj]) : IsArr wr w0.heap.size (bitZ (v * 2 ^ k)))
            clear c0 c1 c2 c3
            go_wp2_with (first
              | refine wpList_load_row rfl 64 _ rfl (w.heap.size + 1 + 1) rfl 64 _ (0, 0) _ C2.out Tryd.underlying64 rfl (infoArr _) ?_
              | refine wpList_load_row rfl 64 _ rfl w0.heap.size rfl 64 _ (0, 0) _ C3.out Tryd.underlying64 rfl (infoArr _) ?_
              | (go_at_call 43; refine (radd_any _ _ _).mono ?_; rintro e w1 ⟨rfl, hb1⟩; have HC := Lib.hid (C2.out.below hb1))
              | refine wpList_store_row rfl 64 _ _ rfl (w.heap.size + 1 + 1) _ rfl rfl 64 _ HC.out (infoArr _) (by rw [arr_size, arr_size]) (arr_one _) ?_)
            go_roundw
            case rel => exact ⟨k + 1, by omega, by go_num, (C0.out.below hb1).setRowOther (by omega) _, (C1.out.below hb1).setRowOther (by omega) _, by rw [← mul_bit_yes v b k HB.out]; exact HC.out.setRow _, below_setRow (hbq.trans (hb1.mono hbq.size)) (by omega) _⟩
            case measure => simp [intOf]; omega
      · have p0 := quo_pow_nonneg B0 k
        have t1 : (b / 2 ^ k % 2 == 1) = false := by rw [beq_eq_false_iff_ne]; exact hb
        have HB := Lib.hid hb
        have A0 := Lib.hid ha0
        have A1 := Lib.hid ha1
        have A2 := Lib.hid ha2
        clear ha0 ha1 ha2 hb
        go_wp2
        go_roundw
        case rel => exact ⟨k + 1, by omega, by go_num, A0.out, A1.out, by rw [← mul_bit_no v b k HB.out]; exact A2.out, hbl⟩
        case measure => simp [intOf]; omega
    · obtain rfl : k = 64 := by omega
      rw [mul_all BB.out] at ha2
      have A1 := Lib.hid ha1
      have A2 := Lib.hid ha2
      clear ha0 ha1 ha2
      go_wp2_with (first
        | refine wpList_load_row rfl 64 _ rfl (w.heap.size + 1 + 1) rfl 64 _ (0, 0) _ A2.out Tryd.underlying64 rfl (infoArr _) ?_
        | refine wpList_store_row rfl 64 _ _ rfl (w.heap.size + 1) _ rfl rfl 64 _ A1.out (infoArr _) (by rw [arr_size, arr_size]) (arr_one _) ?_)
      exact bodyPost_ret (v := .agg (arr (bitZ (v * b)))) (results_cell_row Tryd.results36 _ _ (w.heap.size + 1) 64 _ (0, 0) _ rfl (A1.out.setRow _) Tryd.underlying64 rfl (infoArr _)) rfl ⟨rfl, below_setRow hbl (by omega) _⟩
end Go.Proofs.YtkeicflmbhokhaaDoor

/- Contracts of the document's answer for layer 1: the law's bits and is; Neg. -/
import Derived.Test.YthgkfgjdlpjnmaaYb
namespace Go.Proofs.Ythgkfgjdlpjnmaa
open Go.RowKit
set_option linter.unusedVariables false
set_option linter.unusedSimpArgs false
theorem lbits_any (v : Int) (w : World) :
    Calls Try.prog 15 #[.agg #[.int .i64 (hiW v), .int .u64 (loW v)]] w fun e w' => e = .returned (.agg (arr (bitZ v))) ∧ Below w.heap.size w w' := by
  have hza := zeroArr
  have A := Lib.hid (IsArr.new1 w (.cells #[.int .i64 (hiW v), .int .u64 (loW v)] 24) (fun _ => 0))
  go_enter Try.func15, Try.ntmps15
  go_wp2_with (first
    | (go_at_call 23; refine (bits_any v _).mono ?_; rintro e w1 ⟨rfl, hb1⟩; have HA := Lib.hid (A.out.below hb1))
    | refine wpList_store_row rfl 28 _ _ rfl (w.heap.size + 1) _ rfl rfl 28 _ HA.out (infoArr _) (by rw [arr_size, arr_size]) (arr_one _) ?_)
  exact bodyPost_ret (v := .agg (arr (bitZ v))) (results_cell_row Try.results15 _ _ (w.heap.size + 1) 28 _ (0, 0) _ rfl (HA.out.setRow _) Try.underlying28 rfl (infoArr _)) rfl ⟨rfl, below_setRow ((((Below.refl _ _).alloc (Nat.le_refl _) _).alloc (by simp) _).trans (hb1.mono (by simp; omega))) (by omega) _⟩
theorem is_same (v : Int) (w : World) :
    Calls Try.prog 12 #[.agg #[.int .i64 (hiW v), .int .u64 (loW v)], .agg (arr (bitZ v))] w fun e w' => e = .returned (.bool true) ∧ Below w.heap.size w w' := by
  have A := Lib.hid (IsArr.new1 w (.cells #[.int .i64 (hiW v), .int .u64 (loW v)] 24) (bitZ v))
  go_enter Try.func12, Try.ntmps12
  go_wp2_with (first
    | (go_at_call 27; refine (number_any v _).mono ?_; rintro e w1 ⟨rfl, hb1⟩; obtain ⟨hc1, hf1⟩ := bcell hb1; have hz1 : w.heap.size < w1.heap.size := by (have := hb1.size; simp at this; omega))
    | refine wpList_load_row rfl 28 _ rfl (w.heap.size + 1) rfl 28 _ (0, 0) _ A.out Try.underlying28 rfl (infoArr _) ?_)
  go_ret
  exact ⟨rfl, (((Below.refl _ _).alloc (Nat.le_refl _) _).alloc (by simp) _).trans (hb1.mono (by simp; omega))⟩
/-- The array of which the first k places are turned. -/
def turned (v : Int) (k j : Nat) : Int := if j < k then bitZ (-v - 1) j else bitZ v j
theorem turned_step (v : Int) (k j : Nat) : (if j = k then 1 - turned v k k else turned v k j) = turned v (k + 1) j := by
  unfold turned
  by_cases h2 : j = k
  · subst h2; rw [if_pos rfl, if_neg (by omega), if_pos (by omega : j < j + 1), bit_not]
  · rw [if_neg h2]
    by_cases h3 : j < k
    · rw [if_pos h3, if_pos (by omega : j < k + 1)]
    · rw [if_neg h3, if_neg (by omega : ¬ j < k + 1)]
theorem turned_zero (v : Int) (j : Nat) : bitZ v j = turned v 0 j := by unfold turned; rw [if_neg (by omega)]
theorem turned_all (v : Int) (j : Nat) (h : j < 128) : turned v 128 j = bitZ (-v - 1) j := by unfold turned; rw [if_pos h]
theorem turned_at (v : Int) (k : Nat) : 0 ≤ turned v k k ∧ turned v k k ≤ 1 := by unfold turned; rw [if_neg (by omega)]; exact bit_01 v k
theorem one_arr : (arr fun _ => 0).setIfInBounds 0 (.int .i64 1) = arr (bitZ 1) := by
  rw [arr_set]; exact arr_congr fun j _ => (bit_one j).symm
set_option maxRecDepth 100000 in
set_option maxHeartbeats 1000000 in
theorem rneg_any (v : Int) (w : World) :
    Calls Try.prog 17 #[.agg (arr (bitZ v))] w fun e w' => e = .returned (.agg (arr (bitZ (-v)))) ∧ Below w.heap.size w w' := by
  have hza := zeroArr
  have hone := one_arr
  have o0 := (IsArr.new ((w.alloc (.cells (arr (bitZ v)) 28)).alloc (.cells (arr fun _ => 0) 28)) (fun _ => 0)).cell (j := 0) (by omega)
  have o1 := (IsArr.new ((w.alloc (.cells (arr (bitZ v)) 28)).alloc (.cells (arr fun _ => 0) 28)) (fun _ => 0)).frozen 0
  go_enter Try.func17, Try.ntmps17
  go_wp2
  go_loopw [4] (fun i wr => ∃ k : Nat, k ≤ 128 ∧ i = .int .i64 k ∧ IsArr wr w.heap.size (turned v k) ∧ IsArr wr (w.heap.size + 1) (fun _ => 0) ∧ IsArr wr (w.heap.size + 1 + 1) (bitZ 1) ∧ Below w.heap.size w wr) (fun i _ => (128 - (intOf i)).toNat)
  case atStart =>
    have a0 := ((IsArr.new w (bitZ v)).alloc (.cells (arr fun _ => 0) 28)).alloc (.cells (arr (bitZ 1)) 28)
    have a1 := (IsArr.new1 w (.cells (arr (bitZ v)) 28) (fun _ => 0)).alloc (.cells (arr (bitZ 1)) 28)
    have a2 := IsArr.new2 w (.cells (arr (bitZ v)) 28) (.cells (arr fun _ => 0) 28) (bitZ 1)
    exact ⟨0, by omega, rfl, a0.congr (fun j _ => turned_zero _ _), a1, a2, (((Below.refl _ _).alloc (Nat.le_refl _) _).alloc (by simp) _).alloc (by simp; omega) _⟩
  case round =>
    obtain ⟨k, hk, rfl, ha0, ha1, ha2, hbl⟩ := hrel
    clear o0 o1 hone hza
    by_cases hz : k < 128
    · have hc0 := ha0.cell (j := k) (by omega)
      have hf0 := ha0.frozen k
      have b0 := turned_at v k
      have HA := Lib.hid (And.intro ha0 (And.intro ha1 ha2))
      clear ha0 ha1 ha2
      go_wp2
      go_roundw
      case rel =>
        obtain ⟨ha0, ha1, ha2⟩ := HA.out
        refine ⟨k + 1, by omega, by go_num, ?_, ha1.setOther _ (by simp) _, ha2.setOther _ (by simp; omega) _, hbl.setCell (by simp) _⟩
        exact (ha0.set _ _).congr fun j _ => turned_step v k j
      case measure => simp [intOf]; omega
    · obtain rfl : k = 128 := by omega
      have A0 := Lib.hid (ha0.congr (turned_all v))
      have A1 := Lib.hid ha1
      have A2 := Lib.hid ha2
      clear ha0 ha1 ha2
      go_wp2_with (first
        | refine wpList_load_row rfl 28 _ rfl w.heap.size rfl 28 _ (0, 0) _ A0.out Try.underlying28 rfl (infoArr _) ?_
        | refine wpList_load_row rfl 28 _ rfl (w.heap.size + 1 + 1) rfl 28 _ (0, 0) _ A2.out Try.underlying28 rfl (infoArr _) ?_
        | (go_at_call 14; refine (radd_any (-v - 1) 1 _).mono ?_; rintro e w1 ⟨rfl, hb1⟩; have HA := Lib.hid (A1.out.below hb1))
        | refine wpList_store_row rfl 28 _ _ rfl (w.heap.size + 1) _ rfl rfl 28 _ HA.out (infoArr _) (by rw [arr_size, arr_size]) (arr_one _) ?_)
      exact bodyPost_ret (v := .agg (arr (bitZ (-v)))) (results_cell_row Try.results17 _ _ (w.heap.size + 1) 28 _ (0, 0) _ rfl (HA.out.setRow _) Try.underlying28 rfl (infoArr _)) rfl ⟨rfl, below_setRow (hbl.trans (hb1.mono hbl.size)) (by omega) _⟩
end Go.Proofs.Ythgkfgjdlpjnmaa

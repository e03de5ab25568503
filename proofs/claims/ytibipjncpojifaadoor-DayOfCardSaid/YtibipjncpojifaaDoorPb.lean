/- Contracts of share's total, check, signed. -/
import Derived.Test.YtibipjncpojifaaDoorSg
namespace Go.Proofs.YtibipjncpojifaaDoor
open Go.RowKit
set_option linter.unusedVariables false
set_option linter.unusedSimpArgs false
set_option maxRecDepth 100000 in
theorem total_i64 (b off cap n : Nat) (f : Nat → Nat) (w : World) (hn : n ≤ 8) (hc : ∀ i, i < n → w.cell? ⟨b, off + i, none⟩ = some (.int .i64 (f i : Nat))) (hf : ∀ i, i < n → f i ≤ 1000000) :
    Calls Tryd.prog 39 #[.slice (some ⟨b, off, none⟩) n cap] w fun e w' => e = .returned (.int .i64 (sumTo f n : Nat)) ∧ w = w' := by
  have hb : ∀ j, j ≤ n → sumTo f j ≤ j * 1000000 := fun j hj => sumTo_bound f 1000000 j (fun i hi => hf i (by omega))
  have HB := Lib.hid hb
  have HC := Lib.hid hc
  have HF := Lib.hid hf
  clear hb hc hf
  go_enter Tryd.func39, Tryd.ntmps39
  go_wp2
  go_loop [3, 8] (fun s i => ∃ j : Nat, j ≤ n ∧ i = .int .i64 j ∧ s = .int .i64 ((sumTo f j : Nat) : Int)) (fun _ i => n - (RowKit.intOf i).toNat)
  case atStart => exact ⟨0, Nat.zero_le _, rfl, rfl⟩
  case round =>
    obtain ⟨j, hj, rfl, rfl⟩ := hrel
    by_cases hlt : j < n
    · have hcj := HC.out j hlt
      have hfj := HF.out j hlt
      have hbj := HB.out j hj
      have Hsj := Lib.hid (show sumTo f (j + 1) = sumTo f j + f j from rfl)
      generalize sumTo f j = t at *
      generalize f j = x at *
      go_wp2
      go_round
      case rel => exact ⟨j + 1, by omega, by go_num, int_int (by rw [Hsj.out]; push_cast; rfl)⟩
      case measure => simp [RowKit.intOf]; omega
    · obtain rfl : j = n := by omega
      go_wp2
      go_ret
      exact ⟨rfl, rfl⟩
set_option maxRecDepth 100000 in
theorem total_u64 (b cap n : Nat) (f : Nat → Nat) (w : World) (hn : n ≤ 8) (hc : ∀ i, i < n → w.cell? ⟨b, i, none⟩ = some (.int .u64 (f i : Nat))) (hf : sumTo f n ≤ 9223372036854775808) :
    Calls Tryd.prog 32 #[.slice (some ⟨b, 0, none⟩) n cap] w fun e w' => e = .returned (.int .u64 (sumTo f n : Nat)) ∧ w = w' := by
  have HB := Lib.hid (fun (j : Nat) (hj : j ≤ n) => Nat.le_trans (sumTo_mono f hj) hf)
  have HC := Lib.hid hc
  clear hc hf
  go_enter Tryd.func32, Tryd.ntmps32
  go_wp2
  go_loop [3, 8] (fun s i => ∃ j : Nat, j ≤ n ∧ i = .int .i64 j ∧ s = .int .u64 ((sumTo f j : Nat) : Int)) (fun _ i => n - (RowKit.intOf i).toNat)
  case atStart => exact ⟨0, Nat.zero_le _, rfl, rfl⟩
  case round =>
    obtain ⟨j, hj, rfl, rfl⟩ := hrel
    by_cases hlt : j < n
    · have hcj := HC.out j hlt
      have hbj := HB.out (j + 1) hlt
      have hsj : sumTo f (j + 1) = sumTo f j + f j := rfl
      rw [hsj] at hbj
      have Hsj := Lib.hid hsj
      clear hsj
      generalize sumTo f j = t at *
      generalize f j = x at *
      go_wp2
      go_round
      case rel => exact ⟨j + 1, by omega, by go_num, int_int (by rw [Hsj.out]; push_cast; rfl)⟩
      case measure => simp [RowKit.intOf]; omega
    · obtain rfl : j = n := by omega
      go_wp2
      go_ret
      exact ⟨rfl, rfl⟩
theorem check_few (r : Option Addr) (cap : Nat) (w : World) :
    Calls Tryd.prog 29 #[.slice r 0 cap] w fun e w' => e = .returned (.int .i64 2) ∧ w = w' := by
  go_enter Tryd.func29, Tryd.ntmps29
  go_wp2
  go_ret
  exact ⟨rfl, rfl⟩
theorem check_many (r : Option Addr) (n cap : Nat) (w : World) (hn : 8 < n) :
    Calls Tryd.prog 29 #[.slice r n cap] w fun e w' => e = .returned (.int .i64 2) ∧ w = w' := by
  have e1 : decide ((n : Int) < 1) = false := decide_eq_false (by omega)
  have e2 : decide ((8 : Int) < (n : Int)) = true := decide_eq_true (by omega)
  have e2' : decide ((n : Int) > 8) = true := decide_eq_true (by omega)
  go_enter Tryd.func29, Tryd.ntmps29
  go_wp2
  go_ret
  exact ⟨rfl, rfl⟩
set_option maxHeartbeats 1000000 in
theorem check_some (b off cap : Nat) (zs : List Int) (w : World) (r : Int) (h0 : 0 < zs.length) (h8 : zs.length ≤ 8)
    (hz : ∀ i, i < zs.length → w.cell? ⟨b, off + i, none⟩ = some (.int .i64 (zs.getD i 0))) (hg : GoodW zs → r = 0) (hb : ¬ GoodW zs → r = 5) :
    Calls Tryd.prog 29 #[.slice (some ⟨b, off, none⟩) zs.length cap] w fun e w' => e = .returned (.int .i64 r) ∧ w = w' := by
  have e1 : decide ((zs.length : Int) < 1) = false := decide_eq_false (by omega)
  have e2 : decide ((8 : Int) < (zs.length : Int)) = false := decide_eq_false (by omega)
  have e2' : decide ((zs.length : Int) > 8) = false := decide_eq_false (by omega)
  have HZ := Lib.hid hz
  have HG := Lib.hid hg
  have HB := Lib.hid hb
  clear hz hg hb
  go_enter Tryd.func29, Tryd.ntmps29
  go_wp2
  go_loop [15] (fun i => ∃ j : Nat, j ≤ zs.length ∧ i = .int .i64 j ∧ Hid (∀ t, t < j → 1 ≤ zs.getD t 0 ∧ zs.getD t 0 ≤ 1000000)) (fun i => zs.length - (RowKit.intOf i).toNat)
  case atStart => exact ⟨0, Nat.zero_le _, rfl, fun t ht => absurd ht (Nat.not_lt_zero _)⟩
  case round =>
    obtain ⟨j, hj, rfl, hE⟩ := hrel
    by_cases hlt : j < zs.length
    · have hcj := HZ.out j hlt
      have hno : ¬ (1 ≤ zs.getD j 0 ∧ zs.getD j 0 ≤ 1000000) → r = 5 := fun h => HB.out fun g => h (g j hlt)
      have hgo : (1 ≤ zs.getD j 0 ∧ zs.getD j 0 ≤ 1000000) → ∀ t, t < j + 1 → 1 ≤ zs.getD t 0 ∧ zs.getD t 0 ≤ 1000000 := fun h t ht => by
        by_cases e : t = j
        · subst e; exact h
        · exact hE.out t (by omega)
      have Hno := Lib.hid hno
      have Hgo := Lib.hid hgo
      clear hno hgo
      generalize zs.getD j 0 = z at *
      by_cases h1 : z < 1
      · obtain rfl := Hno.out (by omega)
        go_wp2
        go_ret
        exact ⟨rfl, rfl⟩
      · by_cases h2 : 1000000 < z
        · obtain rfl := Hno.out (by omega)
          go_wp2
          go_ret
          exact ⟨rfl, rfl⟩
        · have Hg := Hgo.out (by omega)
          have HG2 := Lib.hid Hg
          clear Hg
          go_wp2
          go_round
          case rel => exact ⟨j + 1, by omega, by go_num, HG2.out⟩
          case measure => simp [RowKit.intOf]; omega
    · obtain rfl : j = zs.length := by omega
      obtain rfl := HG.out hE.out
      go_wp2
      go_ret
      exact ⟨rfl, rfl⟩
end Go.Proofs.YtibipjncpojifaaDoor

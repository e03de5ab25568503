/- Contract of law 4's digits. -/
import Derived.Test.YtibipjncpojifaaDoorKb
namespace Go.Proofs.YtibipjncpojifaaDoor
open Go.RowKit
set_option linter.unusedVariables false
set_option linter.unusedSimpArgs false
theorem rune_digit (q : Nat) : Utf8.encode (48 + (q : Int) % 10) = ⟨#[UInt8.ofNat (48 + q % 10)]⟩ := by
  have e : (q : Int) % 10 = ((q % 10 : Nat) : Int) := by omega
  rw [e]
  have h : q % 10 < 10 := Nat.mod_lt _ (by omega)
  generalize q % 10 = d at *
  rcases (by omega : d = 0 ∨ d = 1 ∨ d = 2 ∨ d = 3 ∨ d = 4 ∨ d = 5 ∨ d = 6 ∨ d = 7 ∨ d = 8 ∨ d = 9) with rfl | rfl | rfl | rfl | rfl | rfl | rfl | rfl | rfl | rfl <;> decide
theorem app_one (b : UInt8) (s : List UInt8) : (⟨#[b]⟩ : ByteArray) ++ ⟨s.toArray⟩ = ⟨(b :: s).toArray⟩ := by
  apply ByteArray.ext
  simp
set_option maxHeartbeats 1000000 in
theorem digits_any (n k : Nat) (w : World) (hn : n < 10000) (hk : k ≤ 4) :
    Calls Tryd.prog 12 #[.int .i64 (n : Int), .int .i64 (k : Int)] w fun e w' => e = .returned (.string ⟨(digL n k).toArray⟩) ∧ w = w' := by
  go_enter Tryd.func12, Tryd.ntmps12
  go_wp2
  go_loop [0, 5, 7] (fun q s i => ∃ j : Nat, j ≤ k ∧ i = .int .i64 j ∧ q = .int .i64 ((n / 10 ^ j : Nat) : Int) ∧ s = .string ⟨(digL n j).toArray⟩) (fun _ _ i => k - (RowKit.intOf i).toNat)
  case atStart => exact ⟨0, Nat.zero_le _, rfl, by simp, rfl⟩
  case round =>
    obtain ⟨j, hj, rfl, rfl, rfl⟩ := hrel
    by_cases hlt : j < k
    · have e1 : n / 10 ^ (j + 1) = n / 10 ^ j / 10 := by rw [Nat.pow_succ, Nat.div_div_eq_div_mul]
      have e2 : digL n (j + 1) = UInt8.ofNat (48 + n / 10 ^ j % 10) :: digL n j := rfl
      have hb : n / 10 ^ j ≤ n := Nat.div_le_self _ _
      have E1 := Lib.hid e1
      have E2 := Lib.hid e2
      clear e1 e2
      have hl := digL_len n j
      have hu := rune_digit (n / 10 ^ j)
      generalize n / 10 ^ j = q at *
      generalize digL n j = s at *
      generalize UInt8.ofNat (48 + q % 10) = c at *
      have ha := app_one c s
      have hsz : (⟨#[c]⟩ : ByteArray).size = 1 := rfl
      have hsl : s.length ≤ 4 := by omega
      go_wp2
      go_round
      case rel => exact ⟨j + 1, by omega, by go_num, int_int (by rw [E1.out]; omega), by rw [E2.out]⟩
      case measure => simp [RowKit.intOf]; omega
    · obtain rfl : j = k := by omega
      go_wp2
      go_ret
      exact ⟨rfl, rfl⟩
end Go.Proofs.YtibipjncpojifaaDoor

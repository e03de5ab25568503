/- Contracts of slices.Index, Contains, Equal at entities. -/
import Derived.Test.YtmbfnbbgphpcgaaGreatDoorNa
import Derived.Test.YtmbfnbbgphpcgaaGreatDoorBa
import Derived.Test.YtmbfnbbgphpcgaaGreatDoorChecked
import Derived.Lib.Hide
import Derived.Outline
import Derived.Deep.QuietTactic
import Derived.BigQuiet
import Derived.WalkKit
import Derived.LoopTactic
namespace Go.Proofs.YtmbfnbbgphpcgaaGreatDoor
open Go.RowKit
set_option linter.unusedVariables false
set_option linter.unusedSimpArgs false
set_option maxHeartbeats 1000000 in
set_option maxRecDepth 100000 in
theorem equal_u (v1 v2 : Value) (ks : List Nat) (w : World) (h1 : Recs uc 1 w v1 ks) (h2 : Recs uc 1 w v2 ks) :
    Calls Tryz.prog 24 #[v1, v2] w fun e w' => e = .returned (.bool true) ∧ Below w.heap.size w w' := by
  obtain ⟨r1, cap1, rfl, hm⟩ := h1.form
  obtain ⟨r2, cap2, rfl, _⟩ := h2.form
  have H1 := Lib.hid h1
  have H2 := Lib.hid h2
  clear h1 h2
  obtain ⟨n, hn⟩ : ∃ n, ks.length = n := ⟨_, rfl⟩
  have HN := Lib.hid hn
  rw [hn] at H1 H2 hm ⊢
  clear hn
  go_enter Tryz.func24, Tryz.ntmps24
  go_wp2
  go_loopw [13] (fun i wr => ∃ j q : Nat, j ≤ n ∧ i = .int .i64 j ∧ wr = w.drewN q) (fun i _ => n - (intOf i).toNat)
  case atStart => exact ⟨0, 0, Nat.zero_le _, rfl, rfl⟩
  case round =>
    obtain ⟨j, q, hj, rfl, rfl⟩ := hrel
    by_cases hlt : j < n
    · obtain ⟨y, hy⟩ : ∃ y, ks[j]? = some y := ⟨ks[j]'(by have := HN.out; omega), List.getElem?_eq_getElem (by have := HN.out; omega)⟩
      obtain ⟨g1, o1, rfl, _, c1⟩ := H1.out.at hy
      obtain ⟨g2, o2, rfl, _, c2⟩ := H2.out.at hy
      have a0 := c1 0 _ rfl
      have b0 := c2 0 _ rfl
      simp only [Nat.mul_one, Nat.add_zero] at a0 b0
      clear hy c1 c2
      go_wp2_with fail
      go_quiet (fail)
      go_wp2
      go_roundw
      case rel => exact ⟨j + 1, q + nq, by omega, by go_num, rfl⟩
      case measure => simp [intOf]; omega
    · obtain rfl : j = n := by omega
      go_wp2
      go_ret
      exact ⟨rfl, rfl, rfl, rfl, Nat.le_refl _, fun _ _ => rfl⟩
theorem info16 : (Tryz.prog.info? 54).map (fun i => (i.zero, i.size, i.bytes)) = some (some (.int .u16 0), 1, 2) := by kernel_rfl
end Go.Proofs.YtmbfnbbgphpcgaaGreatDoor

/- Contracts of slices.Index, Contains, Equal at entities. -/
import Derived.Test.YtaldafgkhcihjaaGreatDoorNa
import Derived.Test.YtaldafgkhcihjaaGreatDoorBa
import Derived.Test.YtaldafgkhcihjaaGreatDoorChecked
import Derived.Lib.Hide
import Derived.Outline
import Derived.Deep.QuietTactic
import Derived.BigQuiet
import Derived.WalkKit
import Derived.LoopTactic
namespace Go.Proofs.YtaldafgkhcihjaaGreatDoor
open Go.RowKit
set_option linter.unusedVariables false
set_option linter.unusedSimpArgs false
set_option maxHeartbeats 1000000 in
set_option maxRecDepth 100000 in
theorem index_u (v : Value) (ks : List Nat) (x : Nat) (w : World) (hR : Recs uc 1 w v ks) :
    Calls Tryz.prog 29 #[v, .int .u16 (x : Int)] w fun e w' => (∃ i : Int, e = .returned (.int .i64 i) ∧ (0 ≤ i ↔ x ∈ ks)) ∧ w' = w := by
  obtain ⟨r, cap, rfl, hm⟩ := hR.form
  have HR := Lib.hid hR
  obtain ⟨L, hL⟩ : ∃ L, ks.length = L := ⟨_, rfl⟩
  have HL := Lib.hid hL
  rw [hL] at HR hm ⊢
  clear hR hL
  go_enter Tryz.func29, Tryz.ntmps29
  go_wp2
  go_loop [8] (fun i => ∃ k : Nat, k ≤ L ∧ i = .int .i64 k ∧ Hid (∀ j, j < k → ks[j]? ≠ some x)) (fun i => L - (intOf i).toNat)
  case atStart => exact ⟨0, Nat.zero_le _, rfl, Lib.hid (fun j hj => by omega)⟩
  case round =>
    obtain ⟨k, hk, rfl, HN⟩ := hrel
    by_cases hlt : k < L
    · obtain ⟨y, hy⟩ : ∃ y, ks[k]? = some y := ⟨ks[k]'(by have := HL.out; omega), List.getElem?_eq_getElem (by have := HL.out; omega)⟩
      obtain ⟨g, off, rfl, hg, hc⟩ := HR.out.at hy
      have c0 := hc 0 _ rfl
      simp only [Nat.mul_one, Nat.add_zero] at c0
      have HY := Lib.hid hy
      clear hy hc
      by_cases hxy : x = y
      · subst hxy
        have hd : ((x : Int) == (x : Int)) = true := by simp
        go_wp2
        go_ret
        exact ⟨⟨k, rfl, ⟨fun _ => List.mem_of_getElem? HY.out, fun _ => by omega⟩⟩, rfl⟩
      · have hd : ((x : Int) == (y : Int)) = false := by simp; omega
        go_wp2
        go_round
        case rel =>
          refine ⟨k + 1, by omega, by go_num, Lib.hid (fun j hj e => ?_)⟩
          by_cases h : j = k
          · subst h; rw [HY.out] at e; exact hxy (Option.some.inj e).symm
          · exact HN.out j (by omega) e
        case measure => simp [intOf]; omega
    · obtain rfl : k = L := by omega
      go_wp2
      go_ret
      refine ⟨⟨-1, rfl, ?_⟩, rfl⟩
      have : ¬ x ∈ ks := fun hm => by
        obtain ⟨j, hj, e⟩ := List.getElem_of_mem hm
        exact HN.out j (by have := HL.out; omega) (by rw [List.getElem?_eq_getElem hj, e])
      exact ⟨fun h => by omega, fun h => absurd h this⟩
theorem contains_u (v : Value) (ks : List Nat) (x : Nat) (w : World) (hR : Recs uc 1 w v ks) :
    Calls Tryz.prog 17 #[v, .int .u16 (x : Int)] w fun e w' => e = .returned (.bool (decide (x ∈ ks))) ∧ w' = w := by
  have K : Hid (Calls Tryz.prog 29 #[v, .int .u16 (x : Int)] w fun e w' => (∃ i : Int, e = .returned (.int .i64 i) ∧ decide (0 ≤ i) = decide (x ∈ ks)) ∧ w' = w) :=
    Lib.hid ((index_u v ks x _ hR).mono fun _ _ ⟨⟨i, h1, h2⟩, h3⟩ => ⟨⟨i, h1, decide_eq_decide.2 h2⟩, h3⟩)
  clear hR
  generalize decide (x ∈ ks) = r at *
  go_enter Tryz.func17, Tryz.ntmps17
  go_wp2_with (go_at_call 29; refine K.out.mono ?_; rintro e w1 ⟨⟨i, rfl, hi⟩, rfl⟩; have HI := Lib.hid hi; clear hi)
  go_ret
  exact ⟨by have := HI.out; simp_all, rfl⟩
set_option maxHeartbeats 1000000 in
set_option maxRecDepth 100000 in
theorem equal_u (v1 v2 : Value) (ks : List Nat) (w : World) (h1 : Recs uc 1 w v1 ks) (h2 : Recs uc 1 w v2 ks) :
    Calls Tryz.prog 13 #[v1, v2] w fun e w' => e = .returned (.bool true) ∧ Below w.heap.size w w' := by
  obtain ⟨r1, cap1, rfl, hm⟩ := h1.form
  obtain ⟨r2, cap2, rfl, _⟩ := h2.form
  have H1 := Lib.hid h1
  have H2 := Lib.hid h2
  clear h1 h2
  obtain ⟨n, hn⟩ : ∃ n, ks.length = n := ⟨_, rfl⟩
  have HN := Lib.hid hn
  rw [hn] at H1 H2 hm ⊢
  clear hn
  go_enter Tryz.func13, Tryz.ntmps13
  go_wp2
  go_loopw [13] (fun i wr => ∃ j q : Nat, j ≤ n ∧ i = .int .i64 j ∧ wr = w.drewN q) (fun i _ => n - (intOf i).toNat)
  case atStart => exact ⟨0, 0, Nat.zero_le _, rfl, rfl⟩
  case round =>
    obtain ⟨j, q, hj, rfl, rfl⟩ := hrel
    by_cases hlt : j < n
    · obtain ⟨y, hy⟩ : ∃ y, ks[j]? = some y := ⟨ks[j]'(by have := HN.out; omega), List.getElem?_eq_getElem (by have := HN.out; omega)⟩
      obtain ⟨g1, o1, rfl, _, c1⟩ := H1.out.at hy
      obtain ⟨g2, o2, rfl, _, c2⟩ := H2.out.at hy
      have a0 := c1 0 _ rfl
      have b0 := c2 0 _ rfl
      simp only [Nat.mul_one, Nat.add_zero] at a0 b0
      clear hy c1 c2
      go_wp2_with fail
      go_quiet (fail)
      go_wp2
      go_roundw
      case rel => exact ⟨j + 1, q + nq, by omega, by go_num, rfl⟩
      case measure => simp [intOf]; omega
    · obtain rfl : j = n := by omega
      go_wp2
      go_ret
      exact ⟨rfl, rfl, rfl, rfl, Nat.le_refl _, fun _ _ => rfl⟩
theorem info16 : (Tryz.prog.info? 23).map (fun i => (i.zero, i.size, i.bytes)) = some (some (.int .u16 0), 1, 2) := by kernel_rfl
end Go.Proofs.YtaldafgkhcihjaaGreatDoor

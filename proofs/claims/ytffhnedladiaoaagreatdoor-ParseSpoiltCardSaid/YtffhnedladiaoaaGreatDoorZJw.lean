/- Days compared: slices.Equal at days, package calendar's Same. -/
import Derived.Test.YtffhnedladiaoaaGreatDoorZJall
import Derived.Laws.OwnMore
import Derived.Maps.AppendAt
import Derived.Lib.SliceRun
import Derived.Lib.Walk
import Derived.Deep.QuietTactic
import Derived.BigQuiet
import Derived.LoopTactic
namespace Go.Proofs.YtffhnedladiaoaaGreatDoor
open Go.RowKit
set_option linter.unusedVariables false
set_option linter.unusedSimpArgs false
theorem take_stepD {xs ys : List Int} {j : Nat} {x y : Int} (h : xs.take j = ys.take j) (hx : xs[j]? = some x) (hy : ys[j]? = some y) (e : x = y) : xs.take (j + 1) = ys.take (j + 1) := by
  rw [List.take_add_one, List.take_add_one, h, hx, hy, e]
theorem equal_dlen (r1 r2 : Option Addr) (n1 n2 c1 c2 : Nat) (w : World) (h : n1 ≠ n2) :
    Calls Tryz.prog 32 #[.slice r1 n1 c1, .slice r2 n2 c2] w fun e w' => e = .returned (.bool false) ∧ Below w.heap.size w w' := by
  have h1 : ((n1 : Int) != (n2 : Int)) = true := by simp; omega
  go_enter Tryz.func32, Tryz.ntmps32
  go_wp2
  go_ret
  exact ⟨rfl, Below.refl _ _⟩
set_option maxHeartbeats 2000000 in
theorem equal_d (v1 v2 : Value) (S S' : List Int) (w : World) (h1 : Recs dcl 1 w v1 S) (h2 : Recs dcl 1 w v2 S') :
    Calls Tryz.prog 32 #[v1, v2] w fun e w' => e = .returned (.bool (decide (S = S'))) ∧ Below w.heap.size w w' := by
  obtain ⟨r1, cap1, rfl, hm⟩ := h1.form
  obtain ⟨r2, cap2, rfl, _⟩ := h2.form
  by_cases hne : S.length = S'.length
  · obtain ⟨n, hn⟩ : ∃ n, S.length = n := ⟨_, rfl⟩
    have HN := Lib.hid hn
    have HN' := Lib.hid (hne ▸ hn)
    rw [← hne, hn] at h2 ⊢
    rw [hn] at h1 hm
    have H1 := Lib.hid h1
    have H2 := Lib.hid h2
    obtain ⟨T, hT⟩ : ∃ T, decide (S = S') = T := ⟨_, rfl⟩
    have HT := Lib.hid hT
    rw [hT]
    clear h1 h2 hn hne hT
    go_enter Tryz.func32, Tryz.ntmps32
    go_wp2
    go_loopw [13] (fun i wr => ∃ j : Nat, j ≤ n ∧ i = .int .i64 j ∧ Hid (S.take j = S'.take j) ∧ Below w.heap.size w wr) (fun i _ => n - (RowKit.intOf i).toNat)
    case atStart => exact ⟨0, Nat.zero_le _, rfl, rfl, Below.refl _ _⟩
    case round =>
      obtain ⟨j, hj, rfl, hE, hB⟩ := hrel
      rename World => wr
      by_cases hlt : j < n
      · obtain ⟨x, hx⟩ : ∃ x, S[j]? = some x := ⟨S[j]'(by have := HN.out; omega), List.getElem?_eq_getElem (by have := HN.out; omega)⟩
        obtain ⟨y, hy⟩ : ∃ y, S'[j]? = some y := ⟨S'[j]'(by have := HN'.out; omega), List.getElem?_eq_getElem (by have := HN'.out; omega)⟩
        obtain ⟨g1, o1, rfl, _, c1⟩ := (H1.out.stay hB).at hx
        obtain ⟨g2, o2, rfl, _, c2⟩ := (H2.out.stay hB).at hy
        have a0 := c1 0 _ rfl
        have b0 := c2 0 _ rfl
        simp only [Nat.mul_one, Nat.add_zero] at a0 b0
        have HS := Lib.hid (fun e => take_stepD hE.out hx hy e)
        have HF : Hid (x ≠ y → T = false) := Lib.hid (fun e => by
          rw [← HT.out]
          refine decide_eq_false fun h => e ?_
          rw [h, hy] at hx
          exact (Option.some.inj hx).symm)
        clear hx hy c1 c2 hE
        by_cases hxy : x = y
        · subst hxy
          have HS2 := Lib.hid (HS.out rfl)
          clear HS HF
          go_wp2
          go_region
          all_goals
            go_wp2
            go_roundw
            case rel => exact ⟨j + 1, by omega, by go_num, HS2, hB.drew⟩
            case measure => simp [RowKit.intOf]; omega
        · have hxy' : (x != y) = true := by simpa using hxy
          obtain rfl := HF.out hxy
          clear HS HF
          go_wp2
          go_region
          all_goals
            go_wp2
            go_ret
            exact ⟨rfl, hB.drew⟩
      · obtain rfl : j = n := by omega
        have e : T = true := by
          rw [← HT.out]
          refine decide_eq_true ?_
          have := hE.out
          rwa [List.take_of_length_le (by have := HN.out; omega), List.take_of_length_le (by have := HN'.out; omega)] at this
        subst e
        go_wp2
        go_ret
        exact ⟨rfl, hB⟩
  · rw [decide_eq_false fun h => hne (by rw [h])]
    exact equal_dlen _ _ _ _ _ _ _ hne
end Go.Proofs.YtffhnedladiaoaaGreatDoor

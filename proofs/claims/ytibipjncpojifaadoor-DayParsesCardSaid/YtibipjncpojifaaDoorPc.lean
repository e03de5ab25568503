/- Contracts of share's signed, of cmp.Compare at numbers without a sign, and of byRests' closure. -/
import Derived.Test.YtibipjncpojifaaDoorSg
import Derived.BigQuiet
import Derived.Deep.QuietTactic
namespace Go.Proofs.YtibipjncpojifaaDoor
open Go.RowKit
set_option linter.unusedVariables false
set_option linter.unusedSimpArgs false
theorem made_owns {w : World} {G n base : Nat} {f : Nat → Int} (h : w.rowIs G 2 n (fun t => .int .i64 (f t))) (hb : base ≤ G) (hm : n ≤ 8) :
    w.ownsRow base 2 1 (.slice (some ⟨G, 0, none⟩) n n) n (ints ((List.range n).map f)) := by
  obtain ⟨c, hg, hs, hc⟩ := h
  refine ⟨by simp [ints], .inr ⟨G, n, c, rfl, hb, hg, Nat.le_refl _, by unfold maxLen; omega, by omega, ?_⟩⟩
  apply List.ext_getElem?
  intro i
  rw [Nat.mul_one, List.getElem?_take]
  by_cases hi : i < n
  · rw [if_pos hi]
    have := hc i hi
    simp [ints, hi] at this ⊢
    exact this
  · rw [if_neg hi]
    simp [ints, hi]
theorem neg_same (x : Int) : wrap64 (-(wrap64 x)) = wrap64 (IntKind.u64.wrap (-x)) := by
  rw [w64w, w64w, w64w, IntKind.wrap_u64]; omega
set_option maxHeartbeats 2000000 in
set_option maxRecDepth 100000 in
theorem signed_any (B n : Nat) (O : Nat → Int) (neg : Bool) (w : World) (hn : n ≤ 8) (hr : w.rowIs B 55 n (fun t => .int .u64 (O t))) :
    Calls Tryd.prog 34 #[.slice (some ⟨B, 0, none⟩) n n, .bool neg] w fun e w' => ∃ u, e = .returned u ∧ w'.ownsRow w.heap.size 2 1 u n (ints (allotL neg n O)) ∧ Below w.heap.size w w' := by
  have hB := hr.lt
  have hmk := run_make_row' (P := Tryd.prog) 44 2 (.int .i64 0) 8 Tryd.underlying44 (by kernel_rfl) rfl .i64 .i64 n (by omega) (by omega)
  have HC := Lib.hid (fun (t : Nat) (ht : t < n) => hr.cell ht)
  have r1 := Lib.hid (World.rowIs_made w (.int .i64 0) n 2)
  clear hr
  go_enter Tryd.func34, Tryd.ntmps34
  go_wp2
  clear hmk
  go_loopw [13] (fun i wr => ∃ j : Nat, j ≤ n ∧ i = .int .i64 j ∧ wr.rowIs w.heap.size 2 n (fun t => .int .i64 (if t < j then wrap64 (if neg then IntKind.u64.wrap (-(O t)) else O t) else 0)) ∧ Below w.heap.size w wr) (fun i _ => n - (RowKit.intOf i).toNat)
  case atStart => exact ⟨0, Nat.zero_le _, rfl, r1.out.congr (fun t _ => by simp), (Below.refl _ _).alloc (Nat.le_refl _) _⟩
  case round =>
    obtain ⟨j, hj, rfl, hr, hBw⟩ := hrel
    rename World => wr
    by_cases hlt : j < n
    · have hc1 : wr.cell? ⟨B, j, none⟩ = some (.int .u64 (O j)) := by rw [hBw.cell (p := ⟨B, j, none⟩) hB]; exact HC.out j hlt
      have f1 := hr.frozen j
      have c1 := hr.cell hlt
      have s1 := fun x : Int => (hr.set j (.int .i64 x)).cell hlt
      have s2 := fun x : Int => (hr.set j (.int .i64 x)).frozen j
      simp only [if_true] at s1
      have e1 : ∀ t, t ≠ j → (t < j + 1 ↔ t < j) := fun t h => by omega
      have HR := Lib.hid hr
      obtain ⟨x, hx⟩ : ∃ x, O j = x := ⟨_, rfl⟩
      have HE := Lib.hid (show ∀ t, Value.int .i64 (if t = j then wrap64 (if neg then IntKind.u64.wrap (-x) else x) else if t < j then wrap64 (if neg then IntKind.u64.wrap (-(O t)) else O t) else 0) = Value.int .i64 (if t < j + 1 then wrap64 (if neg then IntKind.u64.wrap (-(O t)) else O t) else 0) from fun t => by
        rw [← hx]
        by_cases h : t = j
        · rw [if_pos h, if_pos (show t < j + 1 by omega), h]
        · rw [if_neg h]; simp only [e1 t h])
      have hns := neg_same x
      rw [hx] at hc1
      clear hr e1 hx
      cases neg with
      | false =>
        go_wp2
        go_roundw
        case rel =>
          refine ⟨j + 1, by omega, by go_num, ?_, hBw.setCell (Nat.le_refl _) _⟩
          refine (HR.out.set j _).congr (fun t _ => ?_)
          rw [← HE.out t]
          by_cases h : t = j
          · subst h; simp
          · simp [h]
        case measure => simp [RowKit.intOf]; omega
      | true =>
        go_wp2
        go_roundw
        case rel =>
          refine ⟨j + 1, by omega, by go_num, ?_, (hBw.setCell (Nat.le_refl _) _).setCell (Nat.le_refl _) _⟩
          refine ((HR.out.set j _).set j _).congr (fun t _ => ?_)
          have he := HE.out t
          simp only [if_true] at he ⊢
          rw [← he]
          by_cases h : t = j
          · rw [if_pos h, if_pos h]
          · rw [if_neg h, if_neg h, if_neg h]
        case measure => simp [RowKit.intOf]; omega
    · obtain rfl : j = n := by omega
      go_wp2
      go_ret
      refine ⟨_, rfl, ?_, hBw⟩
      unfold allotL
      exact made_owns (hr.congr (fun t ht => by rw [if_pos ht])) (Nat.le_refl _) hn
theorem isnan_any (x : Int) (w : World) : Calls Tryd.prog 56 #[.int .u64 x] w fun e w' => e = .returned (.bool false) ∧ w' = w := by
  go_enter Tryd.func56, Tryd.ntmps56
  go_wp2
  go_ret
  exact ⟨by simp, rfl⟩
/-- How two numbers stand to each other. -/
def cmpI (x y : Nat) : Int := if x < y then -1 else if y < x then 1 else 0
theorem compare_any (x y : Nat) (w : World) : Calls Tryd.prog 45 #[.int .u64 (x : Int), .int .u64 (y : Int)] w fun e w' => e = .returned (.int .i64 (cmpI x y)) ∧ w' = w := by
  have K := Lib.hid (fun x => isnan_any x w)
  by_cases h1 : x < y
  · have e0 : cmpI x y = -1 := by unfold cmpI; rw [if_pos h1]
    have e1 : (x : Int) < (y : Int) := by omega
    rw [e0]
    go_enter Tryd.func45, Tryd.ntmps45
    go_wp2_with (go_at_call 56; refine (K.out _).mono ?_; rintro e w1 ⟨rfl, rfl⟩)
    go_ret
    exact ⟨rfl, rfl⟩
  · have e1 : ¬ (x : Int) < (y : Int) := by omega
    by_cases h2 : y < x
    · have e0 : cmpI x y = 1 := by unfold cmpI; rw [if_neg h1, if_pos h2]
      have e2 : (y : Int) < (x : Int) := by omega
      rw [e0]
      go_enter Tryd.func45, Tryd.ntmps45
      go_wp2_with (go_at_call 56; refine (K.out _).mono ?_; rintro e w1 ⟨rfl, rfl⟩)
      go_ret
      exact ⟨rfl, rfl⟩
    · have e0 : cmpI x y = 0 := by unfold cmpI; rw [if_neg h1, if_neg h2]
      have e2 : ¬ (y : Int) < (x : Int) := by omega
      rw [e0]
      go_enter Tryd.func45, Tryd.ntmps45
      go_wp2_with (go_at_call 56; refine (K.out _).mono ?_; rintro e w1 ⟨rfl, rfl⟩)
      go_ret
      exact ⟨rfl, rfl⟩
set_option maxHeartbeats 2000000 in
theorem closure_any (BX B n : Nat) (R : Nat → Nat) (x y : Nat) (W : World) (hn : n ≤ 8) (hx : x < n) (hy : y < n) (hX : W.cell? ⟨BX, 0, none⟩ = some (.slice (some ⟨B, 0, none⟩) n n))
    (hR : ∀ t, t < n → W.cell? ⟨B, t, none⟩ = some (.int .u64 (R t : Nat))) :
    Calls Tryd.prog 44 #[.int .i64 (x : Int), .int .i64 (y : Int), .pointer (some ⟨BX, 0, none⟩)] W fun e w' => e = .returned (.int .i64 (cmpI (R y) (R x))) ∧ ∃ q, w' = W.drewN q := by
  have c1 := hR x hx
  have c2 := hR y hy
  have x0 : (0 : Int) ≤ (x : Int) := by omega
  have y0 : (0 : Int) ≤ (y : Int) := by omega
  have x1 : (x : Int) < (n : Int) := by omega
  have y1 : (y : Int) < (n : Int) := by omega
  have hc := fun W => compare_any (R y) (R x) W
  clear hR
  generalize cmpI (R y) (R x) = r at *
  generalize R x = rx at *
  generalize R y = ry at *
  go_enter Tryd.func44, Tryd.ntmps44
  go_wp2
  go_quiet (first | (go_at_call 45; refine Calls.quiet_of_same (hc _)))
  go_wp2
  go_ret
  exact ⟨rfl, _, rfl⟩
end Go.Proofs.YtibipjncpojifaaDoor

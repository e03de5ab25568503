/- Law 3's Awake. -/
import Derived.Test.YtibipjncpojifaaDoorSg
namespace Go.Proofs.YtibipjncpojifaaDoor
open Go.RowKit
set_option linter.unusedVariables false
set_option linter.unusedSimpArgs false
theorem amts_three (w : World) (t : TypeId) (a b c : Int) (ha : (Lit.int .i64 a).wf = true) (hb : (Lit.int .i64 b).wf = true) (hc : (Lit.int .i64 c).wf = true) :
    Amts (w.alloc (.cells #[.int .i64 a, .int .i64 b, .int .i64 c] t)) (.slice (some ⟨w.heap.size, 0, none⟩) 3 3) [a, b, c] := by
  refine .inr ⟨w.heap.size, 0, 3, rfl, by simp, by simp, by simp, fun i hi => ?_⟩
  have hi' : i < 3 := by simpa using hi
  rcases (by omega : i = 0 ∨ i = 1 ∨ i = 2) with rfl | rfl | rfl
  · exact ⟨by simp, by simpa using ha⟩
  · exact ⟨by simp, by simpa using hb⟩
  · exact ⟨by simp, by simpa using hc⟩
theorem ten_shares : sharesV 10 [1, 1, 1] = [4, 3, 3] := by kernel_rfl
theorem ones_good : GoodW [1, 1, 1] := by
  intro i hi
  have hi' : i < 3 := by simpa using hi
  rcases (by omega : i = 0 ∨ i = 1 ∨ i = 2) with rfl | rfl | rfl <;> simp
set_option maxHeartbeats 1000000 in
theorem awake3_any (C : AllotC) (w : World) (htab : Pow w) (hw : 1 < w.heap.size) :
    Calls Tryd.prog 17 #[] w fun e w' => e = .returned (.bool true) ∧ Below w.heap.size w w' := by
  have K1 := Lib.hid (fun w0 => C.good _ [1, 1, 1] 10 _ (amts_three w0 2 1 1 1 (by decide) (by decide) (by decide)) (by decide) (by simp) (by simp) ones_good)
  have hts := Lib.hid ten_shares
  go_enter Tryd.func17, Tryd.ntmps17
  go_wp2_with (first
    | (go_at_call 24; refine (K1.out _).mono ?_; rintro e w1 ⟨u, rfl, hown, hb1⟩; have A0 : Amts w1 u [4, 3, 3] := amts_owns (by rw [hts.out] at hown; exact hown) (by simp) (by decide); have hB1 : Below w.heap.size w w1 := ((Below.refl _ _).alloc (Nat.le_refl _) _).trans (hb1.mono (by simp)))
    | (go_at_call 25; refine (equal_any _ _ _ _ _ (A0.stay ((Below.refl _ _).alloc (Nat.le_refl _) _)) (amts_three w1 2 4 3 3 (by decide) (by decide) (by decide))).mono ?_; rintro e w2 ⟨rfl, hb2⟩; have hB2 : Below w.heap.size w w2 := (hB1.alloc hB1.size _).trans (hb2.mono (by simp; exact Nat.le_trans hB1.size (Nat.le_succ _))); have t2 := htab.stay hw hB2; have s2 := Nat.lt_of_lt_of_le hw hB2.size)
    | (go_at_call 26; refine (awake2_any _ t2 s2).mono ?_; rintro e w3 ⟨rfl, hb3⟩))
  go_ret
  exact ⟨rfl, hB2.trans (hb3.mono hB2.size)⟩
end Go.Proofs.YtibipjncpojifaaDoor

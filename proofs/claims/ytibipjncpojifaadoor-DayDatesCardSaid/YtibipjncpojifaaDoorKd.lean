/- What law 4 asks of package day, as one word; law 4's Awake from it. -/
import Derived.Test.YtibipjncpojifaaDoorKa
import Derived.Test.YtibipjncpojifaaDoorSh
namespace Go.Proofs.YtibipjncpojifaaDoor
open Go.RowKit
set_option linter.unusedVariables false
set_option linter.unusedSimpArgs false
/-- A text, as a value. -/
def strV (l : List UInt8) : Value := .string ⟨l.toArray⟩
/-- What the document says of day, in worlds of which I holds. -/
structure DayC (I : World → Prop) : Prop where
  stay : ∀ {w w' : World}, I w → Below w.heap.size w w' → I w'
  tab : ∀ {w : World}, I w → Pow w ∧ 1 < w.heap.size
  of_yes : ∀ (y m d : Int) (w : World), I w → RightD y m d → Calls Tryd.prog 9 #[.int .i64 y, .int .i64 m, .int .i64 d] w fun e w' => e = .returned (.tuple #[.int .i32 (numD y m d), .bool true]) ∧ Below w.heap.size w w'
  of_no : ∀ (y m d : Int) (w : World), I w → (Lit.int .i64 y).wf = true → (Lit.int .i64 m).wf = true → (Lit.int .i64 d).wf = true → ¬ RightD y m d → Calls Tryd.prog 9 #[.int .i64 y, .int .i64 m, .int .i64 d] w fun e w' => e = .returned (.tuple #[.int .i32 0, .bool false]) ∧ Below w.heap.size w w'
  date_yes : ∀ (y m d : Int) (w : World), I w → RightD y m d → Calls Tryd.prog 11 #[.int .i32 (numD y m d)] w fun e w' => e = .returned (.tuple #[.int .i64 y, .int .i64 m, .int .i64 d]) ∧ Below w.heap.size w w'
  date_no : ∀ (n : Int) (w : World), I w → (Lit.int .i32 n).wf = true → ¬ (-719162 ≤ n ∧ n ≤ 2932896) → Calls Tryd.prog 11 #[.int .i32 n] w fun e w' => e = .returned (.tuple #[.int .i64 0, .int .i64 0, .int .i64 0]) ∧ Below w.heap.size w w'
  text_yes : ∀ (y m d : Int) (w : World), I w → RightD y m d → Calls Tryd.prog 15 #[.int .i32 (numD y m d)] w fun e w' => e = .returned (strV (dateL y m d)) ∧ Below w.heap.size w w'
  text_no : ∀ (n : Int) (w : World), I w → (Lit.int .i32 n).wf = true → ¬ (-719162 ≤ n ∧ n ≤ 2932896) → Calls Tryd.prog 15 #[.int .i32 n] w fun e w' => e = .returned (strV []) ∧ Below w.heap.size w w'
  parse_yes : ∀ (y m d : Int) (w : World), I w → RightD y m d → Calls Tryd.prog 13 #[strV (dateL y m d)] w fun e w' => e = .returned (.tuple #[.int .i32 (numD y m d), .bool true]) ∧ Below w.heap.size w w'
  parse_no : ∀ (l : List UInt8) (w : World), I w → l.length ≤ 9223372036854775807 → (∀ y m d, RightD y m d → l ≠ dateL y m d) → Calls Tryd.prog 13 #[strV l] w fun e w' => e = .returned (.tuple #[.int .i32 0, .bool false]) ∧ Below w.heap.size w w'
theorem right_a : RightD 1970 1 1 := by unfold RightD ml yl; decide
theorem right_b : RightD 2000 2 29 := by unfold RightD ml yl; decide
theorem num_a : numD 1970 1 1 = 0 := by decide
theorem num_b : numD 2000 2 29 = 11016 := by decide
theorem date_b : dateL 2000 2 29 = [50, 48, 48, 48, 45, 48, 50, 45, 50, 57] := by decide
set_option maxHeartbeats 1000000 in
theorem awake4_any {I : World → Prop} (C : AllotC) (D : DayC I) (w : World) (hI : I w) :
    Calls Tryd.prog 8 #[] w fun e w' => e = .returned (.bool true) ∧ Below w.heap.size w w' := by
  have K1 := Lib.hid (D.of_yes 1970 1 1 w hI right_a)
  have K2 := Lib.hid (fun w' h => D.of_yes 2000 2 29 w' h right_b)
  have K3 := Lib.hid (fun w' h => D.text_yes 2000 2 29 w' h right_b)
  rw [num_a] at K1
  rw [num_b] at K2 K3
  rw [date_b] at K3
  unfold strV at K3
  go_enter Tryd.func8, Tryd.ntmps8
  go_wp2_with (first
    | (go_at_call 17; refine (awake3_any C _ (D.tab (D.stay hI hB3)).1 (D.tab (D.stay hI hB3)).2).mono ?_; rintro e w4 ⟨rfl, hb4⟩)
    | (go_at_call 15; refine (K3.out _ (D.stay hI hB2)).mono ?_; rintro e w3 ⟨rfl, hb3⟩; have hB3 := hB2.trans (hb3.mono hB2.size))
    | (go_at_call 9; refine (K2.out _ (D.stay hI hb1)).mono ?_; rintro e w2 ⟨rfl, hb2⟩; have hB2 := hb1.trans (hb2.mono hb1.size))
    | (go_at_call 9; refine K1.out.mono ?_; rintro e w1 ⟨rfl, hb1⟩))
  go_ret
  exact ⟨by simp, hB3.trans (hb4.mono hB3.size)⟩
end Go.Proofs.YtibipjncpojifaaDoor

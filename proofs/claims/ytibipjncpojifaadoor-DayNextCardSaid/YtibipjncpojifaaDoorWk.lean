/- Contract of law 1 Awake. -/
import Derived.Test.YtibipjncpojifaaDoorWd
namespace Go.Proofs.YtibipjncpojifaaDoor
open Go.RowKit
set_option linter.unusedVariables false
set_option linter.unusedSimpArgs false
theorem aw1 : hiW (-5) = -1 := by unfold hiW; rw [i64w]; decide
theorem aw2 : loW (-5) = 18446744073709551611 := by unfold loW; decide
theorem aw3 : hiW (-1) = -1 := by unfold hiW; rw [i64w]; decide
theorem aw4 : loW (-1) = 18446744073709551615 := by unfold loW; decide
theorem awake_any (w : World) :
    Calls Tryd.prog 37 #[] w fun e w' => e = .returned (.bool true) ∧ Below w.heap.size w w' := by
  have h1 := aw1
  have h2 := aw2
  have h3 := aw3
  have h4 := aw4
  go_enter Tryd.func37, Tryd.ntmps37
  go_wp2_with (first | (go_at_call 40; refine (mul_any (-1) 5 _ (by decide) (by decide)).mono ?_; rintro e w1 ⟨rfl, hb1⟩) | (go_at_call 48; refine (of_any (-1) _ (by decide)).mono ?_; rintro e w2 ⟨rfl, hb2⟩))
  go_ret
  exact ⟨rfl, hb1.trans (hb2.mono hb1.size)⟩
end Go.Proofs.YtibipjncpojifaaDoor

/- Law 7's UnitTurns in the row's order of arguments. -/
import Derived.Test.YtaldafgkhcihjaaGreatDoorNi
import Derived.Test.YtaldafgkhcihjaaGreatDoorGu
import Derived.Test.YtaldafgkhcihjaaGreatDoorNu
import Derived.Test.YtaldafgkhcihjaaGreatDoorVpk
import Derived.Test.YtaldafgkhcihjaaGreatDoorKall
import Derived.Test.YtaldafgkhcihjaaGreatDoorPall
namespace Go.Proofs.YtaldafgkhcihjaaGreatDoor
open Go.RowKit
set_option linter.unusedVariables false
theorem unitturns_row (v : Value) (zs : List Nat) (a : Int) (w : World) (hI : InI w) (hR : Recs uc 1 w v zs ∧ ∀ x ∈ zs, x < 65536) (ha : (Lit.int .u16 a).wf = true) :
    Calls Tryz.prog 4 #[v, .int .u16 a] w fun e w' => e = .returned (.bool true) ∧ Below w.heap.size w w' := by
  obtain ⟨m, rfl, hm⟩ := u16_nat ha
  exact unitturns_any allotC dayC keyC unitC v zs m w hI hR.1 hm
end Go.Proofs.YtaldafgkhcihjaaGreatDoor

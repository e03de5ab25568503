/- Law 7's UnitChecks in the row's order of arguments. -/
import Derived.Test.YtaldafgkhcihjaaGreatDoorNh
import Derived.Test.YtaldafgkhcihjaaGreatDoorGu
import Derived.Test.YtaldafgkhcihjaaGreatDoorNu
import Derived.Test.YtaldafgkhcihjaaGreatDoorVpk
import Derived.Test.YtaldafgkhcihjaaGreatDoorKall
import Derived.Test.YtaldafgkhcihjaaGreatDoorPall
namespace Go.Proofs.YtaldafgkhcihjaaGreatDoor
open Go.RowKit
set_option linter.unusedVariables false
theorem unitchecks_row (v : Value) (zs : List Nat) (a : Int) (b : Bool) (w : World) (hI : InI w) (hR : Recs uc 1 w v zs ∧ ∀ x ∈ zs, x < 65536) (ha : (Lit.int .u16 a).wf = true) :
    Calls Tryz.prog 3 #[v, .int .u16 a, .bool b] w fun e w' => e = .returned (.bool true) ∧ Below w.heap.size w w' := by
  obtain ⟨m, rfl, hm⟩ := u16_nat ha
  exact unitchecks_any allotC dayC keyC unitC v zs m b w hI hR.1 hR.2 hm
end Go.Proofs.YtaldafgkhcihjaaGreatDoor

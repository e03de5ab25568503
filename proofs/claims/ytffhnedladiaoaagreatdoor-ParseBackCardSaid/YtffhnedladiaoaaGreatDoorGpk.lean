/- Law ParseBack in the row's order of arguments. -/
import Derived.Test.YtffhnedladiaoaaGreatDoorPwf
import Derived.Test.YtffhnedladiaoaaGreatDoorGxx
namespace Go.Proofs.YtffhnedladiaoaaGreatDoor
open Go.RowKit
set_option linter.unusedVariables false
theorem parseback_row (v : Value) (qs : List Oi) (w : World) (hI : InS w) (hR : SRow w v qs) :
    Calls Tryz.prog 3 #[v] w fun e w' => e = .returned (.bool true) ∧ Below w.heap.size w w' := back_c v qs w hI hR
end Go.Proofs.YtffhnedladiaoaaGreatDoor

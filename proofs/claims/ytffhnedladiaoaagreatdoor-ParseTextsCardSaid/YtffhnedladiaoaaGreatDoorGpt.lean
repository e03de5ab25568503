/- Law ParseTexts in the row's order of arguments. -/
import Derived.Test.YtffhnedladiaoaaGreatDoorPwd
namespace Go.Proofs.YtffhnedladiaoaaGreatDoor
open Go.RowKit
set_option linter.unusedVariables false
theorem parsetexts_row (s : ByteArray) (w : World) (hI : InS w) (hs : s.size ≤ 9223372036854775807) :
    Calls Tryz.prog 4 #[.string s] w fun e w' => e = .returned (.bool true) ∧ Below w.heap.size w w' := texts_c s w hI hs
end Go.Proofs.YtffhnedladiaoaaGreatDoor

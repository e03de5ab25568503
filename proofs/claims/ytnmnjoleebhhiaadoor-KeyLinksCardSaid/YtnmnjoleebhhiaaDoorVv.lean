/- Law 5's KeyLinks in the row's order of arguments. -/
import Derived.Test.YtnmnjoleebhhiaaDoorVu
import Derived.Test.YtnmnjoleebhhiaaDoorVs
namespace Go.Proofs.YtnmnjoleebhhiaaDoor
open Go.RowKit
set_option linter.unusedVariables false
theorem keylinks_row (v : Value) (zs : List (Kt × Kt)) (ot : Kt × Kt) (w : World) (hI : InI w) (hR : Recs pc 6 w v zs) :
    Calls Tryd.prog 6 #[v, pv ot] w fun e w' => e = .returned (.bool true) ∧ Below w.heap.size w w' := keylinks_any allotC dayC keyC v zs ot w hI hR
end Go.Proofs.YtnmnjoleebhhiaaDoor

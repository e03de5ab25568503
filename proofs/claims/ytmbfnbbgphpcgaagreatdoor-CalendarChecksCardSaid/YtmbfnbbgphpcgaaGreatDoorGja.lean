/- Law 8's CalendarChecks in the row's order of arguments. -/
import Derived.Test.YtmbfnbbgphpcgaaGreatDoorJh
import Derived.Test.YtmbfnbbgphpcgaaGreatDoorGj
import Derived.Test.YtmbfnbbgphpcgaaGreatDoorNu
import Derived.Test.YtmbfnbbgphpcgaaGreatDoorJu
import Derived.Test.YtmbfnbbgphpcgaaGreatDoorVpk
import Derived.Test.YtmbfnbbgphpcgaaGreatDoorKall
import Derived.Test.YtmbfnbbgphpcgaaGreatDoorPall
namespace Go.Proofs.YtmbfnbbgphpcgaaGreatDoor
open Go.RowKit
set_option linter.unusedVariables false
theorem calchecks_row (v : Value) (zs : List Int) (a : Int) (b : Bool) (w : World) (hI : InI w) (hR : Recs dcl 1 w v zs ∧ ∀ x ∈ zs, I32 x) (ha : (Lit.int .i32 a).wf = true) :
    Calls Tryz.prog 3 #[v, .int .i32 a, .bool b] w fun e w' => e = .returned (.bool true) ∧ Below w.heap.size w w' := by
  exact calchecks_any allotC dayC keyC unitC calC v zs a b w hI hR.1 hR.2 (i32_in ha)
end Go.Proofs.YtmbfnbbgphpcgaaGreatDoor

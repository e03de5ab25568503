/- Law 8's CalendarWhole in the row's order of arguments. -/
import Derived.Test.YtmbfnbbgphpcgaaGreatDoorJe
import Derived.Test.YtmbfnbbgphpcgaaGreatDoorGj
import Derived.Test.YtmbfnbbgphpcgaaGreatDoorNu
import Derived.Test.YtmbfnbbgphpcgaaGreatDoorJu
import Derived.Test.YtmbfnbbgphpcgaaGreatDoorVpk
import Derived.Test.YtmbfnbbgphpcgaaGreatDoorKall
import Derived.Test.YtmbfnbbgphpcgaaGreatDoorPall
namespace Go.Proofs.YtmbfnbbgphpcgaaGreatDoor
open Go.RowKit
set_option linter.unusedVariables false
theorem calwhole_row (a : Int) (v : Value) (zs : List Nat) (w : World) (hI : InI w) (ha : (Lit.int .i16 a).wf = true) (hR : Recs u8c 1 w v zs ∧ ∀ x ∈ zs, x < 256) :
    Calls Tryz.prog 6 #[.int .i16 a, v] w fun e w' => e = .returned (.bool true) ∧ Below w.heap.size w w' := by
  exact calwhole_any allotC dayC keyC unitC calC v zs a (i16_in ha) w hI hR.1
end Go.Proofs.YtmbfnbbgphpcgaaGreatDoor

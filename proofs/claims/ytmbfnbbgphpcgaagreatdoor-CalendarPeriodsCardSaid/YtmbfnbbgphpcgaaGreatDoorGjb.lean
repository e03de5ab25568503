/- Law 8's CalendarPeriods in the row's order of arguments. -/
import Derived.Test.YtmbfnbbgphpcgaaGreatDoorJd
import Derived.Test.YtmbfnbbgphpcgaaGreatDoorGj
import Derived.Test.YtmbfnbbgphpcgaaGreatDoorNu
import Derived.Test.YtmbfnbbgphpcgaaGreatDoorJu
import Derived.Test.YtmbfnbbgphpcgaaGreatDoorVpk
import Derived.Test.YtmbfnbbgphpcgaaGreatDoorKall
import Derived.Test.YtmbfnbbgphpcgaaGreatDoorPall
namespace Go.Proofs.YtmbfnbbgphpcgaaGreatDoor
open Go.RowKit
set_option linter.unusedVariables false
theorem calperiods_row (a : Int) (v : Value) (zs : List Nat) (b : Int) (w : World) (hI : InI w) (ha : (Lit.int .i16 a).wf = true) (hR : Recs u8c 1 w v zs ∧ ∀ x ∈ zs, x < 256) (hb : (Lit.int .i16 b).wf = true) :
    Calls Tryz.prog 4 #[.int .i16 a, v, .int .i16 b] w fun e w' => e = .returned (.bool true) ∧ Below w.heap.size w w' := by
  exact calperiods_any allotC dayC keyC unitC calC v zs a b (i16_in ha) (i16_in hb) w hI hR.1
end Go.Proofs.YtmbfnbbgphpcgaaGreatDoor

/- Law 9's EntrySums in the row's order of arguments. -/
import Derived.Test.YtpebdimjpnpmnaaGreatDoorId
import Derived.Test.YtpebdimjpnpmnaaGreatDoorGl
import Derived.Test.YtpebdimjpnpmnaaGreatDoorNall
import Derived.Test.YtpebdimjpnpmnaaGreatDoorJall
import Derived.Test.YtpebdimjpnpmnaaGreatDoorIall
import Derived.Test.YtpebdimjpnpmnaaGreatDoorVpk
import Derived.Test.YtpebdimjpnpmnaaGreatDoorKall
import Derived.Test.YtpebdimjpnpmnaaGreatDoorPall
namespace Go.Proofs.YtpebdimjpnpmnaaGreatDoor
open Go.RowKit
set_option linter.unusedVariables false
theorem entrysums_row (v : Value) (zs : List Ln) (b : Bool) (w : World) (hI : InI w) (hR : Recs lc 4 w v zs) :
    Calls Tryz.prog 3 #[v, .bool b] w fun e w' => e = .returned (.bool true) ∧ Below w.heap.size w w' := by
  exact entrysums_any allotC dayC keyC unitC calC entryC v zs b w hI hR
end Go.Proofs.YtpebdimjpnpmnaaGreatDoor

/- Law 9's EntryChecks in the row's order of arguments. -/
import Derived.Test.YtpebdimjpnpmnaaGreatDoorIh
import Derived.Test.YtpebdimjpnpmnaaGreatDoorGl
import Derived.Test.YtpebdimjpnpmnaaGreatDoorNall
import Derived.Test.YtpebdimjpnpmnaaGreatDoorJall
import Derived.Test.YtpebdimjpnpmnaaGreatDoorIall
import Derived.Test.YtpebdimjpnpmnaaGreatDoorVpk
import Derived.Test.YtpebdimjpnpmnaaGreatDoorKall
import Derived.Test.YtpebdimjpnpmnaaGreatDoorPall
namespace Go.Proofs.YtpebdimjpnpmnaaGreatDoor
open Go.RowKit
set_option linter.unusedVariables false
theorem entrychecks_row (a : Int) (v : Value) (zs : List Ln) (b c : Bool) (d : Int) (w : World) (hI : InI w) (ha : (Lit.int .i32 a).wf = true) (hR : Recs lc 4 w v zs) (hd : (Lit.int .i64 d).wf = true) :
    Calls Tryz.prog 4 #[.int .i32 a, v, .bool b, .bool c, .int .i64 d] w fun e w' => e = .returned (.bool true) ∧ Below w.heap.size w w' := by
  exact entrychecks_any allotC dayC keyC unitC calC entryC v zs a d b c w hI hR (i32_in ha) (i64_in hd)
end Go.Proofs.YtpebdimjpnpmnaaGreatDoor

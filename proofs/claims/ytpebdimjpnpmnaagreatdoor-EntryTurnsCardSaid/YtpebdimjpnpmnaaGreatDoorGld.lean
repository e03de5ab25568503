/- Law 9's EntryTurns in the row's order of arguments. -/
import Derived.Test.YtpebdimjpnpmnaaGreatDoorIj
import Derived.Test.YtpebdimjpnpmnaaGreatDoorGl
import Derived.Test.YtpebdimjpnpmnaaGreatDoorNall
import Derived.Test.YtpebdimjpnpmnaaGreatDoorJall
import Derived.Test.YtpebdimjpnpmnaaGreatDoorIall
import Derived.Test.YtpebdimjpnpmnaaGreatDoorVpk
import Derived.Test.YtpebdimjpnpmnaaGreatDoorKall
import Derived.Test.YtpebdimjpnpmnaaGreatDoorPall
namespace Go.Proofs.YtpebdimjpnpmnaaGreatDoor
open Go.RowKit
set_option linter.unusedVariables false
theorem entryturns_row (v : Value) (zs : List Ln) (a : Int) (w : World) (hI : InI w) (hR : Recs lc 4 w v zs) (ha : (Lit.int .u8 a).wf = true) :
    Calls Tryz.prog 6 #[v, .int .u8 a] w fun e w' => e = .returned (.bool true) ∧ Below w.heap.size w w' := by
  obtain ⟨m, rfl, hm⟩ := u8_nat' ha
  exact entryturns_any allotC dayC keyC unitC calC entryC v zs m w hI hR hm
end Go.Proofs.YtpebdimjpnpmnaaGreatDoor

/- Law 9's EntrySames in the row's order of arguments. -/
import Derived.Test.YtpebdimjpnpmnaaGreatDoorIi
import Derived.Test.YtpebdimjpnpmnaaGreatDoorGl
import Derived.Test.YtpebdimjpnpmnaaGreatDoorNall
import Derived.Test.YtpebdimjpnpmnaaGreatDoorJall
import Derived.Test.YtpebdimjpnpmnaaGreatDoorIall
import Derived.Test.YtpebdimjpnpmnaaGreatDoorVpk
import Derived.Test.YtpebdimjpnpmnaaGreatDoorKall
import Derived.Test.YtpebdimjpnpmnaaGreatDoorPall
namespace Go.Proofs.YtpebdimjpnpmnaaGreatDoor
open Go.RowKit
set_option linter.unusedVariables false
theorem entrysames_row (a b : Int) (v : Value) (zs : List Ln) (v2 : Value) (zs2 : List Ln) (c : Bool) (d : Int) (w : World) (hI : InI w) (ha : (Lit.int .i16 a).wf = true) (hb : (Lit.int .i16 b).wf = true) (hR : Recs lc 4 w v zs) (hR2 : Recs lc 4 w v2 zs2) (hd : (Lit.int .u8 d).wf = true) :
    Calls Tryz.prog 5 #[.int .i16 a, .int .i16 b, v, v2, .bool c, .int .u8 d] w fun e w' => e = .returned (.bool true) ∧ Below w.heap.size w w' := by
  obtain ⟨m, rfl, hm⟩ := u8_nat' hd
  exact entrysames_any allotC dayC keyC unitC calC entryC v v2 zs zs2 a b c m w hI hR hR2 (i16_in ha) (i16_in hb) hm
end Go.Proofs.YtpebdimjpnpmnaaGreatDoor

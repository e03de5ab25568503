/- Law 6's ChartBack in the row's order of arguments. -/
import Derived.Test.YtdhgkggcnilgoaaDoorCs
import Derived.Test.YtdhgkggcnilgoaaDoorLh
import Derived.Test.YtdhgkggcnilgoaaDoorVpk
import Derived.Test.YtdhgkggcnilgoaaDoorKall
import Derived.Test.YtdhgkggcnilgoaaDoorPall
namespace Go.Proofs.YtdhgkggcnilgoaaDoor
open Go.RowKit
theorem chartback_row (v : Value) (zs : List Qt) (a : Int) (w : World) (hI : InI w) (hR : Recs qc 4 w v zs) (ha : (Lit.int .u8 a).wf = true) :
    Calls Tryd.prog 7 #[v, .int .u8 a] w fun e w' => e = .returned (.bool true) ∧ Below w.heap.size w w' := by
  obtain ⟨m, rfl, hm⟩ := u8_nat ha
  exact chartback_any allotC dayC keyC v zs m w hI hR hm
end Go.Proofs.YtdhgkggcnilgoaaDoor

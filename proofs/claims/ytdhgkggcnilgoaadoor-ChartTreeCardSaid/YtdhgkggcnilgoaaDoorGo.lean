/- Law 6's ChartTree in the row's order of arguments. -/
import Derived.Test.YtdhgkggcnilgoaaDoorCo
import Derived.Test.YtdhgkggcnilgoaaDoorLh
import Derived.Test.YtdhgkggcnilgoaaDoorVpk
import Derived.Test.YtdhgkggcnilgoaaDoorKall
import Derived.Test.YtdhgkggcnilgoaaDoorPall
namespace Go.Proofs.YtdhgkggcnilgoaaDoor
open Go.RowKit
theorem charttree_row (v : Value) (zs : List Qt) (w : World) (hI : InI w) (hR : Recs qc 4 w v zs) :
    Calls Tryd.prog 6 #[v] w fun e w' => e = .returned (.bool true) ∧ Below w.heap.size w w' :=
  charttree_any allotC dayC keyC v zs w hI hR
end Go.Proofs.YtdhgkggcnilgoaaDoor

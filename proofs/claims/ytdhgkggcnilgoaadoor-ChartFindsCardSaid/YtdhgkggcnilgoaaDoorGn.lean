/- Law 6's ChartFinds in the row's order of arguments. -/
import Derived.Test.YtdhgkggcnilgoaaDoorCn
import Derived.Test.YtdhgkggcnilgoaaDoorLh
import Derived.Test.YtdhgkggcnilgoaaDoorVpk
import Derived.Test.YtdhgkggcnilgoaaDoorKall
import Derived.Test.YtdhgkggcnilgoaaDoorPall
namespace Go.Proofs.YtdhgkggcnilgoaaDoor
open Go.RowKit
theorem chartfinds_row (v : Value) (zs : List Qt) (a b : Int) (w : World) (hI : InI w) (hR : Recs qc 4 w v zs) (ha : (Lit.int .u8 a).wf = true) (hb : (Lit.int .u8 b).wf = true) :
    Calls Tryd.prog 4 #[v, .int .u8 a, .int .u8 b] w fun e w' => e = .returned (.bool true) ∧ Below w.heap.size w w' := by
  obtain ⟨m, rfl, hm⟩ := u8_nat ha
  obtain ⟨n, rfl, hn⟩ := u8_nat hb
  exact chartfinds_any allotC dayC keyC v zs m n w hI hR hm hn
end Go.Proofs.YtdhgkggcnilgoaaDoor

/- Law 6's ChartTurns in the row's order of arguments. -/
import Derived.Test.YtdhgkggcnilgoaaDoorCt
import Derived.Test.YtdhgkggcnilgoaaDoorLh
import Derived.Test.YtdhgkggcnilgoaaDoorVpk
import Derived.Test.YtdhgkggcnilgoaaDoorKall
import Derived.Test.YtdhgkggcnilgoaaDoorPall
namespace Go.Proofs.YtdhgkggcnilgoaaDoor
open Go.RowKit
theorem chartturns_row (v : Value) (zs : List Qt) (a : Int) (b : Ac) (c : Int) (w : World) (hI : InI w) (hR : Recs qc 4 w v zs) (ha : (Lit.int .u8 a).wf = true) (hc : (Lit.int .u8 c).wf = true) :
    Calls Tryd.prog 5 #[v, .int .u8 a, cv b, .int .u8 c] w fun e w' => e = .returned (.bool true) ∧ Below w.heap.size w w' := by
  obtain ⟨m, rfl, hm⟩ := u8_nat ha
  obtain ⟨p, rfl, hp⟩ := u8_nat hc
  exact chartturns_any allotC dayC keyC v zs m p b w hI hR hm hp
end Go.Proofs.YtdhgkggcnilgoaaDoor

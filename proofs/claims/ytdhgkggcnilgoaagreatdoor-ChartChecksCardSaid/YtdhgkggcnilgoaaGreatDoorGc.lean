/- Law 6's ChartChecks and ChartSpoilt in the rows' order of arguments. -/
import Derived.Test.YtdhgkggcnilgoaaGreatDoorHe
import Derived.Test.YtdhgkggcnilgoaaGreatDoorHf
import Derived.Test.YtdhgkggcnilgoaaGreatDoorLh
import Derived.Test.YtdhgkggcnilgoaaGreatDoorVpk
import Derived.Test.YtdhgkggcnilgoaaGreatDoorKall
import Derived.Test.YtdhgkggcnilgoaaGreatDoorPall
namespace Go.Proofs.YtdhgkggcnilgoaaGreatDoor
open Go.RowKit
theorem chartchecks_row (v : Value) (cs : List Ac) (x : Value) (zs : List Qt) (b : Bool) (w : World) (hI : InI w) (hR : Recs cc 4 w v cs) (hQ : Recs qc 4 w x zs) :
    Calls Tryz.prog 3 #[v, x, .bool b] w fun e w' => e = .returned (.bool true) ∧ Below w.heap.size w w' :=
  chartchecks_any allotC dayC keyC v cs x zs b w hI hR hQ
theorem chartspoilt_row (v : Value) (zs : List Qt) (a b c : Int) (s : ByteArray) (w : World) (hI : InI w) (hQ : Recs qc 4 w v zs) (ha : (Lit.int .u8 a).wf = true) (hb : (Lit.int .u8 b).wf = true) (hc : (Lit.int .u32 c).wf = true) (hs : s.size ≤ 9223372036854775807) :
    Calls Tryz.prog 4 #[v, .int .u8 a, .int .u8 b, .int .u32 c, .string s] w fun e w' => e = .returned (.bool true) ∧ Below w.heap.size w w' := by
  obtain ⟨m, rfl, hm⟩ := u8_nat ha
  obtain ⟨p, rfl, hp⟩ := u8_nat hb
  obtain ⟨q, rfl, hq⟩ := u32_nat hc
  exact chartspoilt_any allotC dayC keyC v zs m p q s w hI hQ hm hp hq hs
end Go.Proofs.YtdhgkggcnilgoaaGreatDoor

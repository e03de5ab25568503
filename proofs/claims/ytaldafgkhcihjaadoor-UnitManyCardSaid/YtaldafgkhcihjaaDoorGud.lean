/- Law 7's UnitMany in the row's order of arguments. -/
import Derived.Test.YtaldafgkhcihjaaDoorNk
import Derived.Test.YtaldafgkhcihjaaDoorGu
import Derived.Test.YtaldafgkhcihjaaDoorNu
import Derived.Test.YtaldafgkhcihjaaDoorVpk
import Derived.Test.YtaldafgkhcihjaaDoorKall
import Derived.Test.YtaldafgkhcihjaaDoorPall
namespace Go.Proofs.YtaldafgkhcihjaaDoor
open Go.RowKit
set_option linter.unusedVariables false
theorem unitmany_row (a : Int) (w : World) (hI : InI w) (ha : (Lit.int .u8 a).wf = true) :
    Calls Tryd.prog 3 #[.int .u8 a] w fun e w' => e = .returned (.bool true) ∧ Below w.heap.size w w' := by
  obtain ⟨m, rfl, hm⟩ := u8_nat' ha
  exact unitmany_any allotC dayC keyC unitC m w hI hm
end Go.Proofs.YtaldafgkhcihjaaDoor

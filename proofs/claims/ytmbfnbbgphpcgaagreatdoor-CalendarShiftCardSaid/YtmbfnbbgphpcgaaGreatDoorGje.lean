/- Law 8's CalendarShift in the row's order of arguments. -/
import Derived.Test.YtmbfnbbgphpcgaaGreatDoorJf
import Derived.Test.YtmbfnbbgphpcgaaGreatDoorGj
import Derived.Test.YtmbfnbbgphpcgaaGreatDoorNu
import Derived.Test.YtmbfnbbgphpcgaaGreatDoorJu
import Derived.Test.YtmbfnbbgphpcgaaGreatDoorVpk
import Derived.Test.YtmbfnbbgphpcgaaGreatDoorKall
import Derived.Test.YtmbfnbbgphpcgaaGreatDoorPall
namespace Go.Proofs.YtmbfnbbgphpcgaaGreatDoor
open Go.RowKit
set_option linter.unusedVariables false
theorem calshift_row (a : Int) (v : Value) (zs : List Nat) (b c : Int) (w : World) (hI : InI w) (ha : (Lit.int .i16 a).wf = true) (hR : Recs u8c 1 w v zs ∧ ∀ x ∈ zs, x < 256) (hb : (Lit.int .i16 b).wf = true) (hc : (Lit.int .u8 c).wf = true) :
    Calls Tryz.prog 7 #[.int .i16 a, v, .int .i16 b, .int .u8 c] w fun e w' => e = .returned (.bool true) ∧ Below w.heap.size w w' := by
  obtain ⟨m, rfl, hm⟩ := u8_nat' hc
  exact calshift_any allotC dayC keyC unitC calC v zs a b m (i16_in ha) (i16_in hb) hm w hI hR.1
end Go.Proofs.YtmbfnbbgphpcgaaGreatDoor

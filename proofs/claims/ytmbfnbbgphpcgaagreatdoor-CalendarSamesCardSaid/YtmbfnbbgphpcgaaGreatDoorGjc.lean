/- Law 8's CalendarSames in the row's order of arguments. -/
import Derived.Test.YtmbfnbbgphpcgaaGreatDoorJg
import Derived.Test.YtmbfnbbgphpcgaaGreatDoorGj
import Derived.Test.YtmbfnbbgphpcgaaGreatDoorNu
import Derived.Test.YtmbfnbbgphpcgaaGreatDoorJu
import Derived.Test.YtmbfnbbgphpcgaaGreatDoorVpk
import Derived.Test.YtmbfnbbgphpcgaaGreatDoorKall
import Derived.Test.YtmbfnbbgphpcgaaGreatDoorPall
namespace Go.Proofs.YtmbfnbbgphpcgaaGreatDoor
open Go.RowKit
set_option linter.unusedVariables false
theorem calsames_row (a b : Int) (v : Value) (zs : List Nat) (v2 : Value) (zs2 : List Nat) (c : Bool) (w : World) (hI : InI w) (ha : (Lit.int .i16 a).wf = true) (hb : (Lit.int .i16 b).wf = true) (hR : Recs u8c 1 w v zs ∧ ∀ x ∈ zs, x < 256) (hR2 : Recs u8c 1 w v2 zs2 ∧ ∀ x ∈ zs2, x < 256) :
    Calls Tryz.prog 5 #[.int .i16 a, .int .i16 b, v, v2, .bool c] w fun e w' => e = .returned (.bool true) ∧ Below w.heap.size w w' := by
  exact calsames_any allotC dayC keyC unitC calC v v2 zs zs2 a b c (i16_in ha) (i16_in hb) w hI hR.1 hR2.1
end Go.Proofs.YtmbfnbbgphpcgaaGreatDoor

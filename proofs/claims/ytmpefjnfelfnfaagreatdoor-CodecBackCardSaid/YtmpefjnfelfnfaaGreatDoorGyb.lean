/- Law 11's CodecBack in the row's order of arguments. -/
import Derived.Test.YtmpefjnfelfnfaaGreatDoorChe
import Derived.Test.YtmpefjnfelfnfaaGreatDoorGall
import Derived.Test.YtmpefjnfelfnfaaGreatDoorNall
import Derived.Test.YtmpefjnfelfnfaaGreatDoorJall
import Derived.Test.YtmpefjnfelfnfaaGreatDoorIall
import Derived.Test.YtmpefjnfelfnfaaGreatDoorUall
import Derived.Test.YtmpefjnfelfnfaaGreatDoorVpk
import Derived.Test.YtmpefjnfelfnfaaGreatDoorKall
import Derived.Test.YtmpefjnfelfnfaaGreatDoorPall
namespace Go.Proofs.YtmpefjnfelfnfaaGreatDoor
open Go.RowKit
set_option linter.unusedVariables false
theorem codecback_row (x : Bk) (vCh vUn vLo vJs : Value) (js : List Jp) (w : World) (hI : InI w) (hM : BkM x vCh vUn vLo vJs js w) :
    Calls Tryz.prog 3 #[bV vCh vUn x.first vLo vJs] w fun e w' => e = .returned (.bool true) ∧ Below w.heap.size w w' :=
  codecback_any allotC dayC keyC unitC calC entryC bookC codecC (decC dayC bookC) x vCh vUn vLo vJs js w hI hM
end Go.Proofs.YtmpefjnfelfnfaaGreatDoor

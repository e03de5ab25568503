/- Law 11's CodecGrows in the row's order of arguments. -/
import Derived.Test.YtmpefjnfelfnfaaGreatDoorChg
import Derived.Test.YtmpefjnfelfnfaaGreatDoorGall
import Derived.Test.YtmpefjnfelfnfaaGreatDoorNall
import Derived.Test.YtmpefjnfelfnfaaGreatDoorJall
import Derived.Test.YtmpefjnfelfnfaaGreatDoorIall
import Derived.Test.YtmpefjnfelfnfaaGreatDoorUall
import Derived.Test.YtmpefjnfelfnfaaGreatDoorVpk
import Derived.Test.YtmpefjnfelfnfaaGreatDoorKall
import Derived.Test.YtmpefjnfelfnfaaGreatDoorPall
namespace Go.Proofs.YtmpefjnfelfnfaaGreatDoor
open Go.RowKit
set_option linter.unusedVariables false
theorem codecgrows_row (x : Bk) (vCh vUn vLo vJs : Value) (js : List Jp) (w : World) (hI : InI w) (hM : BkM x vCh vUn vLo vJs js w) :
    Calls Tryz.prog 8 #[bV vCh vUn x.first vLo vJs] w fun e w' => e = .returned (.bool true) ∧ Below w.heap.size w w' :=
  codecgrows_any allotC dayC keyC unitC calC entryC bookC codecC x vCh vUn vLo vJs js w hI hM
end Go.Proofs.YtmpefjnfelfnfaaGreatDoor

/- Law 10's BookDays in the row's order of arguments. -/
import Derived.Test.YtljjodahfomljaaGreatDoorXl
import Derived.Test.YtljjodahfomljaaGreatDoorGall
import Derived.Test.YtljjodahfomljaaGreatDoorNall
import Derived.Test.YtljjodahfomljaaGreatDoorJall
import Derived.Test.YtljjodahfomljaaGreatDoorIall
import Derived.Test.YtljjodahfomljaaGreatDoorUall
import Derived.Test.YtljjodahfomljaaGreatDoorVpk
import Derived.Test.YtljjodahfomljaaGreatDoorKall
import Derived.Test.YtljjodahfomljaaGreatDoorPall
namespace Go.Proofs.YtljjodahfomljaaGreatDoor
open Go.RowKit
set_option linter.unusedVariables false
theorem bookdays_row (x : Bk) (vCh vUn vLo vJs : Value) (js : List Jp) (w : World) (hI : InI w) (hM : BkM x vCh vUn vLo vJs js w) :
    Calls Tryz.prog 6 #[bV vCh vUn x.first vLo vJs] w fun e w' => e = .returned (.bool true) ∧ Below w.heap.size w w' :=
  bookdays_any allotC dayC keyC unitC calC entryC bookC x vCh vUn vLo vJs js w hI hM
end Go.Proofs.YtljjodahfomljaaGreatDoor

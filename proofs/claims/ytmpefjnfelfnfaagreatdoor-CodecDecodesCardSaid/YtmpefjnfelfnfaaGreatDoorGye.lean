/- Law 11's CodecDecodes in the row's order of arguments. -/
import Derived.Test.YtmpefjnfelfnfaaGreatDoorCjf
import Derived.Test.YtmpefjnfelfnfaaGreatDoorCjall
import Derived.Test.YtmpefjnfelfnfaaGreatDoorGall
import Derived.Test.YtmpefjnfelfnfaaGreatDoorNall
import Derived.Test.YtmpefjnfelfnfaaGreatDoorJall
import Derived.Test.YtmpefjnfelfnfaaGreatDoorIall
import Derived.Test.YtmpefjnfelfnfaaGreatDoorUall
import Derived.Test.YtmpefjnfelfnfaaGreatDoorVpk
import Derived.Test.YtmpefjnfelfnfaaGreatDoorKall
import Derived.Test.YtmpefjnfelfnfaaGreatDoorPall
namespace Go.Proofs.YtmpefjnfelfnfaaGreatDoor
open Go.RowKit
set_option linter.unusedVariables false
theorem codecdecodes_row (vm:Value) (ms:List Nat) (h:Bool) (w:World) (hI:InI w) (hm:Recs u8c 1 w vm ms ∧ ∀ z ∈ ms,z<256) :
 Calls Tryz.prog 4 #[vm,.bool h] w fun e w'=>e = .returned (.bool true)∧Below w.heap.size w w' :=
 codecdecodes_any allotC dayC keyC unitC calC entryC bookC codecC (decC dayC bookC) (fun vb l w hI hR hb=>ldecode_c dayC bookC vb l w hI hR hb) vm ms h w hI hm.2 hm.1
end Go.Proofs.YtmpefjnfelfnfaaGreatDoor

/- Law 11's CodecCut in the row's order of arguments. -/
import Derived.Test.YtmpefjnfelfnfaaGreatDoorChd
import Derived.Test.YtmpefjnfelfnfaaGreatDoorGall
import Derived.Test.YtmpefjnfelfnfaaGreatDoorNall
import Derived.Test.YtmpefjnfelfnfaaGreatDoorJall
import Derived.Test.YtmpefjnfelfnfaaGreatDoorIall
import Derived.Test.YtmpefjnfelfnfaaGreatDoorUall
import Derived.Test.YtmpefjnfelfnfaaGreatDoorVpk
import Derived.Test.YtmpefjnfelfnfaaGreatDoorKall
import Derived.Test.YtmpefjnfelfnfaaGreatDoorPall
namespace Go.Proofs.YtmpefjnfelfnfaaGreatDoor
open Go.RowKit
set_option linter.unusedVariables false
theorem codeccut_row (x : Bk) (vCh vUn vLo vJs : Value) (js : List Jp) (a : Int) (vm : Value) (ms : List Nat) (w : World) (hI : InI w) (hM : BkM x vCh vUn vLo vJs js w) (ha : (Lit.int .u16 a).wf = true) (hm : Recs u8c 1 w vm ms ∧ ∀ z ∈ ms, z < 256) :
    Calls Tryz.prog 7 #[bV vCh vUn x.first vLo vJs, .int .u16 a, vm] w fun e w' => e = .returned (.bool true) ∧ Below w.heap.size w w' := by
  obtain ⟨n, rfl, hn⟩ := u16_nat ha
  exact codeccut_any allotC dayC keyC unitC calC entryC bookC codecC (decC dayC bookC) x vCh vUn vLo vJs js n vm ms hn hm.2 w hI hM hm.1
end Go.Proofs.YtmpefjnfelfnfaaGreatDoor

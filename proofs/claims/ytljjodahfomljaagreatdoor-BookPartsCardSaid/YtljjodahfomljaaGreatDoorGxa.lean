/- Law 10's BookParts in the row's order of arguments. -/
import Derived.Test.YtljjodahfomljaaGreatDoorXn
import Derived.Test.YtljjodahfomljaaGreatDoorGall
import Derived.Test.YtljjodahfomljaaGreatDoorNall
import Derived.Test.YtljjodahfomljaaGreatDoorJall
import Derived.Test.YtljjodahfomljaaGreatDoorIall
import Derived.Test.YtljjodahfomljaaGreatDoorUall
import Derived.Test.YtljjodahfomljaaGreatDoorVpk
import Derived.Test.YtljjodahfomljaaGreatDoorKall
import Derived.Test.YtljjodahfomljaaGreatDoorPall
namespace Go.Proofs.YtljjodahfomljaaGreatDoor
open Go.RowKit
set_option linter.unusedVariables false
theorem bookparts_row (x : Bk) (vCh vUn vLo vJs : Value) (js : List Jp) (a b : Int) (w : World) (hI : InI w) (hM : BkM x vCh vUn vLo vJs js w) (ha : (Lit.int .u16 a).wf = true) (hb : (Lit.int .u8 b).wf = true) :
    Calls Tryz.prog 8 #[bV vCh vUn x.first vLo vJs, .int .u16 a, .int .u8 b] w fun e w' => e = .returned (.bool true) ∧ Below w.heap.size w w' := by
  obtain ⟨m, rfl, hm⟩ := u16_nat ha
  obtain ⟨n, rfl, hn⟩ := u8_nat hb
  exact bookparts_any allotC dayC keyC unitC calC entryC bookC x vCh vUn vLo vJs js m n w hI hM hm hn
end Go.Proofs.YtljjodahfomljaaGreatDoor

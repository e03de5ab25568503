/- Law 10's BookSames in the row's order of arguments. -/
import Derived.Test.YtljjodahfomljaaGreatDoorXx
import Derived.Test.YtljjodahfomljaaGreatDoorGall
import Derived.Test.YtljjodahfomljaaGreatDoorNall
import Derived.Test.YtljjodahfomljaaGreatDoorJall
import Derived.Test.YtljjodahfomljaaGreatDoorIall
import Derived.Test.YtljjodahfomljaaGreatDoorUall
import Derived.Test.YtljjodahfomljaaGreatDoorVpk
import Derived.Test.YtljjodahfomljaaGreatDoorKall
import Derived.Test.YtljjodahfomljaaGreatDoorPall
namespace Go.Proofs.YtljjodahfomljaaGreatDoor
open Go.RowKit
set_option linter.unusedVariables false
theorem booksames_row (x : Bk) (vCh vUn vLo vJs : Value) (js : List Jp) (y : Bk) (yCh yUn yLo yJs : Value) (jy : List Jp) (a b c : Int) (own : Bool) (w : World) (hI : InI w) (hM : BkM x vCh vUn vLo vJs js w) (hN : BkM y yCh yUn yLo yJs jy w) (ha : (Lit.int .u8 a).wf = true) (hb : (Lit.int .u8 b).wf = true) (hc : (Lit.int .i64 c).wf = true) :
    Calls Tryz.prog 7 #[bV vCh vUn x.first vLo vJs, bV yCh yUn y.first yLo yJs, .int .u8 a, .int .u8 b, .int .i64 c, .bool own] w fun e w' => e = .returned (.bool true) ∧ Below w.heap.size w w' := by
  obtain ⟨m, rfl, hm⟩ := u8_nat ha
  obtain ⟨n, rfl, hn⟩ := u8_nat hb
  exact booksames_any allotC dayC keyC unitC calC entryC bookC x vCh vUn vLo vJs js y yCh yUn yLo yJs jy m n c own w hI hM hN hm hn (i64_in hc)
end Go.Proofs.YtljjodahfomljaaGreatDoor

/- Law 10's BookFrames in the row's order of arguments. -/
import Derived.Test.YtljjodahfomljaaGreatDoorXm
import Derived.Test.YtljjodahfomljaaGreatDoorGall
import Derived.Test.YtljjodahfomljaaGreatDoorNall
import Derived.Test.YtljjodahfomljaaGreatDoorJall
import Derived.Test.YtljjodahfomljaaGreatDoorIall
import Derived.Test.YtljjodahfomljaaGreatDoorUall
import Derived.Test.YtljjodahfomljaaGreatDoorVpk
import Derived.Test.YtljjodahfomljaaGreatDoorKall
import Derived.Test.YtljjodahfomljaaGreatDoorPall
namespace Go.Proofs.YtljjodahfomljaaGreatDoor
open Go.RowKit
set_option linter.unusedVariables false
theorem bookframes_row (vl : Value) (l : List Ac) (vu : Value) (u : List Nat) (vst : Value) (st : List Int) (en : Int) (x : Bk) (vCh vUn vLo vJs : Value) (js : List Jp) (a : Int) (w : World) (hI : InI w) (hl : Recs cc 4 w vl l) (hu : Recs uc 1 w vu u ∧ ∀ z ∈ u, z < 65536) (hs : Recs dcl 1 w vst st ∧ ∀ z ∈ st, I32 z) (hen : (Lit.int .i32 en).wf = true) (hM : BkM x vCh vUn vLo vJs js w) (ha : (Lit.int .u8 a).wf = true) :
    Calls Tryz.prog 4 #[vl, vu, vst, .int .i32 en, bV vCh vUn x.first vLo vJs, .int .u8 a] w fun e w' => e = .returned (.bool true) ∧ Below w.heap.size w w' := by
  obtain ⟨m, rfl, hm⟩ := u8_nat ha
  exact bookframes_any allotC dayC keyC unitC calC entryC bookC l vl u vu st vst en x vCh vUn vLo vJs js m w hI hl hu.1 hu.2 hs.1 hs.2 (i32_in hen) hM hm
end Go.Proofs.YtljjodahfomljaaGreatDoor

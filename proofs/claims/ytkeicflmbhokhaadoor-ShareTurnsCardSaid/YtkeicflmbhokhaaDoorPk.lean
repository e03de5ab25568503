/- Law ShareTurns of the landed share.Allot. -/
import Derived.Test.YtkeicflmbhokhaaDoorPf
import Derived.Test.YtkeicflmbhokhaaDoorSo
namespace Go.Proofs.YtkeicflmbhokhaaDoor
open Go.RowKit
theorem shareturns_row (a : Int) (v : Value) (zs : List Int) (y : Int) (w : World) (htab : Pow w) (hw : 0 < w.heap.size) (ha : (Lit.int .i64 a).wf = true) (h : Nums .u32 w v zs) (hy : (Lit.int .u8 y).wf = true) :
    Calls Tryd.prog 6 #[.int .i64 a, v, .int .u8 y] w fun e w' => e = .returned (.bool true) ∧ Below w.heap.size w w' := shareturns_any v zs a y w allotC htab hw ha hy h
end Go.Proofs.YtkeicflmbhokhaaDoor

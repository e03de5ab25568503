/- Law ShareSums of the landed share.Allot. -/
import Derived.Test.YtkeicflmbhokhaaDoorPf
import Derived.Test.YtkeicflmbhokhaaDoorSl
namespace Go.Proofs.YtkeicflmbhokhaaDoor
open Go.RowKit
theorem sharesums_row (a : Int) (v : Value) (zs : List Int) (w : World) (htab : Pow w) (hw : 0 < w.heap.size) (ha : (Lit.int .i64 a).wf = true) (h : Nums .u32 w v zs) :
    Calls Tryd.prog 4 #[.int .i64 a, v] w fun e w' => e = .returned (.bool true) ∧ Below w.heap.size w w' := sharesums_any v zs a w allotC htab hw ha h
end Go.Proofs.YtkeicflmbhokhaaDoor

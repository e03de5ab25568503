/- Law 5's KeyPacks and KeyUnpacks of the landed key, in the rows' order of arguments. -/
import Derived.Test.YtnmnjoleebhhiaaDoorKall
import Derived.Test.YtnmnjoleebhhiaaDoorPall
import Derived.Test.YtnmnjoleebhhiaaDoorVn
import Derived.Test.YtnmnjoleebhhiaaDoorQb
import Derived.Test.YtnmnjoleebhhiaaDoorQc
namespace Go.Proofs.YtnmnjoleebhhiaaDoor
open Go.RowKit
set_option linter.unusedVariables false
theorem keyunpacks_row (n : Int) (w : World) (hI : InI w) (hn : (Lit.int .u64 n).wf = true) :
    Calls Tryd.prog 4 #[.int .u64 n] w fun e w' => e = .returned (.bool true) ∧ Below w.heap.size w w' := keyunpacks_any allotC dayC keyC n w hI hn
theorem keypacks_row (x y : Kt) (s : Int) (w : World) (hI : InI w) (hs : (Lit.int .u8 s).wf = true) :
    Calls Tryd.prog 3 #[kv x, kv y, .int .u8 s] w fun e w' => e = .returned (.bool true) ∧ Below w.heap.size w w' :=
  keypacks_any allotC dayC keyC (x.a : Int) (x.e : Int) (x.p : Int) (y.a : Int) (y.e : Int) (y.p : Int) s w hI (kt_isKey x) (kt_isKey y) (by simp [Lit.wf, IntKind.min, IntKind.max, IntKind.bits, IntKind.signed] at hs; omega)
end Go.Proofs.YtnmnjoleebhhiaaDoor

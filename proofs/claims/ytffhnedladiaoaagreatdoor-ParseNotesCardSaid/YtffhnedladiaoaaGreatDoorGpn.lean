/- Law ParseNotes in the row's order of arguments. -/
import Derived.Test.YtffhnedladiaoaaGreatDoorPwg
import Derived.Test.YtffhnedladiaoaaGreatDoorGxx
namespace Go.Proofs.YtffhnedladiaoaaGreatDoor
open Go.RowKit
set_option linter.unusedVariables false
theorem parsenotes_row (v : Value) (qs : List Oi) (m : ByteArray) (w : World) (hI : InS w) (hml : ∃ m, w.cell? ⟨0, 0, none⟩ = some (.int .i64 m)) (hR : SRow w v qs) (hm : m.size ≤ 9223372036854775807) :
    Calls Tryz.prog 7 #[v, .string m] w fun e w' => e = .returned (.bool true) ∧ Below w.heap.size w w' := notes_c v qs m w hI hml hR hm
end Go.Proofs.YtffhnedladiaoaaGreatDoor

/- Law ParseNone in the row's order of arguments. -/
import Derived.Test.YtffhnedladiaoaaGreatDoorPwb
import Derived.Test.YtffhnedladiaoaaGreatDoorGv8
namespace Go.Proofs.YtffhnedladiaoaaGreatDoor
open Go.RowKit
set_option linter.unusedVariables false
theorem parsenone_row (v : Value) (z : List Nat) (a b : ByteArray) (w : World) (hI : InS w) (h : Recs u8c 1 w v z ∧ ∀ x ∈ z, x < 256) (h1 : a.size ≤ 9223372036854775807) (h2 : b.size ≤ 9223372036854775807) :
    Calls Tryz.prog 8 #[v, .string a, .string b] w fun e w' => e = .returned (.bool true) ∧ Below w.heap.size w w' := none_c parC v z a b w hI h.1 h.2 h1 h2
end Go.Proofs.YtffhnedladiaoaaGreatDoor

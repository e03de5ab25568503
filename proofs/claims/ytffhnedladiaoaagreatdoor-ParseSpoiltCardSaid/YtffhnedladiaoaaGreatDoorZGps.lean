/- Law ParseSpoilt in the row's order of arguments. -/
import Derived.Test.YtffhnedladiaoaaGreatDoorZPwe
import Derived.Test.YtffhnedladiaoaaGreatDoorZGxx
namespace Go.Proofs.YtffhnedladiaoaaGreatDoor
open Go.RowKit
set_option linter.unusedVariables false
theorem parsespoilt_row (v : Value) (qs : List Oi) (a c : Int) (m : ByteArray) (w : World) (hI : InS w) (hR : SRow w v qs) (ha : (Lit.int .u16 a).wf = true) (hc : (Lit.int .u8 c).wf = true) (hm : m.size ≤ 9223372036854775807) :
    Calls Tryz.prog 5 #[v, .int .u16 a, .int .u8 c, .string m] w fun e w' => e = .returned (.bool true) ∧ Below w.heap.size w w' := by
  have ba : 0 ≤ a ∧ a < 65536 := by simp [Lit.wf, IntKind.min, IntKind.max, IntKind.bits, IntKind.signed] at ha; omega
  have bc : 0 ≤ c ∧ c < 256 := by simp [Lit.wf, IntKind.min, IntKind.max, IntKind.bits, IntKind.signed] at hc; omega
  obtain ⟨x, rfl⟩ : ∃ x : Nat, a = (x : Int) := ⟨a.toNat, by omega⟩
  obtain ⟨y, rfl⟩ : ∃ x : Nat, c = (x : Int) := ⟨c.toNat, by omega⟩
  exact spoilt_any v qs x y m w hI hR (by omega) (by omega) hm
end Go.Proofs.YtffhnedladiaoaaGreatDoor

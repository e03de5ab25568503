/- Law 7's UnitBack in the row's order of arguments. -/
import Derived.Test.YtaldafgkhcihjaaGreatDoorNj
import Derived.Test.YtaldafgkhcihjaaGreatDoorGu
import Derived.Test.YtaldafgkhcihjaaGreatDoorNu
import Derived.Test.YtaldafgkhcihjaaGreatDoorVpk
import Derived.Test.YtaldafgkhcihjaaGreatDoorKall
import Derived.Test.YtaldafgkhcihjaaGreatDoorPall
namespace Go.Proofs.YtaldafgkhcihjaaGreatDoor
open Go.RowKit
set_option linter.unusedVariables false
theorem unitback_row (v : Value) (zs : List Nat) (a b : Int) (w : World) (hI : InI w) (hR : Recs uc 1 w v zs ∧ ∀ x ∈ zs, x < 65536) (ha : (Lit.int .u16 a).wf = true) (hb : (Lit.int .u16 b).wf = true) :
    Calls Tryz.prog 5 #[v, .int .u16 a, .int .u16 b] w fun e w' => e = .returned (.bool true) ∧ Below w.heap.size w w' := by
  obtain ⟨m, rfl, hm⟩ := u16_nat ha
  obtain ⟨n, rfl, hn⟩ := u16_nat hb
  exact unitback_any allotC dayC keyC unitC v zs m n w hI hR.1 hm hn
end Go.Proofs.YtaldafgkhcihjaaGreatDoor

/- Law 5's KeyTurns for every row of records; in the row's order of arguments. -/
import Derived.Test.YtnmnjoleebhhiaaGreatDoorEc
import Derived.Test.YtnmnjoleebhhiaaGreatDoorVu
namespace Go.Proofs.YtnmnjoleebhhiaaGreatDoor
open Go.RowKit
set_option linter.unusedVariables false
set_option maxRecDepth 100000 in
theorem keyturns_none {I : World → Prop} (C : AllotC) (D : DayC I) (K : KeyC I) (r : Option Addr) (cap : Nat) (k : Int) (w : World) (hI : I w) :
    Calls Tryz.prog 3 #[.slice r 0 cap, .int .u8 k] w fun e w' => e = .returned (.bool true) ∧ Below w.heap.size w w' := by
  have K1 := Lib.hid (awake5_any C D K w hI)
  go_enter Tryz.func3, Tryz.ntmps3
  go_wp2_with (go_at_call 4; refine K1.out.mono ?_; rintro e w1 ⟨rfl, hb1⟩)
  go_ret
  exact ⟨rfl, hb1⟩
set_option maxRecDepth 100000 in
theorem keyturns_long {I : World → Prop} (C : AllotC) (D : DayC I) (K : KeyC I) (r : Option Addr) (n cap : Nat) (k : Int) (w : World) (hI : I w) (hn : 40 < n) :
    Calls Tryz.prog 3 #[.slice r n cap, .int .u8 k] w fun e w' => e = .returned (.bool true) ∧ Below w.heap.size w w' := by
  have K1 := Lib.hid (awake5_any C D K w hI)
  have hd : decide ((40 : Int) < (n : Int)) = true := decide_eq_true (by omega)
  go_enter Tryz.func3, Tryz.ntmps3
  go_wp2_with (go_at_call 4; refine K1.out.mono ?_; rintro e w1 ⟨rfl, hb1⟩)
  go_ret
  exact ⟨rfl, hb1⟩
theorem keyturns_any {I : World → Prop} (C : AllotC) (D : DayC I) (K : KeyC I) (v : Value) (zs : List Mt) (k : Int) (w : World) (hI : I w) (hR : Recs mc 4 w v zs) (hk : (Lit.int .u8 k).wf = true) :
    Calls Tryz.prog 3 #[v, .int .u8 k] w fun e w' => e = .returned (.bool true) ∧ Below w.heap.size w w' := by
  have hR' := hR
  rcases hR' with ⟨r, cap, rfl, rfl⟩ | ⟨g, off, cap, rfl, hg, hm, hc, _⟩
  · exact keyturns_none C D K r cap k w hI
  · by_cases hl : zs.length ≤ 40
    · by_cases h0 : zs.length = 0
      · rw [h0]; exact keyturns_none C D K _ cap k w hI
      · exact keyturns_some C D K g off zs.length cap zs k w hI hR hg hc rfl hl (by omega) hk
    · exact keyturns_long C D K _ _ cap k w hI (by omega)
theorem keyturns_row (v : Value) (zs : List Mt) (k : Int) (w : World) (hI : InI w) (hR : Recs mc 4 w v zs) (hk : (Lit.int .u8 k).wf = true) :
    Calls Tryz.prog 3 #[v, .int .u8 k] w fun e w' => e = .returned (.bool true) ∧ Below w.heap.size w w' := keyturns_any allotC dayC keyC v zs k w hI hR hk
end Go.Proofs.YtnmnjoleebhhiaaGreatDoor

/- Law 13's statements in the rows' order of arguments. -/
import Derived.Test.YthmeoccecoldeaaGreatDoorMla
import Derived.Test.YthmeoccecoldeaaGreatDoorMlc
import Derived.Test.YthmeoccecoldeaaGreatDoorMlg
import Derived.Test.YthmeoccecoldeaaGreatDoorGxx
namespace Go.Proofs.YthmeoccecoldeaaGreatDoor
open Go.RowKit
set_option linter.unusedVariables false
theorem scripttexts_row (v : Value) (qs : List Oi) (w : World) (hI : InS w) (h : SRow w v qs) : Calls Tryz.prog 3 #[v] w fun e w' => e = .returned (.bool true) ∧ Below w.heap.size w w' := texts_c v qs w hI h
theorem scriptwords_row (n : Int) (w : World) (hI : InS w) (hn : (Lit.int .i64 n).wf = true) : Calls Tryz.prog 4 #[.int .i64 n] w fun e w' => e = .returned (.bool true) ∧ Below w.heap.size w w' := words_c n w hI
theorem scriptsames_row (va : Value) (qa : List Oi) (vb : Value) (qb : List Oi) (n : Int) (sm : Bool) (w : World) (hI : InS w) (hA : SRow w va qa) (hB : SRow w vb qb) (hn : (Lit.int .u8 n).wf = true) : Calls Tryz.prog 5 #[va, vb, .int .u8 n, .bool sm] w fun e w' => e = .returned (.bool true) ∧ Below w.heap.size w w' := by
  obtain ⟨k, rfl, hk⟩ := u8_nat' hn
  exact sames_c va vb qa qb k hk sm w hI hA hB
theorem scriptjoins_row (va : Value) (qa : List Oi) (vb : Value) (qb : List Oi) (w : World) (hI : InS w) (hA : SRow w va qa) (hB : SRow w vb qb) : Calls Tryz.prog 6 #[va, vb] w fun e w' => e = .returned (.bool true) ∧ Below w.heap.size w w' := joins_c va vb qa qb w hI hA hB
end Go.Proofs.YthmeoccecoldeaaGreatDoor

/- Law 13's statements, of any arguments. -/
import Derived.Test.YthmeoccecoldeaaGreatDoorMld
import Derived.Test.YthmeoccecoldeaaGreatDoorMlf
namespace Go.Proofs.YthmeoccecoldeaaGreatDoor
open Go.RowKit Go.Lib Go.Sort
set_option linter.unusedVariables false
set_option linter.unusedSimpArgs false
set_option maxHeartbeats 2000000 in
set_option maxRecDepth 100000 in
theorem sames_long (va vb : Value) (qa qb : List Oi) (tt : Nat) (sm : Bool) (w : World) (hI : InS w) (hA : SRow w va qa) (hB : SRow w vb qb) (hl : ¬ (qa.length ≤ 30 ∧ qb.length ≤ 30)) : Calls Tryz.prog 5 #[va, vb, .int .u8 (tt : Int), .bool sm] w fun e w' => e = .returned (.bool true) ∧ Below w.heap.size w w' := by
  have KA := Lib.hid (awake13_ev w hI)
  obtain ⟨ra, ca, rfl, _⟩ := hA.1.form
  obtain ⟨rb, cb, rfl, _⟩ := hB.1.form
  generalize qa.length = La at *
  generalize qb.length = Lb at *
  by_cases h1 : La ≤ 30
  · have e1 : ¬ (30 : Int) < (La : Int) := by omega
    have e2 : (30 : Int) < (Lb : Int) := by omega
    clear hA hB hI hl h1
    go_enter Tryz.func5, Tryz.ntmps5
    go_wp2_with (first | (go_at_call 7; refine KA.out.mono ?_; rintro e w1 ⟨rfl, hb⟩; have HB1 := Lib.hid hb; clear hb))
    go_ret
    exact ⟨rfl, HB1.out⟩
  · have e1 : (30 : Int) < (La : Int) := by omega
    clear hA hB hI hl h1
    go_enter Tryz.func5, Tryz.ntmps5
    go_wp2_with (first | (go_at_call 7; refine KA.out.mono ?_; rintro e w1 ⟨rfl, hb⟩; have HB1 := Lib.hid hb; clear hb))
    go_ret
    exact ⟨rfl, HB1.out⟩
set_option maxHeartbeats 2000000 in
set_option maxRecDepth 100000 in
theorem joins_long (va vb : Value) (qa qb : List Oi) (w : World) (hI : InS w) (hA : SRow w va qa) (hB : SRow w vb qb) (hl : ¬ (qa.length ≤ 30 ∧ qb.length ≤ 30)) : Calls Tryz.prog 6 #[va, vb] w fun e w' => e = .returned (.bool true) ∧ Below w.heap.size w w' := by
  have KA := Lib.hid (awake13_ev w hI)
  obtain ⟨ra, ca, rfl, _⟩ := hA.1.form
  obtain ⟨rb, cb, rfl, _⟩ := hB.1.form
  generalize qa.length = La at *
  generalize qb.length = Lb at *
  by_cases h1 : La ≤ 30
  · have e1 : ¬ (30 : Int) < (La : Int) := by omega
    have e2 : (30 : Int) < (Lb : Int) := by omega
    clear hA hB hI hl h1
    go_enter Tryz.func6, Tryz.ntmps6
    go_wp2_with (first | (go_at_call 7; refine KA.out.mono ?_; rintro e w1 ⟨rfl, hb⟩; have HB1 := Lib.hid hb; clear hb))
    go_ret
    exact ⟨rfl, HB1.out⟩
  · have e1 : (30 : Int) < (La : Int) := by omega
    clear hA hB hI hl h1
    go_enter Tryz.func6, Tryz.ntmps6
    go_wp2_with (first | (go_at_call 7; refine KA.out.mono ?_; rintro e w1 ⟨rfl, hb⟩; have HB1 := Lib.hid hb; clear hb))
    go_ret
    exact ⟨rfl, HB1.out⟩
theorem sames_c (va vb : Value) (qa qb : List Oi) (tt : Nat) (htt : tt < 256) (sm : Bool) (w : World) (hI : InS w) (hA : SRow w va qa) (hB : SRow w vb qb) : Calls Tryz.prog 5 #[va, vb, .int .u8 (tt : Int), .bool sm] w fun e w' => e = .returned (.bool true) ∧ Below w.heap.size w w' := by
  by_cases hl : qa.length ≤ 30 ∧ qb.length ≤ 30
  · cases sm
    · exact sames_0 va vb qa qb tt htt w hI hA hB hl.1 hl.2
    · exact sames_1 va vb qa qb tt htt w hI hA hB hl.1 hl.2
  · exact sames_long va vb qa qb tt sm w hI hA hB hl
theorem joins_c (va vb : Value) (qa qb : List Oi) (w : World) (hI : InS w) (hA : SRow w va qa) (hB : SRow w vb qb) : Calls Tryz.prog 6 #[va, vb] w fun e w' => e = .returned (.bool true) ∧ Below w.heap.size w w' := by
  by_cases hl : qa.length ≤ 30 ∧ qb.length ≤ 30
  · exact joins_in va vb qa qb w hI hA hB hl.1 hl.2
  · exact joins_long va vb qa qb w hI hA hB hl
end Go.Proofs.YthmeoccecoldeaaGreatDoor

/- The walks of laws MoneyTexts and MoneyParses. -/
import Derived.Test.YtcfdanfebpgplaaDoorTf
namespace Go.Proofs.YtcfdanfebpgplaaDoor
open Go.RowKit Go.Lib
set_option linter.unusedVariables false
set_option linter.unusedSimpArgs false
theorem moneyparses_any (s : ByteArray) (w : World) (htab : Pow w) (hw : 0 < w.heap.size) (hs : s.size ≤ 9223372036854775807) :
    Calls Tryd.prog 6 #[.string s] w fun e w' => e = .returned (.bool true) ∧ Below w.heap.size w w' := by
  have hn := guess_wf s.data.toList
  by_cases h : (⟨(textL (guessL s.data.toList)).toArray⟩ : ByteArray) = s
  · have c1 := fun (w' : World) (h1 : Pow w') (h2 : 0 < w'.heap.size) => parse_yes s _ w' hs h1 h2 rfl h
    have c2 := fun (w' : World) (h1 : Pow w') (h2 : 0 < w'.heap.size) => text_any (guessL s.data.toList) w' hn h1 h2
    rw [h] at c2
    generalize guessL s.data.toList = n at *
    go_enter Tryd.func6, Tryd.ntmps6
    go_wp2_with (first
      | (go_at_call 9; refine (awake2_any _ htab hw).mono ?_; rintro e w1 ⟨rfl, hb1⟩; have t1 := htab.stay hw hb1; have s1 := Nat.lt_of_lt_of_le hw hb1.size)
      | (go_at_call 17; refine (c1 _ t1 s1).mono ?_; rintro e w2 ⟨rfl, hb2⟩; have t2 := t1.stay s1 hb2; have s2 := Nat.lt_of_lt_of_le s1 hb2.size)
      | (go_at_call 18; refine (c2 _ t2 s2).mono ?_; rintro e w3 ⟨rfl, hb3⟩))
    go_ret
    exact ⟨rfl, hb1.trans ((hb2.mono hb1.size).trans (hb3.mono (Nat.le_trans hb1.size hb2.size)))⟩
  · have c1 := fun (w' : World) (h1 : Pow w') (h2 : 0 < w'.heap.size) => parse_no s _ w' hs h1 h2 rfl h
    go_enter Tryd.func6, Tryd.ntmps6
    go_wp2_with (first
      | (go_at_call 9; refine (awake2_any _ htab hw).mono ?_; rintro e w1 ⟨rfl, hb1⟩; have t1 := htab.stay hw hb1; have s1 := Nat.lt_of_lt_of_le hw hb1.size)
      | (go_at_call 17; refine (c1 _ t1 s1).mono ?_; rintro e w2 ⟨rfl, hb2⟩; have t2 := t1.stay s1 hb2; have s2 := Nat.lt_of_lt_of_le s1 hb2.size))
    go_ret
    exact ⟨rfl, hb1.trans (hb2.mono hb1.size)⟩
end Go.Proofs.YtcfdanfebpgplaaDoor

/- Contract of law 2 Awake. -/
import Derived.Test.YtibipjncpojifaaDoorTc
import Derived.Test.YtibipjncpojifaaDoorWk
namespace Go.Proofs.YtibipjncpojifaaDoor
open Go.RowKit Go.Lib
set_option linter.unusedVariables false
set_option linter.unusedSimpArgs false
theorem text_five : textL (-5) = [45, 48, 46, 48, 53] := by
  rw [textL_neg (by decide)]
  have e : (-5 : Int).natAbs = 5 := rfl
  rw [e, Lib.decDigits_one (by decide)]
  rfl
theorem guess_five : guessL [45, 48, 46, 48, 53] = -5 := by
  rw [← text_five]; exact guess_text (-5) (by decide)
theorem awake2_any (w : World) (htab : Pow w) (hw : 1 < w.heap.size) :
    Calls Tryd.prog 26 #[] w fun e w' => e = .returned (.bool true) ∧ Below w.heap.size w w' := by
  have c1 := parse_yes ⟨#[45, 48, 46, 48, 53]⟩ (-5) w (by decide) htab hw guess_five (by rw [text_five])
  have c2 := fun (w' : World) (h : Pow w') (hs : 1 < w'.heap.size) => text_any (-5) w' (by decide) h hs
  rw [text_five] at c2
  go_enter Tryd.func26, Tryd.ntmps26
  go_wp2_with (first
    | (go_at_call 35; refine c1.mono ?_; rintro e w1 ⟨rfl, hb1⟩; have t1 := htab.stay hw hb1; have s1 := Nat.lt_of_lt_of_le hw hb1.size)
    | (go_at_call 36; refine (c2 _ t1 s1).mono ?_; rintro e w2 ⟨rfl, hb2⟩)
    | (go_at_call 37; refine (awake_any _).mono ?_; rintro e w3 ⟨rfl, hb3⟩))
  go_ret
  exact ⟨rfl, hb1.trans ((hb2.mono hb1.size).trans (hb3.mono (Nat.le_trans hb1.size hb2.size)))⟩
end Go.Proofs.YtibipjncpojifaaDoor

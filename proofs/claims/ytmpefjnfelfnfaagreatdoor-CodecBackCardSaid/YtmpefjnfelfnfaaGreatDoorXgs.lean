/- A book in a box: five stores. -/
import Derived.Test.YtmpefjnfelfnfaaGreatDoorXg
namespace Go.Proofs.YtmpefjnfelfnfaaGreatDoor
open Go.RowKit
set_option linter.unusedVariables false
set_option linter.unusedSimpArgs false
theorem owns_box_far {w : World} {base g : Nat} {e T : TypeId} {size n : Nat} {v : Value} {xs cs : List Value} (h : w.ownsRow base e size v n xs) (hg : HBox w g cs T) (hne : e ≠ T) : v.ownBlock = none ∨ v.ownBlock ≠ some g := by
  obtain ⟨r, cap, rfl⟩ := owns_form h
  exact .inr (owns_type_far h hg hne)
theorem HBox.set5 {w : World} {b : Nat} {c0 c1 c2 c3 c4 : Value} {T : TypeId} (h : HBox w b [c0, c1, c2, c3, c4] T) (d0 d1 d2 d3 d4 : Value) : HBox (((((w.setCell ⟨b, 0, none⟩ d0).setCell ⟨b, 1, none⟩ d1).setCell ⟨b, 2, none⟩ d2).setCell ⟨b, 3, none⟩ d3).setCell ⟨b, 4, none⟩ d4) b [d0, d1, d2, d3, d4] T :=
  ((((h.set 0 d0).set 1 d1).set 2 d2).set 3 d3).set 4 d4
theorem grown_sets5 (w : World) (b : Nat) (d0 d1 d2 d3 d4 : Value) : w.grownBy (((((w.setCell ⟨b, 0, none⟩ d0).setCell ⟨b, 1, none⟩ d1).setCell ⟨b, 2, none⟩ d2).setCell ⟨b, 3, none⟩ d3).setCell ⟨b, 4, none⟩ d4) (some b) :=
  (grown_sets w b d0 d1 d2 d3).trans (grownBy_set _ ⟨b, 4, none⟩ d4)
end Go.Proofs.YtmpefjnfelfnfaaGreatDoor

/-
  DERIVED. GIVEN WITH THE SEED: THE CARDS: each row of YtnmnjoleebhhiaaGreatDoorRows.lean that lists a variable, with what it lists TIED to the program's text (the seventh form; the later family's looks); each row that meets fmt, with fmt's text TOLD by the authors' own Lean function (tested against real Go, not proved from fmt's source: count such statements apart). THE CARD IS WHAT COUNTS. Prove the row's statement (the work); the ties are given (YtnmnjoleebhhiaaGreatDoorTie.lean); close each card by the builder's one call (the guide's Derived/Test/ToyasCard.lean, 'card_holds'). Laid BY PROGRAM, IN A SANDBOX (cutbox-door.mjs). By AI agents, Wed Nov 11 2026. No macro, syntax, notation, axiom, sorry.
-/
import Derived.Test.YtnmnjoleebhhiaaGreatDoorRows
import GoSem.ClaimSeven
namespace Go.Proofs.YtnmnjoleebhhiaaGreatDoor
namespace Rows

/-- THE TIED CARD OF 'transposallaw05.KeyTurns'. -/
def keyTurnsCard : Claim7 := { stood := { row := keyTurnsRow, standIns := [], harness := (true, "3636cac53890e686dd280143f158d71cea82a7bc5b8bffbfdbdd986cfae7b505"), looks := false }, kinds := [], alts := [], laidByText := true, laidKinds := [.data, .data, .data, .data], laidTests := true, laidLooks := .later }
def KeyTurnsCardSaid : Prop := Claim7.holds Tryz.pinned (.plain (OpenSpec.ofChange keyTurnsSpec)) keyTurnsCard

/-- THE SECOND FORM's CARD OF 'transposallaw05.KeyTurns'. -/
def keyTurnsUptoCard : Claim7 := { stood := { row := keyTurnsUptoRow, standIns := [], harness := (true, "3636cac53890e686dd280143f158d71cea82a7bc5b8bffbfdbdd986cfae7b505"), looks := false }, kinds := [], alts := [], laidByText := true, laidKinds := [.data, .data, .data, .data], laidTests := true, laidLooks := .later }
def KeyTurnsUptoCardSaid : Prop := Claim7.holds Tryz.pinned (.plain (OpenSpec.upto keyTurnsSpec)) keyTurnsUptoCard
end Rows
end Go.Proofs.YtnmnjoleebhhiaaGreatDoor

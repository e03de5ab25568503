/-
  DERIVED. GIVEN WITH THE SEED: THE CARDS: each row of YtljjodahfomljaaGreatDoorRows.lean that lists a variable, with what it lists TIED to the program's text (the seventh form; the later family's looks); each row that meets fmt, with fmt's text TOLD by the authors' own Lean function (tested against real Go, not proved from fmt's source: count such statements apart). THE CARD IS WHAT COUNTS. Prove the row's statement (the work); the ties are given (YtljjodahfomljaaGreatDoorTie.lean); close each card by the builder's one call (the guide's Derived/Test/ToyasCard.lean, 'card_holds'). Laid BY PROGRAM, IN A SANDBOX (cutbox-door.mjs). By AI agents, Wed Nov 11 2026. No macro, syntax, notation, axiom, sorry.
-/
import Derived.Test.YtljjodahfomljaaGreatDoorRows
import GoSem.ClaimSeven
namespace Go.Proofs.YtljjodahfomljaaGreatDoor
namespace Rows

/-- THE TIED CARD OF 'transposallaw10.BookChecks'. -/
def bookChecksCard : Claim7 := { stood := { row := bookChecksRow, standIns := [], harness := (true, "b5cc6ee064653efa68c8059f147a623e83b37b1d1aaad8d9fec2167e643aba06"), looks := false }, kinds := [], alts := [], laidByText := true, laidKinds := [.data, .data, .data, .data], laidTests := true, laidLooks := .later }
def BookChecksCardSaid : Prop := Claim7.holds Tryz.pinned (.plain (OpenSpec.ofChange bookChecksSpec)) bookChecksCard

/-- THE TIED CARD OF 'transposallaw10.BookFrames'. -/
def bookFramesCard : Claim7 := { stood := { row := bookFramesRow, standIns := [], harness := (true, "b5cc6ee064653efa68c8059f147a623e83b37b1d1aaad8d9fec2167e643aba06"), looks := false }, kinds := [], alts := [], laidByText := true, laidKinds := [.data, .data, .data, .data, .data, .pinned], laidTests := true, laidLooks := .later }
def BookFramesCardSaid : Prop := Claim7.holds Tryz.pinned (.plain (OpenSpec.ofChange bookFramesSpec)) bookFramesCard

/-- THE TIED CARD OF 'transposallaw10.BookLines'. -/
def bookLinesCard : Claim7 := { stood := { row := bookLinesRow, standIns := [], harness := (true, "b5cc6ee064653efa68c8059f147a623e83b37b1d1aaad8d9fec2167e643aba06"), looks := false }, kinds := [], alts := [], laidByText := true, laidKinds := [.data, .data, .data, .data], laidTests := true, laidLooks := .later }
def BookLinesCardSaid : Prop := Claim7.holds Tryz.pinned (.plain (OpenSpec.ofChange bookLinesSpec)) bookLinesCard

/-- THE TIED CARD OF 'transposallaw10.BookDays'. -/
def bookDaysCard : Claim7 := { stood := { row := bookDaysRow, standIns := [], harness := (true, "b5cc6ee064653efa68c8059f147a623e83b37b1d1aaad8d9fec2167e643aba06"), looks := false }, kinds := [], alts := [], laidByText := true, laidKinds := [.data, .data, .data, .data], laidTests := true, laidLooks := .later }
def BookDaysCardSaid : Prop := Claim7.holds Tryz.pinned (.plain (OpenSpec.ofChange bookDaysSpec)) bookDaysCard

/-- THE TIED CARD OF 'transposallaw10.BookSames'. -/
def bookSamesCard : Claim7 := { stood := { row := bookSamesRow, standIns := [], harness := (true, "b5cc6ee064653efa68c8059f147a623e83b37b1d1aaad8d9fec2167e643aba06"), looks := false }, kinds := [], alts := [], laidByText := true, laidKinds := [.data, .data, .data, .data], laidTests := true, laidLooks := .later }
def BookSamesCardSaid : Prop := Claim7.holds Tryz.pinned (.plain (OpenSpec.ofChange bookSamesSpec)) bookSamesCard

/-- THE TIED CARD OF 'transposallaw10.BookParts'. -/
def bookPartsCard : Claim7 := { stood := { row := bookPartsRow, standIns := [], harness := (true, "b5cc6ee064653efa68c8059f147a623e83b37b1d1aaad8d9fec2167e643aba06"), looks := false }, kinds := [], alts := [], laidByText := true, laidKinds := [.data, .data, .data, .data], laidTests := true, laidLooks := .later }
def BookPartsCardSaid : Prop := Claim7.holds Tryz.pinned (.plain (OpenSpec.ofChange bookPartsSpec)) bookPartsCard

/-- THE SECOND FORM's CARD OF 'transposallaw10.BookChecks'. -/
def bookChecksUptoCard : Claim7 := { stood := { row := bookChecksUptoRow, standIns := [], harness := (true, "b5cc6ee064653efa68c8059f147a623e83b37b1d1aaad8d9fec2167e643aba06"), looks := false }, kinds := [], alts := [], laidByText := true, laidKinds := [.data, .data, .data, .data], laidTests := true, laidLooks := .later }
def BookChecksUptoCardSaid : Prop := Claim7.holds Tryz.pinned (.plain (OpenSpec.upto bookChecksSpec)) bookChecksUptoCard

/-- THE SECOND FORM's CARD OF 'transposallaw10.BookFrames'. -/
def bookFramesUptoCard : Claim7 := { stood := { row := bookFramesUptoRow, standIns := [], harness := (true, "b5cc6ee064653efa68c8059f147a623e83b37b1d1aaad8d9fec2167e643aba06"), looks := false }, kinds := [], alts := [], laidByText := true, laidKinds := [.data, .data, .data, .data, .data, .pinned], laidTests := true, laidLooks := .later }
def BookFramesUptoCardSaid : Prop := Claim7.holds Tryz.pinned (.plain (OpenSpec.upto bookFramesSpec)) bookFramesUptoCard

/-- THE SECOND FORM's CARD OF 'transposallaw10.BookLines'. -/
def bookLinesUptoCard : Claim7 := { stood := { row := bookLinesUptoRow, standIns := [], harness := (true, "b5cc6ee064653efa68c8059f147a623e83b37b1d1aaad8d9fec2167e643aba06"), looks := false }, kinds := [], alts := [], laidByText := true, laidKinds := [.data, .data, .data, .data], laidTests := true, laidLooks := .later }
def BookLinesUptoCardSaid : Prop := Claim7.holds Tryz.pinned (.plain (OpenSpec.upto bookLinesSpec)) bookLinesUptoCard

/-- THE SECOND FORM's CARD OF 'transposallaw10.BookDays'. -/
def bookDaysUptoCard : Claim7 := { stood := { row := bookDaysUptoRow, standIns := [], harness := (true, "b5cc6ee064653efa68c8059f147a623e83b37b1d1aaad8d9fec2167e643aba06"), looks := false }, kinds := [], alts := [], laidByText := true, laidKinds := [.data, .data, .data, .data], laidTests := true, laidLooks := .later }
def BookDaysUptoCardSaid : Prop := Claim7.holds Tryz.pinned (.plain (OpenSpec.upto bookDaysSpec)) bookDaysUptoCard

/-- THE SECOND FORM's CARD OF 'transposallaw10.BookSames'. -/
def bookSamesUptoCard : Claim7 := { stood := { row := bookSamesUptoRow, standIns := [], harness := (true, "b5cc6ee064653efa68c8059f147a623e83b37b1d1aaad8d9fec2167e643aba06"), looks := false }, kinds := [], alts := [], laidByText := true, laidKinds := [.data, .data, .data, .data], laidTests := true, laidLooks := .later }
def BookSamesUptoCardSaid : Prop := Claim7.holds Tryz.pinned (.plain (OpenSpec.upto bookSamesSpec)) bookSamesUptoCard

/-- THE SECOND FORM's CARD OF 'transposallaw10.BookParts'. -/
def bookPartsUptoCard : Claim7 := { stood := { row := bookPartsUptoRow, standIns := [], harness := (true, "b5cc6ee064653efa68c8059f147a623e83b37b1d1aaad8d9fec2167e643aba06"), looks := false }, kinds := [], alts := [], laidByText := true, laidKinds := [.data, .data, .data, .data], laidTests := true, laidLooks := .later }
def BookPartsUptoCardSaid : Prop := Claim7.holds Tryz.pinned (.plain (OpenSpec.upto bookPartsSpec)) bookPartsUptoCard
end Rows
end Go.Proofs.YtljjodahfomljaaGreatDoor

/-
  DERIVED. GIVEN WITH THE SEED: THE CARDS: each row of YtmbfnbbgphpcgaaGreatDoorRows.lean that lists a variable, with what it lists TIED to the program's text (the seventh form; the later family's looks); each row that meets fmt, with fmt's text TOLD by the authors' own Lean function (tested against real Go, not proved from fmt's source: count such statements apart). THE CARD IS WHAT COUNTS. Prove the row's statement (the work); the ties are given (YtmbfnbbgphpcgaaGreatDoorTie.lean); close each card by the builder's one call (the guide's Derived/Test/ToyasCard.lean, 'card_holds'). Laid BY PROGRAM, IN A SANDBOX (cutbox-door.mjs). By AI agents, Wed Nov 11 2026. No macro, syntax, notation, axiom, sorry.
-/
import Derived.Test.YtmbfnbbgphpcgaaGreatDoorRows
import GoSem.ClaimSeven
namespace Go.Proofs.YtmbfnbbgphpcgaaGreatDoor
namespace Rows

/-- THE TIED CARD OF 'transposallaw08.CalendarChecks'. -/
def calendarChecksCard : Claim7 := { stood := { row := calendarChecksRow, standIns := [], harness := (true, "301077127e6ecadea1c7df1bc8b3dd2199c496412ff6e3d50c421a548f683013"), looks := false }, kinds := [], alts := [], laidByText := true, laidKinds := [.data, .data, .data, .data], laidTests := true, laidLooks := .later }
def CalendarChecksCardSaid : Prop := Claim7.holds Tryz.pinned (.plain (OpenSpec.ofChange calendarChecksSpec)) calendarChecksCard

/-- THE TIED CARD OF 'transposallaw08.CalendarPeriods'. -/
def calendarPeriodsCard : Claim7 := { stood := { row := calendarPeriodsRow, standIns := [], harness := (true, "301077127e6ecadea1c7df1bc8b3dd2199c496412ff6e3d50c421a548f683013"), looks := false }, kinds := [], alts := [], laidByText := true, laidKinds := [.data, .data, .data, .data], laidTests := true, laidLooks := .later }
def CalendarPeriodsCardSaid : Prop := Claim7.holds Tryz.pinned (.plain (OpenSpec.ofChange calendarPeriodsSpec)) calendarPeriodsCard

/-- THE TIED CARD OF 'transposallaw08.CalendarSames'. -/
def calendarSamesCard : Claim7 := { stood := { row := calendarSamesRow, standIns := [], harness := (true, "301077127e6ecadea1c7df1bc8b3dd2199c496412ff6e3d50c421a548f683013"), looks := false }, kinds := [], alts := [], laidByText := true, laidKinds := [.data, .data, .data, .data], laidTests := true, laidLooks := .later }
def CalendarSamesCardSaid : Prop := Claim7.holds Tryz.pinned (.plain (OpenSpec.ofChange calendarSamesSpec)) calendarSamesCard

/-- THE TIED CARD OF 'transposallaw08.CalendarWhole'. -/
def calendarWholeCard : Claim7 := { stood := { row := calendarWholeRow, standIns := [], harness := (true, "301077127e6ecadea1c7df1bc8b3dd2199c496412ff6e3d50c421a548f683013"), looks := false }, kinds := [], alts := [], laidByText := true, laidKinds := [.data, .data, .data, .data], laidTests := true, laidLooks := .later }
def CalendarWholeCardSaid : Prop := Claim7.holds Tryz.pinned (.plain (OpenSpec.ofChange calendarWholeSpec)) calendarWholeCard

/-- THE TIED CARD OF 'transposallaw08.CalendarShift'. -/
def calendarShiftCard : Claim7 := { stood := { row := calendarShiftRow, standIns := [], harness := (true, "301077127e6ecadea1c7df1bc8b3dd2199c496412ff6e3d50c421a548f683013"), looks := false }, kinds := [], alts := [], laidByText := true, laidKinds := [.data, .data, .data, .data], laidTests := true, laidLooks := .later }
def CalendarShiftCardSaid : Prop := Claim7.holds Tryz.pinned (.plain (OpenSpec.ofChange calendarShiftSpec)) calendarShiftCard

/-- THE SECOND FORM's CARD OF 'transposallaw08.CalendarChecks'. -/
def calendarChecksUptoCard : Claim7 := { stood := { row := calendarChecksUptoRow, standIns := [], harness := (true, "301077127e6ecadea1c7df1bc8b3dd2199c496412ff6e3d50c421a548f683013"), looks := false }, kinds := [], alts := [], laidByText := true, laidKinds := [.data, .data, .data, .data], laidTests := true, laidLooks := .later }
def CalendarChecksUptoCardSaid : Prop := Claim7.holds Tryz.pinned (.plain (OpenSpec.upto calendarChecksSpec)) calendarChecksUptoCard

/-- THE SECOND FORM's CARD OF 'transposallaw08.CalendarPeriods'. -/
def calendarPeriodsUptoCard : Claim7 := { stood := { row := calendarPeriodsUptoRow, standIns := [], harness := (true, "301077127e6ecadea1c7df1bc8b3dd2199c496412ff6e3d50c421a548f683013"), looks := false }, kinds := [], alts := [], laidByText := true, laidKinds := [.data, .data, .data, .data], laidTests := true, laidLooks := .later }
def CalendarPeriodsUptoCardSaid : Prop := Claim7.holds Tryz.pinned (.plain (OpenSpec.upto calendarPeriodsSpec)) calendarPeriodsUptoCard

/-- THE SECOND FORM's CARD OF 'transposallaw08.CalendarSames'. -/
def calendarSamesUptoCard : Claim7 := { stood := { row := calendarSamesUptoRow, standIns := [], harness := (true, "301077127e6ecadea1c7df1bc8b3dd2199c496412ff6e3d50c421a548f683013"), looks := false }, kinds := [], alts := [], laidByText := true, laidKinds := [.data, .data, .data, .data], laidTests := true, laidLooks := .later }
def CalendarSamesUptoCardSaid : Prop := Claim7.holds Tryz.pinned (.plain (OpenSpec.upto calendarSamesSpec)) calendarSamesUptoCard

/-- THE SECOND FORM's CARD OF 'transposallaw08.CalendarWhole'. -/
def calendarWholeUptoCard : Claim7 := { stood := { row := calendarWholeUptoRow, standIns := [], harness := (true, "301077127e6ecadea1c7df1bc8b3dd2199c496412ff6e3d50c421a548f683013"), looks := false }, kinds := [], alts := [], laidByText := true, laidKinds := [.data, .data, .data, .data], laidTests := true, laidLooks := .later }
def CalendarWholeUptoCardSaid : Prop := Claim7.holds Tryz.pinned (.plain (OpenSpec.upto calendarWholeSpec)) calendarWholeUptoCard

/-- THE SECOND FORM's CARD OF 'transposallaw08.CalendarShift'. -/
def calendarShiftUptoCard : Claim7 := { stood := { row := calendarShiftUptoRow, standIns := [], harness := (true, "301077127e6ecadea1c7df1bc8b3dd2199c496412ff6e3d50c421a548f683013"), looks := false }, kinds := [], alts := [], laidByText := true, laidKinds := [.data, .data, .data, .data], laidTests := true, laidLooks := .later }
def CalendarShiftUptoCardSaid : Prop := Claim7.holds Tryz.pinned (.plain (OpenSpec.upto calendarShiftSpec)) calendarShiftUptoCard
end Rows
end Go.Proofs.YtmbfnbbgphpcgaaGreatDoor

/-
  DERIVED. GIVEN WITH THE SEED: THE CARDS: each row of YtibipjncpojifaaDoorRows.lean that lists a variable, with what it lists TIED to the program's text (the seventh form; the later family's looks); each row that meets fmt, with fmt's text TOLD by the authors' own Lean function (tested against real Go, not proved from fmt's source: count such statements apart). THE CARD IS WHAT COUNTS. Prove the row's statement (the work); the ties are given (YtibipjncpojifaaDoorTie.lean); close each card by the builder's one call (the guide's Derived/Test/ToyasCard.lean, 'card_holds'). Laid BY PROGRAM, IN A SANDBOX (cutbox-door.mjs). By AI agents, Wed Nov 11 2026. No macro, syntax, notation, axiom, sorry.
-/
import Derived.Test.YtibipjncpojifaaDoorRows
import GoSem.ClaimSeven
namespace Go.Proofs.YtibipjncpojifaaDoor
namespace Rows

/-- THE TIED CARD OF 'transposallaw04.DayOf'. -/
def dayOfCard : Claim7 := { stood := { row := dayOfRow, standIns := [], harness := (true, "5b7c7795ac2df8e7678090a793e743adcee313217cc7751b167e3504ee6b655d"), looks := false }, kinds := [], alts := [], laidByText := true, laidKinds := [.data, .data, .data, .data], laidTests := true, laidLooks := .later }
def DayOfCardSaid : Prop := Claim7.holds Tryd.pinned (.plain (OpenSpec.ofChange dayOfSpec)) dayOfCard

/-- THE TIED CARD OF 'transposallaw04.DayDates'. -/
def dayDatesCard : Claim7 := { stood := { row := dayDatesRow, standIns := [], harness := (true, "5b7c7795ac2df8e7678090a793e743adcee313217cc7751b167e3504ee6b655d"), looks := false }, kinds := [], alts := [], laidByText := true, laidKinds := [.data, .data, .data, .data], laidTests := true, laidLooks := .later }
def DayDatesCardSaid : Prop := Claim7.holds Tryd.pinned (.plain (OpenSpec.ofChange dayDatesSpec)) dayDatesCard

/-- THE TIED CARD OF 'transposallaw04.DayParses'. -/
def dayParsesCard : Claim7 := { stood := { row := dayParsesRow, standIns := [], harness := (true, "5b7c7795ac2df8e7678090a793e743adcee313217cc7751b167e3504ee6b655d"), looks := false }, kinds := [], alts := [], laidByText := true, laidKinds := [.data, .data, .data, .data], laidTests := true, laidLooks := .later }
def DayParsesCardSaid : Prop := Claim7.holds Tryd.pinned (.plain (OpenSpec.ofChange dayParsesSpec)) dayParsesCard

/-- THE TIED CARD OF 'transposallaw04.DayNext'. -/
def dayNextCard : Claim7 := { stood := { row := dayNextRow, standIns := [], harness := (true, "5b7c7795ac2df8e7678090a793e743adcee313217cc7751b167e3504ee6b655d"), looks := false }, kinds := [], alts := [], laidByText := true, laidKinds := [.data, .data, .data, .data], laidTests := true, laidLooks := .later }
def DayNextCardSaid : Prop := Claim7.holds Tryd.pinned (.plain (OpenSpec.ofChange dayNextSpec)) dayNextCard

/-- THE TIED CARD OF 'transposallaw04.DayAges'. -/
def dayAgesCard : Claim7 := { stood := { row := dayAgesRow, standIns := [], harness := (true, "5b7c7795ac2df8e7678090a793e743adcee313217cc7751b167e3504ee6b655d"), looks := false }, kinds := [], alts := [], laidByText := true, laidKinds := [.data, .data, .data, .data], laidTests := true, laidLooks := .later }
def DayAgesCardSaid : Prop := Claim7.holds Tryd.pinned (.plain (OpenSpec.ofChange dayAgesSpec)) dayAgesCard

/-- THE SECOND FORM's CARD OF 'transposallaw04.DayOf'. -/
def dayOfUptoCard : Claim7 := { stood := { row := dayOfUptoRow, standIns := [], harness := (true, "5b7c7795ac2df8e7678090a793e743adcee313217cc7751b167e3504ee6b655d"), looks := false }, kinds := [], alts := [], laidByText := true, laidKinds := [.data, .data, .data, .data], laidTests := true, laidLooks := .later }
def DayOfUptoCardSaid : Prop := Claim7.holds Tryd.pinned (.plain (OpenSpec.upto dayOfSpec)) dayOfUptoCard

/-- THE SECOND FORM's CARD OF 'transposallaw04.DayDates'. -/
def dayDatesUptoCard : Claim7 := { stood := { row := dayDatesUptoRow, standIns := [], harness := (true, "5b7c7795ac2df8e7678090a793e743adcee313217cc7751b167e3504ee6b655d"), looks := false }, kinds := [], alts := [], laidByText := true, laidKinds := [.data, .data, .data, .data], laidTests := true, laidLooks := .later }
def DayDatesUptoCardSaid : Prop := Claim7.holds Tryd.pinned (.plain (OpenSpec.upto dayDatesSpec)) dayDatesUptoCard

/-- THE SECOND FORM's CARD OF 'transposallaw04.DayParses'. -/
def dayParsesUptoCard : Claim7 := { stood := { row := dayParsesUptoRow, standIns := [], harness := (true, "5b7c7795ac2df8e7678090a793e743adcee313217cc7751b167e3504ee6b655d"), looks := false }, kinds := [], alts := [], laidByText := true, laidKinds := [.data, .data, .data, .data], laidTests := true, laidLooks := .later }
def DayParsesUptoCardSaid : Prop := Claim7.holds Tryd.pinned (.plain (OpenSpec.upto dayParsesSpec)) dayParsesUptoCard

/-- THE SECOND FORM's CARD OF 'transposallaw04.DayNext'. -/
def dayNextUptoCard : Claim7 := { stood := { row := dayNextUptoRow, standIns := [], harness := (true, "5b7c7795ac2df8e7678090a793e743adcee313217cc7751b167e3504ee6b655d"), looks := false }, kinds := [], alts := [], laidByText := true, laidKinds := [.data, .data, .data, .data], laidTests := true, laidLooks := .later }
def DayNextUptoCardSaid : Prop := Claim7.holds Tryd.pinned (.plain (OpenSpec.upto dayNextSpec)) dayNextUptoCard

/-- THE SECOND FORM's CARD OF 'transposallaw04.DayAges'. -/
def dayAgesUptoCard : Claim7 := { stood := { row := dayAgesUptoRow, standIns := [], harness := (true, "5b7c7795ac2df8e7678090a793e743adcee313217cc7751b167e3504ee6b655d"), looks := false }, kinds := [], alts := [], laidByText := true, laidKinds := [.data, .data, .data, .data], laidTests := true, laidLooks := .later }
def DayAgesUptoCardSaid : Prop := Claim7.holds Tryd.pinned (.plain (OpenSpec.upto dayAgesSpec)) dayAgesUptoCard
end Rows
end Go.Proofs.YtibipjncpojifaaDoor

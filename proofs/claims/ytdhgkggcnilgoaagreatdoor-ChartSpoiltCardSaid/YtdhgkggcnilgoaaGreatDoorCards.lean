/-
  DERIVED. GIVEN WITH THE SEED: THE CARDS: each row of YtdhgkggcnilgoaaGreatDoorRows.lean that lists a variable, with what it lists TIED to the program's text (the seventh form; the later family's looks); each row that meets fmt, with fmt's text TOLD by the authors' own Lean function (tested against real Go, not proved from fmt's source: count such statements apart). THE CARD IS WHAT COUNTS. Prove the row's statement (the work); the ties are given (YtdhgkggcnilgoaaGreatDoorTie.lean); close each card by the builder's one call (the guide's Derived/Test/ToyasCard.lean, 'card_holds'). Laid BY PROGRAM, IN A SANDBOX (cutbox-door.mjs). By AI agents, Wed Nov 11 2026. No macro, syntax, notation, axiom, sorry.
-/
import Derived.Test.YtdhgkggcnilgoaaGreatDoorRows
import GoSem.ClaimSeven
namespace Go.Proofs.YtdhgkggcnilgoaaGreatDoor
namespace Rows

/-- THE TIED CARD OF 'transposallaw06.ChartChecks'. -/
def chartChecksCard : Claim7 := { stood := { row := chartChecksRow, standIns := [], harness := (true, "8cfa4fc1196b3b0625013c75f8614763899aef4d05545e2141f29728779c8994"), looks := false }, kinds := [], alts := [], laidByText := true, laidKinds := [.data, .data, .data, .data, .data, .pinned], laidTests := true, laidLooks := .later }
def ChartChecksCardSaid : Prop := Claim7.holds Tryz.pinned (.plain (OpenSpec.ofChange chartChecksSpec)) chartChecksCard

/-- THE TIED CARD OF 'transposallaw06.ChartSpoilt'. -/
def chartSpoiltCard : Claim7 := { stood := { row := chartSpoiltRow, standIns := [], harness := (true, "8cfa4fc1196b3b0625013c75f8614763899aef4d05545e2141f29728779c8994"), looks := false }, kinds := [], alts := [], laidByText := true, laidKinds := [.data, .data, .data, .data, .data, .pinned], laidTests := true, laidLooks := .later }
def ChartSpoiltCardSaid : Prop := Claim7.holds Tryz.pinned (.plain (OpenSpec.ofChange chartSpoiltSpec)) chartSpoiltCard

/-- THE SECOND FORM's CARD OF 'transposallaw06.ChartChecks'. -/
def chartChecksUptoCard : Claim7 := { stood := { row := chartChecksUptoRow, standIns := [], harness := (true, "8cfa4fc1196b3b0625013c75f8614763899aef4d05545e2141f29728779c8994"), looks := false }, kinds := [], alts := [], laidByText := true, laidKinds := [.data, .data, .data, .data, .data, .pinned], laidTests := true, laidLooks := .later }
def ChartChecksUptoCardSaid : Prop := Claim7.holds Tryz.pinned (.plain (OpenSpec.upto chartChecksSpec)) chartChecksUptoCard

/-- THE SECOND FORM's CARD OF 'transposallaw06.ChartSpoilt'. -/
def chartSpoiltUptoCard : Claim7 := { stood := { row := chartSpoiltUptoRow, standIns := [], harness := (true, "8cfa4fc1196b3b0625013c75f8614763899aef4d05545e2141f29728779c8994"), looks := false }, kinds := [], alts := [], laidByText := true, laidKinds := [.data, .data, .data, .data, .data, .pinned], laidTests := true, laidLooks := .later }
def ChartSpoiltUptoCardSaid : Prop := Claim7.holds Tryz.pinned (.plain (OpenSpec.upto chartSpoiltSpec)) chartSpoiltUptoCard
end Rows
end Go.Proofs.YtdhgkggcnilgoaaGreatDoor

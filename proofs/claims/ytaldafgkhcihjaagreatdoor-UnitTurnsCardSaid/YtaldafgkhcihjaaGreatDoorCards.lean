/-
  DERIVED. GIVEN WITH THE SEED: THE CARDS: each row of YtaldafgkhcihjaaGreatDoorRows.lean that lists a variable, with what it lists TIED to the program's text (the seventh form; the later family's looks); each row that meets fmt, with fmt's text TOLD by the authors' own Lean function (tested against real Go, not proved from fmt's source: count such statements apart). THE CARD IS WHAT COUNTS. Prove the row's statement (the work); the ties are given (YtaldafgkhcihjaaGreatDoorTie.lean); close each card by the builder's one call (the guide's Derived/Test/ToyasCard.lean, 'card_holds'). Laid BY PROGRAM, IN A SANDBOX (cutbox-door.mjs). By AI agents, Wed Nov 11 2026. No macro, syntax, notation, axiom, sorry.
-/
import Derived.Test.YtaldafgkhcihjaaGreatDoorRows
import GoSem.ClaimSeven
namespace Go.Proofs.YtaldafgkhcihjaaGreatDoor
namespace Rows

/-- THE TIED CARD OF 'transposallaw07.UnitChecks'. -/
def unitChecksCard : Claim7 := { stood := { row := unitChecksRow, standIns := [], harness := (true, "50917099b91c7d0aabea64027ad1bc55e79b1e20544d0f6895e2eeefa395e5b5"), looks := false }, kinds := [], alts := [], laidByText := true, laidKinds := [.data, .data, .data, .data], laidTests := true, laidLooks := .later }
def UnitChecksCardSaid : Prop := Claim7.holds Tryz.pinned (.plain (OpenSpec.ofChange unitChecksSpec)) unitChecksCard

/-- THE TIED CARD OF 'transposallaw07.UnitTurns'. -/
def unitTurnsCard : Claim7 := { stood := { row := unitTurnsRow, standIns := [], harness := (true, "50917099b91c7d0aabea64027ad1bc55e79b1e20544d0f6895e2eeefa395e5b5"), looks := false }, kinds := [], alts := [], laidByText := true, laidKinds := [.data, .data, .data, .data], laidTests := true, laidLooks := .later }
def UnitTurnsCardSaid : Prop := Claim7.holds Tryz.pinned (.plain (OpenSpec.ofChange unitTurnsSpec)) unitTurnsCard

/-- THE TIED CARD OF 'transposallaw07.UnitBack'. -/
def unitBackCard : Claim7 := { stood := { row := unitBackRow, standIns := [], harness := (true, "50917099b91c7d0aabea64027ad1bc55e79b1e20544d0f6895e2eeefa395e5b5"), looks := false }, kinds := [], alts := [], laidByText := true, laidKinds := [.data, .data, .data, .data], laidTests := true, laidLooks := .later }
def UnitBackCardSaid : Prop := Claim7.holds Tryz.pinned (.plain (OpenSpec.ofChange unitBackSpec)) unitBackCard

/-- THE SECOND FORM's CARD OF 'transposallaw07.UnitChecks'. -/
def unitChecksUptoCard : Claim7 := { stood := { row := unitChecksUptoRow, standIns := [], harness := (true, "50917099b91c7d0aabea64027ad1bc55e79b1e20544d0f6895e2eeefa395e5b5"), looks := false }, kinds := [], alts := [], laidByText := true, laidKinds := [.data, .data, .data, .data], laidTests := true, laidLooks := .later }
def UnitChecksUptoCardSaid : Prop := Claim7.holds Tryz.pinned (.plain (OpenSpec.upto unitChecksSpec)) unitChecksUptoCard

/-- THE SECOND FORM's CARD OF 'transposallaw07.UnitTurns'. -/
def unitTurnsUptoCard : Claim7 := { stood := { row := unitTurnsUptoRow, standIns := [], harness := (true, "50917099b91c7d0aabea64027ad1bc55e79b1e20544d0f6895e2eeefa395e5b5"), looks := false }, kinds := [], alts := [], laidByText := true, laidKinds := [.data, .data, .data, .data], laidTests := true, laidLooks := .later }
def UnitTurnsUptoCardSaid : Prop := Claim7.holds Tryz.pinned (.plain (OpenSpec.upto unitTurnsSpec)) unitTurnsUptoCard

/-- THE SECOND FORM's CARD OF 'transposallaw07.UnitBack'. -/
def unitBackUptoCard : Claim7 := { stood := { row := unitBackUptoRow, standIns := [], harness := (true, "50917099b91c7d0aabea64027ad1bc55e79b1e20544d0f6895e2eeefa395e5b5"), looks := false }, kinds := [], alts := [], laidByText := true, laidKinds := [.data, .data, .data, .data], laidTests := true, laidLooks := .later }
def UnitBackUptoCardSaid : Prop := Claim7.holds Tryz.pinned (.plain (OpenSpec.upto unitBackSpec)) unitBackUptoCard
end Rows
end Go.Proofs.YtaldafgkhcihjaaGreatDoor

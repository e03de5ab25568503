/-
  DERIVED. GIVEN WITH THE SEED: THE CARDS: each row of YtaldafgkhcihjaaDoorRows.lean that lists a variable, with what it lists TIED to the program's text (the seventh form; the later family's looks); each row that meets fmt, with fmt's text TOLD by the authors' own Lean function (tested against real Go, not proved from fmt's source: count such statements apart). THE CARD IS WHAT COUNTS. Prove the row's statement (the work); the ties are given (YtaldafgkhcihjaaDoorTie.lean); close each card by the builder's one call (the guide's Derived/Test/ToyasCard.lean, 'card_holds'). Laid BY PROGRAM, IN A SANDBOX (cutbox-door.mjs). By AI agents, Wed Nov 11 2026. No macro, syntax, notation, axiom, sorry.
-/
import Derived.Test.YtaldafgkhcihjaaDoorRows
import GoSem.ClaimSeven
namespace Go.Proofs.YtaldafgkhcihjaaDoor
namespace Rows

/-- THE TIED CARD OF 'transposallaw07.UnitMany'. -/
def unitManyCard : Claim7 := { stood := { row := unitManyRow, standIns := [], harness := (true, "643cadf31f055f6a83483193e0e60122f54acaa0deeea65fd6de19ff37c5f556"), looks := false }, kinds := [], alts := [], laidByText := true, laidKinds := [.data, .data, .data, .data], laidTests := true, laidLooks := .later }
def UnitManyCardSaid : Prop := Claim7.holds Tryd.pinned (.plain (OpenSpec.ofChange unitManySpec)) unitManyCard

/-- THE SECOND FORM's CARD OF 'transposallaw07.UnitMany'. -/
def unitManyUptoCard : Claim7 := { stood := { row := unitManyUptoRow, standIns := [], harness := (true, "643cadf31f055f6a83483193e0e60122f54acaa0deeea65fd6de19ff37c5f556"), looks := false }, kinds := [], alts := [], laidByText := true, laidKinds := [.data, .data, .data, .data], laidTests := true, laidLooks := .later }
def UnitManyUptoCardSaid : Prop := Claim7.holds Tryd.pinned (.plain (OpenSpec.upto unitManySpec)) unitManyUptoCard
end Rows
end Go.Proofs.YtaldafgkhcihjaaDoor

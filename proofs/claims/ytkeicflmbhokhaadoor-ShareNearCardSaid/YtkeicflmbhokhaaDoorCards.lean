/-
  DERIVED. GIVEN WITH THE SEED: THE CARDS: each row of YtkeicflmbhokhaaDoorRows.lean that lists a variable, with what it lists TIED to the program's text (the seventh form; the later family's looks); each row that meets fmt, with fmt's text TOLD by the authors' own Lean function (tested against real Go, not proved from fmt's source: count such statements apart). THE CARD IS WHAT COUNTS. Prove the row's statement (the work); the ties are given (YtkeicflmbhokhaaDoorTie.lean); close each card by the builder's one call (the guide's Derived/Test/ToyasCard.lean, 'card_holds'). Laid BY PROGRAM, IN A SANDBOX (cutbox-door.mjs). By AI agents, Wed Nov 11 2026. No macro, syntax, notation, axiom, sorry.
-/
import Derived.Test.YtkeicflmbhokhaaDoorRows
import GoSem.ClaimSeven
namespace Go.Proofs.YtkeicflmbhokhaaDoor
namespace Rows

/-- THE TIED CARD OF 'transposallaw03.ShareAllots'. -/
def shareAllotsCard : Claim7 := { stood := { row := shareAllotsRow, standIns := [], harness := (true, "db1fa75030cd891b280696dbb3e85935d46abcb455b5e08140720236d9dd7dd6"), looks := false }, kinds := [], alts := [], laidByText := true, laidKinds := [.data, .data, .data], laidTests := true, laidLooks := .later }
def ShareAllotsCardSaid : Prop := Claim7.holds Tryd.pinned (.plain (OpenSpec.ofChange shareAllotsSpec)) shareAllotsCard

/-- THE TIED CARD OF 'transposallaw03.ShareSums'. -/
def shareSumsCard : Claim7 := { stood := { row := shareSumsRow, standIns := [], harness := (true, "db1fa75030cd891b280696dbb3e85935d46abcb455b5e08140720236d9dd7dd6"), looks := false }, kinds := [], alts := [], laidByText := true, laidKinds := [.data, .data, .data], laidTests := true, laidLooks := .later }
def ShareSumsCardSaid : Prop := Claim7.holds Tryd.pinned (.plain (OpenSpec.ofChange shareSumsSpec)) shareSumsCard

/-- THE TIED CARD OF 'transposallaw03.ShareErrors'. -/
def shareErrorsCard : Claim7 := { stood := { row := shareErrorsRow, standIns := [], harness := (true, "db1fa75030cd891b280696dbb3e85935d46abcb455b5e08140720236d9dd7dd6"), looks := false }, kinds := [], alts := [], laidByText := true, laidKinds := [.data, .data, .data], laidTests := true, laidLooks := .later }
def ShareErrorsCardSaid : Prop := Claim7.holds Tryd.pinned (.plain (OpenSpec.ofChange shareErrorsSpec)) shareErrorsCard

/-- THE TIED CARD OF 'transposallaw03.ShareTurns'. -/
def shareTurnsCard : Claim7 := { stood := { row := shareTurnsRow, standIns := [], harness := (true, "db1fa75030cd891b280696dbb3e85935d46abcb455b5e08140720236d9dd7dd6"), looks := false }, kinds := [], alts := [], laidByText := true, laidKinds := [.data, .data, .data], laidTests := true, laidLooks := .later }
def ShareTurnsCardSaid : Prop := Claim7.holds Tryd.pinned (.plain (OpenSpec.ofChange shareTurnsSpec)) shareTurnsCard

/-- THE TIED CARD OF 'transposallaw03.ShareNear'. -/
def shareNearCard : Claim7 := { stood := { row := shareNearRow, standIns := [], harness := (true, "db1fa75030cd891b280696dbb3e85935d46abcb455b5e08140720236d9dd7dd6"), looks := false }, kinds := [], alts := [], laidByText := true, laidKinds := [.data, .data, .data], laidTests := true, laidLooks := .later }
def ShareNearCardSaid : Prop := Claim7.holds Tryd.pinned (.plain (OpenSpec.ofChange shareNearSpec)) shareNearCard

/-- THE SECOND FORM's CARD OF 'transposallaw03.ShareAllots'. -/
def shareAllotsUptoCard : Claim7 := { stood := { row := shareAllotsUptoRow, standIns := [], harness := (true, "db1fa75030cd891b280696dbb3e85935d46abcb455b5e08140720236d9dd7dd6"), looks := false }, kinds := [], alts := [], laidByText := true, laidKinds := [.data, .data, .data], laidTests := true, laidLooks := .later }
def ShareAllotsUptoCardSaid : Prop := Claim7.holds Tryd.pinned (.plain (OpenSpec.upto shareAllotsSpec)) shareAllotsUptoCard

/-- THE SECOND FORM's CARD OF 'transposallaw03.ShareSums'. -/
def shareSumsUptoCard : Claim7 := { stood := { row := shareSumsUptoRow, standIns := [], harness := (true, "db1fa75030cd891b280696dbb3e85935d46abcb455b5e08140720236d9dd7dd6"), looks := false }, kinds := [], alts := [], laidByText := true, laidKinds := [.data, .data, .data], laidTests := true, laidLooks := .later }
def ShareSumsUptoCardSaid : Prop := Claim7.holds Tryd.pinned (.plain (OpenSpec.upto shareSumsSpec)) shareSumsUptoCard

/-- THE SECOND FORM's CARD OF 'transposallaw03.ShareErrors'. -/
def shareErrorsUptoCard : Claim7 := { stood := { row := shareErrorsUptoRow, standIns := [], harness := (true, "db1fa75030cd891b280696dbb3e85935d46abcb455b5e08140720236d9dd7dd6"), looks := false }, kinds := [], alts := [], laidByText := true, laidKinds := [.data, .data, .data], laidTests := true, laidLooks := .later }
def ShareErrorsUptoCardSaid : Prop := Claim7.holds Tryd.pinned (.plain (OpenSpec.upto shareErrorsSpec)) shareErrorsUptoCard

/-- THE SECOND FORM's CARD OF 'transposallaw03.ShareTurns'. -/
def shareTurnsUptoCard : Claim7 := { stood := { row := shareTurnsUptoRow, standIns := [], harness := (true, "db1fa75030cd891b280696dbb3e85935d46abcb455b5e08140720236d9dd7dd6"), looks := false }, kinds := [], alts := [], laidByText := true, laidKinds := [.data, .data, .data], laidTests := true, laidLooks := .later }
def ShareTurnsUptoCardSaid : Prop := Claim7.holds Tryd.pinned (.plain (OpenSpec.upto shareTurnsSpec)) shareTurnsUptoCard

/-- THE SECOND FORM's CARD OF 'transposallaw03.ShareNear'. -/
def shareNearUptoCard : Claim7 := { stood := { row := shareNearUptoRow, standIns := [], harness := (true, "db1fa75030cd891b280696dbb3e85935d46abcb455b5e08140720236d9dd7dd6"), looks := false }, kinds := [], alts := [], laidByText := true, laidKinds := [.data, .data, .data], laidTests := true, laidLooks := .later }
def ShareNearUptoCardSaid : Prop := Claim7.holds Tryd.pinned (.plain (OpenSpec.upto shareNearSpec)) shareNearUptoCard
end Rows
end Go.Proofs.YtkeicflmbhokhaaDoor

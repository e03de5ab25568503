/-
  DERIVED. GIVEN WITH THE SEED: THE CARDS: each row of YtnmnjoleebhhiaaDoorRows.lean that lists a variable, with what it lists TIED to the program's text (the seventh form; the later family's looks); each row that meets fmt, with fmt's text TOLD by the authors' own Lean function (tested against real Go, not proved from fmt's source: count such statements apart). THE CARD IS WHAT COUNTS. Prove the row's statement (the work); the ties are given (YtnmnjoleebhhiaaDoorTie.lean); close each card by the builder's one call (the guide's Derived/Test/ToyasCard.lean, 'card_holds'). Laid BY PROGRAM, IN A SANDBOX (cutbox-door.mjs). By AI agents, Wed Nov 11 2026. No macro, syntax, notation, axiom, sorry.
-/
import Derived.Test.YtnmnjoleebhhiaaDoorRows
import GoSem.ClaimSeven
namespace Go.Proofs.YtnmnjoleebhhiaaDoor
namespace Rows

/-- THE TIED CARD OF 'transposallaw05.KeyPacks'. -/
def keyPacksCard : Claim7 := { stood := { row := keyPacksRow, standIns := [], harness := (true, "d31343d6873e84a846032368758b16f3a4edfe668534ee1b1108f8d335ce43e6"), looks := false }, kinds := [], alts := [], laidByText := true, laidKinds := [.data, .data, .data, .data], laidTests := true, laidLooks := .later }
def KeyPacksCardSaid : Prop := Claim7.holds Tryd.pinned (.plain (OpenSpec.ofChange keyPacksSpec)) keyPacksCard

/-- THE TIED CARD OF 'transposallaw05.KeyUnpacks'. -/
def keyUnpacksCard : Claim7 := { stood := { row := keyUnpacksRow, standIns := [], harness := (true, "d31343d6873e84a846032368758b16f3a4edfe668534ee1b1108f8d335ce43e6"), looks := false }, kinds := [], alts := [], laidByText := true, laidKinds := [.data, .data, .data, .data], laidTests := true, laidLooks := .later }
def KeyUnpacksCardSaid : Prop := Claim7.holds Tryd.pinned (.plain (OpenSpec.ofChange keyUnpacksSpec)) keyUnpacksCard

/-- THE TIED CARD OF 'transposallaw05.KeySums'. -/
def keySumsCard : Claim7 := { stood := { row := keySumsRow, standIns := [], harness := (true, "d31343d6873e84a846032368758b16f3a4edfe668534ee1b1108f8d335ce43e6"), looks := false }, kinds := [], alts := [], laidByText := true, laidKinds := [.data, .data, .data, .data], laidTests := true, laidLooks := .later }
def KeySumsCardSaid : Prop := Claim7.holds Tryd.pinned (.plain (OpenSpec.ofChange keySumsSpec)) keySumsCard

/-- THE TIED CARD OF 'transposallaw05.KeyLinks'. -/
def keyLinksCard : Claim7 := { stood := { row := keyLinksRow, standIns := [], harness := (true, "d31343d6873e84a846032368758b16f3a4edfe668534ee1b1108f8d335ce43e6"), looks := false }, kinds := [], alts := [], laidByText := true, laidKinds := [.data, .data, .data, .data], laidTests := true, laidLooks := .later }
def KeyLinksCardSaid : Prop := Claim7.holds Tryd.pinned (.plain (OpenSpec.ofChange keyLinksSpec)) keyLinksCard

/-- THE SECOND FORM's CARD OF 'transposallaw05.KeyPacks'. -/
def keyPacksUptoCard : Claim7 := { stood := { row := keyPacksUptoRow, standIns := [], harness := (true, "d31343d6873e84a846032368758b16f3a4edfe668534ee1b1108f8d335ce43e6"), looks := false }, kinds := [], alts := [], laidByText := true, laidKinds := [.data, .data, .data, .data], laidTests := true, laidLooks := .later }
def KeyPacksUptoCardSaid : Prop := Claim7.holds Tryd.pinned (.plain (OpenSpec.upto keyPacksSpec)) keyPacksUptoCard

/-- THE SECOND FORM's CARD OF 'transposallaw05.KeyUnpacks'. -/
def keyUnpacksUptoCard : Claim7 := { stood := { row := keyUnpacksUptoRow, standIns := [], harness := (true, "d31343d6873e84a846032368758b16f3a4edfe668534ee1b1108f8d335ce43e6"), looks := false }, kinds := [], alts := [], laidByText := true, laidKinds := [.data, .data, .data, .data], laidTests := true, laidLooks := .later }
def KeyUnpacksUptoCardSaid : Prop := Claim7.holds Tryd.pinned (.plain (OpenSpec.upto keyUnpacksSpec)) keyUnpacksUptoCard

/-- THE SECOND FORM's CARD OF 'transposallaw05.KeySums'. -/
def keySumsUptoCard : Claim7 := { stood := { row := keySumsUptoRow, standIns := [], harness := (true, "d31343d6873e84a846032368758b16f3a4edfe668534ee1b1108f8d335ce43e6"), looks := false }, kinds := [], alts := [], laidByText := true, laidKinds := [.data, .data, .data, .data], laidTests := true, laidLooks := .later }
def KeySumsUptoCardSaid : Prop := Claim7.holds Tryd.pinned (.plain (OpenSpec.upto keySumsSpec)) keySumsUptoCard

/-- THE SECOND FORM's CARD OF 'transposallaw05.KeyLinks'. -/
def keyLinksUptoCard : Claim7 := { stood := { row := keyLinksUptoRow, standIns := [], harness := (true, "d31343d6873e84a846032368758b16f3a4edfe668534ee1b1108f8d335ce43e6"), looks := false }, kinds := [], alts := [], laidByText := true, laidKinds := [.data, .data, .data, .data], laidTests := true, laidLooks := .later }
def KeyLinksUptoCardSaid : Prop := Claim7.holds Tryd.pinned (.plain (OpenSpec.upto keyLinksSpec)) keyLinksUptoCard
end Rows
end Go.Proofs.YtnmnjoleebhhiaaDoor

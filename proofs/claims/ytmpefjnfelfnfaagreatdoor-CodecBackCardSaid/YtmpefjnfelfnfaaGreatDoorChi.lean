/- What the laws ask of codec's Decode. -/
import Derived.Test.YtmpefjnfelfnfaaGreatDoorChall
import Derived.Test.YtmpefjnfelfnfaaGreatDoorCgall
namespace Go.Proofs.YtmpefjnfelfnfaaGreatDoor
open Go.RowKit
set_option linter.unusedVariables false
set_option linter.unusedSimpArgs false
/-- What the laws ask of codec's Decode. -/
structure DecC (I : World → Prop) : Prop where
  dec : ∀ (vb : Value) (l : List Nat) (w : World), I w → Recs byc 1 w vb l → (∀ c ∈ l, c < 256) → Calls Tryz.prog 12 #[vb] w fun e w' => DecR l e w w'
theorem decC {I : World → Prop} (D : DayC I) (B : BookC I) : DecC I where
  dec vb l w hI hR hb := ddecode_c D B vb l w hI hR hb
end Go.Proofs.YtmpefjnfelfnfaaGreatDoor

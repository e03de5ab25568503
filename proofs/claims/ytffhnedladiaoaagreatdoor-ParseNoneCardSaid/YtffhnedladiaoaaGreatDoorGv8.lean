/- Arguments: slices of bytes. -/
import Derived.Test.YtffhnedladiaoaaGreatDoorGxy
import Derived.Test.YtffhnedladiaoaaGreatDoorJall
namespace Go.Proofs.YtffhnedladiaoaaGreatDoor
open Go.ChangeShapes Go.WideShapes Go.ChangeAt Go.RowKit Go.Joins
set_option linter.unusedVariables false
set_option linter.unusedSimpArgs false
section
variable {H : Type} {enc : TypeId × Value → H} {P : Program}
theorem u8s_open {t e : TypeId} (ht : P.underlying t = some (.slice e)) (he : P.underlying e = some (.int .u8)) (hC : P.cellsOf e = 1) {W : World} {r : Reach} {base b : Nat} {held : Bool} {v : Value} {d : DataW H} {pl : List MemPlace}
    (hv : Value.okWide P W r base t v) (h : DataW.Trod enc P W b (fun _ => true) held t v d pl) : ∃ zs : List Nat, Recs u8c 1 W v zs ∧ ∀ x ∈ zs, x < 256 :=
  nat_open ht he hC (fun _ h => u8_nat' h) hv h
end
end Go.Proofs.YtffhnedladiaoaaGreatDoor

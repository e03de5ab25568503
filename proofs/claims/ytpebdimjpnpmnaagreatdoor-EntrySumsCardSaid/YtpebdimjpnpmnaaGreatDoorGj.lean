/- Arguments of law 8: slices of small numbers, slices of days. -/
import Derived.Test.YtpebdimjpnpmnaaGreatDoorGu
import Derived.Test.YtpebdimjpnpmnaaGreatDoorJall
namespace Go.Proofs.YtpebdimjpnpmnaaGreatDoor
open Go.ChangeShapes Go.WideShapes Go.ChangeAt Go.RowKit Go.Joins
set_option linter.unusedVariables false
set_option linter.unusedSimpArgs false
theorem i16_in {a : Int} (h : (Lit.int .i16 a).wf = true) : -32768 ≤ a ∧ a ≤ 32767 := by
  simp [Lit.wf, IntKind.min, IntKind.max, IntKind.bits, IntKind.signed] at h; omega
theorem i32_in {a : Int} (h : (Lit.int .i32 a).wf = true) : I32 a := by
  unfold I32
  simp [Lit.wf, IntKind.min, IntKind.max, IntKind.bits, IntKind.signed] at h; omega
theorem i64_in {a : Int} (h : (Lit.int .i64 a).wf = true) : -9223372036854775808 ≤ a ∧ a ≤ 9223372036854775807 := by
  simp [Lit.wf, IntKind.min, IntKind.max, IntKind.bits, IntKind.signed] at h; omega
section
variable {H : Type} {enc : TypeId × Value → H} {P : Program}
theorem u8s_open {t e : TypeId} (ht : P.underlying t = some (.slice e)) (he : P.underlying e = some (.int .u8)) (hC : P.cellsOf e = 1) {W : World} {r : Reach} {base b : Nat} {held : Bool} {v : Value} {d : DataW H} {pl : List MemPlace}
    (hv : Value.okWide P W r base t v) (h : DataW.Trod enc P W b (fun _ => true) held t v d pl) : ∃ zs : List Nat, Recs u8c 1 W v zs ∧ ∀ x ∈ zs, x < 256 :=
  nat_open ht he hC (fun _ h => u8_nat' h) hv h
theorem i32s_open {t e : TypeId} (ht : P.underlying t = some (.slice e)) (he : P.underlying e = some (.int .i32)) (hC : P.cellsOf e = 1) {W : World} {r : Reach} {base b : Nat} {held : Bool} {v : Value} {d : DataW H} {pl : List MemPlace}
    (hv : Value.okWide P W r base t v) (h : DataW.Trod enc P W b (fun _ => true) held t v d pl) : ∃ zs : List Int, Recs dcl 1 W v zs ∧ ∀ x ∈ zs, I32 x :=
  small_open ht he hC (fun _ h => i32_in h) hv h
end
end Go.Proofs.YtpebdimjpnpmnaaGreatDoor

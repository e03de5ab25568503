/- What the laws ask of codec's Decode. -/
import Derived.Test.YtmpefjnfelfnfaaGreatDoorChall
import Derived.Test.YtmpefjnfelfnfaaGreatDoorCgall
namespace Go.Proofs.YtmpefjnfelfnfaaGreatDoor
open Go.RowKit
set_option linter.unusedVariables false
set_option linter.unusedSimpArgs false
/-- What the laws ask of codec's Decode. -/
structure DecC (I : World → Prop) : Prop where
  dec : ∀ (vb : Value) (l : List Nat) (w : World), I w → Recs byc 1 w vb l → (∀ c ∈ l, c < 256) → Calls Tryz.prog 12 #[vb] w fun e w' => DecR l e w w'
theorem decC {I : World → Prop} (D : DayC I) (B : BookC I) : DecC I where
  dec vb l w hI hR hb := ddecode_c D B vb l w hI hR hb
/-- Decode, told shortly: a book, the error. -/
theorem dec_short {I : World → Prop} (CO : DecC I) (vb : Value) (l : List Nat) (w : World) (hI : I w) (hR : Recs byc 1 w vb l) (hb : ∀ c ∈ l, c < 256) (c0 : Int) (hc : (decB l).2.2 = c0) :
    Calls Tryz.prog 12 #[vb] w fun e w' => ∃ (s0 s1 s2 s4 : Option Addr) (n0 n1 n2 n4 k0 k1 k2 k4 : Nat) (a3 : Int), e = .returned (.tuple #[.agg #[.slice s0 n0 k0, .slice s1 n1 k1, .slice s2 n2 k2, .int .i32 a3, .slice s4 n4 k4], .int .i64 c0]) ∧ Below w.heap.size w w' := by
  refine (CO.dec vb l w hI hR hb).mono ?_
  rintro e w' ⟨vC, vU, vS, vJ, vs, rfl, hF, hJ, _, h⟩
  rw [hc]
  obtain ⟨s0, k0, rfl, _⟩ := hF.c.form
  obtain ⟨s1, k1, rfl, _⟩ := hF.u.form
  obtain ⟨s2, k2, rfl, _⟩ := hF.s.form
  obtain ⟨s4, k4, rfl, _⟩ := hJ.1.form
  exact ⟨s0, s1, s2, s4, _, _, _, _, k0, k1, k2, k4, _, rfl, h⟩
end Go.Proofs.YtmpefjnfelfnfaaGreatDoor

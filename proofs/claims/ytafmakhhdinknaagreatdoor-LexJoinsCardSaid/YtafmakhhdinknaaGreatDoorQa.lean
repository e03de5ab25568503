/- What law 5 asks of package key's keys, as one word; law 5's Awake, less; law KeyUnpacks. -/
import Derived.Test.YtafmakhhdinknaaGreatDoorKall
namespace Go.Proofs.YtafmakhhdinknaaGreatDoor
open Go.RowKit
set_option linter.unusedVariables false
set_option linter.unusedSimpArgs false
/-- A key, as a value, and as one number. -/
def keyV (a e p : Int) : Value := .agg #[.int .u32 a, .int .u16 e, .int .u16 p]
def packN (a e p : Int) : Int := a * 4294967296 + e * 65536 + p
/-- Are these a key's numbers? -/
def IsKey (a e p : Int) : Prop := (0 ≤ a ∧ a < 4294967296) ∧ (0 ≤ e ∧ e < 65536) ∧ (0 ≤ p ∧ p < 65536)
def cmpZ (x y : Int) : Int := if x < y then -1 else if y < x then 1 else 0
/-- What the document says of keys, in worlds of which I holds. -/
structure KeyC (I : World → Prop) : Prop where
  pack : ∀ (a e p : Int) (w : World), I w → IsKey a e p → Calls Tryz.prog 177 #[keyV a e p] w fun r w' => r = .returned (.int .u64 (packN a e p)) ∧ Below w.heap.size w w'
theorem packN_bd {a e p : Int} (h : IsKey a e p) : 0 ≤ packN a e p ∧ packN a e p < 18446744073709551616 := by
  obtain ⟨h1, h2, h3⟩ := h
  unfold packN; omega
theorem pack_parts {a e p : Int} (h : IsKey a e p) : packN a e p / 4294967296 = a ∧ packN a e p / 65536 % 65536 = e ∧ packN a e p % 65536 = p := by
  obtain ⟨h1, h2, h3⟩ := h
  unfold packN; omega
theorem parts_pack {n : Int} (h : 0 ≤ n ∧ n < 18446744073709551616) : IsKey (n / 4294967296) (n / 65536 % 65536) (n % 65536) ∧ packN (n / 4294967296) (n / 65536 % 65536) (n % 65536) = n := by
  unfold IsKey packN; omega
theorem pack_a : packN 1 2 3 = 4295098371 := by decide
set_option maxRecDepth 100000 in
theorem awake5_any {I : World → Prop} (C : AllotC) (D : DayC I) (K : KeyC I) (w : World) (hI : I w) :
    Calls Tryz.prog 146 #[] w fun e w' => e = .returned (.bool true) ∧ Below w.heap.size w w' := by
  have K1 := Lib.hid (K.pack 1 2 3 w hI ⟨by omega, by omega, by omega⟩)
  rw [pack_a] at K1
  unfold keyV at K1
  go_enter Tryz.func146, Tryz.ntmps146
  go_wp2_with (first
    | (go_at_call 178; refine (awake4_any C D _ (D.stay hI hb1)).mono ?_; rintro e w2 ⟨rfl, hb2⟩)
    | (go_at_call 177; refine K1.out.mono ?_; rintro e w1 ⟨rfl, hb1⟩))
  go_ret
  exact ⟨by simp, hb1.trans (hb2.mono hb1.size)⟩
/-- Which key is less. -/
def lessB (a e p a' e' p' : Int) : Bool := if a ≠ a' then decide (a < a') else if e ≠ e' then decide (e < e') else decide (p < p')
theorem lessB_pack {a e p a' e' p' : Int} (h : IsKey a e p) (h' : IsKey a' e' p') : lessB a e p a' e' p' = decide (packN a e p < packN a' e' p') := by
  obtain ⟨h1, h2, h3⟩ := h
  obtain ⟨g1, g2, g3⟩ := h'
  unfold lessB packN
  split
  · exact decide_eq_decide.2 (by omega)
  · split
    · exact decide_eq_decide.2 (by omega)
    · exact decide_eq_decide.2 (by omega)
end Go.Proofs.YtafmakhhdinknaaGreatDoor

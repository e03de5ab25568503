/- The walk of law CalendarChecks; written by a program (jhgen.py). -/
import Derived.Test.YtpebdimjpnpmnaaGreatDoorJall
import Derived.Test.YtpebdimjpnpmnaaGreatDoorOb
import Derived.Test.YtpebdimjpnpmnaaGreatDoorKb
import Derived.Maps.AppendAt
import Derived.Deep.CutBlock
import Derived.Deep.DeepCutAuto
import Derived.Lib.SliceRun
namespace Go.Proofs.YtpebdimjpnpmnaaGreatDoor
open Go.RowKit
set_option linter.unusedVariables false
set_option linter.unusedSimpArgs false
theorem owns_down {w : World} {base base' : Nat} {e : TypeId} {size : Nat} {v : Value} {n : Nat} {xs : List Value} (h : w.ownsRow base e size v n xs) (hb : base' ≤ base) : w.ownsRow base' e size v n xs := by
  refine ⟨h.1, ?_⟩
  rcases h.2 with h0 | ⟨g, cap, cur, h1, h2, h3⟩
  · exact .inl h0
  · exact .inr ⟨g, cap, cur, h1, Nat.le_trans hb h2, h3⟩
theorem below_at {w w' : World} (hb : Below w.heap.size w w') {p : Addr} {u : Value} (h : w.cell? p = some u) : w'.cell? p = some u := by
  rw [hb.cell (World.block_lt_of_cell? w p h)]; exact h
theorem load_sl (w : World) (b o : Nat) (v : Value) (h : w.cell? ⟨b, o, none⟩ = some v) : (Instr.loadAt 62 (.pointer (some ⟨b, o, none⟩))).run Tryz.prog w = .ok v w := by
  go_simp
theorem load_d (w : World) (b o : Nat) (v : Value) (h : w.cell? ⟨b, o, none⟩ = some v) : (Instr.loadAt 30 (.pointer (some ⟨b, o, none⟩))).run Tryz.prog w = .ok v w := by
  go_simp
theorem op_one {ops : Array Oper} {Q : Exit → Act → World → Prop} {i : Nat} {K : Act → World → Prop} {a : Act} {w : World} (dst : Option Tmp) (t : Tmp) (ho : opIs ops i (.buildSlice 62 1 #[(0, .tmp t)]) dst) (E : Int) (hx : a.eval (.tmp t) = .int .i32 E)
    (hk : K (a.put dst (.slice (some ⟨w.heap.size, 0, none⟩) 1 1)) (w.alloc (.cells #[.int .i32 E] 30))) : wpOp Tryz.prog ops Q i K a w := by
  have hx2 : a.tmps[t]?.getD undef = .int .i32 E := by simpa [go_sem] using hx
  refine op_any ho (fun o h1 h2 => ?_)
  subst h2
  unfold Oper.wp execOp
  simp only [h1]
  go_simp
  exact hk
/-- Where the search for what is wrong stands. -/
def ChkD (us : List Int) (k : Nat) : Prop := ∃ h : Option Int, chkD1 none us = chkD1 h (us.drop k) ∧ (k = 0 → h = none) ∧ ∀ p, p + 1 = k → h = us[p]?
theorem ChkD.start (us : List Int) : ChkD us 0 := ⟨none, rfl, fun _ => rfl, fun p h => by omega⟩
theorem drop_at' {α : Type} {l : List α} {k : Nat} {x : α} (h : l[k]? = some x) : l.drop k = x :: l.drop (k + 1) := by
  obtain ⟨hk, e⟩ := List.getElem?_eq_some_iff.1 h
  rw [List.drop_eq_getElem_cons hk, e]
theorem ChkD.range {us : List Int} {k : Nat} {x : Int} (h : ChkD us k) (hx : us[k]? = some x) (hr : x < -719162 ∨ 2932896 < x) : chkD1 none us = 13 := by
  obtain ⟨h0, h1, _⟩ := h
  rw [h1, drop_at' hx, chkD1, if_pos hr]
theorem ChkD.order {us : List Int} {p q : Nat} {x y : Int} (h : ChkD us q) (hq : p + 1 = q) (hy : us[p]? = some y) (hx : us[q]? = some x) (hr : ¬ (x < -719162 ∨ 2932896 < x)) (hyx : x ≤ y) : chkD1 none us = 6 := by
  obtain ⟨h0, h1, _, h3⟩ := h
  have := h3 p hq
  rw [hy] at this
  subst this
  rw [h1, drop_at' hx, chkD1, if_neg hr, if_pos ⟨y, rfl, hyx⟩]
theorem ChkD.step {us : List Int} {k : Nat} {x : Int} (h : ChkD us k) (hx : us[k]? = some x) (hr : ¬ (x < -719162 ∨ 2932896 < x)) (hy : ∀ p y, p + 1 = k → us[p]? = some y → y < x) : ChkD us (k + 1) := by
  obtain ⟨h0, h1, h2, h3⟩ := h
  refine ⟨some x, ?_, fun e => by omega, fun p hp => by
    obtain rfl : p = k := by omega
    exact hx.symm⟩
  rw [h1, drop_at' hx, chkD1, if_neg hr, if_neg]
  rintro ⟨b, hb, hxb⟩
  by_cases hk : k = 0
  · rw [h2 hk] at hb; cases hb
  · obtain ⟨p, rfl⟩ : ∃ p, k = p + 1 := ⟨k - 1, by omega⟩
    have := hy p b rfl ((h3 p rfl).symm.trans hb)
    omega
theorem ChkD.done {us : List Int} {k : Nat} (h : ChkD us k) (hk : us.length ≤ k) : chkD1 none us = 0 := by
  obtain ⟨h0, h1, _⟩ := h
  rw [h1, List.drop_eq_nil_of_le hk]; rfl
def cutD (big : Bool) (n : Int) : Int := if big then n else n.tmod 100000
theorem cutD_range {big : Bool} {n : Int} (h : I32 n) : I32 (cutD big n) := by
  unfold cutD
  split
  · exact h
  · have h1 := Int.lt_tmod_of_pos n (show (0 : Int) < 100000 by omega)
    have h2 := Int.tmod_lt_of_pos n (show (0 : Int) < 100000 by omega)
    unfold I32
    omega
theorem num_ex1 : numD 1 1 1 = -719162 := by decide
theorem num_ex2 : numD 9999 12 31 = 2932896 := by decide
end Go.Proofs.YtpebdimjpnpmnaaGreatDoor

/- Days in plain words: years, months, a day's number; each date has its own number, and each number from the first day to the last one date. -/
import Derived.Test.YtjgmbjfijpmhdaaGreatDoorChecked
import Derived.WalkKit
import Derived.Test.YtjgmbjfijpmhdaaGreatDoorZOne
import Derived.Below
import Derived.Lib.Hide
import Derived.LoopTactic
import Derived.Test.YtjgmbjfijpmhdaaGreatDoorZThree
import Derived.Lib.LaidTab
import Derived.Deep.RegionWith
import Derived.Test.YtjgmbjfijpmhdaaGreatDoorZTwo
import Derived.IntWalk
import Derived.Deep.QuietTactic
import Derived.BigQuiet
namespace Go.Proofs.YtjgmbjfijpmhdaaGreatDoor
open Go.RowKit
set_option linter.unusedVariables false
set_option linter.unusedSimpArgs false
/-- Dates in order. -/
def Ahead (y m d y' m' d' : Int) : Prop := y < y' ∨ (y = y' ∧ (m < m' ∨ (m = m' ∧ d < d')))
end Go.Proofs.YtjgmbjfijpmhdaaGreatDoor
/- Plain lemmas on days and their texts, for law and code alike. -/
namespace Go.Proofs.YtjgmbjfijpmhdaaGreatDoor
open Go.RowKit
set_option linter.unusedVariables false
set_option linter.unusedSimpArgs false
theorem both (a b : List UInt8) : (⟨a.toArray⟩ : ByteArray) ++ ⟨b.toArray⟩ = ⟨(a ++ b).toArray⟩ := by
  apply ByteArray.ext
  simp
end Go.Proofs.YtjgmbjfijpmhdaaGreatDoor
/- What law 4 asks of package day, as one word; law 4's Awake from it. -/
namespace Go.Proofs.YtjgmbjfijpmhdaaGreatDoor
open Go.RowKit
set_option linter.unusedVariables false
set_option linter.unusedSimpArgs false
/-- A text, as a value. -/
def strV (l : List UInt8) : Value := .string ⟨l.toArray⟩
end Go.Proofs.YtjgmbjfijpmhdaaGreatDoor
/- The landed day, its small parts: leap, length, ahead, year, number; and the plain words that they answer. -/
namespace Go.Proofs.YtjgmbjfijpmhdaaGreatDoor
open Go.RowKit
set_option linter.unusedVariables false
set_option linter.unusedSimpArgs false
/-- The table of the months' lengths lies as the program lays it. -/
def lens : List Int := [31, 28, 31, 30, 31, 30, 31, 31, 30, 31, 30, 31]
def LenTab (w : World) : Prop := Lib.TabIs Tryz.prog w "transposal/day.lengths" .i64 lens
theorem LenTab.stay {w w' : World} (h : LenTab w) (hb : Below w.heap.size w w') : LenTab w' := by
  unfold LenTab Lib.TabIs World.var? at *
  have e : Tryz.prog.globalNamed "transposal/day.lengths" = some 0 := by kernel_rfl
  rw [e] at h ⊢
  simp only [Option.bind_some] at h ⊢
  have hlt : 0 < w.heap.size := by
    rcases Nat.lt_or_ge 0 w.heap.size with h' | h'
    · exact h'
    · rw [Array.getElem?_eq_none h'] at h; cases h
  rw [hb.block 0 hlt]
  exact h
theorem LenTab.cell {w : World} (h : LenTab w) (i : Nat) (hi : i < 12) : w.cell? ⟨0, i, none⟩ = some (.int .i64 (lens.getD i 0)) :=
  Lib.TabIs.cell h (by kernel_rfl) i hi
end Go.Proofs.YtjgmbjfijpmhdaaGreatDoor
/- The landed day: Of and Date. -/
namespace Go.Proofs.YtjgmbjfijpmhdaaGreatDoor
open Go.RowKit
set_option linter.unusedVariables false
set_option linter.unusedSimpArgs false
end Go.Proofs.YtjgmbjfijpmhdaaGreatDoor
/- The landed day: Text, number, Parse. -/
namespace Go.Proofs.YtjgmbjfijpmhdaaGreatDoor
open Go.RowKit Go.Sort Go.Lib
set_option linter.unusedVariables false
set_option linter.unusedSimpArgs false
/-- The worlds of which day's contracts speak. -/
def InI (w : World) : Prop := Pow w ∧ 6 < w.heap.size ∧ LenTab w
theorem InI.stay {w w' : World} (h : InI w) (hb : Below w.heap.size w w') : InI w' :=
  ⟨h.1.stay h.2.1 hb, Nat.lt_of_lt_of_le h.2.1 hb.size, h.2.2.stay hb⟩
theorem InI.drew {w : World} (h : InI w) : InI w.drew := h.stay ((Below.refl _ _).drew)
/-- A world that has come of w. -/
def Stp (w0 w : World) : Prop := InI w ∧ Below w0.heap.size w0 w
theorem Stp.drew {w0 w : World} (h : Stp w0 w) : Stp w0 w.drew := ⟨h.1.drew, h.2.drew⟩
theorem Stp.next {w0 w w' : World} (h : Stp w0 w) (hb : Below w.heap.size w w') : Stp w0 w' := ⟨h.1.stay hb, h.2.trans (hb.mono h.2.size)⟩
end Go.Proofs.YtjgmbjfijpmhdaaGreatDoor
/- The landed day: number, Parse, and what is no day's text. -/
namespace Go.Proofs.YtjgmbjfijpmhdaaGreatDoor
open Go.RowKit Go.Sort Go.Lib
set_option linter.unusedVariables false
set_option linter.unusedSimpArgs false
end Go.Proofs.YtjgmbjfijpmhdaaGreatDoor
/- What law 4 asks of day, of the landed day. -/
namespace Go.Proofs.YtjgmbjfijpmhdaaGreatDoor
open Go.RowKit
set_option linter.unusedVariables false
set_option linter.unusedSimpArgs false
theorem inI {w : World} (h : Pow w) (hw : 6 < w.heap.size) (hL : LenTab w) : InI w := ⟨h, hw, hL⟩
end Go.Proofs.YtjgmbjfijpmhdaaGreatDoor

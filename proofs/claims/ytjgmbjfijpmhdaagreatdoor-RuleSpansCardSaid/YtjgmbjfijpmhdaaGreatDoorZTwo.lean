/- The library's FormatUint at base 10: a number's decimal digits, for every unsigned number of 64 bits. -/
import Derived.Test.YtjgmbjfijpmhdaaGreatDoorChecked
import Derived.Test.YtjgmbjfijpmhdaaGreatDoorZShelf
import Derived.WalkKit
import Derived.BigCall
import Derived.BigGuard
import Derived.Below
import Derived.Lib.ItoaMem
import Derived.Lib.ItoaLen
import Derived.Lib.SmallJoins
import Derived.Lib.ItoaNum
import Derived.Test.YtjgmbjfijpmhdaaGreatDoorZOne
import Derived.LoopTactic
namespace Go.Proofs.YtjgmbjfijpmhdaaGreatDoor
open Go.RowKit Go.Sort Go.Lib
set_option linter.unusedVariables false
set_option linter.unusedSimpArgs false
/-- The table of the powers of ten lies as the library lays it. -/
def Pow (w : World) : Prop := Lib.TabIs Tryz.prog w "internal/strconv.uint64pow10" .u64 Lib.pow10Tab
theorem Pow.stay {w w' : World} (h : Pow w) (hs : 6 < w.heap.size) (hb : Below w.heap.size w w') : Pow w' := by
  unfold Pow Lib.TabIs World.var? at *
  have e : Tryz.prog.globalNamed "internal/strconv.uint64pow10" = some 6 := by kernel_rfl
  rw [e] at h ⊢
  simp only [Option.bind_some] at h ⊢
  rw [← h]
  have := hb.block 6 hs
  simp only [this]
end Go.Proofs.YtjgmbjfijpmhdaaGreatDoor
/- Plain facts on an amount's text: a minus, the whole hundreds, a point, two digits. -/
namespace Go.Proofs.YtjgmbjfijpmhdaaGreatDoor
open Go.Lib Go.RowKit
set_option linter.unusedVariables false
set_option linter.unusedSimpArgs false
/-- Two digits. -/
def two (c : Nat) : List UInt8 := [UInt8.ofNat (48 + c / 10), UInt8.ofNat (48 + c % 10)]
end Go.Proofs.YtjgmbjfijpmhdaaGreatDoor
/- Contract of money.Text: a minus, if it is below 0; whole hundreds; a point; two digits; for every amount. -/
namespace Go.Proofs.YtjgmbjfijpmhdaaGreatDoor
open Go.RowKit Go.Lib
set_option linter.unusedVariables false
set_option linter.unusedSimpArgs false
end Go.Proofs.YtjgmbjfijpmhdaaGreatDoor
/- Contracts of money.guess and money.Parse, for every string. -/
namespace Go.Proofs.YtjgmbjfijpmhdaaGreatDoor
open Go.RowKit Go.Lib
set_option linter.unusedVariables false
set_option linter.unusedSimpArgs false
end Go.Proofs.YtjgmbjfijpmhdaaGreatDoor
/- Contract of law 2 Awake. -/
namespace Go.Proofs.YtjgmbjfijpmhdaaGreatDoor
open Go.RowKit Go.Lib
set_option linter.unusedVariables false
set_option linter.unusedSimpArgs false
end Go.Proofs.YtjgmbjfijpmhdaaGreatDoor

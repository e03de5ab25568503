/- Law 12's statements in the rows' order of arguments. -/
import Derived.Test.YtafmakhhdinknaaGreatDoorLxj
import Derived.Test.YtafmakhhdinknaaGreatDoorLxh
import Derived.Test.YtafmakhhdinknaaGreatDoorLxk
import Derived.Test.YtafmakhhdinknaaGreatDoorLxr
import Derived.Test.YtafmakhhdinknaaGreatDoorChall
import Derived.Test.YtafmakhhdinknaaGreatDoorNall
import Derived.Test.YtafmakhhdinknaaGreatDoorJall
import Derived.Test.YtafmakhhdinknaaGreatDoorIall
import Derived.Test.YtafmakhhdinknaaGreatDoorUall
import Derived.Test.YtafmakhhdinknaaGreatDoorVpk
import Derived.Test.YtafmakhhdinknaaGreatDoorKall
import Derived.Test.YtafmakhhdinknaaGreatDoorPall
import Derived.Test.YtafmakhhdinknaaGreatDoorGall
namespace Go.Proofs.YtafmakhhdinknaaGreatDoor
open Go.RowKit
set_option linter.unusedVariables false
theorem awake12 (w : World) (hI : InI w) : Calls Tryz.prog 7 #[] w fun e w' => e = .returned (.bool true) ∧ Below w.heap.size w w' :=
  awake12_any dayC lexC (fun w hI => awake11_any allotC dayC keyC unitC calC entryC bookC codecC w hI) w hI
theorem lexsplits_row (s : ByteArray) (w : World) (hI : InI w) (hs : s.size ≤ 9223372036854775807) : Calls Tryz.prog 3 #[.string s] w fun e w' => e = .returned (.bool true) ∧ Below w.heap.size w w' := lexsplits_any dayC lexC awake12 s w hI hs
theorem lexjoins_row (a b : ByteArray) (w : World) (hI : InI w) (ha : a.size ≤ 9223372036854775807) (hb : b.size ≤ 9223372036854775807) : Calls Tryz.prog 4 #[.string a, .string b] w fun e w' => e = .returned (.bool true) ∧ Below w.heap.size w w' := lexjoins_any dayC lexC awake12 a b w hI ha hb
theorem lexlong_row (n : Int) (w : World) (hI : InI w) (hn : (Lit.int .u8 n).wf = true) : Calls Tryz.prog 5 #[.int .u8 n] w fun e w' => e = .returned (.bool true) ∧ Below w.heap.size w w' := by
  obtain ⟨k, rfl, hk⟩ := u8_nat hn
  exact lexlong_any dayC lexC repC awake12 k w hI hk
theorem lexagain_row (s : ByteArray) (w : World) (hI : InI w) (hs : s.size ≤ 9223372036854775807) : Calls Tryz.prog 6 #[.string s] w fun e w' => e = .returned (.bool true) ∧ Below w.heap.size w w' := lexagain_any dayC lexC awake12 s w hI hs
end Go.Proofs.YtafmakhhdinknaaGreatDoor

/- Law 4's statements of the landed day, in the rows' order of arguments. -/
import Derived.Test.YtibipjncpojifaaDoorKz
import Derived.Test.YtibipjncpojifaaDoorPf
import Derived.Test.YtibipjncpojifaaDoorKe
import Derived.Test.YtibipjncpojifaaDoorKg
import Derived.Test.YtibipjncpojifaaDoorKh
namespace Go.Proofs.YtibipjncpojifaaDoor
open Go.RowKit
set_option linter.unusedVariables false
theorem dayof_row (y m d : Int) (w : World) (hI : InI w) (wy : (Lit.int .i16 y).wf = true) (wm : (Lit.int .i16 m).wf = true) (wd : (Lit.int .i16 d).wf = true) :
    Calls Tryd.prog 3 #[.int .i16 y, .int .i16 m, .int .i16 d] w fun e w' => e = .returned (.bool true) ∧ Below w.heap.size w w' := dayof_any allotC dayC y m d w hI wy wm wd
theorem daydates_row (n : Int) (b : Bool) (w : World) (hI : InI w) (hn : (Lit.int .i32 n).wf = true) :
    Calls Tryd.prog 4 #[.int .i32 n, .bool b] w fun e w' => e = .returned (.bool true) ∧ Below w.heap.size w w' := daydates_any allotC dayC n b w hI hn
theorem dayparses_row (s : ByteArray) (w : World) (hI : InI w) (hs : s.size ≤ 9223372036854775807) :
    Calls Tryd.prog 5 #[.string s] w fun e w' => e = .returned (.bool true) ∧ Below w.heap.size w w' := by
  have e : s = ⟨s.data.toList.toArray⟩ := by
    apply ByteArray.ext
    simp
  have h := dayparses_any allotC dayC s.data.toList w hI (by simpa using hs)
  rw [← e] at h
  exact h
theorem daynext_row (n p : Int) (w : World) (hI : InI w) (hn : (Lit.int .i32 n).wf = true) (hp : (Lit.int .u16 p).wf = true) :
    Calls Tryd.prog 6 #[.int .i32 n, .int .u16 p] w fun e w' => e = .returned (.bool true) ∧ Below w.heap.size w w' := daynext_any allotC dayC n p w hI hn hp
theorem dayages_row (y m d : Int) (w : World) (hI : InI w) (hy : (Lit.int .u16 y).wf = true) (hm : (Lit.int .u8 m).wf = true) (hd : (Lit.int .u8 d).wf = true) :
    Calls Tryd.prog 7 #[.int .u16 y, .int .u8 m, .int .u8 d] w fun e w' => e = .returned (.bool true) ∧ Below w.heap.size w w' := dayages_any allotC dayC y m d w hI hy hm hd
end Go.Proofs.YtibipjncpojifaaDoor

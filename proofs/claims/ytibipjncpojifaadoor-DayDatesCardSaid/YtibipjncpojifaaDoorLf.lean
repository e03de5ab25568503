/- What the listed tables of a row give, wherever they stand on its list: the powers of ten, the months' lengths. -/
import Derived.Test.YtibipjncpojifaaDoorLc
import Derived.Test.YtibipjncpojifaaDoorKz
namespace Go.Proofs.YtibipjncpojifaaDoor
open Go.ChangeShapes Go.WideShapes Go.ChangeAt Go.RowKit Go.Joins
set_option linter.unusedVariables false
set_option linter.unusedSimpArgs false
theorem laid_drop {P : Program} {W : World} : ∀ (n : Nat) {l : List (String × DataW Unit)}, laidMet P l W → laidMet P (l.drop n) W
  | 0, _, h => h
  | _ + 1, [], h => h
  | n + 1, _ :: _, h => laid_drop n h.tail
theorem lenData {H : Type} : (Rows.laid_transposal_day_lengths : DataW H) = Lib.tabData .i64 lens := by rfl
theorem len_of_head {W : World} {r : List (String × DataW Unit)} (h : laidMet Tryd.prog (("transposal/day.lengths", Rows.laid_transposal_day_lengths) :: r) W) : LenTab W := by
  rw [lenData] at h
  exact Lib.tabIs_of_head (g := 0) (t := 50) (e := 3) (n := 12) (by kernel_rfl) (by kernel_rfl) Tryd.underlying50 Tryd.underlying3 (by kernel_rfl) (by kernel_rfl) h
theorem ini_of {W : World} {l : List (String × DataW Unit)} (hn : (l.all fun x => x.2.handleName?.isNone) = true) (h : laidMetH Tryd.prog l W) (i j : Nat) {r1 r2 : List (String × DataW Unit)}
    (e1 : l.drop i = ("internal/strconv.uint64pow10", Rows.laid_internal_strconv_uint64pow10) :: r1) (e2 : l.drop j = ("transposal/day.lengths", Rows.laid_transposal_day_lengths) :: r2) : InI W := by
  rw [MakeChecks.laidMetH_plain _ _ _ hn] at h
  have h1 := laid_drop i h
  have h2 := laid_drop j h
  rw [e1] at h1
  rw [e2] at h2
  have hp := pow_of_tail h1
  exact inI hp hp.size (len_of_head h2)
end Go.Proofs.YtibipjncpojifaaDoor

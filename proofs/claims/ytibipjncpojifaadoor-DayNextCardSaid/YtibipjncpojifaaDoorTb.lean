/- Contract of money.Text: a minus, if it is below 0; whole hundreds; a point; two digits; for every amount. -/
import Derived.Test.YtibipjncpojifaaDoorFa
import Derived.Test.YtibipjncpojifaaDoorTa
import Derived.Test.YtibipjncpojifaaDoorWa
namespace Go.Proofs.YtibipjncpojifaaDoor
open Go.RowKit Go.Lib
set_option linter.unusedVariables false
set_option linter.unusedSimpArgs false
set_option maxRecDepth 100000 in
theorem bytes_tail (b : UInt8) (l : List UInt8) : (⟨(b :: l).toArray⟩ : ByteArray).extract 1 (⟨(b :: l).toArray⟩ : ByteArray).size = ⟨l.toArray⟩ := by
  apply ByteArray.ext
  apply Array.ext'
  rw [Lib.extract_data]
  have e : (⟨(b :: l).toArray⟩ : ByteArray).size = l.length + 1 := by simp [ByteArray.size]
  rw [e]
  simp
set_option maxRecDepth 100000 in
theorem cents_slice (c : Nat) (h : c < 100) (w : World) :
    (Instr.slice 9 (.string ⟨(Lib.decDigits (100 + c)).toArray⟩) (some (.int .i64 1)) none none).run Tryd.prog w = .ok (.string ⟨(two c).toArray⟩) w := by
  rw [hundred_two c h, run_slice_string_l w 9 _ Tryd.underlying9 .i64 1 (by decide) (by simp [ByteArray.size]; omega), ← bytes_tail 49 (two c)]
  rfl
set_option maxRecDepth 100000 in
theorem fmt_int (x : Int) (u : Nat) (hx : x = u) (w : World) (hu64 : u < 18446744073709551616) (htab : Pow w) :
    Calls Tryd.prog 47 #[.int .u64 x, .int .i64 10] w fun e w' => e = .returned (.string ⟨(Lib.decDigits u).toArray⟩) ∧ Below w.heap.size w w' := by
  subst hx; exact fmt_pub u w hu64 htab
set_option maxRecDepth 100000 in
theorem size_int (n : Int) (u : Nat) (hu : n.natAbs = u) (w : World) (hn : (Lit.int .i64 n).wf = true) :
    Calls Tryd.prog 31 #[.int .i64 n] w fun e w' => e = .returned (.int .u64 u) ∧ w = w' := by
  subst hu; exact size_any n w hn
set_option maxRecDepth 100000 in
set_option maxHeartbeats 1000000 in
theorem text_any (n : Int) (w : World) (hn : (Lit.int .i64 n).wf = true) (htab : Pow w) (hw : 1 < w.heap.size) :
    Calls Tryd.prog 36 #[.int .i64 n] w fun e w' => e = .returned (.string ⟨(textL n).toArray⟩) ∧ Below w.heap.size w w' := by
  have hb := wf_bd_i64 hn
  have hc : n.natAbs % 100 < 100 := by omega
  have hp := @textL_pos n
  have hm := @textL_neg n
  generalize hu : n.natAbs = u at *
  have hu64 : u < 18446744073709551616 := by omega
  have hsl := cents_slice (u % 100) hc
  have c1 := fun (w' : World) (h : Pow w') => fmt_int (100 + (u : Int) % 100) (100 + u % 100) (by omega) w' (by omega) h
  have c2 := fun (w' : World) (h : Pow w') => fmt_int ((u : Int) / 100) (u / 100) (by omega) w' (by omega) h
  have A1 := bytes_app (Lib.decDigits (u / 100)) [46]
  have A2 := bytes_app (Lib.decDigits (u / 100) ++ [46]) (two (u % 100))
  have L1 : (Lib.decDigits (u / 100)).length ≤ 20 := by rw [Lib.decDigits_length]; exact Lib.nDigits_le20 _ (by omega)
  have L2 : (two (u % 100)).length = 2 := rfl
  by_cases h0 : n < 0
  · have hm' := hm h0
    clear hp hm
    have A3 : (⟨#[45]⟩ : ByteArray) ++ ⟨(Lib.decDigits (u / 100) ++ 46 :: two (u % 100)).toArray⟩ = ⟨(textL n).toArray⟩ := by
      rw [hm']; exact bytes_app [45] _
    go_enter Tryd.func36, Tryd.ntmps36
    go_wp2_with (first | (go_at_call 31; refine (size_int n u hu _ hn).mono ?_; rintro e w1 ⟨rfl, rfl⟩) | (go_at_call 47; (first | (refine (c1 _ htab).mono ?_; rintro e w1 ⟨rfl, hb1⟩; have ht1 := htab.stay hw hb1) | (refine (c2 _ ht1).mono ?_; rintro e w2 ⟨rfl, hb2⟩))))
    go_ret
    exact ⟨by rw [hm']; rfl, hb1.trans (hb2.mono hb1.size)⟩
  · have hp' := hp h0
    clear hm hp
    go_enter Tryd.func36, Tryd.ntmps36
    go_wp2_with (first | (go_at_call 31; refine (size_int n u hu _ hn).mono ?_; rintro e w1 ⟨rfl, rfl⟩) | (go_at_call 47; (first | (refine (c1 _ htab).mono ?_; rintro e w1 ⟨rfl, hb1⟩; have ht1 := htab.stay hw hb1) | (refine (c2 _ ht1).mono ?_; rintro e w2 ⟨rfl, hb2⟩))))
    go_ret
    exact ⟨by rw [hp']; rfl, hb1.trans (hb2.mono hb1.size)⟩
end Go.Proofs.YtibipjncpojifaaDoor

/- The walk of the law WideMuls. -/
import Derived.Test.YthgkfgjdlpjnmaaWf
import Derived.Test.YthgkfgjdlpjnmaaYd
import Derived.Deep.MidRow
namespace Go.Proofs.Ythgkfgjdlpjnmaa
open Go.RowKit
set_option linter.unusedVariables false
set_option linter.unusedSimpArgs false
theorem keepR {w0 w w1 : World} {A b : Nat} {cs : List Value} (h : w.rangeAt b 0 cs ∧ b < w.heap.size ∧ Below A w0 w) (hb : Below w.heap.size w w1) (hA : A ≤ b) :
    w1.rangeAt b 0 cs ∧ b < w1.heap.size ∧ Below A w0 w1 := by
  obtain ⟨h1, h2, h3⟩ := h
  refine ⟨fun j v hv => ?_, Nat.lt_of_lt_of_le h2 hb.size, h3.trans (hb.mono (by omega))⟩
  rw [hb.cell h2]; exact h1 j v hv
theorem IsArr.range {w : World} {b : Nat} {f : Nat → Int} (h : IsArr w b f) : w.rangeAt b 0 (arr f).toList := fun j v hv => by
  rw [Nat.zero_add, cell_of_row w b j _ _ _ h]; simpa using hv
theorem infoList (f : Nat → Int) : (Try.prog.info? 28).map (·.size) = some (arr f).toList.length := by rw [Array.length_toList]; exact infoArr f
set_option maxRecDepth 100000 in
set_option maxHeartbeats 8000000 in
theorem widemuls_neg (a b : Int) (w : World) (wa : (Lit.int .i64 a).wf = true) (wb : (Lit.int .i64 b).wf = true) (hb : b < 0) (q1 : IntKind.u64.wrap (-IntKind.u64.wrap b) = b.natAbs) (q2 : -a * (b.natAbs : Int) = a * b) :
    Calls Try.prog 4 #[.int .i64 a, .int .i64 b] w fun e w' => e = .returned (.bool true) ∧ Below w.heap.size w w' := by
  have h1 := of_hi wa
  have h2 := u64_lo a
  have wn := abs_wf wb
  have hza := zeroArr
  go_enter Try.func4, Try.ntmps4
  go_wp2_with (first
    | (go_at_call 11; refine (awake_any _).mono ?_; rintro e w1 ⟨rfl, hb1⟩)
    | (go_at_call 15; refine (lbits_any a _).mono ?_; rintro e w2 ⟨rfl, hb2⟩; have A2 := Lib.hid (IsArr.new w2 (fun _ => 0)); have A3 := Lib.hid (A2.out.setRow (bitZ a)))
    | refine wpList_store_row rfl 28 _ _ rfl w2.heap.size _ rfl rfl 28 _ A2.out (infoArr _) (by rw [arr_size, arr_size]) (arr_one _) ?_
    | refine wpList_load_row rfl 28 _ rfl w2.heap.size rfl 28 _ (0, 0) _ A3.out Try.underlying28 rfl (infoArr _) ?_
    | (go_at_call 17; refine (rneg_any a _).mono ?_; rintro e w3 ⟨rfl, hb3⟩; have A4 := Lib.hid (A3.out.below hb3))
    | refine wpList_store_row rfl 28 _ _ rfl w2.heap.size _ rfl rfl 28 _ A4.out (infoArr _) (by rw [arr_size, arr_size]) (arr_one _) ?_)
  have A5 := A4.out.setRow (bitZ (-a))
  have hlt : w2.heap.size < ((w2.alloc (.cells (arr fun _ => 0) 28)).setRow w2.heap.size (arr (bitZ a))).heap.size := by simp
  have hS0 : (w3.setRow w2.heap.size (arr (bitZ (-a)))).drew.rangeAt w2.heap.size 0 (arr (bitZ (-a))).toList ∧ w2.heap.size < (w3.setRow w2.heap.size (arr (bitZ (-a)))).drew.heap.size ∧ Below w.heap.size w (w3.setRow w2.heap.size (arr (bitZ (-a)))).drew :=
    ⟨(World.rangeAt_drew _ _ _ _).2 A5.range, A5.lt, (below_setRow ((below_setRow (((hb1.trans (hb2.mono hb1.size))).alloc (Nat.le_trans hb1.size hb2.size) _) (Nat.le_trans hb1.size hb2.size) _).trans (hb3.mono (Nat.le_trans (Nat.le_trans hb1.size hb2.size) (Nat.le_of_lt hlt)))) (Nat.le_trans hb1.size hb2.size) _).drew⟩
  have HL := Lib.hid (Nat.le_trans hb1.size hb2.size)
  clear A2 A3 A4 A5 hlt hza
  have hu := Try.underlying28
  have hi := infoList (bitZ (-a))
  go_region_held3 (fun w' => w'.rangeAt w2.heap.size 0 (arr (bitZ (-a))).toList ∧ w2.heap.size < w'.heap.size ∧ Below w.heap.size w w')
    (first | assumption)
    (first
      | (go_at_call 19; refine (mul_any _ _ _ wa wb).mono ?_; rintro e w4 ⟨rfl, hb4⟩; have hS2 := keepR (by assumption) hb4 HL.out)
      | (go_at_call 20; refine (rmul_any _ _ _ wn).mono ?_; rintro e w4 ⟨rfl, hb4⟩; have hS2 := keepR (by assumption) hb4 HL.out)
      | (go_at_call 21; refine (size_any _ _ wb).mono ?_; rintro e w4 ⟨rfl, rfl⟩)
      | (go_at_call 22; refine (of_any _ _ wa).mono ?_; rintro e w4 ⟨rfl, hb4⟩; have hS2 := keepR (by assumption) hb4 HL.out)
      | (go_at_call 23; refine (bits_any _ _).mono ?_; rintro e w4 ⟨rfl, hb4⟩; have hS2 := keepR (by assumption) hb4 HL.out)
      | (go_at_call 12; refine (is_same _ _).mono ?_; rintro e w4 ⟨rfl, hb4⟩; have hS2 := keepR (by assumption) hb4 HL.out))
  go_wp2
  go_ret
  exact ⟨rfl, hS2.2.2⟩
set_option maxRecDepth 100000 in
set_option maxHeartbeats 8000000 in
theorem widemuls_pos (a b : Int) (w : World) (wa : (Lit.int .i64 a).wf = true) (wb : (Lit.int .i64 b).wf = true) (hb : 0 ≤ b) (q1 : IntKind.u64.wrap b = b.natAbs) (q2 : a * (b.natAbs : Int) = a * b) :
    Calls Try.prog 4 #[.int .i64 a, .int .i64 b] w fun e w' => e = .returned (.bool true) ∧ Below w.heap.size w w' := by
  have h1 := of_hi wa
  have h2 := u64_lo a
  have wn := abs_wf wb
  have hza := zeroArr
  go_enter Try.func4, Try.ntmps4
  go_wp2_with (first
    | (go_at_call 11; refine (awake_any _).mono ?_; rintro e w1 ⟨rfl, hb1⟩)
    | (go_at_call 15; refine (lbits_any a _).mono ?_; rintro e w2 ⟨rfl, hb2⟩; have A2 := Lib.hid (IsArr.new w2 (fun _ => 0)); have A3 := Lib.hid (A2.out.setRow (bitZ a)))
    | refine wpList_store_row rfl 28 _ _ rfl w2.heap.size _ rfl rfl 28 _ A2.out (infoArr _) (by rw [arr_size, arr_size]) (arr_one _) ?_)
  have A5 := A3.out
  have hS0 : ((w2.alloc (.cells (arr fun _ => 0) 28)).setRow w2.heap.size (arr (bitZ a))).drew.rangeAt w2.heap.size 0 (arr (bitZ a)).toList ∧ w2.heap.size < ((w2.alloc (.cells (arr fun _ => 0) 28)).setRow w2.heap.size (arr (bitZ a))).drew.heap.size ∧ Below w.heap.size w ((w2.alloc (.cells (arr fun _ => 0) 28)).setRow w2.heap.size (arr (bitZ a))).drew :=
    ⟨(World.rangeAt_drew _ _ _ _).2 A5.range, A5.lt, (below_setRow (((hb1.trans (hb2.mono hb1.size))).alloc (Nat.le_trans hb1.size hb2.size) _) (Nat.le_trans hb1.size hb2.size) _).drew⟩
  have HL := Lib.hid (Nat.le_trans hb1.size hb2.size)
  clear A2 A3 A5 hza
  have hu := Try.underlying28
  have hi := infoList (bitZ a)
  go_region_held3 (fun w' => w'.rangeAt w2.heap.size 0 (arr (bitZ a)).toList ∧ w2.heap.size < w'.heap.size ∧ Below w.heap.size w w')
    (first | assumption)
    (first
      | (go_at_call 19; refine (mul_any _ _ _ wa wb).mono ?_; rintro e w4 ⟨rfl, hb4⟩; have hS2 := keepR (by assumption) hb4 HL.out)
      | (go_at_call 20; refine (rmul_any _ _ _ wn).mono ?_; rintro e w4 ⟨rfl, hb4⟩; have hS2 := keepR (by assumption) hb4 HL.out)
      | (go_at_call 21; refine (size_any _ _ wb).mono ?_; rintro e w4 ⟨rfl, rfl⟩)
      | (go_at_call 22; refine (of_any _ _ wa).mono ?_; rintro e w4 ⟨rfl, hb4⟩; have hS2 := keepR (by assumption) hb4 HL.out)
      | (go_at_call 23; refine (bits_any _ _).mono ?_; rintro e w4 ⟨rfl, hb4⟩; have hS2 := keepR (by assumption) hb4 HL.out)
      | (go_at_call 12; refine (is_same _ _).mono ?_; rintro e w4 ⟨rfl, hb4⟩; have hS2 := keepR (by assumption) hb4 HL.out))
  go_wp2
  go_ret
  exact ⟨rfl, hS2.2.2⟩
theorem widemuls_any (a b : Int) (w : World) (wa : (Lit.int .i64 a).wf = true) (wb : (Lit.int .i64 b).wf = true) :
    Calls Try.prog 4 #[.int .i64 a, .int .i64 b] w fun e w' => e = .returned (.bool true) ∧ Below w.heap.size w w' := by
  by_cases hb : b < 0
  · exact widemuls_neg a b w wa wb hb (size_neg wb hb) (by rw [abs_neg hb, Int.neg_mul_neg])
  · exact widemuls_pos a b w wa wb (by omega) (size_pos wb (by omega)) (by rw [abs_pos hb])
end Go.Proofs.Ythgkfgjdlpjnmaa

/- Contracts of the document's answer for layer 1: Bits. -/
import Derived.Test.YtkeicflmbhokhaaDoorMd
import Derived.Test.YtkeicflmbhokhaaDoorWb
import Derived.LoopTactic
import Derived.Laws.Rows
import Derived.Laws.Tables
namespace Go.Proofs.YtkeicflmbhokhaaDoor
open Go.RowKit
set_option linter.unusedVariables false
set_option linter.unusedSimpArgs false
/-- A block that is an array of 128 numbers. -/
def IsArr (w : World) (b : Nat) (f : Nat → Int) : Prop := w.heap[b]? = some (.cells (arr f) 64 (0, 0))
theorem zeroArr (w : World) : (zeroValue 64).run Tryd.prog w = .ok (.agg (arr fun _ => 0)) w := by kernel_rfl
theorem infoArr0 : (Tryd.prog.info? 64).map (·.size) = some 128 := by kernel_rfl
theorem infoArr (f : Nat → Int) : (Tryd.prog.info? 64).map (·.size) = some (arr f).size := by rw [arr_size]; exact infoArr0
theorem IsArr.cell {w : World} {b : Nat} {f : Nat → Int} (h : IsArr w b f) {j : Nat} (hj : j < 128) : w.cell? ⟨b, j, none⟩ = some (.int .i64 (f j)) := by
  rw [cell_of_row w b j _ _ _ h]; exact arr_get hj
theorem IsArr.frozen {w : World} {b : Nat} {f : Nat → Int} (h : IsArr w b f) (j : Nat) : w.frozen? ⟨b, j, none⟩ = false := frozen_of_row w b j _ _ h
theorem IsArr.set {w : World} {b : Nat} {f : Nat → Int} (h : IsArr w b f) (j : Nat) (x : Int) : IsArr (w.setCell ⟨b, j, none⟩ (.int .i64 x)) b (fun i => if i = j then x else f i) := by
  unfold IsArr; rw [heap_setCell_same w b j _ _ _ h, arr_set]
theorem IsArr.setOther {w : World} {b : Nat} {f : Nat → Int} (h : IsArr w b f) (a : Addr) (hne : b ≠ a.block) (v : Value) : IsArr (w.setCell a v) b f := by
  unfold IsArr; rw [heap_setCell_other w a b v hne]; exact h
theorem IsArr.lt {w : World} {b : Nat} {f : Nat → Int} (h : IsArr w b f) : b < w.heap.size := (Array.getElem?_eq_some_iff.1 h).1
theorem IsArr.congr {w : World} {b : Nat} {f g : Nat → Int} (h : IsArr w b f) (e : ∀ j, j < 128 → f j = g j) : IsArr w b g := by unfold IsArr; rw [← arr_congr e]; exact h
theorem IsArr.new (w : World) (f : Nat → Int) : IsArr (w.alloc (.cells (arr f) 64)) w.heap.size f := heap_alloc_new w _
theorem IsArr.new1 (w : World) (o : Obj) (f : Nat → Int) : IsArr ((w.alloc o).alloc (.cells (arr f) 64)) (w.heap.size + 1) f := by
  have := IsArr.new (w.alloc o) f
  rwa [World.size_alloc] at this
theorem IsArr.new2 (w : World) (o o' : Obj) (f : Nat → Int) : IsArr (((w.alloc o).alloc o').alloc (.cells (arr f) 64)) (w.heap.size + 1 + 1) f := by
  have := IsArr.new ((w.alloc o).alloc o') f
  rwa [World.size_alloc, World.size_alloc] at this
theorem IsArr.alloc {w : World} {b : Nat} {f : Nat → Int} (h : IsArr w b f) (o : Obj) : IsArr (w.alloc o) b f := by
  unfold IsArr; rw [Below.heap_alloc w o b h.lt]; exact h
theorem IsArr.below {w w' : World} {b : Nat} {f : Nat → Int} (h : IsArr w b f) (hb : Below w.heap.size w w') : IsArr w' b f := by
  unfold IsArr; rw [hb.block b h.lt]; exact h
theorem IsArr.setRow {w : World} {b : Nat} {f : Nat → Int} (h : IsArr w b f) (g : Nat → Int) : IsArr (w.setRow b (arr g)) b g := setRow_heap w b _ _ _ _ h
theorem IsArr.setRowOther {w : World} {b c : Nat} {f : Nat → Int} (h : IsArr w b f) (hne : b ≠ c) (cs : Array Value) : IsArr (w.setRow c cs) b f := by
  unfold IsArr; rw [setRow_other w c b cs hne]; exact h
theorem below_setRow {B : Nat} {a w : World} (h : Below B a w) {g : Nat} (hg : B ≤ g) (cs : Array Value) : Below B a (w.setRow g cs) :=
  h.trans ⟨rfl, rfl, rfl, by simp, fun k hk => setRow_other w g k cs (by omega)⟩
/-- Bits in the making: k of the low half, k of the high one. -/
def mkBits (h l : Int) (k j : Nat) : Int := if j < k then l / 2 ^ j % 2 else if 64 ≤ j ∧ j < 64 + k then h / 2 ^ (j - 64) % 2 else 0
theorem mkBits_step (h l : Int) (k : Nat) (hk : k < 64) (j : Nat) : (if j = 64 + k then h / 2 ^ k % 2 else if j = k then l / 2 ^ k % 2 else mkBits h l k j) = mkBits h l (k + 1) j := by
  unfold mkBits
  by_cases h1 : j = 64 + k
  · subst h1
    rw [if_pos rfl, if_neg (by omega : ¬ 64 + k < k + 1), if_pos (by omega : 64 ≤ 64 + k ∧ 64 + k < 64 + (k + 1)), show 64 + k - 64 = k by omega]
  · rw [if_neg h1]
    by_cases h2 : j = k
    · subst h2; rw [if_pos rfl, if_pos (by omega : j < j + 1)]
    · rw [if_neg h2]
      by_cases h3 : j < k
      · rw [if_pos h3, if_pos (by omega : j < k + 1)]
      · rw [if_neg h3, if_neg (by omega : ¬ j < k + 1)]
        by_cases h4 : 64 ≤ j ∧ j < 64 + k
        · rw [if_pos h4, if_pos (by omega : 64 ≤ j ∧ j < 64 + (k + 1))]
        · rw [if_neg h4, if_neg (by omega : ¬ (64 ≤ j ∧ j < 64 + (k + 1)))]
theorem mkBits_zero (h l : Int) (j : Nat) : 0 = mkBits h l 0 j := by
  unfold mkBits; rw [if_neg (by omega), if_neg (by omega)]
theorem quo_pow_nonneg {x : Int} (h : 0 ≤ x) (k : Nat) : 0 ≤ x / 2 ^ k := Int.ediv_nonneg h (Int.le_of_lt (Int.pow_pos (by omega)))
set_option maxHeartbeats 1000000 in
theorem bits_core (h l : Int) (w : World) (l0 : 0 ≤ l) :
    Calls Tryd.prog 37 #[.int .i64 h, .int .u64 l] w fun e w' => e = .returned (.agg (arr (mkBits (IntKind.u64.wrap h) l 64))) ∧ Below w.heap.size w w' := by
  have hza := zeroArr
  go_enter Tryd.func37, Tryd.ntmps37
  go_wp2
  go_loopw [6] (fun i wr => ∃ k : Nat, k ≤ 64 ∧ i = .int .i64 k ∧ IsArr wr w.heap.size (fun _ => 0) ∧ IsArr wr (w.heap.size + 1) (mkBits (IntKind.u64.wrap h) l k) ∧ Below w.heap.size w wr) (fun i _ => (64 - (intOf i)).toNat)
  case atStart =>
    refine ⟨0, by omega, rfl, (IsArr.new w _).alloc _, ?_, ((Below.refl _ _).alloc (Nat.le_refl _) _).alloc (by simp) _⟩
    exact IsArr.congr (f := fun _ => 0) (by have := IsArr.new (w.alloc (.cells (arr fun _ => 0) 64)) (fun _ => 0); simpa using this) (fun j _ => mkBits_zero _ _ _)
  case round =>
    obtain ⟨k, hk, rfl, ha0, ha1, hbl⟩ := hrel
    by_cases hz : k < 64
    · have hc0 := ha1.cell (j := k) (by omega)
      have hc1 := ha1.cell (j := 64 + k) (by omega)
      have hf0 := ha1.frozen k
      have hf1 := ha1.frozen (64 + k)
      have HA := Lib.hid ha0
      have HB := Lib.hid ha1
      clear ha0 ha1
      have p0 := quo_pow_nonneg l0 k
      have p1 := quo_pow_nonneg (wrap_u64_nonneg h) k
      go_wp2
      go_roundw
      case rel =>
        refine ⟨k + 1, by omega, by go_num, (HA.out.setOther _ (by simp) _).setOther _ (by simp) _, ?_, (hbl.setCell (by simp) _).setCell (by simp) _⟩
        exact ((HB.out.set _ _).set _ _).congr fun j _ => mkBits_step _ _ k hz j
      case measure => simp [intOf]; omega
    · obtain rfl : k = 64 := by omega
      have HA := Lib.hid ha0
      have HB := Lib.hid ha1
      clear ha0 ha1
      go_wp2_with (first
        | refine wpList_load_row rfl 64 _ rfl (w.heap.size + 1) rfl 64 _ (0, 0) _ HB.out Tryd.underlying64 rfl (infoArr _) ?_
        | refine wpList_store_row rfl 64 _ _ rfl w.heap.size _ rfl rfl 64 _ HA.out (infoArr _) (by rw [arr_size, arr_size]) (arr_one _) ?_)
      exact bodyPost_ret (v := .agg (arr (mkBits (IntKind.u64.wrap h) l 64))) (results_cell_row Tryd.results37 _ _ w.heap.size 64 _ (0, 0) _ rfl (HA.out.setRow _) Tryd.underlying64 rfl (infoArr _)) rfl ⟨rfl, below_setRow hbl (Nat.le_refl _) _⟩
end Go.Proofs.YtkeicflmbhokhaaDoor

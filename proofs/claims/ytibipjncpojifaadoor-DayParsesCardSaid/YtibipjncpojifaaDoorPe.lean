/- Contracts of slices.SortStableFunc at a few parts, and of share's byRests: the parts in the order of their rests. -/
import Derived.Test.YtibipjncpojifaaDoorPa
import Derived.Test.YtibipjncpojifaaDoorPc
import Derived.Test.YtibipjncpojifaaDoorShelf
import Derived.Sort.Grow
namespace Go.Proofs.YtibipjncpojifaaDoor
open Go.RowKit
set_option linter.unusedVariables false
set_option linter.unusedSimpArgs false
/-- A part as a value. -/
def encF {m : Nat} (x : Fin (m + 1)) : Value := .int .i64 (x.val : Int)
/-- byRests' closure, bound to the variable that holds the rests. -/
def cloV (BX : Nat) : Value := .func (.func 44) #[] #[.pointer (some ⟨BX, 0, none⟩)]
theorem ins_any (BX B G n m : Nat) (R : Nat → Nat) (w : World) (hn : n = m + 1) (h8 : n ≤ 8) (hX : w.cell? ⟨BX, 0, none⟩ = some (.slice (some ⟨B, 0, none⟩) n n))
    (hR : ∀ t, t < n → w.cell? ⟨B, t, none⟩ = some (.int .u64 (R t : Nat))) (hXG : BX ≠ G) (hBG : B ≠ G) (hBX : BX < w.heap.size) (hB : B < w.heap.size) (hG : w.rowIs G 3 n (fun t => .int .i64 (t : Int))) :
    Calls Tryd.prog 65 #[.slice (some ⟨G, 0, none⟩) n n, .int .i64 0, .int .i64 (n : Int), .func (.func 44) #[] #[.pointer (some ⟨BX, 0, none⟩)]] w fun e w' =>
      e = .returned (.tuple #[]) ∧ ∃ p, Ordered R n p ∧ (∀ k, k < n → w'.cell? ⟨G, k, none⟩ = some (.int .i64 (p k : Nat))) ∧ Below G w w' := by
  subst hn
  have hH : Sort.Holds (encF (m := m)) w G 0 (parts m) := fun j hj => by
    rw [parts_size] at hj
    rw [parts_get m j hj, Nat.zero_add]
    exact ⟨hG.cell hj, hG.frozen j⟩
  have hcmp : CmpReads Tryd.prog 44 #[.pointer (some ⟨BX, 0, none⟩)] (encF (m := m)) (fun x y => cmpI (R y.val) (R x.val)) G 0 (parts m).size w := by
    intro q os dk hs x y
    refine closure_any BX B (m + 1) R x.val y.val _ h8 x.isLt y.isLt ?_ ?_
    · unfold sortWorld
      rw [Sort.cell?_grow _ _ _ (by rw [Sort.size_putRow]; exact hBX), Sort.cell?_putRow_other _ _ _ _ _ _ (.inl hXG)]
      exact hX
    · intro t ht
      unfold sortWorld
      rw [Sort.cell?_grow _ _ _ (by rw [Sort.size_putRow]; exact hB), Sort.cell?_putRow_other _ _ _ _ _ _ (.inl hBG)]
      exact hR t ht
  have eg : ∀ args w, (callFunc 44 args).run Tryd.prog w = .ok (.enter 44 args) w := enters_of Tryd.func44 (by kernel_rfl) rfl
  have h := Any.insertionSortCmpFunc_one Tryd.ins (encF (m := m)) (fun _ => rfl) (fun x y => cmpI (R y.val) (R x.val)) 44 #[.pointer (some ⟨BX, 0, none⟩)] G 0 (m + 1) 0 (m + 1) (parts m) w eg hcmp hH (by omega) (by rw [parts_size]; omega) (by rw [parts_size]; omega)
  rw [parts_size] at h
  obtain ⟨ho, hs⟩ := sorted_ordered R m (ltOf (fun x y => cmpI (R y.val) (R x.val))) (fun x y => by
    show decide ((if R y.val < R x.val then (-1 : Int) else if R x.val < R y.val then 1 else 0) < 0) = _
    by_cases h1 : R y.val < R x.val
    · rw [if_pos h1]; simp [h1]
    · rw [if_neg h1]
      have : decide (R y.val < R x.val) = false := decide_eq_false h1
      rw [this]
      split <;> simp)
  generalize Sort.insertionSort (ltOf (fun x y => cmpI (R y.val) (R x.val))) (parts m) 0 (m + 1) = d at *
  have hH' := Sort.holds_putRow (encF (m := m)) w G 0 (parts m) d hH (hs.trans (parts_size m).symm)
  refine (show Calls Tryd.prog 65 #[.slice (some ⟨G, 0, none⟩) (m + 1) (m + 1), .int .i64 0, .int .i64 ((m + 1 : Nat) : Int), .func (.func 44) #[] #[.pointer (some ⟨BX, 0, none⟩)]] w _ from h).mono ?_
  rintro e w' ⟨rfl, q, rfl⟩
  refine ⟨rfl, _, ho, fun k hk => ?_, rfl, rfl, rfl, ?_, fun k hk => ?_⟩
  · have := (hH' k (by omega)).1
    rw [Nat.zero_add] at this
    exact this
  · show w.heap.size ≤ (Sort.putRow encF w G 0 d).heap.size
    rw [Sort.size_putRow]; exact Nat.le_refl _
  · show (Sort.putRow encF w G 0 d).heap[k]? = w.heap[k]?
    unfold Sort.putRow Sort.mapBlock
    simp only [Array.getElem?_modify]
    rw [if_neg (by omega)]
set_option maxHeartbeats 2000000 in
set_option maxRecDepth 100000 in
theorem stable_any (BX B G n m : Nat) (R : Nat → Nat) (w : World) (hn : n = m + 1) (h8 : n ≤ 8) (hX : w.cell? ⟨BX, 0, none⟩ = some (.slice (some ⟨B, 0, none⟩) n n))
    (hR : ∀ t, t < n → w.cell? ⟨B, t, none⟩ = some (.int .u64 (R t : Nat))) (hXG : BX ≠ G) (hBG : B ≠ G) (hBX : BX < w.heap.size) (hB : B < w.heap.size) (hG : w.rowIs G 3 n (fun t => .int .i64 (t : Int))) :
    Calls Tryd.prog 55 #[.slice (some ⟨G, 0, none⟩) n n, .int .i64 (n : Int), .func (.func 44) #[] #[.pointer (some ⟨BX, 0, none⟩)]] w fun e w' =>
      e = .returned (.tuple #[]) ∧ ∃ p, Ordered R n p ∧ (∀ k, k < n → w'.cell? ⟨G, k, none⟩ = some (.int .i64 (p k : Nat))) ∧ Below G w w' := by
  have hc := Lib.hid (ins_any BX B G n m R w hn h8 hX hR hXG hBG hBX hB hG)
  have e1 : ¬ (20 : Int) ≤ (n : Int) := by omega
  have e2 : ¬ (20 : Int) < (n : Int) := by omega
  clear hX hR hG hXG hBG hBX hB hn h8
  go_enter Tryd.func55, Tryd.ntmps55
  go_wp2
  go_loop [7, 8] (fun a b => a = .int .i64 0 ∧ b = .int .i64 20) (fun _ _ => 0)
  case atStart => exact ⟨rfl, rfl⟩
  case round =>
    obtain ⟨rfl, rfl⟩ := hrel
    go_wp2_with (go_at_call 65; refine hc.out.mono ?_; rintro e w1 ⟨rfl, hp1⟩; have HP := Lib.hid hp1; clear hp1)
    go_loop [6] (fun b => b = .int .i64 20) (fun _ => 0)
    case atStart => rfl
    case round =>
      obtain rfl := hrel
      go_wp2
      go_end0
      exact ⟨rfl, HP.out⟩
set_option maxHeartbeats 1000000 in
theorem sortstable_any (BX B G n m : Nat) (R : Nat → Nat) (w : World) (hn : n = m + 1) (h8 : n ≤ 8) (hX : w.cell? ⟨BX, 0, none⟩ = some (.slice (some ⟨B, 0, none⟩) n n))
    (hR : ∀ t, t < n → w.cell? ⟨B, t, none⟩ = some (.int .u64 (R t : Nat))) (hXG : BX ≠ G) (hBG : B ≠ G) (hBX : BX < w.heap.size) (hB : B < w.heap.size) (hG : w.rowIs G 3 n (fun t => .int .i64 (t : Int))) :
    Calls Tryd.prog 43 #[.slice (some ⟨G, 0, none⟩) n n, .func (.func 44) #[] #[.pointer (some ⟨BX, 0, none⟩)]] w fun e w' =>
      e = .returned (.tuple #[]) ∧ ∃ p, Ordered R n p ∧ (∀ k, k < n → w'.cell? ⟨G, k, none⟩ = some (.int .i64 (p k : Nat))) ∧ Below G w w' := by
  have hc := Lib.hid (stable_any BX B G n m R w hn h8 hX hR hXG hBG hBX hB hG)
  clear hX hR hG hXG hBG hBX hB hn h8
  go_enter Tryd.func43, Tryd.ntmps43
  go_wp2_with (go_at_call 55; refine hc.out.mono ?_; rintro e w1 ⟨rfl, hp1⟩; have HP := Lib.hid hp1; clear hp1)
  go_end0
  exact ⟨rfl, HP.out⟩
theorem rinfoN : (Tryd.prog.info? 3).map (fun i => (i.zero, i.size, i.bytes)) = some (some (.int .i64 0), 1, 8) := by kernel_rfl
set_option maxHeartbeats 2000000 in
set_option maxRecDepth 100000 in
theorem byrests_any (B n : Nat) (R : Nat → Nat) (w : World) (h0 : 0 < n) (h8 : n ≤ 8) (hr : w.rowIs B 55 n (fun t => .int .u64 (R t : Nat))) :
    Calls Tryd.prog 33 #[.slice (some ⟨B, 0, none⟩) n n] w fun e w' =>
      ∃ G, e = .returned (.slice (some ⟨G, 0, none⟩) n n) ∧ w.heap.size ≤ G ∧ G < w'.heap.size ∧ (∃ p, Ordered R n p ∧ (∀ k, k < n → w'.cell? ⟨G, k, none⟩ = some (.int .i64 (p k : Nat)))) ∧ Below w.heap.size w w' := by
  have hB := hr.lt
  have hmk := run_make_row' (P := Tryd.prog) 58 3 (.int .i64 0) 8 Tryd.underlying58 rinfoN rfl .i64 .i64 n (by omega) (by omega)
  have HC := Lib.hid (fun (t : Nat) (ht : t < n) => hr.cell ht)
  have r1 := Lib.hid (fun W : World => World.rowIs_made W (.int .i64 0) n 3)
  have K := Lib.hid (fun (W : World) (m : Nat) (hn : n = m + 1) (hX : W.cell? ⟨w.heap.size, 0, none⟩ = some (.slice (some ⟨B, 0, none⟩) n n)) (hR : ∀ t, t < n → W.cell? ⟨B, t, none⟩ = some (.int .u64 (R t : Nat))) (hs : w.heap.size < W.heap.size) (hG : W.rowIs (w.heap.size + 1) 3 n (fun t => .int .i64 (t : Int))) => sortstable_any w.heap.size B (w.heap.size + 1) n m R W hn h8 hX hR (by omega) (by omega) hs (by omega) hG)
  clear hr
  go_enter Tryd.func33, Tryd.ntmps33
  go_wp2
  clear hmk
  go_loopw [10] (fun i wr => ∃ j : Nat, j ≤ n ∧ i = .int .i64 j ∧ wr.cell? ⟨w.heap.size, 0, none⟩ = some (.slice (some ⟨B, 0, none⟩) n n) ∧ wr.rowIs (w.heap.size + 1) 3 n (fun t => .int .i64 (if t < j then (t : Int) else 0)) ∧ Below w.heap.size w wr) (fun i _ => n - (RowKit.intOf i).toNat)
  case atStart =>
    refine ⟨0, Nat.zero_le _, rfl, by go_simp, ?_, ((Below.refl _ _).alloc (Nat.le_refl _) _).alloc (by simp) _⟩
    have := r1.out (w.alloc (.cells #[.slice (some ⟨B, 0, none⟩) n n] 52))
    rw [World.size_alloc] at this
    exact this.congr (fun t _ => by simp)
  case round =>
    obtain ⟨j, hj, rfl, hX, hrw, hBw⟩ := hrel
    rename World => wr
    by_cases hlt : j < n
    · have f1 := hrw.frozen j
      have c1 := hrw.cell hlt
      have e1 : ∀ t, t ≠ j → (t < j + 1 ↔ t < j) := fun t h => by omega
      have HR := Lib.hid hrw
      have HE := Lib.hid e1
      have HX := Lib.hid hX
      clear hrw e1 hX
      go_wp2
      go_roundw
      case rel =>
        refine ⟨j + 1, by omega, by go_num, ?_, ?_, hBw.setCell (by simp) _⟩
        · rw [World.cell?_of_block (w := wr) (Below.heap_setCell _ _ _ _ (by simp))]
          exact HX.out
        · refine (HR.out.set j _).congr (fun t _ => ?_)
          by_cases h : t = j
          · rw [if_pos h, if_pos (show t < j + 1 by omega), h]
          · rw [if_neg h]; simp only [HE.out t h]
      case measure => simp [RowKit.intOf]; omega
    · obtain rfl : j = n := by omega
      have hlt2 := hrw.lt
      have KK := Lib.hid (K.out wr (j - 1) (by omega) hX (fun t ht => by rw [hBw.cell (p := ⟨B, t, none⟩) hB]; exact HC.out t ht) (by omega) (hrw.congr (fun t ht => by rw [if_pos ht])))
      clear hX hrw
      go_wp2_with (go_at_call 43; refine KK.out.mono ?_; rintro e w1 ⟨rfl, p1, ho1, hp1, hb1⟩; have HP := Lib.hid (And.intro ho1 hp1); clear ho1 hp1)
      go_ret
      exact ⟨_, rfl, by omega, Nat.lt_of_lt_of_le hlt2 hb1.size, ⟨p1, HP.out.1, HP.out.2⟩, hBw.trans (hb1.mono (by omega))⟩
end Go.Proofs.YtibipjncpojifaaDoor

/- A slice of numbers of 64 bits with a sign, in memory: what it holds, behind a call that makes memory, parts of it, what owns a row of them. -/
import Derived.Test.YtffhnedladiaoaaGreatDoorChecked
import Derived.Test.YtffhnedladiaoaaGreatDoorOne
import Derived.WalkKit
import Derived.Below
import Derived.OwnWalk
import Derived.Laws.AppendOwn
import Derived.Lib.SliceRun
import Derived.Lib.ItoaMem
import Derived.LoopTactic
import Derived.Maps.AppendAt
import Derived.RegionTactic
import Derived.Deep.RegionWith
import Derived.Deep.OwnRows
import Derived.Test.YtffhnedladiaoaaGreatDoorTwo
namespace Go.Proofs.YtffhnedladiaoaaGreatDoor
open Go.RowKit
set_option linter.unusedVariables false
set_option linter.unusedSimpArgs false
/-- A slice of amounts in memory that is there. -/
def Amts (w : World) (v : Value) (zs : List Int) : Prop :=
  (∃ r cap, v = .slice r 0 cap ∧ zs = []) ∨ ∃ b off cap, v = .slice (some ⟨b, off, none⟩) zs.length cap ∧ b < w.heap.size ∧ zs.length ≤ 9223372036854775807 ∧ zs.length ≤ cap ∧
    ∀ i, i < zs.length → w.cell? ⟨b, off + i, none⟩ = some (.int .i64 (zs.getD i 0)) ∧ (Lit.int .i64 (zs.getD i 0)).wf = true
theorem Amts.stay {w w' : World} {v : Value} {zs : List Int} (h : Amts w v zs) (hb : Below w.heap.size w w') : Amts w' v zs := by
  rcases h with h | ⟨b, off, cap, h1, h2, h3, h5, h4⟩
  · exact .inl h
  · exact .inr ⟨b, off, cap, h1, Nat.lt_of_lt_of_le h2 hb.size, h3, h5, fun i hi => ⟨by rw [hb.cell (p := ⟨b, off + i, none⟩) h2]; exact (h4 i hi).1, (h4 i hi).2⟩⟩
theorem sum_take (zs : List Int) (k : Nat) (h : k < zs.length) : (zs.take (k + 1)).sum = (zs.take k).sum + zs.getD k 0 := by
  rw [List.take_succ_eq_append_getElem h, List.sum_append]
  simp [List.getD, h]
theorem amts_two (w : World) (t : TypeId) (a b : Int) (ha : (Lit.int .i64 a).wf = true) (hb : (Lit.int .i64 b).wf = true) :
    Amts (w.alloc (.cells #[.int .i64 a, .int .i64 b] t)) (.slice (some ⟨w.heap.size, 0, none⟩) 2 2) [a, b] := by
  refine .inr ⟨w.heap.size, 0, 2, rfl, by simp, by simp, by simp, fun i hi => ?_⟩
  have hi' : i < 2 := by simpa using hi
  rcases (by omega : i = 0 ∨ i = 1) with rfl | rfl
  · exact ⟨by simp, by simpa using ha⟩
  · exact ⟨by simp, by simpa using hb⟩
/-- The cells of a row of amounts. -/
def ints (zs : List Int) : List Value := zs.map (Value.int .i64)
theorem ints_one (zs : List Int) : ∀ u ∈ ints zs, u.oneCell' = true := by
  intro u hu
  unfold ints at hu
  obtain ⟨z, _, rfl⟩ := List.mem_map.1 hu
  rfl
theorem ints_len (zs : List Int) : (ints zs).length = zs.length := by unfold ints; simp
theorem ints_get {zs : List Int} {j : Nat} {u : Value} (h : (ints zs)[j]? = some u) : j < zs.length ∧ u = .int .i64 (zs.getD j 0) := by
  unfold ints at h
  rw [List.getElem?_map] at h
  cases hq : zs[j]? with
  | none => rw [hq] at h; cases h
  | some z =>
    rw [hq] at h
    obtain ⟨hj, _⟩ := List.getElem?_eq_some_iff.1 hq
    refine ⟨hj, ?_⟩
    simp only [Option.map_some, Option.some.injEq] at h
    rw [← h, List.getD, hq]; rfl
theorem ints_app (a b : List Int) : ints a ++ ints b = ints (a ++ b) := by unfold ints; simp
theorem infoI : ∃ i, Tryz.prog.info? 2 = some i ∧ i.zero = some (.int .i64 0) ∧ i.size = 1 ∧ i.bytes = 8 := by
  have h : (Tryz.prog.info? 2).map (fun i => (i.zero, i.size, i.bytes)) = some (some (.int .i64 0), 1, 8) := by kernel_rfl
  cases hq : Tryz.prog.info? 2 with
  | none => rw [hq] at h; cases h
  | some i =>
    rw [hq] at h
    simp only [Option.map_some, Option.some.injEq, Prod.mk.injEq] at h
    exact ⟨i, rfl, h.1, h.2.1, h.2.2⟩
/-- What owns a row of amounts is a slice of them. -/
theorem amts_owns {w : World} {base : Nat} {v : Value} {zs : List Int} (h : w.ownsRow base 2 1 v zs.length (ints zs)) (hl : zs.length ≤ 9223372036854775807) (hw : ∀ z ∈ zs, (Lit.int .i64 z).wf = true) : Amts w v zs := by
  rcases h.2 with ⟨rfl, h0⟩ | ⟨g, cap, cur, rfl, hb, hg, hcap, _⟩
  · exact .inl ⟨none, 0, rfl, List.length_eq_zero_iff.1 h0⟩
  · refine .inr ⟨g, 0, cap, rfl, (h.lt g rfl).2, hl, hcap, fun i hi => ⟨?_, ?_⟩⟩
    · have hu : (ints zs)[i]? = some (.int .i64 (zs.getD i 0)) := by
        unfold ints
        simp [List.getD, hi]
      have := h.cells (g := g) rfl i _ hu
      rwa [Lib.add_plain] at this
    · refine hw _ ?_
      simp [List.getD, hi]
theorem amts_sub {w : World} {b off cap : Nat} {zs : List Int} (hb : b < w.heap.size) (hl : zs.length ≤ 9223372036854775807)
    (hz : ∀ i, i < zs.length → w.cell? ⟨b, off + i, none⟩ = some (.int .i64 (zs.getD i 0)) ∧ (Lit.int .i64 (zs.getD i 0)).wf = true) (j m c : Nat) (h1 : j + m ≤ zs.length) (h2 : m ≤ c) :
    Amts w (.slice (some ⟨b, off + j, none⟩) m c) ((zs.drop j).take m) := by
  have e : ((zs.drop j).take m).length = m := by rw [List.length_take, List.length_drop]; omega
  refine .inr ⟨b, off + j, c, by rw [e], hb, by rw [e]; omega, by rw [e]; exact h2, fun t ht => ?_⟩
  rw [e] at ht
  have g : ((zs.drop j).take m).getD t 0 = zs.getD (j + t) 0 := by
    simp [List.getD, List.getElem?_take, List.getElem?_drop, ht]
  rw [g, Nat.add_assoc]
  exact hz (j + t) (by omega)
theorem amts_take {w : World} {b off cap : Nat} {zs : List Int} (hb : b < w.heap.size) (hl : zs.length ≤ 9223372036854775807)
    (hz : ∀ i, i < zs.length → w.cell? ⟨b, off + i, none⟩ = some (.int .i64 (zs.getD i 0)) ∧ (Lit.int .i64 (zs.getD i 0)).wf = true) (m c : Nat) (h1 : m ≤ zs.length) (h2 : m ≤ c) :
    Amts w (.slice (some ⟨b, off, none⟩) m c) (zs.take m) := by
  have := amts_sub (cap := cap) hb hl hz 0 m c (by omega) h2
  simpa using this
theorem amts_drop {w : World} {b off cap : Nat} {zs : List Int} (hb : b < w.heap.size) (hl : zs.length ≤ 9223372036854775807)
    (hz : ∀ i, i < zs.length → w.cell? ⟨b, off + i, none⟩ = some (.int .i64 (zs.getD i 0)) ∧ (Lit.int .i64 (zs.getD i 0)).wf = true) (j c : Nat) (h1 : j ≤ zs.length) (h2 : zs.length - j ≤ c) :
    Amts w (.slice (some ⟨b, off + j, none⟩) (zs.length - j) c) (zs.drop j) := by
  have := amts_sub (cap := cap) hb hl hz j (zs.length - j) c (by omega) h2
  rwa [List.take_of_length_le (by rw [List.length_drop]; exact Nat.le_refl _)] at this
theorem slice_from (a : Addr) (n cap i : Nat) (hi : i ≤ n) (hc : i < cap) (w : World) :
    (Instr.slice 308 (.slice (some a) n cap) (some (.int .i64 (i : Int))) none none).run Tryz.prog w = .ok (.slice (some (a.add i)) (n - i) (cap - i)) w := by
  have hu : Tryz.prog.underlying 308 = some (.slice (Tryz.prog.elem 308)) := by kernel_rfl
  have hs : (sizeOf (Tryz.prog.elem 308)).run Tryz.prog w = .ok 1 w := by kernel_rfl
  rw [run_slice_l w 308 (some a) n cap hu .i64 (i : Int) (by omega) (by omega), hs]
  simp only [Result.andThen_ok, sliced, Int.toNat_natCast]
  rw [if_neg (by omega), Nat.mul_one]
  rfl
theorem slice_to (a : Addr) (n cap i : Nat) (hc : i < cap) (w : World) :
    (Instr.slice 308 (.slice (some a) n cap) none (some (.int .i64 (i : Int))) none).run Tryz.prog w = .ok (.slice (some a) i cap) w := by
  have hu : Tryz.prog.underlying 308 = some (.slice (Tryz.prog.elem 308)) := by kernel_rfl
  have hs : (sizeOf (Tryz.prog.elem 308)).run Tryz.prog w = .ok 1 w := by kernel_rfl
  rw [run_slice_h w 308 (some a) n cap hu .i64 (i : Int) (by omega) (by omega), hs]
  simp only [Result.andThen_ok, sliced, Int.toNat_natCast]
  rw [if_neg (by omega)]
  simp [Addr.add]
end Go.Proofs.YtffhnedladiaoaaGreatDoor
/- A slice of numbers of whatever kind, in memory; a row of numbers that grows by one. -/
namespace Go.Proofs.YtffhnedladiaoaaGreatDoor
open Go.RowKit
set_option linter.unusedVariables false
set_option linter.unusedSimpArgs false
/-- A slice of numbers of a kind in memory that is there. -/
def Nums (k : IntKind) (w : World) (v : Value) (zs : List Int) : Prop :=
  (∃ r cap, v = .slice r 0 cap ∧ zs = []) ∨ ∃ b off cap, v = .slice (some ⟨b, off, none⟩) zs.length cap ∧ b < w.heap.size ∧ zs.length ≤ 9223372036854775807 ∧ zs.length ≤ cap ∧
    ∀ i, i < zs.length → w.cell? ⟨b, off + i, none⟩ = some (.int k (zs.getD i 0)) ∧ (Lit.int k (zs.getD i 0)).wf = true
theorem Nums.stay {k : IntKind} {w w' : World} {v : Value} {zs : List Int} (h : Nums k w v zs) (hb : Below w.heap.size w w') : Nums k w' v zs := by
  rcases h with h | ⟨b, off, cap, h1, h2, h3, h5, h4⟩
  · exact .inl h
  · exact .inr ⟨b, off, cap, h1, Nat.lt_of_lt_of_le h2 hb.size, h3, h5, fun i hi => ⟨by rw [hb.cell (p := ⟨b, off + i, none⟩) h2]; exact (h4 i hi).1, (h4 i hi).2⟩⟩
theorem amts_nums {w : World} {v : Value} {zs : List Int} : Amts w v zs ↔ Nums .i64 w v zs := Iff.rfl
/-- What owns a row of numbers still owns it behind a call that makes memory. -/
theorem owns_stay {w w' : World} {base : Nat} {e : TypeId} {size : Nat} {v : Value} {n : Nat} {xs : List Value} (h : w.ownsRow base e size v n xs) (hb : Below w.heap.size w w') : w'.ownsRow base e size v n xs := by
  refine ⟨h.1, ?_⟩
  rcases h.2 with hn | ⟨g, cap, cur, rfl, hg, hgg, rest⟩
  · exact .inl hn
  · refine .inr ⟨g, cap, cur, rfl, hg, ?_, rest⟩
    rw [hb.block g (Array.getElem?_eq_some_iff.1 hgg).1]
    exact hgg
theorem getD_map (f : Int → Int) (zs : List Int) (j : Nat) (h : j < zs.length) : (zs.map f).getD j 0 = f (zs.getD j 0) := by
  simp [List.getD, h]
theorem take_map_step (f : Int → Int) (zs : List Int) (j : Nat) (h : j < zs.length) : ints ((zs.take j).map f) ++ [.int .i64 (f (zs.getD j 0))] = ints ((zs.take (j + 1)).map f) := by
  rw [List.take_succ_eq_append_getElem h, List.map_append]
  unfold ints
  simp [List.getD, h]
end Go.Proofs.YtffhnedladiaoaaGreatDoor
/- Contract of slices.Equal at numbers of 64 bits with a sign. -/
namespace Go.Proofs.YtffhnedladiaoaaGreatDoor
open Go.RowKit
set_option linter.unusedVariables false
set_option linter.unusedSimpArgs false
theorem Amts.form {w : World} {v : Value} {zs : List Int} (h : Amts w v zs) : ∃ r cap, v = .slice r zs.length cap ∧ zs.length ≤ 9223372036854775807 ∧
    (0 < zs.length → ∃ b off, r = some ⟨b, off, none⟩ ∧ b < w.heap.size ∧ zs.length ≤ cap ∧ ∀ i, i < zs.length → w.cell? ⟨b, off + i, none⟩ = some (.int .i64 (zs.getD i 0)) ∧ (Lit.int .i64 (zs.getD i 0)).wf = true) := by
  rcases h with ⟨r, cap, rfl, rfl⟩ | ⟨b, off, cap, rfl, hb, hl, hc, hz⟩
  · exact ⟨r, cap, rfl, by simp, fun h => by simp at h⟩
  · exact ⟨_, cap, rfl, hl, fun _ => ⟨b, off, rfl, hb, hc, hz⟩⟩
theorem equal_len (r1 r2 : Option Addr) (n1 n2 c1 c2 : Nat) (w : World) (h : n1 ≠ n2) :
    Calls Tryz.prog 257 #[.slice r1 n1 c1, .slice r2 n2 c2] w fun e w' => e = .returned (.bool false) ∧ Below w.heap.size w w' := by
  have h1 : ((n1 : Int) != (n2 : Int)) = true := by simp; omega
  go_enter Tryz.func257, Tryz.ntmps257
  go_wp2
  go_ret
  exact ⟨rfl, Below.refl _ _⟩
theorem equal_zero (r1 r2 : Option Addr) (c1 c2 : Nat) (w : World) :
    Calls Tryz.prog 257 #[.slice r1 0 c1, .slice r2 0 c2] w fun e w' => e = .returned (.bool true) ∧ Below w.heap.size w w' := by
  go_enter Tryz.func257, Tryz.ntmps257
  go_wp2
  go_loopw [13] (fun i wr => i = .int .i64 0 ∧ Below w.heap.size w wr) (fun i _ => 0)
  case atStart => exact ⟨rfl, Below.refl _ _⟩
  case round =>
    obtain ⟨rfl, hB⟩ := hrel
    go_wp2
    go_ret
    exact ⟨rfl, hB⟩
theorem take_eq_step {xs ys : List Int} {j : Nat} (h : xs.take j = ys.take j) (hx : j < xs.length) (hy : j < ys.length) (e : xs.getD j 0 = ys.getD j 0) : xs.take (j + 1) = ys.take (j + 1) := by
  rw [List.take_succ_eq_append_getElem hx, List.take_succ_eq_append_getElem hy, h]
  simp [List.getD, hx, hy] at e
  rw [e]
set_option maxHeartbeats 2000000 in
theorem equal_some (b1 o1 c1 b2 o2 c2 : Nat) (xs ys : List Int) (w : World) (hl : xs.length = ys.length) (hm : xs.length ≤ 9223372036854775807) (hb1 : b1 < w.heap.size) (hb2 : b2 < w.heap.size)
    (hx : ∀ i, i < xs.length → w.cell? ⟨b1, o1 + i, none⟩ = some (.int .i64 (xs.getD i 0))) (hy : ∀ i, i < ys.length → w.cell? ⟨b2, o2 + i, none⟩ = some (.int .i64 (ys.getD i 0))) :
    Calls Tryz.prog 257 #[.slice (some ⟨b1, o1, none⟩) xs.length c1, .slice (some ⟨b2, o2, none⟩) xs.length c2] w fun e w' => e = .returned (.bool (decide (xs = ys))) ∧ Below w.heap.size w w' := by
  have Hx := Lib.hid hx
  have Hy := Lib.hid hy
  have Hl := Lib.hid hl
  clear hx hy hl
  go_enter Tryz.func257, Tryz.ntmps257
  go_wp2
  go_loopw [13] (fun i wr => ∃ j : Nat, j ≤ xs.length ∧ i = .int .i64 j ∧ Hid (xs.take j = ys.take j) ∧ Below w.heap.size w wr) (fun i _ => xs.length - (RowKit.intOf i).toNat)
  case atStart => exact ⟨0, Nat.zero_le _, rfl, rfl, Below.refl _ _⟩
  case round =>
    obtain ⟨j, hj, rfl, hE, hB⟩ := hrel
    rename World => wr
    by_cases hlt : j < xs.length
    · have h1 : wr.cell? ⟨b1, o1 + j, none⟩ = some (.int .i64 (xs.getD j 0)) := by rw [hB.cell (p := ⟨b1, o1 + j, none⟩) hb1]; exact Hx.out j hlt
      have h2 : wr.cell? ⟨b2, o2 + j, none⟩ = some (.int .i64 (ys.getD j 0)) := by rw [hB.cell (p := ⟨b2, o2 + j, none⟩) hb2]; exact Hy.out j (by have := Hl.out; omega)
      have hst := fun e => take_eq_step hE.out hlt (by have := Hl.out; omega) e
      have hno : xs.getD j 0 ≠ ys.getD j 0 → decide (xs = ys) = false := fun h => decide_eq_false (fun e => h (by rw [e]))
      generalize xs.getD j 0 = x at *
      generalize ys.getD j 0 = y at *
      have Hst := Lib.hid hst
      have Hno := Lib.hid hno
      clear hst hno
      by_cases hxy : x = y
      · subst hxy
        have Hs := Lib.hid (Hst.out rfl)
        clear Hst
        go_wp2
        go_region
        all_goals
          go_wp2
          go_roundw
          case rel => exact ⟨j + 1, by omega, by go_num, Hs, hB.drew⟩
          case measure => simp [RowKit.intOf]; omega
      · have hxy' : (x != y) = true := by simpa using hxy
        have hd := Hno.out hxy
        go_wp2
        go_region
        all_goals
          go_wp2
          go_ret
          exact ⟨by rw [hd]; rfl, hB.drew⟩
    · obtain rfl : j = xs.length := by omega
      have he : xs = ys := by
        have := hE.out
        rw [List.take_length, Hl.out, List.take_length] at this
        exact this
      have hd : decide (xs = ys) = true := decide_eq_true he
      go_wp2
      go_ret
      exact ⟨by rw [hd]; rfl, hB⟩
theorem equal_any (v1 v2 : Value) (xs ys : List Int) (w : World) (h1 : Amts w v1 xs) (h2 : Amts w v2 ys) :
    Calls Tryz.prog 257 #[v1, v2] w fun e w' => e = .returned (.bool (decide (xs = ys))) ∧ Below w.heap.size w w' := by
  obtain ⟨r1, c1, rfl, m1, f1⟩ := h1.form
  obtain ⟨r2, c2, rfl, m2, f2⟩ := h2.form
  by_cases hl : xs.length = ys.length
  · by_cases h0 : xs.length = 0
    · have e1 := List.length_eq_zero_iff.1 h0
      have e2 := List.length_eq_zero_iff.1 (hl ▸ h0 : ys.length = 0)
      subst e1 e2
      exact equal_zero r1 r2 c1 c2 w
    · obtain ⟨b1, o1, rfl, hb1, _, hx⟩ := f1 (by omega)
      obtain ⟨b2, o2, rfl, hb2, _, hy⟩ := f2 (by omega)
      have := equal_some b1 o1 c1 b2 o2 c2 xs ys w hl m1 hb1 hb2 (fun i hi => (hx i hi).1) (fun i hi => (hy i hi).1)
      rwa [← hl]
  · have hd : decide (xs = ys) = false := decide_eq_false (fun e => hl (by rw [e]))
    rw [hd]
    exact equal_len r1 r2 _ _ c1 c2 w hl
end Go.Proofs.YtffhnedladiaoaaGreatDoor
/- Law 3's Allot: plain words for its rounds; its first loop. -/
namespace Go.Proofs.YtffhnedladiaoaaGreatDoor
open Go.RowKit
set_option linter.unusedVariables false
set_option linter.unusedSimpArgs false
/-- The sum of the first j values of a function. -/
def sumTo (f : Nat → Nat) : Nat → Nat
  | 0 => 0
  | j + 1 => sumTo f j + f j
/-- The greatest rest, the first of like ones, among the first parts that have got nothing. -/
def bst (G : Nat → Int) (r : Nat → Nat) : Nat → Int
  | 0 => -1
  | i + 1 => if G i = 0 ∧ (bst G r i < 0 ∨ r (bst G r i).toNat < r i) then (i : Int) else bst G r i
theorem bst_range (G : Nat → Int) (r : Nat → Nat) : ∀ i, -1 ≤ bst G r i ∧ bst G r i < i
  | 0 => by simp [bst]
  | i + 1 => by
    have h := bst_range G r i
    unfold bst
    split <;> omega
/-- What is left, one by one. -/
def give (n : Nat) (r : Nat → Nat) : Nat → (Nat → Int) → (Nat → Int) → Option (Nat → Int)
  | 0, _, O => some O
  | m + 1, G, O => if bst G r n < 0 then none else give n r m (fun j => if j = (bst G r n).toNat then 1 else G j) (fun j => if j = (bst G r n).toNat then IntKind.u64.wrap (O j + 1) else O j)
theorem sumTo_le {f g : Nat → Nat} (n : Nat) (h : ∀ i, i < n → f i ≤ g i) : sumTo f n ≤ sumTo g n := by
  induction n with
  | zero => exact Nat.le_refl _
  | succ n ih =>
    have := ih (fun i hi => h i (by omega))
    have := h n (by omega)
    unfold sumTo; omega
theorem sumTo_mul (f : Nat → Nat) (c : Nat) (n : Nat) : sumTo (fun i => c * f i) n = c * sumTo f n := by
  induction n with
  | zero => rfl
  | succ n ih => unfold sumTo; rw [ih, Nat.mul_add]
theorem sumTo_mono (f : Nat → Nat) {i j : Nat} (h : i ≤ j) : sumTo f i ≤ sumTo f j := by
  induction j with
  | zero => have : i = 0 := by omega
            subst this; exact Nat.le_refl _
  | succ j ih =>
    by_cases e : i = j + 1
    · subst e; exact Nat.le_refl _
    · have := ih (by omega)
      show sumTo f i ≤ sumTo f j + f j
      omega
theorem sumTo_bound (f : Nat → Nat) (c n : Nat) (h : ∀ i, i < n → f i ≤ c) : sumTo f n ≤ n * c := by
  induction n with
  | zero => simp [sumTo]
  | succ n ih =>
    have := ih (fun i hi => h i (by omega))
    have := h n (by omega)
    unfold sumTo; rw [Nat.succ_mul]; omega
/-- The parts' quotients together are no more than the whole. -/
theorem quos_le (S T n : Nat) (W : Nat → Nat) (hT : T = sumTo W n) (h0 : 0 < T) : sumTo (fun i => S * W i / T) n ≤ S := by
  have h1 : T * sumTo (fun i => S * W i / T) n ≤ T * S := by
    rw [← sumTo_mul]
    have h2 : sumTo (fun i => T * (S * W i / T)) n ≤ sumTo (fun i => S * W i) n := sumTo_le n (fun i _ => Nat.mul_div_le _ _)
    rw [sumTo_mul W S, ← hT, Nat.mul_comm S T] at h2
    exact h2
  exact Nat.le_of_mul_le_mul_left h1 h0
/-- The weights of a row, as numbers without a sign. -/
def wOf (zs : List Int) (i : Nat) : Nat := (zs.getD i 0).toNat
/-- Allot's answer of what its rounds leave. -/
def allotL (neg : Bool) (n : Nat) (O : Nat → Int) : List Int := (List.range n).map fun i => wrap64 (if neg then IntKind.u64.wrap (-(O i)) else O i)
end Go.Proofs.YtffhnedladiaoaaGreatDoor
/- Law 3's shares in plain words: what is known of weights, the shares, what owns a row, types. -/
namespace Go.Proofs.YtffhnedladiaoaaGreatDoor
open Go.RowKit
set_option linter.unusedVariables false
set_option linter.unusedSimpArgs false
/-- What the first loops know of the weights. -/
structure Ws (w : World) (b off cap : Nat) (zs : List Int) : Prop where
  blk : b < w.heap.size
  pos : 0 < zs.length
  few : zs.length ≤ 8
  cap : zs.length ≤ cap
  cell : ∀ i, i < zs.length → w.cell? ⟨b, off + i, none⟩ = some (.int .i64 (wOf zs i : Nat)) ∧ 1 ≤ wOf zs i ∧ wOf zs i ≤ 1000000
theorem Ws.sum {w : World} {b off cap : Nat} {zs : List Int} (h : Ws w b off cap zs) (j : Nat) (hj : j ≤ zs.length) : sumTo (wOf zs) j ≤ j * 1000000 :=
  sumTo_bound _ _ _ (fun i hi => (h.cell i (by omega)).2.2)
theorem Ws.total {w : World} {b off cap : Nat} {zs : List Int} (h : Ws w b off cap zs) : 0 < sumTo (wOf zs) zs.length ∧ sumTo (wOf zs) zs.length ≤ 8000000 := by
  have h1 := h.sum zs.length (Nat.le_refl _)
  have h2 := h.few
  have h3 := (h.cell 0 h.pos).2.1
  have h4 : sumTo (wOf zs) 1 ≤ sumTo (wOf zs) zs.length := sumTo_mono _ h.pos
  have h5 : sumTo (wOf zs) 1 = wOf zs 0 := by show 0 + wOf zs 0 = _; omega
  constructor <;> omega
/-- What the document's rounds leave of all parts, if they end. -/
def sharesL (S n : Nat) (W : Nat → Nat) : Option (Nat → Int) :=
  give n (fun t => S * W t % sumTo W n) (S - sumTo (fun t => S * W t / sumTo W n) n) (fun _ => 0) (fun t => ((S * W t / sumTo W n : Nat) : Int))
theorem owns_lower {w : World} {base base' : Nat} {e : TypeId} {size : Nat} {v : Value} {n : Nat} {xs : List Value} (h : w.ownsRow base e size v n xs) (hb : base' ≤ base) : w.ownsRow base' e size v n xs := by
  refine ⟨h.1, ?_⟩
  rcases h.2 with hn | ⟨g, cap, cur, rfl, hg, rest⟩
  · exact .inl hn
  · exact .inr ⟨g, cap, cur, rfl, by omega, rest⟩
theorem infoN : (Tryz.prog.info? 3).map (fun i => (i.zero, i.size, i.bytes)) = some (some (.int .i64 0), 1, 8) := by kernel_rfl
theorem infoU : (Tryz.prog.info? 120).map (fun i => (i.zero, i.size, i.bytes)) = some (some (.int .u64 0), 1, 8) := by kernel_rfl
end Go.Proofs.YtffhnedladiaoaaGreatDoor
/- Law 3's rounds in plain words: they end, each part gets one at most, and together they give what is left. -/
namespace Go.Proofs.YtffhnedladiaoaaGreatDoor
open Go.RowKit
set_option linter.unusedVariables false
set_option linter.unusedSimpArgs false
theorem bst_free (G : Nat → Int) (r : Nat → Nat) : ∀ i, 0 ≤ bst G r i → G (bst G r i).toNat = 0
  | 0 => by simp [bst]
  | i + 1 => by
    have ih := bst_free G r i
    unfold bst
    by_cases h : G i = 0 ∧ (bst G r i < 0 ∨ r (bst G r i).toNat < r i)
    · rw [if_pos h]; intro _; simpa using h.1
    · rw [if_neg h]; exact ih
theorem bst_none (G : Nat → Int) (r : Nat → Nat) : ∀ i, bst G r i < 0 → ∀ t, t < i → G t ≠ 0
  | 0 => by intro _ t ht; omega
  | i + 1 => by
    have ih := bst_none G r i
    unfold bst
    by_cases h : G i = 0 ∧ (bst G r i < 0 ∨ r (bst G r i).toNat < r i)
    · rw [if_pos h]; intro h'; omega
    · rw [if_neg h]
      intro h' t ht
      by_cases e : t = i
      · subst e; intro hg; exact h ⟨hg, .inl h'⟩
      · exact ih h' t (by omega)
theorem bst_max (G : Nat → Int) (r : Nat → Nat) : ∀ i t, t < i → G t = 0 → r t ≤ r (bst G r i).toNat
  | 0, t, h, _ => by omega
  | i + 1, t, h, hg => by
    have ih := bst_max G r i t
    have hn := bst_none G r i
    unfold bst
    by_cases c : G i = 0 ∧ (bst G r i < 0 ∨ r (bst G r i).toNat < r i)
    · rw [if_pos c]
      by_cases e : t = i
      · subst e; simp
      · rcases c.2 with h1 | h1
        · exact absurd hg (hn h1 t (by omega))
        · have := ih (by omega) hg
          simp; omega
    · rw [if_neg c]
      by_cases e : t = i
      · subst e
        have : ¬ (bst G r t < 0 ∨ r (bst G r t).toNat < r t) := fun h2 => c ⟨hg, h2⟩
        omega
      · exact ih (by omega) hg
theorem sumTo_congr {f g : Nat → Nat} (n : Nat) (h : ∀ i, i < n → f i = g i) : sumTo f n = sumTo g n :=
  Nat.le_antisymm (sumTo_le n fun i hi => Nat.le_of_eq (h i hi)) (sumTo_le n fun i hi => Nat.le_of_eq (h i hi).symm)
theorem sumTo_add (f g : Nat → Nat) (n : Nat) : sumTo (fun i => f i + g i) n = sumTo f n + sumTo g n := by
  induction n with
  | zero => rfl
  | succ n ih => unfold sumTo; rw [ih]; omega
theorem sumTo_upd (f : Nat → Nat) (q x : Nat) : ∀ n, q < n → sumTo (fun t => if t = q then x else f t) n + f q = sumTo f n + x
  | 0, h => by omega
  | n + 1, h => by
    unfold sumTo
    by_cases e : n = q
    · subst e
      rw [if_pos rfl]
      have : sumTo (fun t => if t = n then x else f t) n = sumTo f n := sumTo_congr n fun i hi => if_neg (by omega)
      omega
    · rw [if_neg e]
      have := sumTo_upd f q x n (by omega)
      omega
/-- How many of the first parts have got nothing. -/
def freeN (G : Nat → Int) (n : Nat) : Nat := sumTo (fun t => if G t = 0 then 1 else 0) n
theorem freeN_all (n : Nat) : freeN (fun _ => 0) n = n := by
  induction n with
  | zero => rfl
  | succ n ih => show freeN (fun _ => 0) n + _ = _; rw [ih]; rfl
theorem freeN_none {G : Nat → Int} {n : Nat} (h : ∀ t, t < n → G t ≠ 0) : freeN G n = 0 := by
  have h1 : freeN G n = sumTo (fun _ => 0) n := sumTo_congr n fun i hi => if_neg (h i hi)
  rw [h1]
  have := sumTo_bound (fun _ => 0) 0 n (fun _ _ => Nat.le_refl _)
  omega
theorem freeN_upd {G : Nat → Int} {n q : Nat} (hq : q < n) (hg : G q = 0) : freeN (fun j => if j = q then 1 else G j) n + 1 = freeN G n := by
  have h := sumTo_upd (fun t => if G t = 0 then 1 else 0) q 0 n hq
  have h1 : freeN (fun j => if j = q then 1 else G j) n = sumTo (fun t => if t = q then 0 else if G t = 0 then 1 else 0) n := sumTo_congr n fun i _ => by
    by_cases e : i = q
    · simp [e]
    · simp [e]
  rw [h1]
  simp only [hg] at h
  unfold freeN
  simpa using h
/-- The rests of the parts that have got nothing. -/
def freeR (G : Nat → Int) (r : Nat → Nat) (n : Nat) : Nat := sumTo (fun t => if G t = 0 then r t else 0) n
theorem freeR_zero {G : Nat → Int} {r : Nat → Nat} : ∀ n, (∀ t, t < n → G t = 0 → r t = 0) → freeR G r n = 0
  | 0, _ => rfl
  | n + 1, h => by
    have h1 : freeR G r n = 0 := freeR_zero n fun t ht => h t (by omega)
    show freeR G r n + (if G n = 0 then r n else 0) = 0
    rw [h1]
    by_cases e : G n = 0
    · rw [if_pos e, h n (by omega) e]
    · rw [if_neg e]
theorem freeR_upd {G : Nat → Int} {r : Nat → Nat} {n q : Nat} (hq : q < n) (hg : G q = 0) : freeR (fun j => if j = q then 1 else G j) r n + r q = freeR G r n := by
  have h := sumTo_upd (fun t => if G t = 0 then r t else 0) q 0 n hq
  have h1 : freeR (fun j => if j = q then 1 else G j) r n = sumTo (fun t => if t = q then 0 else if G t = 0 then r t else 0) n := sumTo_congr n fun i _ => by
    by_cases e : i = q
    · simp [e]
    · simp [e]
  rw [h1]
  simp only [hg] at h
  unfold freeR
  simpa using h
theorem give_some (n : Nat) (r : Nat → Nat) : ∀ (m : Nat) (G O : Nat → Int), m ≤ freeN G n →
    ∃ O' : Nat → Int, ∃ d : Nat → Nat, give n r m G O = some O' ∧ (∀ t, d t ≤ 1) ∧ (∀ t, G t ≠ 0 → d t = 0) ∧ (∀ t, O' t = if d t = 1 then IntKind.u64.wrap (O t + 1) else O t) ∧ sumTo d n = m ∧
      (∀ T, (∀ t, t < n → r t < T) → m * T < freeR G r n + T → ∀ t, d t = 1 → 0 < r t)
  | 0, G, O, _ => ⟨O, fun _ => 0, rfl, fun _ => Nat.zero_le _, fun _ _ => rfl, fun _ => rfl, by
      have := sumTo_bound (fun _ => 0) 0 n (fun _ _ => Nat.le_refl _)
      omega, fun T h1 h2 t h3 => by simp at h3⟩
  | m + 1, G, O, h => by
    have hb := bst_range G r n
    by_cases hn : bst G r n < 0
    · have := freeN_none (bst_none G r n hn)
      omega
    · have hf := bst_free G r n (by omega)
      have hq : (bst G r n).toNat < n := by omega
      have hfree := freeN_upd hq hf
      have hfr := freeR_upd (r := r) hq hf
      have hmax := bst_max G r n
      unfold give
      rw [if_neg hn]
      generalize (bst G r n).toNat = q at *
      obtain ⟨O', d, h1, h2, h3, h4, h5, h6⟩ := give_some n r m (fun j => if j = q then 1 else G j) (fun j => if j = q then IntKind.u64.wrap (O j + 1) else O j) (by omega)
      have hdq : d q = 0 := h3 q (by simp)
      refine ⟨O', fun t => if t = q then 1 else d t, h1, ?_, ?_, ?_, ?_, ?_⟩
      · intro t; dsimp only; split
        · omega
        · exact h2 t
      · intro t ht
        have htq : t ≠ q := fun e => ht (e ▸ hf)
        dsimp only; rw [if_neg htq]
        exact h3 t (by simpa [htq] using ht)
      · intro t
        rw [h4 t]
        by_cases e : t = q
        · subst e; simp [hdq]
        · simp [e]
      · have := sumTo_upd d q 1 n hq
        omega
      · intro T hT hsum t ht
        rw [Nat.succ_mul] at hsum
        have hqT := hT q hq
        by_cases e : t = q
        · subst e
          by_cases h0 : 0 < r t
          · exact h0
          · have := freeR_zero (G := G) (r := r) n fun i hi hgi => by
              have := hmax i hi hgi
              omega
            omega
        · refine h6 T hT (by omega) t ?_
          simpa [e] using ht
/-- The rests together are as many wholes as are left. -/
theorem rests_sum (S T n : Nat) (W : Nat → Nat) (hT : T = sumTo W n) (h0 : 0 < T) : sumTo (fun i => S * W i % T) n = T * (S - sumTo (fun i => S * W i / T) n) := by
  have h1 : sumTo (fun i => T * (S * W i / T) + S * W i % T) n = sumTo (fun i => S * W i) n := sumTo_congr n fun i _ => Nat.div_add_mod _ _
  rw [sumTo_add, sumTo_mul, sumTo_mul W S, ← hT] at h1
  rw [Nat.mul_sub, Nat.mul_comm T S]
  omega
theorem left_lt (S T n : Nat) (W : Nat → Nat) (hT : T = sumTo W n) (h0 : 0 < T) : S - sumTo (fun i => S * W i / T) n ≤ n := by
  have h1 := rests_sum S T n W hT h0
  have h2 := sumTo_bound (fun i => S * W i % T) T n (fun i _ => Nat.le_of_lt (Nat.mod_lt _ h0))
  rw [h1, Nat.mul_comm n T] at h2
  exact Nat.le_of_mul_le_mul_left h2 h0
/-- Law 3's shares: there always are some; each is its quotient, or one more; together they are the whole. -/
theorem shares_some (S n : Nat) (W : Nat → Nat) (h0 : 0 < sumTo W n) (hS : S ≤ 9223372036854775808) (hW : ∀ i, i < n → W i ≤ sumTo W n) :
    ∃ P : Nat → Nat, ∃ d : Nat → Nat, (∃ O, sharesL S n W = some O ∧ ∀ t, t < n → O t = (P t : Int)) ∧ ((∀ t, d t ≤ 1) ∧ ∀ t, d t = 1 → 0 < S * W t % sumTo W n) ∧ (∀ t, P t = S * W t / sumTo W n + d t) ∧ sumTo P n = S ∧ ∀ t, t < n → P t ≤ S := by
  have hl := left_lt S (sumTo W n) n W rfl h0
  have hq := quos_le S (sumTo W n) n W rfl h0
  obtain ⟨O, d, h1, h2, h3, h4, h5, h6⟩ := give_some n (fun t => S * W t % sumTo W n) (S - sumTo (fun t => S * W t / sumTo W n) n) (fun _ => 0) (fun t => ((S * W t / sumTo W n : Nat) : Int)) (by rw [freeN_all]; exact hl)
  have hs : sumTo (fun t => S * W t / sumTo W n + d t) n = S := by
    rw [sumTo_add, h5]; omega
  have hle : ∀ t, t < n → S * W t / sumTo W n + d t ≤ S := by
    intro t ht
    have h6 : sumTo (fun t => S * W t / sumTo W n + d t) (t + 1) ≤ sumTo (fun t => S * W t / sumTo W n + d t) n := sumTo_mono _ ht
    rw [hs] at h6
    have h7 : sumTo (fun t => S * W t / sumTo W n + d t) (t + 1) = sumTo (fun t => S * W t / sumTo W n + d t) t + (S * W t / sumTo W n + d t) := rfl
    omega
  have h7 := h6 (sumTo W n) (fun t _ => Nat.mod_lt _ h0) (by
    have h8 : freeR (fun _ => 0) (fun t => S * W t % sumTo W n) n = sumTo (fun t => S * W t % sumTo W n) n := sumTo_congr n fun i _ => by simp
    rw [h8, rests_sum S (sumTo W n) n W rfl h0, Nat.mul_comm]
    omega)
  refine ⟨fun t => S * W t / sumTo W n + d t, d, ⟨O, h1, ?_⟩, ⟨h2, h7⟩, fun _ => rfl, hs, hle⟩
  intro t ht
  have h8 := hle t ht
  have h9 := h2 t
  have h4' := h4 t
  rw [h4']
  dsimp only
  generalize S * W t / sumTo W n = x at *
  by_cases e : d t = 1
  · rw [if_pos e, e]
    simp only [IntKind.wrap, IntKind.signed, IntKind.bits]
    simp
    omega
  · rw [if_neg e]
    have : d t = 0 := by omega
    rw [this]; simp
end Go.Proofs.YtffhnedladiaoaaGreatDoor
/- What law 3 asks of share.Allot, as one word; law 3's Awake and ShareAllots from it. -/
namespace Go.Proofs.YtffhnedladiaoaaGreatDoor
open Go.RowKit
set_option linter.unusedVariables false
set_option linter.unusedSimpArgs false
/-- The shares of an amount, as a list. -/
def sharesV (a : Int) (zs : List Int) : List Int :=
  match sharesL a.natAbs zs.length (wOf zs) with
  | none => []
  | some O => allotL (decide (a < 0)) zs.length O
def GoodW (zs : List Int) : Prop := ∀ i, i < zs.length → 1 ≤ zs.getD i 0 ∧ zs.getD i 0 ≤ 1000000
/-- What the document says of Allot. -/
structure AllotC : Prop where
  good : ∀ (v : Value) (zs : List Int) (a : Int) (w : World), Amts w v zs → (Lit.int .i64 a).wf = true → 0 < zs.length → zs.length ≤ 8 → GoodW zs →
    Calls Tryz.prog 256 #[.int .i64 a, v] w fun e w' => ∃ u, e = .returned (.tuple #[u, .int .i64 0]) ∧ w'.ownsRow w.heap.size 2 1 u zs.length (ints (sharesV a zs)) ∧ Below w.heap.size w w'
  size : ∀ (v : Value) (zs : List Int) (a : Int) (w : World), Amts w v zs → (Lit.int .i64 a).wf = true → ¬ (0 < zs.length ∧ zs.length ≤ 8) →
    Calls Tryz.prog 256 #[.int .i64 a, v] w fun e w' => ∃ r c, e = .returned (.tuple #[.slice r 0 c, .int .i64 2]) ∧ Below w.heap.size w w'
  range : ∀ (v : Value) (zs : List Int) (a : Int) (w : World), Amts w v zs → (Lit.int .i64 a).wf = true → 0 < zs.length → zs.length ≤ 8 → ¬ GoodW zs →
    Calls Tryz.prog 256 #[.int .i64 a, v] w fun e w' => ∃ r c, e = .returned (.tuple #[.slice r 0 c, .int .i64 5]) ∧ Below w.heap.size w w'
theorem good_total {zs : List Int} (h : GoodW zs) (h0 : 0 < zs.length) (h8 : zs.length ≤ 8) : 0 < sumTo (wOf zs) zs.length ∧ ∀ i, i < zs.length → wOf zs i ≤ sumTo (wOf zs) zs.length := by
  have h1 : ∀ i, i < zs.length → wOf zs i ≤ sumTo (wOf zs) zs.length := by
    intro i hi
    have h2 : sumTo (wOf zs) (i + 1) ≤ sumTo (wOf zs) zs.length := sumTo_mono _ hi
    have h3 : sumTo (wOf zs) (i + 1) = sumTo (wOf zs) i + wOf zs i := rfl
    omega
  refine ⟨?_, h1⟩
  have h4 := h1 0 h0
  have h5 := (h 0 h0).1
  have h6 : wOf zs 0 = (zs.getD 0 0).toNat := rfl
  omega
theorem allotL_length (neg : Bool) (n : Nat) (O : Nat → Int) : (allotL neg n O).length = n := by unfold allotL; simp
theorem allotL_getD (neg : Bool) (n : Nat) (O : Nat → Int) (i : Nat) (h : i < n) : (allotL neg n O).getD i 0 = wrap64 (if neg then IntKind.u64.wrap (-(O i)) else O i) := by
  unfold allotL
  simp [List.getD, h]
theorem wrap64_wf (n : Int) : (Lit.int .i64 (wrap64 n)).wf = true := WalkArith.wf_i64 (by rw [w64w]; omega)
/-- Shares in plain words: each is its part with the amount's sign. -/
theorem sharesV_spec {a : Int} {zs : List Int} (ha : (Lit.int .i64 a).wf = true) (h : GoodW zs) (h0 : 0 < zs.length) (h8 : zs.length ≤ 8) :
    ∃ P d : Nat → Nat, (sharesV a zs).length = zs.length ∧ (∀ i, i < zs.length → (sharesV a zs).getD i 0 = if a < 0 then -(P i : Int) else (P i : Int)) ∧
      ((∀ t, d t ≤ 1) ∧ ∀ t, d t = 1 → 0 < a.natAbs * wOf zs t % sumTo (wOf zs) zs.length) ∧ (∀ t, P t = a.natAbs * wOf zs t / sumTo (wOf zs) zs.length + d t) ∧ sumTo P zs.length = a.natAbs ∧ ∀ t, t < zs.length → P t ≤ a.natAbs := by
  have hba := wf_bd_i64 ha
  obtain ⟨ht, hw⟩ := good_total h h0 h8
  obtain ⟨P, d, ⟨O, h1, h2⟩, h3, h4, h5, h6⟩ := shares_some a.natAbs zs.length (wOf zs) ht (by omega) hw
  have hs : sharesV a zs = allotL (decide (a < 0)) zs.length O := by unfold sharesV; rw [h1]
  refine ⟨P, d, by rw [hs, allotL_length], ?_, h3, h4, h5, h6⟩
  intro i hi
  have h7 := h6 i hi
  rw [hs, allotL_getD _ _ _ _ hi, h2 i hi, w64w]
  by_cases hneg : a < 0
  · rw [if_pos (by simpa using hneg), if_pos hneg]
    simp only [IntKind.wrap, IntKind.signed, IntKind.bits]
    simp
    omega
  · rw [if_neg (by simpa using hneg), if_neg hneg]
    omega
theorem sharesV_wf {a : Int} {zs : List Int} : ∀ z ∈ sharesV a zs, (Lit.int .i64 z).wf = true := by
  intro z hz
  unfold sharesV at hz
  split at hz
  · simp at hz
  · unfold allotL at hz
    obtain ⟨i, _, rfl⟩ := List.mem_map.1 hz
    exact wrap64_wf _
theorem sharesV_length {a : Int} {zs : List Int} (ha : (Lit.int .i64 a).wf = true) (h : GoodW zs) (h0 : 0 < zs.length) (h8 : zs.length ≤ 8) : (sharesV a zs).length = zs.length := by
  obtain ⟨_, _, h1, _⟩ := sharesV_spec ha h h0 h8
  exact h1
end Go.Proofs.YtffhnedladiaoaaGreatDoor
/- Law 3's Awake. -/
namespace Go.Proofs.YtffhnedladiaoaaGreatDoor
open Go.RowKit
set_option linter.unusedVariables false
set_option linter.unusedSimpArgs false
theorem amts_three (w : World) (t : TypeId) (a b c : Int) (ha : (Lit.int .i64 a).wf = true) (hb : (Lit.int .i64 b).wf = true) (hc : (Lit.int .i64 c).wf = true) :
    Amts (w.alloc (.cells #[.int .i64 a, .int .i64 b, .int .i64 c] t)) (.slice (some ⟨w.heap.size, 0, none⟩) 3 3) [a, b, c] := by
  refine .inr ⟨w.heap.size, 0, 3, rfl, by simp, by simp, by simp, fun i hi => ?_⟩
  have hi' : i < 3 := by simpa using hi
  rcases (by omega : i = 0 ∨ i = 1 ∨ i = 2) with rfl | rfl | rfl
  · exact ⟨by simp, by simpa using ha⟩
  · exact ⟨by simp, by simpa using hb⟩
  · exact ⟨by simp, by simpa using hc⟩
theorem ten_shares : sharesV 10 [1, 1, 1] = [4, 3, 3] := by kernel_rfl
theorem ones_good : GoodW [1, 1, 1] := by
  intro i hi
  have hi' : i < 3 := by simpa using hi
  rcases (by omega : i = 0 ∨ i = 1 ∨ i = 2) with rfl | rfl | rfl <;> simp
set_option maxHeartbeats 1000000 in
theorem awake3_any (C : AllotC) (w : World) (htab : Pow w) (hw : 4 < w.heap.size) :
    Calls Tryz.prog 252 #[] w fun e w' => e = .returned (.bool true) ∧ Below w.heap.size w w' := by
  have K1 := Lib.hid (fun w0 => C.good _ [1, 1, 1] 10 _ (amts_three w0 2 1 1 1 (by decide) (by decide) (by decide)) (by decide) (by simp) (by simp) ones_good)
  have hts := Lib.hid ten_shares
  go_enter Tryz.func252, Tryz.ntmps252
  go_wp2_with (first
    | (go_at_call 256; refine (K1.out _).mono ?_; rintro e w1 ⟨u, rfl, hown, hb1⟩; have A0 : Amts w1 u [4, 3, 3] := amts_owns (by rw [hts.out] at hown; exact hown) (by simp) (by decide); have hB1 : Below w.heap.size w w1 := ((Below.refl _ _).alloc (Nat.le_refl _) _).trans (hb1.mono (by simp)))
    | (go_at_call 257; refine (equal_any _ _ _ _ _ (A0.stay ((Below.refl _ _).alloc (Nat.le_refl _) _)) (amts_three w1 2 4 3 3 (by decide) (by decide) (by decide))).mono ?_; rintro e w2 ⟨rfl, hb2⟩; have hB2 : Below w.heap.size w w2 := (hB1.alloc hB1.size _).trans (hb2.mono (by simp; exact Nat.le_trans hB1.size (Nat.le_succ _))); have t2 := htab.stay hw hB2; have s2 := Nat.lt_of_lt_of_le hw hB2.size)
    | (go_at_call 258; refine (awake2_any _ t2 s2).mono ?_; rintro e w3 ⟨rfl, hb3⟩))
  go_ret
  exact ⟨rfl, hB2.trans (hb3.mono hB2.size)⟩
end Go.Proofs.YtffhnedladiaoaaGreatDoor

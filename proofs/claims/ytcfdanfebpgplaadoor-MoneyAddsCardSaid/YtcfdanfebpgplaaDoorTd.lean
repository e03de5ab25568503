/- Contracts of money.Sum, Add, Neg: the sum of any amounts, if it goes into 64 bits with a sign. -/
import Derived.Test.YtcfdanfebpgplaaDoorWb
import Derived.Test.YtcfdanfebpgplaaDoorWe
import Derived.LoopTactic
import Derived.RegionTactic
import Derived.Deep.RegionWith
namespace Go.Proofs.YtcfdanfebpgplaaDoor
open Go.RowKit
set_option linter.unusedVariables false
set_option linter.unusedSimpArgs false
/-- A slice of amounts in memory that is there. -/
def Amts (w : World) (v : Value) (zs : List Int) : Prop :=
  (∃ r cap, v = .slice r 0 cap ∧ zs = []) ∨ ∃ b off cap, v = .slice (some ⟨b, off, none⟩) zs.length cap ∧ b < w.heap.size ∧ zs.length ≤ 9223372036854775807 ∧ zs.length ≤ cap ∧
    ∀ i, i < zs.length → w.cell? ⟨b, off + i, none⟩ = some (.int .i64 (zs.getD i 0)) ∧ (Lit.int .i64 (zs.getD i 0)).wf = true
theorem Amts.stay {w w' : World} {v : Value} {zs : List Int} (h : Amts w v zs) (hb : Below w.heap.size w w') : Amts w' v zs := by
  rcases h with h | ⟨b, off, cap, h1, h2, h3, h5, h4⟩
  · exact .inl h
  · exact .inr ⟨b, off, cap, h1, Nat.lt_of_lt_of_le h2 hb.size, h3, h5, fun i hi => ⟨by rw [hb.cell (p := ⟨b, off + i, none⟩) h2]; exact (h4 i hi).1, (h4 i hi).2⟩⟩
theorem sum_take (zs : List Int) (k : Nat) (h : k < zs.length) : (zs.take (k + 1)).sum = (zs.take k).sum + zs.getD k 0 := by
  rw [List.take_succ_eq_append_getElem h, List.sum_append]
  simp [List.getD, h]
/-- What Fits answers of an integer's halves. -/
@[irreducible] def fitV (S : Int) : Value := if hiW (wrap64 (loW S)) = hiW S then .tuple #[.int .i64 (wrap64 (loW S)), .bool true] else .tuple #[.int .i64 0, .bool false]
theorem fitV_yes {S : Int} (h : hiW (wrap64 (loW S)) = hiW S) : fitV S = .tuple #[.int .i64 (wrap64 (loW S)), .bool true] := by unfold fitV; rw [if_pos h]
theorem fitV_no {S : Int} (h : ¬ hiW (wrap64 (loW S)) = hiW S) : fitV S = .tuple #[.int .i64 0, .bool false] := by unfold fitV; rw [if_neg h]
theorem hi_zero : hiW 0 = 0 := by unfold hiW; rw [i64w]; decide
theorem lo_zero : loW 0 = 0 := by unfold loW; decide
/-- A box of a wide number's halves, made by the call itself. -/
structure Box (w0 w : World) (S : Int) : Prop where
  hi : w.cell? ⟨w0.heap.size, 0, none⟩ = some (.int .i64 (hiW S))
  lo : w.cell? ⟨w0.heap.size, 1, none⟩ = some (.int .u64 (loW S))
  fh : w.frozen? ⟨w0.heap.size, 0, none⟩ = false
  fl : w.frozen? ⟨w0.heap.size, 1, none⟩ = false
  size : w0.heap.size < w.heap.size
  below : Below w0.heap.size w0 w
theorem Box.drew {w0 w : World} {S : Int} (h : Box w0 w S) : Box w0 w.drew S :=
  ⟨by simpa using h.hi, by simpa using h.lo, by simpa using h.fh, by simpa using h.fl, by simpa using h.size, h.below.drew⟩
theorem Box.stay {w0 w w1 : World} {S : Int} (h : Box w0 w S) (hb : Below w.heap.size w w1) : Box w0 w1 S :=
  ⟨by rw [hb.cell (p := ⟨w0.heap.size, 0, none⟩) h.size]; exact h.hi, by rw [hb.cell (p := ⟨w0.heap.size, 1, none⟩) h.size]; exact h.lo, by rw [hb.frozen (p := ⟨w0.heap.size, 0, none⟩) h.size]; exact h.fh, by rw [hb.frozen (p := ⟨w0.heap.size, 1, none⟩) h.size]; exact h.fl,
   Nat.lt_of_lt_of_le h.size hb.size, h.below.trans (hb.mono (Nat.le_of_lt h.size))⟩
theorem Box.store {w0 w : World} {S : Int} (h : Box w0 w S) (S' : Int) : Box w0 ((w.setCell ⟨w0.heap.size, 0, none⟩ (.int .i64 (hiW S'))).setCell ⟨w0.heap.size, 1, none⟩ (.int .u64 (loW S'))) S' := by
  have h1 := h.hi
  have h2 := h.lo
  have h3 := h.fh
  have h4 := h.fl
  have h5 := h.size
  exact ⟨by go_simp, by go_simp, by go_simp, by go_simp, by go_simp, (h.below.setCell (by simp) _).setCell (by simp) _⟩
theorem fit_any (S : Int) (w : World) :
    Calls Tryd.prog 25 #[.agg #[.int .i64 (hiW S), .int .u64 (loW S)]] w fun e w' => e = .returned (fitV S) ∧ Below w.heap.size w w' := by
  by_cases h : hiW (wrap64 (loW S)) = hiW S
  · rw [fitV_yes h]; exact fits_yes S w h
  · rw [fitV_no h]; exact fits_no S w h
theorem fitV_pair (S : Int) : ∃ (n : Int) (b : Bool), fitV S = .tuple #[.int .i64 n, .bool b] := by
  unfold fitV; split <;> exact ⟨_, _, rfl⟩
set_option maxHeartbeats 2000000 in
theorem sum_some (b off cap : Nat) (zs : List Int) (w : World) (hb : b < w.heap.size) (hl : zs.length ≤ 9223372036854775807)
    (hz : ∀ i, i < zs.length → w.cell? ⟨b, off + i, none⟩ = some (.int .i64 (zs.getD i 0)) ∧ (Lit.int .i64 (zs.getD i 0)).wf = true) :
    Calls Tryd.prog 13 #[.slice (some ⟨b, off, none⟩) zs.length cap] w fun e w' => e = .returned (fitV zs.sum) ∧ Below w.heap.size w w' := by
  have z1 := hi_zero
  have z2 := lo_zero
  go_enter Tryd.func13, Tryd.ntmps13
  go_wp2
  go_loopw [9] (fun i wr => ∃ k : Nat, k ≤ zs.length ∧ i = .int .i64 k ∧ Box w wr (zs.take k).sum) (fun i _ => zs.length - (RowKit.intOf i).toNat)
  case atStart => exact ⟨0, Nat.zero_le _, rfl, by simp [z1], by simp [z2], by simp, by simp, by simp, (Below.refl _ _).alloc (Nat.le_refl _) _⟩
  case round =>
    obtain ⟨k, hk, rfl, hB⟩ := hrel
    rename World => wr
    by_cases hlt : k < zs.length
    · obtain ⟨hc, hwf⟩ := hz k hlt
      have hc' : wr.cell? ⟨b, off + k, none⟩ = some (.int .i64 (zs.getD k 0)) := by rw [hB.below.cell (p := ⟨b, off + k, none⟩) hb]; exact hc
      have e1 := sum_take zs k hlt
      generalize hS : (zs.take k).sum = S at *
      generalize hx : zs.getD k 0 = x at *
      have h1 := hB.hi
      have h2 := hB.lo
      have h3 := hB.fh
      have h4 := hB.fl
      have h5 := hB.size
      go_wp2
      go_region_with (first
        | (go_at_call 24; refine (of_any x _ hwf).mono ?_; rintro e w1 ⟨rfl, hb1⟩; have hB1 := Box.stay (S := S) (w0 := w) (by first | exact hB | exact hB.drew | exact hB.drew.drew) hb1; have g1 := hB1.hi; have g2 := hB1.lo; have g3 := hB1.fh; have g4 := hB1.fl; have g5 := hB1.size)
        | (go_at_call 23; refine (add_any S x _).mono ?_; rintro e w2 ⟨rfl, hb2⟩; have hB2 := Box.stay (S := S) (w0 := w) (by first | exact hB1 | exact hB1.drew) hb2; have g1 := hB2.hi; have g2 := hB2.lo; have g3 := hB2.fh; have g4 := hB2.fl; have g5 := hB2.size))
      all_goals
        go_wp2
        go_roundw
        case rel => exact ⟨k + 1, by omega, by go_num, by rw [e1]; exact hB2.store _⟩
        case measure => simp [RowKit.intOf]; omega
    · obtain rfl : k = zs.length := by omega
      have h1 := hB.hi
      have h2 := hB.lo
      rw [List.take_length] at h1 h2 hB
      obtain ⟨n, o, hf⟩ := fitV_pair zs.sum
      have c := fit_any zs.sum wr
      rw [hf] at c
      go_wp2_with (go_at_call 25; refine c.mono ?_; rintro e w1 ⟨rfl, hb1⟩)
      go_ret2
      exact ⟨by rw [hf]; rfl, hB.below.trans (hb1.mono (Nat.le_of_lt hB.size))⟩
theorem sum_nil (r : Option Addr) (cap : Nat) (w : World) :
    Calls Tryd.prog 13 #[.slice r 0 cap] w fun e w' => e = .returned (fitV 0) ∧ Below w.heap.size w w' := by
  have z1 := hi_zero
  have z2 := lo_zero
  obtain ⟨n, o, hf⟩ := fitV_pair 0
  have c := fun w => fit_any 0 w
  rw [hf, z1, z2] at c
  rw [hf]
  go_enter Tryd.func13, Tryd.ntmps13
  go_wp2
  go_loopw [9] (fun i wr => i = .int .i64 0 ∧ Box w wr 0) (fun i _ => 0)
  case atStart => exact ⟨rfl, by simp [z1], by simp [z2], by simp, by simp, by simp, (Below.refl _ _).alloc (Nat.le_refl _) _⟩
  case round =>
    obtain ⟨rfl, hB⟩ := hrel
    have h1 := hB.hi
    have h2 := hB.lo
    rw [z1] at h1
    rw [z2] at h2
    go_wp2_with (go_at_call 25; refine (c _).mono ?_; rintro e w1 ⟨rfl, hb1⟩)
    go_ret2
    exact ⟨rfl, hB.below.trans (hb1.mono (Nat.le_of_lt hB.size))⟩
/-- The sum of any amounts in memory, if it goes into 64 bits with a sign. -/
theorem sum_any (v : Value) (zs : List Int) (w : World) (h : Amts w v zs) :
    Calls Tryd.prog 13 #[v] w fun e w' => e = .returned (fitV zs.sum) ∧ Below w.heap.size w w' := by
  rcases h with ⟨r, cap, rfl, rfl⟩ | ⟨b, off, cap, rfl, hb, hl, _, hz⟩
  · exact sum_nil r cap w
  · exact sum_some b off cap zs w hb hl hz
theorem amts_two (w : World) (t : TypeId) (a b : Int) (ha : (Lit.int .i64 a).wf = true) (hb : (Lit.int .i64 b).wf = true) :
    Amts (w.alloc (.cells #[.int .i64 a, .int .i64 b] t)) (.slice (some ⟨w.heap.size, 0, none⟩) 2 2) [a, b] := by
  refine .inr ⟨w.heap.size, 0, 2, rfl, by simp, by simp, by simp, fun i hi => ?_⟩
  have hi' : i < 2 := by simpa using hi
  rcases (by omega : i = 0 ∨ i = 1) with rfl | rfl
  · exact ⟨by simp, by simpa using ha⟩
  · exact ⟨by simp, by simpa using hb⟩
theorem madd_any (a b : Int) (w : World) (ha : (Lit.int .i64 a).wf = true) (hb : (Lit.int .i64 b).wf = true) :
    Calls Tryd.prog 14 #[.int .i64 a, .int .i64 b] w fun e w' => e = .returned (fitV (a + b)) ∧ Below w.heap.size w w' := by
  obtain ⟨n, o, hf⟩ := fitV_pair (a + b)
  have e1 : [a, b].sum = a + b := by simp
  have c := sum_any _ _ _ (amts_two w 2 a b ha hb)
  rw [e1, hf] at c
  clear e1
  go_enter Tryd.func14, Tryd.ntmps14
  go_wp2_with (go_at_call 13; refine c.mono ?_; rintro e w1 ⟨rfl, hb1⟩)
  go_ret2
  exact ⟨by rw [hf]; rfl, ((Below.refl _ _).alloc (Nat.le_refl _) _).trans (hb1.mono (by simp))⟩
theorem mneg_any (a : Int) (w : World) (ha : (Lit.int .i64 a).wf = true) :
    Calls Tryd.prog 15 #[.int .i64 a] w fun e w' => e = .returned (fitV (-a)) ∧ Below w.heap.size w w' := by
  obtain ⟨n, o, hf⟩ := fitV_pair (-a)
  have c := fun w => fit_any (-a) w
  rw [hf] at c
  go_enter Tryd.func15, Tryd.ntmps15
  go_wp2_with (first
    | (go_at_call 24; refine (of_any a _ ha).mono ?_; rintro e w1 ⟨rfl, hb1⟩)
    | (go_at_call 26; refine (neg_any a _).mono ?_; rintro e w2 ⟨rfl, hb2⟩)
    | (go_at_call 25; refine (c _).mono ?_; rintro e w3 ⟨rfl, hb3⟩))
  go_ret2
  exact ⟨by rw [hf]; rfl, hb1.trans ((hb2.mono hb1.size).trans (hb3.mono (Nat.le_trans hb1.size hb2.size)))⟩
end Go.Proofs.YtcfdanfebpgplaaDoor

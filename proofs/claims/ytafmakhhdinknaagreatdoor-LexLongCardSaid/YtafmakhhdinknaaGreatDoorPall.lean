/- The order in which units are given away: the parts sorted by their rests, the greatest first, of like ones the first: it is the order of law 3's rounds. -/
import Derived.Test.YtafmakhhdinknaaGreatDoorThree
import Derived.Sort.LotA
import Derived.BigQuiet
import Derived.Deep.QuietTactic
import Derived.Test.YtafmakhhdinknaaGreatDoorShelf
import Derived.Sort.Grow
import Derived.Deep.DeepCutAuto
import Derived.RegionTactic
import Derived.Test.YtafmakhhdinknaaGreatDoorOne
namespace Go.Proofs.YtafmakhhdinknaaGreatDoor
open Go.RowKit
set_option linter.unusedVariables false
set_option linter.unusedSimpArgs false
/-- An order of n parts: the greatest rest first, of like ones the first part. -/
structure Ordered (R : Nat → Nat) (n : Nat) (p : Nat → Nat) : Prop where
  lt : ∀ k, k < n → p k < n
  inj : ∀ i j, i < n → j < n → p i = p j → i = j
  surj : ∀ t, t < n → ∃ k, k < n ∧ p k = t
  ord : ∀ i j, i < j → j < n → R (p j) < R (p i) ∨ (R (p j) = R (p i) ∧ p i < p j)
theorem bst_first (G : Nat → Int) (r : Nat → Nat) : ∀ i t, t < i → G t = 0 → (t : Int) < bst G r i → r t < r (bst G r i).toNat
  | 0, t, h, _, _ => by omega
  | i + 1, t, h, hg, hb => by
    have ih := bst_first G r i t
    have hm := bst_max G r i t
    have hn := bst_none G r i
    have hr := bst_range G r i
    unfold bst at hb ⊢
    by_cases c : G i = 0 ∧ (bst G r i < 0 ∨ r (bst G r i).toNat < r i)
    · rw [if_pos c] at hb ⊢
      have ht : t < i := by omega
      rcases c.2 with h1 | h1
      · exact absurd hg (hn h1 t ht)
      · have := hm ht hg
        simp; omega
    · rw [if_neg c] at hb ⊢
      exact ih (by omega) hg hb
/-- Who has got one, and what all have, when k parts of the order have got theirs. -/
def Gg (p : Nat → Nat) : Nat → Nat → Int
  | 0 => fun _ => 0
  | k + 1 => fun t => if t = p k then 1 else Gg p k t
def Og (p : Nat → Nat) (O : Nat → Int) : Nat → Nat → Int
  | 0 => O
  | k + 1 => fun t => if t = p k then IntKind.u64.wrap (Og p O k t + 1) else Og p O k t
theorem Gg_zero (p : Nat → Nat) : ∀ k t, Gg p k t = 0 ↔ ∀ i, i < k → p i ≠ t
  | 0, t => ⟨fun _ i hi => by omega, fun _ => rfl⟩
  | k + 1, t => by
    have ih := Gg_zero p k t
    unfold Gg
    by_cases e : t = p k
    · rw [if_pos e]
      exact ⟨fun h => by omega, fun h => absurd e.symm (h k (by omega))⟩
    · rw [if_neg e, ih]
      refine ⟨fun h i hi => ?_, fun h i hi => h i (by omega)⟩
      by_cases hk : i = k
      · subst hk; exact fun h' => e h'.symm
      · exact h i (by omega)
theorem bst_ord {R : Nat → Nat} {n : Nat} {p : Nat → Nat} (h : Ordered R n p) (k : Nat) (hk : k < n) : bst (Gg p k) R n = (p k : Int) := by
  have hfree : Gg p k (p k) = 0 := (Gg_zero p k (p k)).2 fun i hi e => by
    have := h.inj i k (by omega) hk e
    omega
  have hr := bst_range (Gg p k) R n
  have hn := bst_none (Gg p k) R n
  have hf := bst_free (Gg p k) R n
  have hm := bst_max (Gg p k) R n (p k) (h.lt k hk) hfree
  have h1 := bst_first (Gg p k) R n (p k) (h.lt k hk) hfree
  have h0 : 0 ≤ bst (Gg p k) R n := by
    by_cases e : bst (Gg p k) R n < 0
    · exact absurd hfree (hn e (p k) (h.lt k hk))
    · omega
  have hb := hf h0
  generalize bst (Gg p k) R n = b at *
  obtain ⟨q, rfl⟩ : ∃ q : Nat, b = q := ⟨b.toNat, by omega⟩
  simp only [Int.toNat_natCast] at *
  obtain ⟨j, hj, rfl⟩ := h.surj q (by omega)
  have hjk : ¬ j < k := fun e => (Gg_zero p k (p j)).1 hb j e rfl
  by_cases e : j = k
  · rw [e]
  · have := h.ord k j (by omega) hj
    by_cases hlt : p k < p j
    · have := h1 (by omega)
      omega
    · omega
theorem give_ord {R : Nat → Nat} {n : Nat} {p : Nat → Nat} (h : Ordered R n p) (O : Nat → Int) : ∀ m k, k + m ≤ n → give n R m (Gg p k) (Og p O k) = some (Og p O (k + m))
  | 0, k, _ => rfl
  | m + 1, k, hk => by
    have hb := bst_ord h k (by omega)
    unfold give
    rw [hb, if_neg (by omega)]
    have := give_ord h O m (k + 1) (by omega)
    rw [show k + 1 + m = k + (m + 1) by omega] at this
    rw [Int.toNat_natCast]
    exact this
/-- Of like rests the lesser part stands ahead. -/
def Stb (R : Nat → Nat) {m : Nat} (d : Array (Fin (m + 1))) : Prop := ∀ i j, i < j → j < d.size → R d[i]!.val = R d[j]!.val → d[i]!.val < d[j]!.val
theorem stb_swp {R : Nat → Nat} {m : Nat} {d : Array (Fin (m + 1))} (h : Stb R d) {j : Nat} (hj : j + 1 < d.size) (hl : R d[j]!.val < R d[j + 1]!.val) : Stb R (Sort.swp d (j + 1) j) := by
  have g := Sort.swp_get d hj (show j < d.size by omega)
  intro a b hab hb he
  rw [Sort.swp_size] at hb
  rw [g, g] at he ⊢
  by_cases a1 : a = j
  · subst a1
    rw [if_pos rfl] at he ⊢
    rw [if_neg (show b ≠ a by omega)] at he ⊢
    by_cases b2 : b = a + 1
    · subst b2
      rw [if_pos rfl] at he
      omega
    · rw [if_neg b2] at he ⊢
      exact h (a + 1) b (by omega) hb he
  · rw [if_neg a1] at he ⊢
    by_cases a2 : a = j + 1
    · subst a2
      rw [if_pos rfl, if_neg (show b ≠ j by omega), if_neg (show b ≠ j + 1 by omega)] at he ⊢
      exact h j b (by omega) hb he
    · rw [if_neg a2] at he ⊢
      by_cases b1 : b = j
      · subst b1
        rw [if_pos rfl] at he ⊢
        exact h a (b + 1) (by omega) hj he
      · rw [if_neg b1] at he ⊢
        by_cases b2 : b = j + 1
        · subst b2
          rw [if_pos rfl] at he ⊢
          exact h a j (by omega) (by omega) he
        · rw [if_neg b2] at he ⊢
          exact h a b hab hb he
theorem stb_inner {R : Nat → Nat} {m : Nat} {lt : Fin (m + 1) → Fin (m + 1) → Bool} (hlt : ∀ x y, lt x y = decide (R y.val < R x.val)) (a : Nat) : ∀ (j : Nat) (d : Array (Fin (m + 1))), j < d.size → Stb R d → Stb R (Sort.insInner lt a j d) ∧ (Sort.insInner lt a j d).size = d.size
  | 0, d, _, h => ⟨h, rfl⟩
  | j + 1, d, hj, h => by
    unfold Sort.insInner
    split
    · rename_i hc
      simp only [Bool.and_eq_true, decide_eq_true_eq, hlt] at hc
      have := stb_inner hlt a j (Sort.swp d (j + 1) j) (by rw [Sort.swp_size]; omega) (stb_swp h hj hc.2)
      rw [Sort.swp_size] at this
      exact this
    · exact ⟨h, rfl⟩
theorem stb_outer {R : Nat → Nat} {m : Nat} {lt : Fin (m + 1) → Fin (m + 1) → Bool} (hlt : ∀ x y, lt x y = decide (R y.val < R x.val)) (a b : Nat) : ∀ (k i : Nat) (d : Array (Fin (m + 1))), b - i = k → b ≤ d.size → Stb R d → Stb R (Sort.insOuter lt a b i d)
  | 0, i, d, hk, _, h => by rw [Sort.insOuter, if_neg (by omega)]; exact h
  | k + 1, i, d, hk, hb, h => by
    rw [Sort.insOuter, if_pos (by omega)]
    obtain ⟨h1, h2⟩ := stb_inner hlt a i d (by omega) h
    exact stb_outer hlt a b k (i + 1) _ (by omega) (by omega) h1
theorem swo_rest {R : Nat → Nat} {m : Nat} {lt : Fin (m + 1) → Fin (m + 1) → Bool} (hlt : ∀ x y, lt x y = decide (R y.val < R x.val)) : Sort.SWO lt := by
  constructor
  · intro x; rw [hlt]; simp
  · intro x y z h1 h2; rw [hlt] at *; simp only [decide_eq_true_eq] at *; omega
  · intro x y z h1 h2; rw [hlt] at *; simp only [decide_eq_false_iff_not] at *; omega
/-- All parts, in their order. -/
def parts (m : Nat) : Array (Fin (m + 1)) := Array.ofFn fun i => i
theorem parts_size (m : Nat) : (parts m).size = m + 1 := by unfold parts; simp
theorem parts_get (m k : Nat) (hk : k < m + 1) : (parts m)[k]! = ⟨k, hk⟩ := by
  rw [getElem!_pos (parts m) k (by rw [parts_size]; exact hk)]
  unfold parts; simp
theorem sorted_ordered (R : Nat → Nat) (m : Nat) (lt : Fin (m + 1) → Fin (m + 1) → Bool) (hlt : ∀ x y, lt x y = decide (R y.val < R x.val)) :
    Ordered R (m + 1) (fun k => (Sort.insertionSort lt (parts m) 0 (m + 1))[k]!.val) ∧ (Sort.insertionSort lt (parts m) 0 (m + 1)).size = m + 1 := by
  have hp := Sort.insertionSort_holds (lt := lt) (swo_rest hlt) (parts m) 0 (m + 1) (by omega) (by rw [parts_size]; exact Nat.le_refl _)
  have hs : Stb R (Sort.insertionSort lt (parts m) 0 (m + 1)) := by
    unfold Sort.insertionSort
    refine stb_outer hlt 0 (m + 1) _ _ _ rfl (by rw [parts_size]; exact Nat.le_refl _) ?_
    intro i j hij hj _
    rw [parts_size] at hj
    rw [parts_get m i (by omega), parts_get m j hj]
    exact hij
  generalize Sort.insertionSort lt (parts m) 0 (m + 1) = d at *
  obtain ⟨⟨h1, _, h2⟩, h3⟩ := hp
  rw [parts_size] at h1
  have e1 : d.extract 0 (m + 1) = d := by
    have h := @Array.extract_size _ d
    rw [h1] at h
    exact h
  have e2 : (parts m).extract 0 (m + 1) = parts m := by
    have h := @Array.extract_size _ (parts m)
    rw [parts_size] at h
    exact h
  rw [e1, e2] at h2
  have nd0 : (parts m).toList.Nodup := by
    refine List.pairwise_iff_getElem.2 fun i j hi hj hij => ?_
    have hi' : i < m + 1 := by simpa [parts_size] using hi
    have hj' : j < m + 1 := by simpa [parts_size] using hj
    have gi : ∀ (k : Nat) (hk : k < (parts m).toList.length), ((parts m).toList[k]).val = k := by
      intro k hk
      rw [Array.getElem_toList]
      simp only [parts, Array.getElem_ofFn]
    intro e
    have := congrArg Fin.val e
    rw [gi, gi] at this
    omega
  have nd : d.toList.Nodup := h2.nodup_iff.2 nd0
  refine ⟨⟨fun k _ => d[k]!.isLt, fun i j hi hj e => ?_, fun t ht => ?_, fun i j hij hj => ?_⟩, h1⟩
  · have nn := List.pairwise_iff_getElem.1 nd
    rw [getElem!_pos d i (by omega), getElem!_pos d j (by omega)] at e
    have e' : d[i]'(by omega) = d[j]'(by omega) := Fin.ext e
    rcases Nat.lt_trichotomy i j with hlt' | heq | hgt
    · exact absurd e' (nn i j (by simpa [h1] using hi) (by simpa [h1] using hj) hlt')
    · exact heq
    · exact absurd e'.symm (nn j i (by simpa [h1] using hj) (by simpa [h1] using hi) hgt)
  · have hm : (⟨t, ht⟩ : Fin (m + 1)) ∈ (parts m).toList := by
      have hl : t < (parts m).toList.length := by simpa [parts_size] using ht
      have he : (parts m).toList[t] = (⟨t, ht⟩ : Fin (m + 1)) := by
        rw [Array.getElem_toList]
        simp only [parts, Array.getElem_ofFn]
      rw [← he]; exact List.getElem_mem hl
    have hm' := h2.mem_iff.2 hm
    obtain ⟨k, hk, he⟩ := List.getElem_of_mem hm'
    have hk' : k < d.size := by simpa using hk
    refine ⟨k, by omega, ?_⟩
    rw [getElem!_pos d k hk']
    rw [Array.getElem_toList] at he
    rw [he]
  · have h4 := h3 i j (by omega) hij hj
    rw [hlt] at h4
    simp only [decide_eq_false_iff_not] at h4
    by_cases e : R d[j]!.val = R d[i]!.val
    · exact .inr ⟨e, hs i j hij (by omega) e.symm⟩
    · exact .inl (by omega)
end Go.Proofs.YtafmakhhdinknaaGreatDoor
/- Contracts of share's total, check, signed. -/
namespace Go.Proofs.YtafmakhhdinknaaGreatDoor
open Go.RowKit
set_option linter.unusedVariables false
set_option linter.unusedSimpArgs false
set_option maxRecDepth 100000 in
theorem total_i64 (b off cap n : Nat) (f : Nat → Nat) (w : World) (hn : n ≤ 8) (hc : ∀ i, i < n → w.cell? ⟨b, off + i, none⟩ = some (.int .i64 (f i : Nat))) (hf : ∀ i, i < n → f i ≤ 1000000) :
    Calls Tryz.prog 213 #[.slice (some ⟨b, off, none⟩) n cap] w fun e w' => e = .returned (.int .i64 (sumTo f n : Nat)) ∧ w = w' := by
  have hb : ∀ j, j ≤ n → sumTo f j ≤ j * 1000000 := fun j hj => sumTo_bound f 1000000 j (fun i hi => hf i (by omega))
  have HB := Lib.hid hb
  have HC := Lib.hid hc
  have HF := Lib.hid hf
  clear hb hc hf
  go_enter Tryz.func213, Tryz.ntmps213
  go_wp2
  go_loop [3, 8] (fun s i => ∃ j : Nat, j ≤ n ∧ i = .int .i64 j ∧ s = .int .i64 ((sumTo f j : Nat) : Int)) (fun _ i => n - (RowKit.intOf i).toNat)
  case atStart => exact ⟨0, Nat.zero_le _, rfl, rfl⟩
  case round =>
    obtain ⟨j, hj, rfl, rfl⟩ := hrel
    by_cases hlt : j < n
    · have hcj := HC.out j hlt
      have hfj := HF.out j hlt
      have hbj := HB.out j hj
      have Hsj := Lib.hid (show sumTo f (j + 1) = sumTo f j + f j from rfl)
      generalize sumTo f j = t at *
      generalize f j = x at *
      go_wp2
      go_round
      case rel => exact ⟨j + 1, by omega, by go_num, int_int (by rw [Hsj.out]; push_cast; rfl)⟩
      case measure => simp [RowKit.intOf]; omega
    · obtain rfl : j = n := by omega
      go_wp2
      go_ret
      exact ⟨rfl, rfl⟩
set_option maxRecDepth 100000 in
theorem total_u64 (b cap n : Nat) (f : Nat → Nat) (w : World) (hn : n ≤ 8) (hc : ∀ i, i < n → w.cell? ⟨b, i, none⟩ = some (.int .u64 (f i : Nat))) (hf : sumTo f n ≤ 9223372036854775808) :
    Calls Tryz.prog 207 #[.slice (some ⟨b, 0, none⟩) n cap] w fun e w' => e = .returned (.int .u64 (sumTo f n : Nat)) ∧ w = w' := by
  have HB := Lib.hid (fun (j : Nat) (hj : j ≤ n) => Nat.le_trans (sumTo_mono f hj) hf)
  have HC := Lib.hid hc
  clear hc hf
  go_enter Tryz.func207, Tryz.ntmps207
  go_wp2
  go_loop [3, 8] (fun s i => ∃ j : Nat, j ≤ n ∧ i = .int .i64 j ∧ s = .int .u64 ((sumTo f j : Nat) : Int)) (fun _ i => n - (RowKit.intOf i).toNat)
  case atStart => exact ⟨0, Nat.zero_le _, rfl, rfl⟩
  case round =>
    obtain ⟨j, hj, rfl, rfl⟩ := hrel
    by_cases hlt : j < n
    · have hcj := HC.out j hlt
      have hbj := HB.out (j + 1) hlt
      have hsj : sumTo f (j + 1) = sumTo f j + f j := rfl
      rw [hsj] at hbj
      have Hsj := Lib.hid hsj
      clear hsj
      generalize sumTo f j = t at *
      generalize f j = x at *
      go_wp2
      go_round
      case rel => exact ⟨j + 1, by omega, by go_num, int_int (by rw [Hsj.out]; push_cast; rfl)⟩
      case measure => simp [RowKit.intOf]; omega
    · obtain rfl : j = n := by omega
      go_wp2
      go_ret
      exact ⟨rfl, rfl⟩
theorem check_few (r : Option Addr) (cap : Nat) (w : World) :
    Calls Tryz.prog 204 #[.slice r 0 cap] w fun e w' => e = .returned (.int .i64 2) ∧ w = w' := by
  go_enter Tryz.func204, Tryz.ntmps204
  go_wp2
  go_ret
  exact ⟨rfl, rfl⟩
theorem check_many (r : Option Addr) (n cap : Nat) (w : World) (hn : 8 < n) :
    Calls Tryz.prog 204 #[.slice r n cap] w fun e w' => e = .returned (.int .i64 2) ∧ w = w' := by
  have e1 : decide ((n : Int) < 1) = false := decide_eq_false (by omega)
  have e2 : decide ((8 : Int) < (n : Int)) = true := decide_eq_true (by omega)
  have e2' : decide ((n : Int) > 8) = true := decide_eq_true (by omega)
  go_enter Tryz.func204, Tryz.ntmps204
  go_wp2
  go_ret
  exact ⟨rfl, rfl⟩
set_option maxHeartbeats 1000000 in
theorem check_some (b off cap : Nat) (zs : List Int) (w : World) (r : Int) (h0 : 0 < zs.length) (h8 : zs.length ≤ 8)
    (hz : ∀ i, i < zs.length → w.cell? ⟨b, off + i, none⟩ = some (.int .i64 (zs.getD i 0))) (hg : GoodW zs → r = 0) (hb : ¬ GoodW zs → r = 5) :
    Calls Tryz.prog 204 #[.slice (some ⟨b, off, none⟩) zs.length cap] w fun e w' => e = .returned (.int .i64 r) ∧ w = w' := by
  have e1 : decide ((zs.length : Int) < 1) = false := decide_eq_false (by omega)
  have e2 : decide ((8 : Int) < (zs.length : Int)) = false := decide_eq_false (by omega)
  have e2' : decide ((zs.length : Int) > 8) = false := decide_eq_false (by omega)
  have HZ := Lib.hid hz
  have HG := Lib.hid hg
  have HB := Lib.hid hb
  clear hz hg hb
  go_enter Tryz.func204, Tryz.ntmps204
  go_wp2
  go_loop [15] (fun i => ∃ j : Nat, j ≤ zs.length ∧ i = .int .i64 j ∧ Hid (∀ t, t < j → 1 ≤ zs.getD t 0 ∧ zs.getD t 0 ≤ 1000000)) (fun i => zs.length - (RowKit.intOf i).toNat)
  case atStart => exact ⟨0, Nat.zero_le _, rfl, fun t ht => absurd ht (Nat.not_lt_zero _)⟩
  case round =>
    obtain ⟨j, hj, rfl, hE⟩ := hrel
    by_cases hlt : j < zs.length
    · have hcj := HZ.out j hlt
      have hno : ¬ (1 ≤ zs.getD j 0 ∧ zs.getD j 0 ≤ 1000000) → r = 5 := fun h => HB.out fun g => h (g j hlt)
      have hgo : (1 ≤ zs.getD j 0 ∧ zs.getD j 0 ≤ 1000000) → ∀ t, t < j + 1 → 1 ≤ zs.getD t 0 ∧ zs.getD t 0 ≤ 1000000 := fun h t ht => by
        by_cases e : t = j
        · subst e; exact h
        · exact hE.out t (by omega)
      have Hno := Lib.hid hno
      have Hgo := Lib.hid hgo
      clear hno hgo
      generalize zs.getD j 0 = z at *
      by_cases h1 : z < 1
      · obtain rfl := Hno.out (by omega)
        go_wp2
        go_ret
        exact ⟨rfl, rfl⟩
      · by_cases h2 : 1000000 < z
        · obtain rfl := Hno.out (by omega)
          go_wp2
          go_ret
          exact ⟨rfl, rfl⟩
        · have Hg := Hgo.out (by omega)
          have HG2 := Lib.hid Hg
          clear Hg
          go_wp2
          go_round
          case rel => exact ⟨j + 1, by omega, by go_num, HG2.out⟩
          case measure => simp [RowKit.intOf]; omega
    · obtain rfl : j = zs.length := by omega
      obtain rfl := HG.out hE.out
      go_wp2
      go_ret
      exact ⟨rfl, rfl⟩
end Go.Proofs.YtafmakhhdinknaaGreatDoor
/- Contracts of share's signed, of cmp.Compare at numbers without a sign, and of byRests' closure. -/
namespace Go.Proofs.YtafmakhhdinknaaGreatDoor
open Go.RowKit
set_option linter.unusedVariables false
set_option linter.unusedSimpArgs false
theorem made_owns {w : World} {G n base : Nat} {f : Nat → Int} (h : w.rowIs G 2 n (fun t => .int .i64 (f t))) (hb : base ≤ G) (hm : n ≤ 8) :
    w.ownsRow base 2 1 (.slice (some ⟨G, 0, none⟩) n n) n (ints ((List.range n).map f)) := by
  obtain ⟨c, hg, hs, hc⟩ := h
  refine ⟨by simp [ints], .inr ⟨G, n, c, rfl, hb, hg, Nat.le_refl _, by unfold maxLen; omega, by omega, ?_⟩⟩
  apply List.ext_getElem?
  intro i
  rw [Nat.mul_one, List.getElem?_take]
  by_cases hi : i < n
  · rw [if_pos hi]
    have := hc i hi
    simp [ints, hi] at this ⊢
    exact this
  · rw [if_neg hi]
    simp [ints, hi]
theorem neg_same (x : Int) : wrap64 (-(wrap64 x)) = wrap64 (IntKind.u64.wrap (-x)) := by
  rw [w64w, w64w, w64w, IntKind.wrap_u64]; omega
set_option maxHeartbeats 2000000 in
set_option maxRecDepth 100000 in
theorem signed_any (B n : Nat) (O : Nat → Int) (neg : Bool) (w : World) (hn : n ≤ 8) (hr : w.rowIs B 77 n (fun t => .int .u64 (O t))) :
    Calls Tryz.prog 209 #[.slice (some ⟨B, 0, none⟩) n n, .bool neg] w fun e w' => ∃ u, e = .returned u ∧ w'.ownsRow w.heap.size 2 1 u n (ints (allotL neg n O)) ∧ Below w.heap.size w w' := by
  have hB := hr.lt
  have hmk := run_make_row' (P := Tryz.prog) 240 2 (.int .i64 0) 8 Tryz.underlying240 (by kernel_rfl) rfl .i64 .i64 n (by omega) (by omega)
  have HC := Lib.hid (fun (t : Nat) (ht : t < n) => hr.cell ht)
  have r1 := Lib.hid (World.rowIs_made w (.int .i64 0) n 2)
  clear hr
  go_enter Tryz.func209, Tryz.ntmps209
  go_wp2
  clear hmk
  go_loopw [13] (fun i wr => ∃ j : Nat, j ≤ n ∧ i = .int .i64 j ∧ wr.rowIs w.heap.size 2 n (fun t => .int .i64 (if t < j then wrap64 (if neg then IntKind.u64.wrap (-(O t)) else O t) else 0)) ∧ Below w.heap.size w wr) (fun i _ => n - (RowKit.intOf i).toNat)
  case atStart => exact ⟨0, Nat.zero_le _, rfl, r1.out.congr (fun t _ => by simp), (Below.refl _ _).alloc (Nat.le_refl _) _⟩
  case round =>
    obtain ⟨j, hj, rfl, hr, hBw⟩ := hrel
    rename World => wr
    by_cases hlt : j < n
    · have hc1 : wr.cell? ⟨B, j, none⟩ = some (.int .u64 (O j)) := by rw [hBw.cell (p := ⟨B, j, none⟩) hB]; exact HC.out j hlt
      have f1 := hr.frozen j
      have c1 := hr.cell hlt
      have s1 := fun x : Int => (hr.set j (.int .i64 x)).cell hlt
      have s2 := fun x : Int => (hr.set j (.int .i64 x)).frozen j
      simp only [if_true] at s1
      have e1 : ∀ t, t ≠ j → (t < j + 1 ↔ t < j) := fun t h => by omega
      have HR := Lib.hid hr
      obtain ⟨x, hx⟩ : ∃ x, O j = x := ⟨_, rfl⟩
      have HE := Lib.hid (show ∀ t, Value.int .i64 (if t = j then wrap64 (if neg then IntKind.u64.wrap (-x) else x) else if t < j then wrap64 (if neg then IntKind.u64.wrap (-(O t)) else O t) else 0) = Value.int .i64 (if t < j + 1 then wrap64 (if neg then IntKind.u64.wrap (-(O t)) else O t) else 0) from fun t => by
        rw [← hx]
        by_cases h : t = j
        · rw [if_pos h, if_pos (show t < j + 1 by omega), h]
        · rw [if_neg h]; simp only [e1 t h])
      have hns := neg_same x
      rw [hx] at hc1
      clear hr e1 hx
      cases neg with
      | false =>
        go_wp2
        go_roundw
        case rel =>
          refine ⟨j + 1, by omega, by go_num, ?_, hBw.setCell (Nat.le_refl _) _⟩
          refine (HR.out.set j _).congr (fun t _ => ?_)
          rw [← HE.out t]
          by_cases h : t = j
          · subst h; simp
          · simp [h]
        case measure => simp [RowKit.intOf]; omega
      | true =>
        go_wp2
        go_roundw
        case rel =>
          refine ⟨j + 1, by omega, by go_num, ?_, (hBw.setCell (Nat.le_refl _) _).setCell (Nat.le_refl _) _⟩
          refine ((HR.out.set j _).set j _).congr (fun t _ => ?_)
          have he := HE.out t
          simp only [if_true] at he ⊢
          rw [← he]
          by_cases h : t = j
          · rw [if_pos h, if_pos h]
          · rw [if_neg h, if_neg h, if_neg h]
        case measure => simp [RowKit.intOf]; omega
    · obtain rfl : j = n := by omega
      go_wp2
      go_ret
      refine ⟨_, rfl, ?_, hBw⟩
      unfold allotL
      exact made_owns (hr.congr (fun t ht => by rw [if_pos ht])) (Nat.le_refl _) hn
theorem isnan_any (x : Int) (w : World) : Calls Tryz.prog 224 #[.int .u64 x] w fun e w' => e = .returned (.bool false) ∧ w' = w := by
  go_enter Tryz.func224, Tryz.ntmps224
  go_wp2
  go_ret
  exact ⟨by simp, rfl⟩
/-- How two numbers stand to each other. -/
def cmpI (x y : Nat) : Int := if x < y then -1 else if y < x then 1 else 0
theorem compare_any (x y : Nat) (w : World) : Calls Tryz.prog 219 #[.int .u64 (x : Int), .int .u64 (y : Int)] w fun e w' => e = .returned (.int .i64 (cmpI x y)) ∧ w' = w := by
  have K := Lib.hid (fun x => isnan_any x w)
  by_cases h1 : x < y
  · have e0 : cmpI x y = -1 := by unfold cmpI; rw [if_pos h1]
    have e1 : (x : Int) < (y : Int) := by omega
    rw [e0]
    go_enter Tryz.func219, Tryz.ntmps219
    go_wp2_with (go_at_call 224; refine (K.out _).mono ?_; rintro e w1 ⟨rfl, rfl⟩)
    go_ret
    exact ⟨rfl, rfl⟩
  · have e1 : ¬ (x : Int) < (y : Int) := by omega
    by_cases h2 : y < x
    · have e0 : cmpI x y = 1 := by unfold cmpI; rw [if_neg h1, if_pos h2]
      have e2 : (y : Int) < (x : Int) := by omega
      rw [e0]
      go_enter Tryz.func219, Tryz.ntmps219
      go_wp2_with (go_at_call 224; refine (K.out _).mono ?_; rintro e w1 ⟨rfl, rfl⟩)
      go_ret
      exact ⟨rfl, rfl⟩
    · have e0 : cmpI x y = 0 := by unfold cmpI; rw [if_neg h1, if_neg h2]
      have e2 : ¬ (y : Int) < (x : Int) := by omega
      rw [e0]
      go_enter Tryz.func219, Tryz.ntmps219
      go_wp2_with (go_at_call 224; refine (K.out _).mono ?_; rintro e w1 ⟨rfl, rfl⟩)
      go_ret
      exact ⟨rfl, rfl⟩
set_option maxHeartbeats 2000000 in
theorem closure_any (BX B n : Nat) (R : Nat → Nat) (x y : Nat) (W : World) (hn : n ≤ 8) (hx : x < n) (hy : y < n) (hX : W.cell? ⟨BX, 0, none⟩ = some (.slice (some ⟨B, 0, none⟩) n n))
    (hR : ∀ t, t < n → W.cell? ⟨B, t, none⟩ = some (.int .u64 (R t : Nat))) :
    Calls Tryz.prog 218 #[.int .i64 (x : Int), .int .i64 (y : Int), .pointer (some ⟨BX, 0, none⟩)] W fun e w' => e = .returned (.int .i64 (cmpI (R y) (R x))) ∧ ∃ q, w' = W.drewN q := by
  have c1 := hR x hx
  have c2 := hR y hy
  have x0 : (0 : Int) ≤ (x : Int) := by omega
  have y0 : (0 : Int) ≤ (y : Int) := by omega
  have x1 : (x : Int) < (n : Int) := by omega
  have y1 : (y : Int) < (n : Int) := by omega
  have hc := fun W => compare_any (R y) (R x) W
  clear hR
  generalize cmpI (R y) (R x) = r at *
  generalize R x = rx at *
  generalize R y = ry at *
  go_enter Tryz.func218, Tryz.ntmps218
  go_wp2
  go_quiet (first | (go_at_call 219; refine Calls.quiet_of_same (hc _)))
  go_wp2
  go_ret
  exact ⟨rfl, _, rfl⟩
end Go.Proofs.YtafmakhhdinknaaGreatDoor
/- Contracts of slices.SortStableFunc at a few parts, and of share's byRests: the parts in the order of their rests. -/
namespace Go.Proofs.YtafmakhhdinknaaGreatDoor
open Go.RowKit
set_option linter.unusedVariables false
set_option linter.unusedSimpArgs false
/-- A part as a value. -/
def encF {m : Nat} (x : Fin (m + 1)) : Value := .int .i64 (x.val : Int)
/-- byRests' closure, bound to the variable that holds the rests. -/
def cloV (BX : Nat) : Value := .func (.func 218) #[] #[.pointer (some ⟨BX, 0, none⟩)]
theorem ins_any (BX B G n m : Nat) (R : Nat → Nat) (w : World) (hn : n = m + 1) (h8 : n ≤ 8) (hX : w.cell? ⟨BX, 0, none⟩ = some (.slice (some ⟨B, 0, none⟩) n n))
    (hR : ∀ t, t < n → w.cell? ⟨B, t, none⟩ = some (.int .u64 (R t : Nat))) (hXG : BX ≠ G) (hBG : B ≠ G) (hBX : BX < w.heap.size) (hB : B < w.heap.size) (hG : w.rowIs G 3 n (fun t => .int .i64 (t : Int))) :
    Calls Tryz.prog 227 #[.slice (some ⟨G, 0, none⟩) n n, .int .i64 0, .int .i64 (n : Int), .func (.func 218) #[] #[.pointer (some ⟨BX, 0, none⟩)]] w fun e w' =>
      e = .returned (.tuple #[]) ∧ ∃ p, Ordered R n p ∧ (∀ k, k < n → w'.cell? ⟨G, k, none⟩ = some (.int .i64 (p k : Nat))) ∧ Below G w w' := by
  subst hn
  have hH : Sort.Holds (encF (m := m)) w G 0 (parts m) := fun j hj => by
    rw [parts_size] at hj
    rw [parts_get m j hj, Nat.zero_add]
    exact ⟨hG.cell hj, hG.frozen j⟩
  have hcmp : CmpReads Tryz.prog 218 #[.pointer (some ⟨BX, 0, none⟩)] (encF (m := m)) (fun x y => cmpI (R y.val) (R x.val)) G 0 (parts m).size w := by
    intro q os dk hs x y
    refine closure_any BX B (m + 1) R x.val y.val _ h8 x.isLt y.isLt ?_ ?_
    · unfold sortWorld
      rw [Sort.cell?_grow _ _ _ (by rw [Sort.size_putRow]; exact hBX), Sort.cell?_putRow_other _ _ _ _ _ _ (.inl hXG)]
      exact hX
    · intro t ht
      unfold sortWorld
      rw [Sort.cell?_grow _ _ _ (by rw [Sort.size_putRow]; exact hB), Sort.cell?_putRow_other _ _ _ _ _ _ (.inl hBG)]
      exact hR t ht
  have eg : ∀ args w, (callFunc 218 args).run Tryz.prog w = .ok (.enter 218 args) w := enters_of Tryz.func218 (by kernel_rfl) rfl
  have h := Any.insertionSortCmpFunc_one Tryz.ins (encF (m := m)) (fun _ => rfl) (fun x y => cmpI (R y.val) (R x.val)) 218 #[.pointer (some ⟨BX, 0, none⟩)] G 0 (m + 1) 0 (m + 1) (parts m) w eg hcmp hH (by omega) (by rw [parts_size]; omega) (by rw [parts_size]; omega)
  rw [parts_size] at h
  obtain ⟨ho, hs⟩ := sorted_ordered R m (ltOf (fun x y => cmpI (R y.val) (R x.val))) (fun x y => by
    show decide ((if R y.val < R x.val then (-1 : Int) else if R x.val < R y.val then 1 else 0) < 0) = _
    by_cases h1 : R y.val < R x.val
    · rw [if_pos h1]; simp [h1]
    · rw [if_neg h1]
      have : decide (R y.val < R x.val) = false := decide_eq_false h1
      rw [this]
      split <;> simp)
  generalize Sort.insertionSort (ltOf (fun x y => cmpI (R y.val) (R x.val))) (parts m) 0 (m + 1) = d at *
  have hH' := Sort.holds_putRow (encF (m := m)) w G 0 (parts m) d hH (hs.trans (parts_size m).symm)
  refine (show Calls Tryz.prog 227 #[.slice (some ⟨G, 0, none⟩) (m + 1) (m + 1), .int .i64 0, .int .i64 ((m + 1 : Nat) : Int), .func (.func 218) #[] #[.pointer (some ⟨BX, 0, none⟩)]] w _ from h).mono ?_
  rintro e w' ⟨rfl, q, rfl⟩
  refine ⟨rfl, _, ho, fun k hk => ?_, rfl, rfl, rfl, ?_, fun k hk => ?_⟩
  · have := (hH' k (by omega)).1
    rw [Nat.zero_add] at this
    exact this
  · show w.heap.size ≤ (Sort.putRow encF w G 0 d).heap.size
    rw [Sort.size_putRow]; exact Nat.le_refl _
  · show (Sort.putRow encF w G 0 d).heap[k]? = w.heap[k]?
    unfold Sort.putRow Sort.mapBlock
    simp only [Array.getElem?_modify]
    rw [if_neg (by omega)]
set_option maxHeartbeats 2000000 in
set_option maxRecDepth 100000 in
theorem stable_any (BX B G n m : Nat) (R : Nat → Nat) (w : World) (hn : n = m + 1) (h8 : n ≤ 8) (hX : w.cell? ⟨BX, 0, none⟩ = some (.slice (some ⟨B, 0, none⟩) n n))
    (hR : ∀ t, t < n → w.cell? ⟨B, t, none⟩ = some (.int .u64 (R t : Nat))) (hXG : BX ≠ G) (hBG : B ≠ G) (hBX : BX < w.heap.size) (hB : B < w.heap.size) (hG : w.rowIs G 3 n (fun t => .int .i64 (t : Int))) :
    Calls Tryz.prog 223 #[.slice (some ⟨G, 0, none⟩) n n, .int .i64 (n : Int), .func (.func 218) #[] #[.pointer (some ⟨BX, 0, none⟩)]] w fun e w' =>
      e = .returned (.tuple #[]) ∧ ∃ p, Ordered R n p ∧ (∀ k, k < n → w'.cell? ⟨G, k, none⟩ = some (.int .i64 (p k : Nat))) ∧ Below G w w' := by
  have hc := Lib.hid (ins_any BX B G n m R w hn h8 hX hR hXG hBG hBX hB hG)
  have e1 : ¬ (20 : Int) ≤ (n : Int) := by omega
  have e2 : ¬ (20 : Int) < (n : Int) := by omega
  clear hX hR hG hXG hBG hBX hB hn h8
  go_enter Tryz.func223, Tryz.ntmps223
  go_wp2
  go_loop [7, 8] (fun a b => a = .int .i64 0 ∧ b = .int .i64 20) (fun _ _ => 0)
  case atStart => exact ⟨rfl, rfl⟩
  case round =>
    obtain ⟨rfl, rfl⟩ := hrel
    go_wp2_with (go_at_call 227; refine hc.out.mono ?_; rintro e w1 ⟨rfl, hp1⟩; have HP := Lib.hid hp1; clear hp1)
    go_loop [6] (fun b => b = .int .i64 20) (fun _ => 0)
    case atStart => rfl
    case round =>
      obtain rfl := hrel
      go_wp2
      go_end0
      exact ⟨rfl, HP.out⟩
set_option maxHeartbeats 1000000 in
theorem sortstable_any (BX B G n m : Nat) (R : Nat → Nat) (w : World) (hn : n = m + 1) (h8 : n ≤ 8) (hX : w.cell? ⟨BX, 0, none⟩ = some (.slice (some ⟨B, 0, none⟩) n n))
    (hR : ∀ t, t < n → w.cell? ⟨B, t, none⟩ = some (.int .u64 (R t : Nat))) (hXG : BX ≠ G) (hBG : B ≠ G) (hBX : BX < w.heap.size) (hB : B < w.heap.size) (hG : w.rowIs G 3 n (fun t => .int .i64 (t : Int))) :
    Calls Tryz.prog 217 #[.slice (some ⟨G, 0, none⟩) n n, .func (.func 218) #[] #[.pointer (some ⟨BX, 0, none⟩)]] w fun e w' =>
      e = .returned (.tuple #[]) ∧ ∃ p, Ordered R n p ∧ (∀ k, k < n → w'.cell? ⟨G, k, none⟩ = some (.int .i64 (p k : Nat))) ∧ Below G w w' := by
  have hc := Lib.hid (stable_any BX B G n m R w hn h8 hX hR hXG hBG hBX hB hG)
  clear hX hR hG hXG hBG hBX hB hn h8
  go_enter Tryz.func217, Tryz.ntmps217
  go_wp2_with (go_at_call 223; refine hc.out.mono ?_; rintro e w1 ⟨rfl, hp1⟩; have HP := Lib.hid hp1; clear hp1)
  go_end0
  exact ⟨rfl, HP.out⟩
theorem rinfoN : (Tryz.prog.info? 3).map (fun i => (i.zero, i.size, i.bytes)) = some (some (.int .i64 0), 1, 8) := by kernel_rfl
set_option maxHeartbeats 2000000 in
set_option maxRecDepth 100000 in
theorem byrests_any (B n : Nat) (R : Nat → Nat) (w : World) (h0 : 0 < n) (h8 : n ≤ 8) (hr : w.rowIs B 77 n (fun t => .int .u64 (R t : Nat))) :
    Calls Tryz.prog 208 #[.slice (some ⟨B, 0, none⟩) n n] w fun e w' =>
      ∃ G, e = .returned (.slice (some ⟨G, 0, none⟩) n n) ∧ w.heap.size ≤ G ∧ G < w'.heap.size ∧ (∃ p, Ordered R n p ∧ (∀ k, k < n → w'.cell? ⟨G, k, none⟩ = some (.int .i64 (p k : Nat)))) ∧ Below w.heap.size w w' := by
  have hB := hr.lt
  have hmk := run_make_row' (P := Tryz.prog) 252 3 (.int .i64 0) 8 Tryz.underlying252 rinfoN rfl .i64 .i64 n (by omega) (by omega)
  have HC := Lib.hid (fun (t : Nat) (ht : t < n) => hr.cell ht)
  have r1 := Lib.hid (fun W : World => World.rowIs_made W (.int .i64 0) n 3)
  have K := Lib.hid (fun (W : World) (m : Nat) (hn : n = m + 1) (hX : W.cell? ⟨w.heap.size, 0, none⟩ = some (.slice (some ⟨B, 0, none⟩) n n)) (hR : ∀ t, t < n → W.cell? ⟨B, t, none⟩ = some (.int .u64 (R t : Nat))) (hs : w.heap.size < W.heap.size) (hG : W.rowIs (w.heap.size + 1) 3 n (fun t => .int .i64 (t : Int))) => sortstable_any w.heap.size B (w.heap.size + 1) n m R W hn h8 hX hR (by omega) (by omega) hs (by omega) hG)
  clear hr
  go_enter Tryz.func208, Tryz.ntmps208
  go_wp2
  clear hmk
  go_loopw [10] (fun i wr => ∃ j : Nat, j ≤ n ∧ i = .int .i64 j ∧ wr.cell? ⟨w.heap.size, 0, none⟩ = some (.slice (some ⟨B, 0, none⟩) n n) ∧ wr.rowIs (w.heap.size + 1) 3 n (fun t => .int .i64 (if t < j then (t : Int) else 0)) ∧ Below w.heap.size w wr) (fun i _ => n - (RowKit.intOf i).toNat)
  case atStart =>
    refine ⟨0, Nat.zero_le _, rfl, by go_simp, ?_, ((Below.refl _ _).alloc (Nat.le_refl _) _).alloc (by simp) _⟩
    have := r1.out (w.alloc (.cells #[.slice (some ⟨B, 0, none⟩) n n] 247))
    rw [World.size_alloc] at this
    exact this.congr (fun t _ => by simp)
  case round =>
    obtain ⟨j, hj, rfl, hX, hrw, hBw⟩ := hrel
    rename World => wr
    by_cases hlt : j < n
    · have f1 := hrw.frozen j
      have c1 := hrw.cell hlt
      have e1 : ∀ t, t ≠ j → (t < j + 1 ↔ t < j) := fun t h => by omega
      have HR := Lib.hid hrw
      have HE := Lib.hid e1
      have HX := Lib.hid hX
      clear hrw e1 hX
      go_wp2
      go_roundw
      case rel =>
        refine ⟨j + 1, by omega, by go_num, ?_, ?_, hBw.setCell (by simp) _⟩
        · rw [World.cell?_of_block (w := wr) (Below.heap_setCell _ _ _ _ (by simp))]
          exact HX.out
        · refine (HR.out.set j _).congr (fun t _ => ?_)
          by_cases h : t = j
          · rw [if_pos h, if_pos (show t < j + 1 by omega), h]
          · rw [if_neg h]; simp only [HE.out t h]
      case measure => simp [RowKit.intOf]; omega
    · obtain rfl : j = n := by omega
      have hlt2 := hrw.lt
      have KK := Lib.hid (K.out wr (j - 1) (by omega) hX (fun t ht => by rw [hBw.cell (p := ⟨B, t, none⟩) hB]; exact HC.out t ht) (by omega) (hrw.congr (fun t ht => by rw [if_pos ht])))
      clear hX hrw
      go_wp2_with (go_at_call 217; refine KK.out.mono ?_; rintro e w1 ⟨rfl, p1, ho1, hp1, hb1⟩; have HP := Lib.hid (And.intro ho1 hp1); clear ho1 hp1)
      go_ret
      exact ⟨_, rfl, by omega, Nat.lt_of_lt_of_le hlt2 hb1.size, ⟨p1, HP.out.1, HP.out.2⟩, hBw.trans (hb1.mono (by omega))⟩
end Go.Proofs.YtafmakhhdinknaaGreatDoor
/- Contract of share's divide: each part's quotient, and its rest. -/
namespace Go.Proofs.YtafmakhhdinknaaGreatDoor
open Go.RowKit
set_option linter.unusedVariables false
set_option linter.unusedSimpArgs false
theorem hi_small {v : Int} (h0 : 0 ≤ v) (h1 : v < 18446744073709551616 * 9223372036854775808) : hiW v = v / 18446744073709551616 := by
  unfold hiW; rw [i64w]; omega
theorem quo_part (S z T : Nat) (w : World) (hS : S ≤ 9223372036854775808) (hz : z ≤ T) (h0 : 0 < T) (hT : T ≤ 8000000) :
    Calls Tryz.prog 216 #[.agg #[.int .i64 (hiW ((S : Int) * (z : Int))), .int .u64 (loW ((S : Int) * (z : Int)))], .int .i64 (T : Int)] w fun e w' => e = .returned (.tuple #[.int .u64 ((S * z / T : Nat) : Int), .int .u64 ((S * z % T : Nat) : Int)]) ∧ Below w.heap.size w w' := by
  have h1 : S * z ≤ 9223372036854775808 * T := Nat.mul_le_mul hS hz
  have e1 : ((S * z / T : Nat) : Int) = ((S : Int) * (z : Int)) / (T : Int) := by rw [Int.natCast_ediv, Int.natCast_mul]
  have e2 : ((S * z % T : Nat) : Int) = ((S : Int) * (z : Int)) % (T : Int) := by rw [Int.natCast_emod, Int.natCast_mul]
  have e3 : (S : Int) * (z : Int) = ((S * z : Nat) : Int) := (Int.natCast_mul _ _).symm
  rw [e1, e2]
  rw [e3]
  generalize S * z = V at *
  have g1 : hiW (V : Int) = (V : Int) / 18446744073709551616 := hi_small (by omega) (by omega)
  have g2 : loW (V : Int) = (V : Int) % 18446744073709551616 := rfl
  have g3 : (V : Int) / 18446744073709551616 * 18446744073709551616 + (V : Int) % 18446744073709551616 = (V : Int) := by omega
  have h := quo_yes (hiW (V : Int)) (loW (V : Int)) (T : Int) w (by rw [g1]; omega) (by rw [g1]; omega) (WalkArith.wf_u64 (by rw [g2]; omega)) (WalkArith.wf_i64 (by omega))
  have g4 : hiW (V : Int) * 18446744073709551616 + loW (V : Int) = (V : Int) := by rw [g1, g2]; exact g3
  rw [g4] at h
  exact h
theorem box_kept {w3 w4 : World} {u v : Value} {t : TypeId} (hb : Below (w3.alloc (.cells #[u, v] t)).heap.size (w3.alloc (.cells #[u, v] t)) w4) :
    w4.cell? ⟨w3.heap.size, 0, none⟩ = some u ∧ w4.cell? ⟨w3.heap.size, 1, none⟩ = some v ∧ w4.frozen? ⟨w3.heap.size, 0, none⟩ = false ∧ w4.frozen? ⟨w3.heap.size, 1, none⟩ = false ∧ w3.heap.size < w4.heap.size := by
  have h0 : w3.heap.size < (w3.alloc (.cells #[u, v] t)).heap.size := by simp
  refine ⟨(hb.cell (p := ⟨w3.heap.size, 0, none⟩) h0).trans ?_, (hb.cell (p := ⟨w3.heap.size, 1, none⟩) h0).trans ?_, (hb.frozen (p := ⟨w3.heap.size, 0, none⟩) h0).trans ?_, (hb.frozen (p := ⟨w3.heap.size, 1, none⟩) h0).trans ?_, Nat.lt_of_lt_of_le h0 hb.size⟩
  all_goals simp
set_option maxHeartbeats 8000000 in
set_option maxRecDepth 100000 in
theorem divide_any (b off cap : Nat) (zs : List Int) (a : Int) (w : World) (ha : (Lit.int .i64 a).wf = true) (hW : Ws w b off cap zs) :
    Calls Tryz.prog 205 #[.int .i64 a, .slice (some ⟨b, off, none⟩) zs.length cap] w fun e w' =>
      ∃ B1 B2, e = .returned (.tuple #[.slice (some ⟨B1, 0, none⟩) zs.length zs.length, .slice (some ⟨B2, 0, none⟩) zs.length zs.length]) ∧ B1 ≠ B2 ∧ w.heap.size ≤ B1 ∧ w.heap.size ≤ B2 ∧
        w'.rowIs B1 77 zs.length (fun t => .int .u64 ((a.natAbs * wOf zs t / sumTo (wOf zs) zs.length : Nat) : Int)) ∧
        w'.rowIs B2 77 zs.length (fun t => .int .u64 ((a.natAbs * wOf zs t % sumTo (wOf zs) zs.length : Nat) : Int)) ∧ Below w.heap.size w w' := by
  have hba := wf_bd_i64 ha
  have hS : a.natAbs ≤ 9223372036854775808 := by omega
  have hf := hW.few
  have hp := hW.pos
  have hcap := hW.cap
  have hb := hW.blk
  have ht := hW.total
  have hmk := run_make_row' (P := Tryz.prog) 247 77 (.int .u64 0) 8 Tryz.underlying247 infoU rfl .i64 .i64 zs.length (by omega) (by omega)
  have KT := Lib.hid (total_i64 b off cap zs.length (wOf zs) w hf (fun i hi => (hW.cell i hi).1) (fun i hi => (hW.cell i hi).2.2))
  have HW := Lib.hid hW
  have hwz : ∀ j, j < zs.length → wOf zs j ≤ sumTo (wOf zs) zs.length := fun j hlt => by
    have h1 : sumTo (wOf zs) (j + 1) ≤ sumTo (wOf zs) zs.length := sumTo_mono _ hlt
    have h2 : sumTo (wOf zs) (j + 1) = sumTo (wOf zs) j + wOf zs j := rfl
    omega
  have HWZ := Lib.hid hwz
  clear hW hwz
  have SG1 := Lib.hid (fun (h : a < 0) => (abs_neg h : (a.natAbs : Int) = -a))
  have SG2 := Lib.hid (fun (h : 0 ≤ a) => (abs_pos (by omega) : (a.natAbs : Int) = a))
  generalize a.natAbs = S at *
  generalize sumTo (wOf zs) zs.length = T at *
  go_enter Tryz.func205, Tryz.ntmps205
  go_wp2_with (go_at_call 213; refine KT.out.mono ?_; rintro e w1 ⟨rfl, rfl⟩)
  go_cut [4, 5] (fun o r wr => ∃ B1 B2 : Nat, o = .slice (some ⟨B1, 0, none⟩) zs.length zs.length ∧ r = .slice (some ⟨B2, 0, none⟩) zs.length zs.length ∧ B1 ≠ B2 ∧
    wr.rowIs B1 77 zs.length (fun _ => .int .u64 0) ∧ wr.rowIs B2 77 zs.length (fun _ => .int .u64 0) ∧ w.heap.size ≤ B1 ∧ w.heap.size ≤ B2 ∧ Below w.heap.size w wr)
  case first =>
    have r1 := World.rowIs_made w (.int .u64 0) zs.length 77
    have r2 := fun o => (World.rowIs_made (w.alloc o) (.int .u64 0) zs.length 77)
    have R1 := Lib.hid r1
    have R2 := Lib.hid r2
    clear r1 r2
    go_region
    all_goals
      go_wp2
      go_meet
    · refine ⟨w.heap.size, w.heap.size + 1, rfl, rfl, by omega, (R1.out.alloc _).drew, ?_, Nat.le_refl _, by omega, ((((Below.refl _ _).alloc (Nat.le_refl _) _).alloc (by simp) _)).drew⟩
      have := R2.out (.cells (madeCells #[.int .u64 0] zs.length) 77)
      rw [World.size_alloc] at this
      exact this.drew
    · refine ⟨w.heap.size + 1, w.heap.size, rfl, rfl, by omega, ?_, (R1.out.alloc _).drew, by omega, Nat.le_refl _, ((((Below.refl _ _).alloc (Nat.le_refl _) _).alloc (by simp) _)).drew⟩
      have := R2.out (.cells (madeCells #[.int .u64 0] zs.length) 77)
      rw [World.size_alloc] at this
      exact this.drew
  case rest =>
    obtain ⟨B1, B2, rfl, rfl, hne, hr1, hr2, hb1, hb2, hB⟩ := hcut
    clear hmk
    go_wp2
    go_loopw [20] (fun i wr => ∃ j : Nat, j ≤ zs.length ∧ i = .int .i64 j ∧
      wr.rowIs B1 77 zs.length (fun t => .int .u64 (if t < j then ((S * wOf zs t / T : Nat) : Int) else 0)) ∧ wr.rowIs B2 77 zs.length (fun t => .int .u64 (if t < j then ((S * wOf zs t % T : Nat) : Int) else 0)) ∧ Below w.heap.size w wr) (fun i _ => zs.length - (RowKit.intOf i).toNat)
    case atStart => exact ⟨0, Nat.zero_le _, rfl, hr1.congr (fun t _ => by simp), hr2.congr (fun t _ => by simp), hB⟩
    case round =>
      clear hr1 hr2 hB
      obtain ⟨j, hj, rfl, hr1, hr2, hB⟩ := hrel
      rename World => wr
      by_cases hlt : j < zs.length
      · obtain ⟨hcj, hz1, hz2⟩ := HW.out.cell j hlt
        have hcw : wr.cell? ⟨b, off + j, none⟩ = some (.int .i64 ((wOf zs j : Nat) : Int)) := by rw [hB.cell (p := ⟨b, off + j, none⟩) hb]; exact hcj
        have hzT := HWZ.out j hlt
        have e1 : ∀ t, t ≠ j → (t < j + 1 ↔ t < j) := fun t h => by omega
        obtain ⟨z, hzz⟩ : ∃ z, wOf zs j = z := ⟨_, rfl⟩
        have q1 : Hid (∀ t, Value.int .u64 (if t = j then ((S * z / T : Nat) : Int) else if t < j then ((S * wOf zs t / T : Nat) : Int) else 0) = .int .u64 (if t < j + 1 then ((S * wOf zs t / T : Nat) : Int) else 0)) := fun t => by
          by_cases h : t = j
          · rw [if_pos h, if_pos (show t < j + 1 by omega), h, hzz]
          · rw [if_neg h]; simp only [e1 t h]
        have q2 : Hid (∀ t, Value.int .u64 (if t = j then ((S * z % T : Nat) : Int) else if t < j then ((S * wOf zs t % T : Nat) : Int) else 0) = .int .u64 (if t < j + 1 then ((S * wOf zs t % T : Nat) : Int) else 0)) := fun t => by
          by_cases h : t = j
          · rw [if_pos h, if_pos (show t < j + 1 by omega), h, hzz]
          · rw [if_neg h]; simp only [e1 t h]
        have HR := Lib.hid (And.intro hr1 hr2)
        rw [hzz] at hcw hz1 hz2 hzT
        have cM := Lib.hid (fun w' => mul_any a (z : Int) w' ha (WalkArith.wf_i64 (by omega)))
        have cQ := Lib.hid (fun w' => quo_part S z T w' hS hzT ht.1 ht.2)
        have cN := Lib.hid (fun w' => neg_any (a * (z : Int)) w')
        have n1 : a < 0 → -(a * (z : Int)) = (S : Int) * (z : Int) := fun h => by rw [SG1.out h, Int.neg_mul]
        have n2 : ¬ a < 0 → a * (z : Int) = (S : Int) * (z : Int) := fun h => by rw [SG2.out (by omega)]
        have N1 := Lib.hid n1
        have N2 := Lib.hid n2
        have hl1 := hr1.lt
        have hl2 := hr2.lt
        clear hr1 hr2 hcj e1 hzz n1 n2
        generalize a * (z : Int) = P at *
        generalize (S : Int) * (z : Int) = V at *
        generalize S * z / T = qq at *
        generalize S * z % T = rr at *
        by_cases hneg : a < 0
        · have nn := N1.out hneg
          rw [nn] at cN
          clear nn N1 N2
          generalize hiW P = ph at *
          generalize loW P = pl at *
          generalize hiW V = vh at *
          generalize loW V = vl at *
          go_wp2_with (first
            | (go_at_call 214; refine (cM.out _).mono ?_; rintro e w3 ⟨rfl, hb3⟩; have s3 := hb3.size)
            | (go_at_call 215; refine (cN.out _).mono ?_; rintro e w4 ⟨rfl, hb4⟩; obtain ⟨k0, k1, j0, j1, s4⟩ := box_kept hb4; have B4 : Below wr.heap.size wr w4 := (hb3.alloc s3 _).trans (hb4.mono (by rw [World.size_alloc]; omega)); clear hb4)
            | (go_at_call 216; refine (cQ.out _).mono ?_; rintro e w5 ⟨rfl, hb5⟩; go_loud (have B5 : Below wr.heap.size wr w5 := ((B4.setCell s3 _).setCell s3 _).trans (hb5.mono (by simp; omega)); have r1 := HR.out.1.of_block (B5.block _ hl1); have r2 := HR.out.2.of_block (B5.block _ hl2); have c1 := r1.cell hlt; have c2 := r2.cell hlt; have f1 := r1.frozen j; have f2 := r2.frozen j; have HR5 := Lib.hid (And.intro r1 r2); clear r1 r2)))
          go_roundw
          case rel =>
            obtain ⟨r1, r2⟩ := HR5.out
            refine ⟨j + 1, by omega, by go_num, ?_, ?_, ((hB.trans (B5.mono hB.size)).setCell hb1 _).setCell hb2 _⟩
            · refine ((r1.set j _).setOther hne _).congr (fun t _ => ?_)
              rw [← q1.out t]
              by_cases h : t = j
              · rw [if_pos h, if_pos h]
              · rw [if_neg h, if_neg h]
            · refine ((r2.setOther (fun h => hne h.symm) _).set j _).congr (fun t _ => ?_)
              rw [← q2.out t]
              by_cases h : t = j
              · rw [if_pos h, if_pos h]
              · rw [if_neg h, if_neg h]
          case measure => simp [RowKit.intOf]; omega
        · have nn := N2.out hneg
          rw [nn] at cM
          clear nn N1 N2 cN
          generalize hiW V = vh at *
          generalize loW V = vl at *
          go_wp2_with (first
            | (go_at_call 214; refine (cM.out _).mono ?_; rintro e w3 ⟨rfl, hb3⟩; have s3 := hb3.size)
            | (go_at_call 216; refine (cQ.out _).mono ?_; rintro e w5 ⟨rfl, hb5⟩; go_loud (have B5 : Below wr.heap.size wr w5 := (hb3.alloc s3 _).trans (hb5.mono (by rw [World.size_alloc]; omega)); have r1 := HR.out.1.of_block (B5.block _ hl1); have r2 := HR.out.2.of_block (B5.block _ hl2); have c1 := r1.cell hlt; have c2 := r2.cell hlt; have f1 := r1.frozen j; have f2 := r2.frozen j; have HR5 := Lib.hid (And.intro r1 r2); clear r1 r2)))
          go_roundw
          case rel =>
            obtain ⟨r1, r2⟩ := HR5.out
            refine ⟨j + 1, by omega, by go_num, ?_, ?_, ((hB.trans (B5.mono hB.size)).setCell hb1 _).setCell hb2 _⟩
            · refine ((r1.set j _).setOther hne _).congr (fun t _ => ?_)
              rw [← q1.out t]
              by_cases h : t = j
              · rw [if_pos h, if_pos h]
              · rw [if_neg h, if_neg h]
            · refine ((r2.setOther (fun h => hne h.symm) _).set j _).congr (fun t _ => ?_)
              rw [← q2.out t]
              by_cases h : t = j
              · rw [if_pos h, if_pos h]
              · rw [if_neg h, if_neg h]
          case measure => simp [RowKit.intOf]; omega
      · obtain rfl : j = zs.length := by omega
        go_wp2
        go_ret2
        exact ⟨B1, B2, rfl, hne, hb1, hb2, hr1.congr (fun t ht => by rw [if_pos ht]), hr2.congr (fun t ht => by rw [if_pos ht]), hB⟩
end Go.Proofs.YtafmakhhdinknaaGreatDoor
/- Contract of share.Allot: all that law 3 asks of it. -/
namespace Go.Proofs.YtafmakhhdinknaaGreatDoor
open Go.RowKit
set_option linter.unusedVariables false
set_option linter.unusedSimpArgs false
theorem slice_parts (a : Addr) (n cap i : Nat) (hc : i < cap) (w : World) :
    (Instr.slice 252 (.slice (some a) n cap) none (some (.int .u64 (i : Int))) none).run Tryz.prog w = .ok (.slice (some a) i cap) w := by
  have hu : Tryz.prog.underlying 252 = some (.slice (Tryz.prog.elem 252)) := by kernel_rfl
  have hs : (sizeOf (Tryz.prog.elem 252)).run Tryz.prog w = .ok 1 w := by kernel_rfl
  rw [run_slice_h w 252 (some a) n cap hu .u64 (i : Int) (by omega) (by omega), hs]
  simp only [Result.andThen_ok, sliced, Int.toNat_natCast]
  rw [if_neg (by omega)]
  simp [Addr.add]
/-- Fewer units are left than there are parts. -/
theorem left_less (S T n : Nat) (W : Nat → Nat) (hT : T = sumTo W n) (h0 : 0 < T) (hn : 0 < n) : S - sumTo (fun i => S * W i / T) n < n := by
  have h1 := rests_sum S T n W hT h0
  have h2 := sumTo_bound (fun i => S * W i % T) (T - 1) n (fun i _ => by have := Nat.mod_lt (S * W i) h0; omega)
  rw [h1] at h2
  refine Nat.lt_of_mul_lt_mul_left (a := T) (Nat.lt_of_le_of_lt h2 ?_)
  rw [Nat.mul_comm T n]
  exact Nat.mul_lt_mul_of_pos_left (by omega) hn
theorem og_wrap (p : Nat → Nat) (O : Nat → Int) (j t : Nat) : Value.int .u64 (if t = p j then IntKind.u64.wrap (Og p O j (p j) + 1) else Og p O j t) = .int .u64 (Og p O (j + 1) t) := by
  by_cases h : t = p j
  · have : Og p O (j + 1) t = IntKind.u64.wrap (Og p O j t + 1) := by
      show (if t = p j then _ else _) = _
      rw [if_pos h]
    rw [if_pos h, this, h]
  · have : Og p O (j + 1) t = Og p O j t := by
      show (if t = p j then _ else _) = _
      rw [if_neg h]
    rw [if_neg h, this]
set_option maxHeartbeats 8000000 in
set_option maxRecDepth 100000 in
theorem allot_good (b off cap : Nat) (zs : List Int) (a : Int) (w : World) (ha : (Lit.int .i64 a).wf = true) (hW : Ws w b off cap zs) (hg : GoodW zs) (hz : ∀ i, i < zs.length → w.cell? ⟨b, off + i, none⟩ = some (.int .i64 (zs.getD i 0))) :
    Calls Tryz.prog 201 #[.int .i64 a, .slice (some ⟨b, off, none⟩) zs.length cap] w fun e w' =>
      ∃ u, e = .returned (.tuple #[u, .int .i64 0]) ∧ w'.ownsRow w.heap.size 2 1 u zs.length (ints (sharesV a zs)) ∧ Below w.heap.size w w' := by
  have hba := wf_bd_i64 ha
  have hS : a.natAbs ≤ 9223372036854775808 := by omega
  have h0 := hW.pos
  have h8 := hW.few
  have ht := hW.total
  have K1 := Lib.hid (check_some b off cap zs w 0 h0 h8 hz (fun _ => rfl) (fun h => absurd hg h))
  have K2 := Lib.hid (divide_any b off cap zs a w ha hW)
  have K3 := Lib.hid (fun w' => size_any a w' ha)
  have hq := quos_le a.natAbs (sumTo (wOf zs) zs.length) zs.length (wOf zs) rfl ht.1
  have hl := left_less a.natAbs (sumTo (wOf zs) zs.length) zs.length (wOf zs) rfl ht.1 h0
  have K4 := Lib.hid (fun (B : Nat) (w' : World) (h : w'.rowIs B 77 zs.length (fun t => .int .u64 ((a.natAbs * wOf zs t / sumTo (wOf zs) zs.length : Nat) : Int))) => total_u64 B zs.length zs.length (fun t => a.natAbs * wOf zs t / sumTo (wOf zs) zs.length) w' h8 (fun i hi => h.cell hi) (Nat.le_trans hq hS))
  have K5 := Lib.hid (fun (B : Nat) (w' : World) (h : w'.rowIs B 77 zs.length (fun t => .int .u64 ((a.natAbs * wOf zs t % sumTo (wOf zs) zs.length : Nat) : Int))) => byrests_any B zs.length (fun t => a.natAbs * wOf zs t % sumTo (wOf zs) zs.length) w' h0 h8 h)
  have K6 := Lib.hid (fun (B : Nat) (O : Nat → Int) (w' : World) (h : w'.rowIs B 77 zs.length (fun t => .int .u64 (O t))) => signed_any B zs.length O (decide (a < 0)) w' h8 h)
  have E := Lib.hid (show ∀ p, Ordered (fun t => a.natAbs * wOf zs t % sumTo (wOf zs) zs.length) zs.length p → sharesV a zs = allotL (decide (a < 0)) zs.length (Og p (fun t => ((a.natAbs * wOf zs t / sumTo (wOf zs) zs.length : Nat) : Int)) (a.natAbs - sumTo (fun i => a.natAbs * wOf zs i / sumTo (wOf zs) zs.length) zs.length)) from fun p hp => by
    have h1 := give_ord hp (fun t => ((a.natAbs * wOf zs t / sumTo (wOf zs) zs.length : Nat) : Int)) (a.natAbs - sumTo (fun i => a.natAbs * wOf zs i / sumTo (wOf zs) zs.length) zs.length) 0 (by omega)
    rw [Nat.zero_add] at h1
    have h2 : sharesL a.natAbs zs.length (wOf zs) = some (Og p (fun t => ((a.natAbs * wOf zs t / sumTo (wOf zs) zs.length : Nat) : Int)) (a.natAbs - sumTo (fun i => a.natAbs * wOf zs i / sumTo (wOf zs) zs.length) zs.length)) := h1
    unfold sharesV
    rw [h2])
  obtain ⟨L, hL⟩ : ∃ L, a.natAbs - sumTo (fun i => a.natAbs * wOf zs i / sumTo (wOf zs) zs.length) zs.length = L := ⟨_, rfl⟩
  have e5 : IntKind.u64.wrap (((a.natAbs : Nat) : Int) - ((sumTo (fun i => a.natAbs * wOf zs i / sumTo (wOf zs) zs.length) zs.length : Nat) : Int)) = (L : Int) := by rw [IntKind.wrap_u64]; omega
  rw [hL] at hl E
  have hsl := fun (G : Nat) (w' : World) => slice_parts ⟨G, 0, none⟩ zs.length zs.length L hl w'
  obtain ⟨nb, hnb⟩ : ∃ nb, nb = decide (a < 0) := ⟨_, rfl⟩
  rw [← hnb] at K6 E
  have nb1 : a < 0 → nb = true := fun h => by rw [hnb]; exact decide_eq_true h
  have nb2 : ¬ a < 0 → nb = false := fun h => by rw [hnb]; exact decide_eq_false h
  have NB := Lib.hid hnb
  clear hW hg hz hba hS hnb hq hL ht
  generalize sumTo (fun i => a.natAbs * wOf zs i / sumTo (wOf zs) zs.length) zs.length = q0 at *
  generalize hQ : (fun t => ((a.natAbs * wOf zs t / sumTo (wOf zs) zs.length : Nat) : Int)) = Q at *
  have HQ := Lib.hid hQ
  have HN := Lib.hid (And.intro nb1 nb2)
  clear hQ nb1 nb2
  go_enter Tryz.func201, Tryz.ntmps201
  go_wp2_with (first
    | (go_at_call 204; refine K1.out.mono ?_; rintro e w1 ⟨rfl, rfl⟩)
    | (go_at_call 205; refine K2.out.mono ?_; rintro e w2 ⟨B1, B2, rfl, hne, hb1, hb2, hr1, hr2, hB2⟩; have R1 := Lib.hid hr1; have R2 := Lib.hid hr2; have hl1 := hr1.lt; clear hr1 hr2)
    | (go_at_call 206; refine (K3.out _).mono ?_; rintro e w3 ⟨rfl, rfl⟩)
    | (go_at_call 207; refine (K4.out _ _ R1.out).mono ?_; rintro e w4 ⟨rfl, rfl⟩)
    | (go_at_call 208; refine (K5.out _ _ R2.out).mono ?_; rintro e w5 ⟨G, rfl, hG1, hG2, ⟨p, hp, hpc⟩, hB5⟩; have HP := Lib.hid (And.intro hp hpc); clear hp hpc))
  have HB5 := Lib.hid hB5
  go_loopw [33] (fun i wr => ∃ j : Nat, j ≤ L ∧ i = .int .i64 j ∧ wr.rowIs B1 77 zs.length (fun t => .int .u64 (Og p Q j t)) ∧ (∀ k, k < zs.length → wr.cell? ⟨G, k, none⟩ = some (.int .i64 (p k : Nat))) ∧ Below w.heap.size w wr) (fun i _ => L - (RowKit.intOf i).toNat)
  case atStart => exact ⟨0, Nat.zero_le _, rfl, (R1.out.of_block (HB5.out.block _ hl1)).congr (fun t _ => congrArg (Value.int .u64) (congrFun HQ.out t)), HP.out.2, hB2.trans (HB5.out.mono hB2.size)⟩
  case round =>
    obtain ⟨j, hj, rfl, hr, hG, hBw⟩ := hrel
    rename World => wr
    by_cases hlt : j < L
    · have cg := hG j (by omega)
      have hpj := HP.out.1.lt j (by omega)
      have c1 := hr.cell hpj
      have f1 := hr.frozen (p j)
      have OW := Lib.hid (og_wrap p Q j)
      have HR := Lib.hid (And.intro hr hG)
      have hBG : B1 ≠ G := by omega
      clear hr hG
      generalize Og p Q j (p j) = x at *
      generalize p j = q at *
      go_wp2
      go_roundw
      case rel =>
        obtain ⟨r1, r2⟩ := HR.out
        refine ⟨j + 1, by omega, by go_num, ?_, fun k hk => ?_, hBw.setCell hb1 _⟩
        · refine (r1.set q _).congr (fun t _ => ?_)
          rw [← OW.out t]
          by_cases h : t = q
          · rw [if_pos h, if_pos h]
          · rw [if_neg h, if_neg h]
        · rw [World.cell?_of_block (w := wr) (Below.heap_setCell _ _ _ _ (fun h => hBG h.symm))]
          exact r2 k hk
      case measure => simp [RowKit.intOf]; omega
    · obtain rfl : j = L := by omega
      have K7 := Lib.hid (K6.out _ _ _ hr)
      clear hr hG
      by_cases hneg : a < 0
      · obtain rfl := HN.out.1 hneg
        go_wp2_with (go_at_call 209; refine K7.out.mono ?_; rintro e w6 ⟨u, rfl, ho6, hb6⟩)
        go_ret2
        exact ⟨u, rfl, by rw [E.out p HP.out.1]; exact owns_lower ho6 hBw.size, hBw.trans (hb6.mono hBw.size)⟩
      · obtain rfl := HN.out.2 (by omega)
        go_wp2_with (go_at_call 209; refine K7.out.mono ?_; rintro e w6 ⟨u, rfl, ho6, hb6⟩)
        go_ret2
        exact ⟨u, rfl, by rw [E.out p HP.out.1]; exact owns_lower ho6 hBw.size, hBw.trans (hb6.mono hBw.size)⟩
theorem allot_bad (v : Value) (a r : Int) (w : World) (hr : (Lit.int .i64 r).wf = true) (hne : r ≠ 0) (hc : Calls Tryz.prog 204 #[v] w fun e w' => e = .returned (.int .i64 r) ∧ w = w') :
    Calls Tryz.prog 201 #[.int .i64 a, v] w fun e w' => ∃ b c, e = .returned (.tuple #[.slice b 0 c, .int .i64 r]) ∧ Below w.heap.size w w' := by
  have h1 : (r != 0) = true := by simpa using hne
  go_enter Tryz.func201, Tryz.ntmps201
  go_wp2_with (go_at_call 204; refine hc.mono ?_; rintro e w1 ⟨rfl, rfl⟩)
  go_ret2
  exact ⟨none, 0, rfl, Below.refl _ _⟩
/-- share.Allot is as the document says. -/
theorem allotC : AllotC := by
  refine ⟨fun v zs a w hA ha h0 h8 hg => ?_, fun v zs a w hA ha hn => ?_, fun v zs a w hA ha h0 h8 hg => ?_⟩
  · rcases hA with ⟨r, cap, rfl, rfl⟩ | ⟨b, off, cap, rfl, hb, hl, hc, hz⟩
    · simp at h0
    · refine allot_good b off cap zs a w ha ⟨hb, h0, h8, hc, fun i hi => ?_⟩ hg (fun i hi => (hz i hi).1)
      have h2 := hg i hi
      have h4 : ((wOf zs i : Nat) : Int) = zs.getD i 0 := by unfold wOf; omega
      exact ⟨by rw [h4]; exact (hz i hi).1, by omega, by omega⟩
  · refine allot_bad v a 2 w (by decide) (by decide) ?_
    rcases hA with ⟨r, cap, rfl, rfl⟩ | ⟨b, off, cap, rfl, hb, hl, hc, hz⟩
    · exact check_few r cap w
    · by_cases h0 : zs.length = 0
      · rw [h0]; exact check_few _ cap w
      · exact check_many _ _ cap w (by omega)
  · refine allot_bad v a 5 w (by decide) (by decide) ?_
    rcases hA with ⟨r, cap, rfl, rfl⟩ | ⟨b, off, cap, rfl, hb, hl, hc, hz⟩
    · simp at h0
    · exact check_some b off cap zs w 5 h0 h8 (fun i hi => (hz i hi).1) (fun h => absurd h hg) (fun _ => rfl)
end Go.Proofs.YtafmakhhdinknaaGreatDoor

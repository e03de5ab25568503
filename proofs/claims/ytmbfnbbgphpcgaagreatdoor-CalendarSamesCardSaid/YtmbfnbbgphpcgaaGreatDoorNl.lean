/- Contract of the library's search by halving at entities. -/
import Derived.Test.YtmbfnbbgphpcgaaGreatDoorNd
import Derived.LoopTactic
import Derived.Outline
namespace Go.Proofs.YtmbfnbbgphpcgaaGreatDoor
open Go.RowKit
set_option linter.unusedVariables false
set_option linter.unusedSimpArgs false
def belowU (l : List Nat) (n : Nat) : Nat := l.countP (fun a => decide (a < n))
theorem belowU_le (l : List Nat) (n : Nat) : belowU l n ≤ l.length := List.countP_le_length
theorem belowU_lt {l : List Nat} (h : RiseU l) : ∀ (i a : Nat), l[i]? = some a → ∀ n, (i < belowU l n ↔ a < n) := by
  induction l with
  | nil => intro i a e; simp at e
  | cons x r ih =>
    obtain ⟨h1, h2⟩ := List.pairwise_cons.1 h
    intro i a e n
    unfold belowU
    rw [List.countP_cons]
    have hz : ¬ x < n → r.countP (fun a => decide (a < n)) = 0 := fun hx => by
      rw [List.countP_eq_zero]
      intro b hb
      have := h1 b hb
      simp; omega
    cases i with
    | zero =>
      simp only [List.getElem?_cons_zero, Option.some.injEq] at e
      subst e
      by_cases hx : x < n
      · simp [hx]
      · simp [hx, hz hx]
    | succ i =>
      simp only [List.getElem?_cons_succ] at e
      have ih' := ih h2 i a e n
      unfold belowU at ih'
      have ha : x < a := h1 a (List.mem_of_getElem? e)
      by_cases hx : x < n
      · simp [hx]; exact ih'
      · simp [hx, hz hx]; omega
theorem belowU_at {l : List Nat} (h : RiseU l) (n : Nat) {a : Nat} (ha : l[belowU l n]? = some a) : decide (n ∈ l) = decide (a = n) := by
  by_cases hn : a = n
  · rw [decide_eq_true hn, decide_eq_true (hn ▸ List.mem_of_getElem? ha)]
  · rw [decide_eq_false hn]
    refine decide_eq_false fun hm => ?_
    obtain ⟨i, hi, e⟩ := List.getElem_of_mem hm
    have hx : l[i]? = some n := by rw [List.getElem?_eq_getElem hi, e]
    have h1 : ¬ i < belowU l n := fun hc => by have := (belowU_lt h i n hx n).1 hc; omega
    have h2 : ¬ a < n := fun hc => by have := (belowU_lt h _ a ha n).2 hc; omega
    have h3 : i < belowU l (n + 1) := (belowU_lt h i n hx (n + 1)).2 (by omega)
    obtain ⟨hb, eb⟩ := List.getElem?_eq_some_iff.1 ha
    rcases Nat.lt_trichotomy i (belowU l n) with hc | hc | hc
    · omega
    · subst hc; rw [hx] at ha; cases ha; exact hn rfl
    · have := (List.pairwise_iff_getElem.1 h) (belowU l n) i hb hi hc
      omega
theorem belowU_end {l : List Nat} (h : RiseU l) (n : Nat) (hb : l.length ≤ belowU l n) : decide (n ∈ l) = false := by
  refine decide_eq_false fun hm => ?_
  obtain ⟨i, hi, e⟩ := List.getElem_of_mem hm
  have := (belowU_lt h i n (by rw [List.getElem?_eq_getElem hi, e]) n).1 (by omega)
  omega
theorem below_parts16 {l : List Nat} (h : RiseU l) (n : Nat) : l.take (belowU l n) = l.filter (fun a => decide (a < n)) ∧ l.drop (belowU l n) = l.filter (fun a => decide (n ≤ a)) := by
  induction l with
  | nil => exact ⟨rfl, rfl⟩
  | cons x r ih =>
    obtain ⟨h1, h2⟩ := List.pairwise_cons.1 h
    obtain ⟨i1, i2⟩ := ih h2
    unfold belowU at i1 i2 ⊢
    by_cases hx : x < n
    · have e : (x :: r).countP (fun a => decide (a < n)) = r.countP (fun a => decide (a < n)) + 1 := by rw [List.countP_cons]; simp [hx]
      rw [e, List.take_succ_cons, List.drop_succ_cons, i1, i2, List.filter_cons, List.filter_cons]
      have : ¬ n ≤ x := by omega
      simp [hx, this]
    · have e : (x :: r).countP (fun a => decide (a < n)) = 0 := by
        rw [List.countP_eq_zero]
        intro b hb
        rcases List.mem_cons.1 hb with rfl | hb
        · simp; omega
        · have := h1 b hb; simp; omega
      rw [e, List.take_zero, List.drop_zero]
      constructor
      · symm
        rw [List.filter_eq_nil_iff]
        intro b hb
        rcases List.mem_cons.1 hb with rfl | hb
        · simp; omega
        · have := h1 b hb; simp; omega
      · symm
        rw [List.filter_eq_self]
        intro b hb
        rcases List.mem_cons.1 hb with rfl | hb
        · simp; omega
        · have := h1 b hb; simp; omega
theorem isnan16s (x : Int) (w : World) : Calls Tryz.prog 48 #[.int .u16 x] w fun e w' => e = .returned (.bool false) ∧ w' = w := by
  go_enter Tryz.func48, Tryz.ntmps48
  go_wp2
  go_ret
  exact ⟨by simp, rfl⟩
set_option maxHeartbeats 1000000 in
set_option maxRecDepth 100000 in
theorem bsearch_u (v : Value) (c : List Nat) (n : Nat) (w : World) (hR : Recs uc 1 w v c) (hr : RiseU c) (hl : c.length ≤ 1000) :
    Calls Tryz.prog 33 #[v, .int .u16 (n : Int)] w fun e w' =>
      e = .returned (.tuple #[.int .i64 (belowU c n : Nat), .bool (decide (n ∈ c))]) ∧ Below w.heap.size w w' := by
  obtain ⟨r, cap, rfl, hm⟩ := hR.form
  have HR := Lib.hid hR
  obtain ⟨B, hB⟩ : ∃ B, belowU c n = B := ⟨_, rfl⟩
  obtain ⟨T, hT⟩ : ∃ T, decide (n ∈ c) = T := ⟨_, rfl⟩
  obtain ⟨L, hL⟩ : ∃ L, c.length = L := ⟨_, rfl⟩
  have HB : Hid (∀ (i a : Nat), c[i]? = some a → (i < B ↔ a < n)) := Lib.hid (fun i a ha => hB ▸ belowU_lt hr i a ha n)
  have HT : Hid (∀ a, c[B]? = some a → T = decide (a = n)) := Lib.hid (fun a ha => hT ▸ belowU_at hr n (hB.symm ▸ ha))
  have HE : Hid (L ≤ B → T = false) := Lib.hid (fun h => hT ▸ belowU_end hr n (by omega))
  have hBL : B ≤ L := hB ▸ hL ▸ belowU_le c n
  have HL := Lib.hid hL
  have KL := Lib.hid (fun m n w => less16 m n w)
  have KN := Lib.hid (fun x w => isnan16s x w)
  rw [hB, hT]
  rw [hL] at HR ⊢
  rw [hL] at hl
  clear hR hm hB hT hL hr
  go_enter Tryz.func33, Tryz.ntmps33
  go_wp2
  go_loopw [7, 8] (fun i j wr => ∃ lo hi : Nat, i = .int .i64 lo ∧ j = .int .i64 hi ∧ lo ≤ B ∧ B ≤ hi ∧ hi ≤ L ∧ Below w.heap.size w wr) (fun i j _ => (intOf j - intOf i).toNat)
  case atStart => exact ⟨0, L, rfl, rfl, Nat.zero_le _, hBL, Nat.le_refl _, Below.refl _ _⟩
  case round =>
    obtain ⟨lo, hi, rfl, rfl, h1, h2, h3, hb⟩ := hrel
    rename World => wr
    by_cases hlt : lo < hi
    · have hmid : (lo + hi) / 2 < L := by omega
      obtain ⟨a, ha⟩ : ∃ a, c[(lo + hi) / 2]? = some a := ⟨c[(lo + hi) / 2]'(by have := HL.out; omega), List.getElem?_eq_getElem (by have := HL.out; omega)⟩
      have hiff := HB.out _ _ ha
      obtain ⟨g, off, rfl, hg, hc⟩ := (HR.out.stay hb).at ha
      have c0 := hc 0 _ rfl
      simp only [Nat.mul_one, Nat.add_zero] at c0
      clear hc ha
      by_cases hlow : a < n
      · have e : decide (a < n) = true := decide_eq_true hlow
        have hlB := hiff.2 hlow
        have K1 := KL.out a n wr
        rw [e] at K1
        have HK := Lib.hid K1
        clear K1
        have HW := Lib.hid hb
        clear hiff hlow hb e
        go_wp2_with (go_at_call 47; refine HK.out.mono ?_; rintro e w1 ⟨rfl, rfl⟩)
        go_roundw
        case rel => exact ⟨(lo + hi) / 2 + 1, hi, by go_num, rfl, by omega, h2, h3, HW.out⟩
        case measure => simp [RowKit.intOf]; omega
      · have e : decide (a < n) = false := decide_eq_false hlow
        have hlB : ¬ (lo + hi) / 2 < B := fun h => hlow (hiff.1 h)
        have K1 := KL.out a n wr
        rw [e] at K1
        have HK := Lib.hid K1
        clear K1
        have HW := Lib.hid hb
        clear hiff hlow hb e
        go_wp2_with (go_at_call 47; refine HK.out.mono ?_; rintro e w1 ⟨rfl, rfl⟩)
        go_roundw
        case rel => exact ⟨lo, (lo + hi) / 2, rfl, by go_num, h1, by omega, by omega, HW.out⟩
        case measure => simp [RowKit.intOf]; omega
    · obtain rfl : hi = lo := by omega
      obtain rfl : B = hi := by omega
      by_cases hn : B < L
      · obtain ⟨a, ha⟩ : ∃ a, c[B]? = some a := ⟨c[B]'(by have := HL.out; omega), List.getElem?_eq_getElem (by have := HL.out; omega)⟩
        have ht := HT.out _ ha
        obtain ⟨g, off, rfl, hg, hc⟩ := (HR.out.stay hb).at ha
        have c0 := hc 0 _ rfl
        simp only [Nat.mul_one, Nat.add_zero] at c0
        clear hc ha
        have HW := Lib.hid hb
        clear hb
        have hd : decide ((B : Int) < (L : Int)) = true := decide_eq_true (by omega)
        by_cases han : a = n
        · have hab : ((a : Int) == (n : Int)) = true := by simp [han]
          rw [decide_eq_true han] at ht
          subst ht
          clear han
          go_wp2_with (go_at_call 48; refine (KN.out _ _).mono ?_; rintro e w1 ⟨rfl, rfl⟩)
          go_ret2
          exact ⟨by simp, HW.out⟩
        · have hab : ((a : Int) == (n : Int)) = false := by simp; omega
          rw [decide_eq_false han] at ht
          subst ht
          clear han
          go_wp2_with (go_at_call 48; refine (KN.out _ _).mono ?_; rintro e w1 ⟨rfl, rfl⟩)
          go_ret2
          exact ⟨by simp, HW.out⟩
      · obtain rfl := HE.out (by omega)
        have hd : decide ((B : Int) < (L : Int)) = false := decide_eq_false (by omega)
        go_wp2
        go_ret2
        exact ⟨rfl, hb⟩
end Go.Proofs.YtmbfnbbgphpcgaaGreatDoor

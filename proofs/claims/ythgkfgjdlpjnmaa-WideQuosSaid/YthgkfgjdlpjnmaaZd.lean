/- The walk of the law WideQuos. -/
import Derived.Test.YthgkfgjdlpjnmaaWj
import Derived.Test.YthgkfgjdlpjnmaaZb
namespace Go.Proofs.Ythgkfgjdlpjnmaa
open Go.RowKit
set_option linter.unusedVariables false
set_option linter.unusedSimpArgs false
theorem bits_small (q : Int) (w : World) (h0 : 0 ≤ q) (h1 : q < 18446744073709551616) :
    Calls Try.prog 23 #[.int .i64 0, .int .u64 q] w fun e w' => e = .returned (.agg (arr (bitZ q))) ∧ Below w.heap.size w w' := by
  have e1 : hiW q = 0 := by unfold hiW; rw [i64w]; omega
  have e2 : loW q = q := by unfold loW; omega
  have := bits_any q w
  rwa [e1, e2] at this
theorem quo_bd {A d : Int} (h0 : 0 ≤ hiW A) (h1 : hiW A < d) (p2 : hiW A * 18446744073709551616 + loW A = A) (hd : d < 9223372036854775808) :
    (0 ≤ A / d ∧ A / d < 18446744073709551616) ∧ (0 ≤ A % d ∧ A % d < 18446744073709551616) ∧ A % d < d ∧ A / d * d + A % d = A := by
  have wl := wf_bd_u64 (wf_lo A)
  have d0 : 0 < d := by omega
  have a0 : 0 ≤ A := by omega
  have m0 := Int.emod_nonneg A (by omega : d ≠ 0)
  have m1 := Int.emod_lt_of_pos A d0
  refine ⟨⟨Int.ediv_nonneg a0 (by omega), Int.ediv_lt_of_lt_mul d0 ?_⟩, ⟨m0, by omega⟩, m1, ?_⟩
  · have : A < d * 18446744073709551616 := by omega
    rw [Int.mul_comm]; exact this
  · have := Int.emod_add_mul_ediv A d
    rw [Int.mul_comm d] at this; omega
theorem keepRow {w0 w : World} {A B : Nat} {p q : Addr} {u v : Option Value} (h : w.cell? p = u ∧ w.cell? q = v ∧ B < w.heap.size ∧ Below A w0 w) (o : Obj) (cs : Array Value) (hA : A ≤ B) (hp : p.block ≤ B) (hq : q.block ≤ B) :
    ((w.alloc o).setRow w.heap.size cs).cell? p = u ∧ ((w.alloc o).setRow w.heap.size cs).cell? q = v ∧ B < ((w.alloc o).setRow w.heap.size cs).heap.size ∧ Below A w0 ((w.alloc o).setRow w.heap.size cs) := by
  have hb : Below w.heap.size w ((w.alloc o).setRow w.heap.size cs) := below_setRow ((Below.refl _ _).alloc (Nat.le_refl _) _) (Nat.le_refl _) _
  exact keep2 h hb hA hp hq
theorem start2 (w : World) (u v : Value) (t : TypeId) : (w.alloc (.cells #[u, v] t)).cell? ⟨w.heap.size, 0, none⟩ = some u ∧ (w.alloc (.cells #[u, v] t)).cell? ⟨w.heap.size, 1, none⟩ = some v ∧ w.heap.size < (w.alloc (.cells #[u, v] t)).heap.size ∧ Below w.heap.size w (w.alloc (.cells #[u, v] t)) :=
  ⟨by simp, by simp, by simp, (Below.refl _ _).alloc (Nat.le_refl _) _⟩
set_option maxRecDepth 100000 in
set_option maxHeartbeats 4000000 in
theorem widequos_yes (A d q r : Int) (w : World) (wd : (Lit.int .i64 d).wf = true) (h0 : 0 ≤ hiW A) (h1 : hiW A < d) (h2 : 0 < d) (p2 : hiW A * 18446744073709551616 + loW A = A) (eq : A / d = q) (er : A % d = r) (bq : 0 ≤ q ∧ q < 18446744073709551616) (br : 0 ≤ r ∧ r < 18446744073709551616) (hr : r < d) (hs : q * d + r = A) (hu : IntKind.u64.wrap d = d) (wu : (Lit.int .u64 d).wf = true) :
    Calls Try.prog 7 #[.agg #[.int .i64 (hiW A), .int .u64 (loW A)], .int .i64 d, .bool false] w fun e w' => e = .returned (.bool true) ∧ Below w.heap.size w w' := by
  have hza := zeroArr
  have BQ := Lib.hid bq
  have BR := Lib.hid br
  clear bq br
  have hS0 := Lib.hid (start2 w (.int .i64 (hiW A)) (.int .u64 (loW A)) 24)
  go_enter Try.func7, Try.ntmps7
  go_wp2_with (first
    | (go_at_call 11; refine (awake_any _).mono ?_; rintro e w1 ⟨rfl, hb1⟩; have hS := keep2 hS0.out hb1 (Nat.le_refl _) (Nat.le_refl _) (Nat.le_refl _))
    | (go_at_call 26; refine (quo_yes _ _ d _ h0 h1 (wf_lo A) wd).mono ?_; rintro e w2 ⟨rfl, hb2⟩; have hS := keep2 hS hb2 (Nat.le_refl _) (Nat.le_refl _) (Nat.le_refl _))
    | (go_at_call 23; refine (bits_small _ _ (by first | exact BQ.out.1 | exact BR.out.1) (by first | exact BQ.out.2 | exact BR.out.2)).mono ?_; rintro e w2 ⟨rfl, hb2⟩; have hS := keep2 hS hb2 (Nat.le_refl _) (Nat.le_refl _) (Nat.le_refl _))
    | (go_at_call 20; refine (rmul_any _ d _ wu).mono ?_; rintro e w2 ⟨rfl, hb2⟩; have hS := keep2 hS hb2 (Nat.le_refl _) (Nat.le_refl _) (Nat.le_refl _))
    | (go_at_call 14; refine (radd_any _ _ _).mono ?_; rintro e w3 ⟨rfl, hb3⟩; have hS := keep2 hS hb3 (Nat.le_refl _) (Nat.le_refl _) (Nat.le_refl _); have hS4 := keepRow hS (.cells (arr fun _ => 0) 28) (arr (bitZ A)) (Nat.le_refl _) (Nat.le_refl _) (Nat.le_refl _); have A2 := Lib.hid (IsArr.new w3 (fun _ => 0)); have A3 := Lib.hid (A2.out.setRow (bitZ A)))
    | refine wpList_store_row rfl 28 _ _ rfl w3.heap.size _ rfl rfl 28 _ A2.out (infoArr _) (by rw [arr_size, arr_size]) (arr_one _) ?_)
  refine wp_load_row 28 _ rfl w3.heap.size rfl 28 _ (0, 0) _ A3.out Try.underlying28 rfl (infoArr _) ?_
  go_wp2_with (go_at_call 12; refine (is_same A _).mono ?_; rintro e w5 ⟨rfl, hb5⟩; have hS5 := keep2 hS4 hb5 (Nat.le_refl _) (Nat.le_refl _) (Nat.le_refl _))
  go_ret
  exact ⟨rfl, hS5.2.2.2⟩
theorem start_frozen {w w1 : World} {u v : Value} {t : TypeId} (hb : Below (w.alloc (.cells #[u, v] t)).heap.size (w.alloc (.cells #[u, v] t)) w1) : w1.frozen? ⟨w.heap.size, 0, none⟩ = false := by
  rw [hb.frozen (by simp)]; simp
theorem keepSet {w0 w : World} {b : Nat} {u : Value} {v : Option Value} (h : w.cell? ⟨b, 0, none⟩ = some u ∧ w.cell? ⟨b, 1, none⟩ = v ∧ b < w.heap.size ∧ Below b w0 w) (x : Value) :
    (w.setCell ⟨b, 0, none⟩ x).cell? ⟨b, 0, none⟩ = some x ∧ (w.setCell ⟨b, 0, none⟩ x).cell? ⟨b, 1, none⟩ = v ∧ b < (w.setCell ⟨b, 0, none⟩ x).heap.size ∧ Below b w0 (w.setCell ⟨b, 0, none⟩ x) := by
  obtain ⟨h1, h2, h3, h4⟩ := h
  refine ⟨World.cell?_setCell_same _ _ _ h1, ?_, by simpa using h3, h4.setCell (Nat.le_refl _) _⟩
  rw [World.cell?_setCell_other _ _ _ _ (by simp)]; exact h2
set_option maxRecDepth 100000 in
set_option maxHeartbeats 4000000 in
theorem widequos_yes_small (h l e A d q r : Int) (w : World) (g1 : h.tmod 1000 = hiW A) (g2 : e.tmod 100000 = d) (g3 : l = loW A) (wd : (Lit.int .i64 d).wf = true) (h0 : 0 ≤ hiW A) (h1 : hiW A < d) (h2 : 0 < d) (p2 : hiW A * 18446744073709551616 + loW A = A) (eq : A / d = q) (er : A % d = r) (bq : 0 ≤ q ∧ q < 18446744073709551616) (br : 0 ≤ r ∧ r < 18446744073709551616) (hr : r < d) (hs : q * d + r = A) (hu : IntKind.u64.wrap d = d) (wu : (Lit.int .u64 d).wf = true) :
    Calls Try.prog 7 #[.agg #[.int .i64 h, .int .u64 l], .int .i64 e, .bool true] w fun e w' => e = .returned (.bool true) ∧ Below w.heap.size w w' := by
  have hza := zeroArr
  have BQ := Lib.hid bq
  have BR := Lib.hid br
  clear bq br
  subst g3
  have hS0 := Lib.hid (start2 w (.int .i64 h) (.int .u64 (loW A)) 24)
  go_enter Try.func7, Try.ntmps7
  go_wp2_with (first
    | (go_at_call 11; refine (awake_any _).mono ?_; rintro e w1 ⟨rfl, hb1⟩; have hS1 := keep2 hS0.out hb1 (Nat.le_refl _) (Nat.le_refl _) (Nat.le_refl _); have hfz := start_frozen hb1; have hS := keepSet hS1 (.int .i64 (hiW A)))
    | (go_at_call 26; refine (quo_yes _ _ d _ h0 h1 (wf_lo A) wd).mono ?_; rintro e w2 ⟨rfl, hb2⟩; have hS := keep2 hS hb2 (Nat.le_refl _) (Nat.le_refl _) (Nat.le_refl _))
    | (go_at_call 23; refine (bits_small _ _ (by first | exact BQ.out.1 | exact BR.out.1) (by first | exact BQ.out.2 | exact BR.out.2)).mono ?_; rintro e w2 ⟨rfl, hb2⟩; have hS := keep2 hS hb2 (Nat.le_refl _) (Nat.le_refl _) (Nat.le_refl _))
    | (go_at_call 20; refine (rmul_any _ d _ wu).mono ?_; rintro e w2 ⟨rfl, hb2⟩; have hS := keep2 hS hb2 (Nat.le_refl _) (Nat.le_refl _) (Nat.le_refl _))
    | (go_at_call 14; refine (radd_any _ _ _).mono ?_; rintro e w3 ⟨rfl, hb3⟩; have hS := keep2 hS hb3 (Nat.le_refl _) (Nat.le_refl _) (Nat.le_refl _); have hS4 := keepRow hS (.cells (arr fun _ => 0) 28) (arr (bitZ A)) (Nat.le_refl _) (Nat.le_refl _) (Nat.le_refl _); have A2 := Lib.hid (IsArr.new w3 (fun _ => 0)); have A3 := Lib.hid (A2.out.setRow (bitZ A)))
    | refine wpList_store_row rfl 28 _ _ rfl w3.heap.size _ rfl rfl 28 _ A2.out (infoArr _) (by rw [arr_size, arr_size]) (arr_one _) ?_)
  refine wp_load_row 28 _ rfl w3.heap.size rfl 28 _ (0, 0) _ A3.out Try.underlying28 rfl (infoArr _) ?_
  go_wp2_with (go_at_call 12; refine (is_same A _).mono ?_; rintro e w5 ⟨rfl, hb5⟩; have hS5 := keep2 hS4 hb5 (Nat.le_refl _) (Nat.le_refl _) (Nat.le_refl _))
  go_ret
  exact ⟨rfl, hS5.2.2.2⟩
set_option maxHeartbeats 4000000 in
theorem widequos_no (h l d : Int) (w : World) (hn : ¬ (0 ≤ h ∧ h < d)) :
    Calls Try.prog 7 #[.agg #[.int .i64 h, .int .u64 l], .int .i64 d, .bool false] w fun e w' => e = .returned (.bool true) ∧ Below w.heap.size w w' := by
  have HN := Lib.hid hn
  have hS0 := Lib.hid (start2 w (.int .i64 h) (.int .u64 l) 24)
  rcases (by omega : h < 0 ∨ (0 ≤ h ∧ d ≤ 0) ∨ (0 ≤ h ∧ 0 < d ∧ d ≤ h)) with k1 | ⟨k1, k2⟩ | ⟨k1, k2, k3⟩
  all_goals
    clear hn
    go_enter Try.func7, Try.ntmps7
    go_wp2_with (first
      | (go_at_call 11; refine (awake_any _).mono ?_; rintro e w1 ⟨rfl, hb1⟩; have hS := keep2 hS0.out hb1 (Nat.le_refl _) (Nat.le_refl _) (Nat.le_refl _))
      | (go_at_call 26; refine (quo_no h l d _ HN.out).mono ?_; rintro e w2 ⟨rfl, hb2⟩; have hS := keep2 hS hb2 (Nat.le_refl _) (Nat.le_refl _) (Nat.le_refl _)))
    go_ret
    exact ⟨rfl, hS.2.2.2⟩
set_option maxHeartbeats 4000000 in
theorem widequos_no_small (h' l e h d : Int) (w : World) (g1 : h'.tmod 1000 = h) (g2 : e.tmod 100000 = d) (hn : ¬ (0 ≤ h ∧ h < d)) :
    Calls Try.prog 7 #[.agg #[.int .i64 h', .int .u64 l], .int .i64 e, .bool true] w fun e w' => e = .returned (.bool true) ∧ Below w.heap.size w w' := by
  have HN := Lib.hid hn
  have hS0 := Lib.hid (start2 w (.int .i64 h') (.int .u64 l) 24)
  rcases (by omega : h < 0 ∨ (0 ≤ h ∧ d ≤ 0) ∨ (0 ≤ h ∧ 0 < d ∧ d ≤ h)) with k1 | ⟨k1, k2⟩ | ⟨k1, k2, k3⟩
  all_goals
    clear hn
    go_enter Try.func7, Try.ntmps7
    go_wp2_with (first
      | (go_at_call 11; refine (awake_any _).mono ?_; rintro e w1 ⟨rfl, hb1⟩; have hS1 := keep2 hS0.out hb1 (Nat.le_refl _) (Nat.le_refl _) (Nat.le_refl _); have hfz := start_frozen hb1; have hS := keepSet hS1 (.int .i64 h))
      | (go_at_call 26; refine (quo_no h l d _ HN.out).mono ?_; rintro e w2 ⟨rfl, hb2⟩; have hS := keep2 hS hb2 (Nat.le_refl _) (Nat.le_refl _) (Nat.le_refl _)))
    go_ret
    exact ⟨rfl, hS.2.2.2⟩
theorem tmod_bd (x m : Int) (hm : 0 < m) : -m < x.tmod m ∧ x.tmod m < m := by
  rcases Int.lt_or_le x 0 with g | g
  · have e : x.tmod m = -((-x) % m) := by
      rw [← Int.tmod_eq_emod_of_nonneg (by omega : 0 ≤ -x), Int.neg_tmod, Int.neg_neg]
    have h1 := Int.emod_nonneg (-x) (by omega : m ≠ 0)
    have h2 := Int.emod_lt_of_pos (-x) hm
    omega
  · rw [Int.tmod_eq_emod_of_nonneg g]
    have h1 := Int.emod_nonneg x (by omega : m ≠ 0)
    have h2 := Int.emod_lt_of_pos x hm
    omega
theorem hi_range (A : Int) (h0 : 0 ≤ hiW A) : ∃ B, hiW B = hiW A ∧ loW B = loW A ∧ hiW B * 18446744073709551616 + loW B = B := by
  have b1 := wf_bd_i64 (wf_hi A)
  have b2 := wf_bd_u64 (wf_lo A)
  refine ⟨hiW A * 18446744073709551616 + loW A, ?_, ?_, ?_⟩
  · generalize hiW A = x at *
    generalize loW A = y at *
    unfold hiW; rw [i64w]; omega
  · generalize hiW A = x at *
    generalize loW A = y at *
    unfold loW; omega
  · generalize hiW A = x at *
    generalize loW A = y at *
    unfold hiW loW; rw [i64w]; omega
theorem widequos_any (h l d : Int) (small : Bool) (w : World) (w0 : (Lit.int .i64 h).wf = true) (w1 : (Lit.int .u64 l).wf = true) (w2 : (Lit.int .i64 d).wf = true) :
    Calls Try.prog 7 #[.agg #[.int .i64 h, .int .u64 l], .int .i64 d, .bool small] w fun e w' => e = .returned (.bool true) ∧ Below w.heap.size w w' := by
  cases small
  · by_cases hn : 0 ≤ h ∧ h < d
    · obtain ⟨A, rfl, rfl⟩ := halves_of w0 w1
      obtain ⟨B, e1, e2, e3⟩ := hi_range A hn.1
      rw [← e1] at hn
      rw [← e1, ← e2]
      have bd := wf_bd_i64 w2
      obtain ⟨f1, f2, f3, f4⟩ := quo_bd hn.1 hn.2 e3 bd.2
      exact widequos_yes B d (B / d) (B % d) w w2 hn.1 hn.2 (by omega) e3 rfl rfl f1 f2 f3 f4 (by rw [IntKind.wrap_u64]; omega) (WalkArith.wf_u64 (by omega))
    · exact widequos_no h l d w hn
  · have t1 := tmod_bd h 1000 (by omega)
    have t2 := tmod_bd d 100000 (by omega)
    by_cases hn : 0 ≤ h.tmod 1000 ∧ h.tmod 1000 < d.tmod 100000
    · obtain ⟨A, g1, g3⟩ := halves_of (h := h.tmod 1000) (WalkArith.wf_i64 (by omega)) w1
      rw [g1] at hn
      obtain ⟨B, e1, e2, e3⟩ := hi_range A hn.1
      rw [← e1] at hn g1
      rw [← e2] at g3
      have wd : (Lit.int .i64 (d.tmod 100000)).wf = true := WalkArith.wf_i64 (by omega)
      obtain ⟨f1, f2, f3, f4⟩ := quo_bd hn.1 hn.2 e3 (wf_bd_i64 wd).2
      exact widequos_yes_small h l d B (d.tmod 100000) (B / d.tmod 100000) (B % d.tmod 100000) w g1 rfl g3 wd hn.1 hn.2 (by omega) e3 rfl rfl f1 f2 f3 f4 (by rw [IntKind.wrap_u64]; omega) (WalkArith.wf_u64 (by omega))
    · exact widequos_no_small h l d (h.tmod 1000) (d.tmod 100000) w rfl rfl hn
end Go.Proofs.Ythgkfgjdlpjnmaa

/- The walk of law ScriptWords. -/
import Derived.Test.YthmeoccecoldeaaGreatDoorMt1
import Derived.Test.YthmeoccecoldeaaGreatDoorEwz
import Derived.Test.YthmeoccecoldeaaGreatDoorMtall
namespace Go.Proofs.YthmeoccecoldeaaGreatDoor
open Go.RowKit Go.Lib Go.Sort
set_option linter.unusedVariables false
set_option linter.unusedSimpArgs false
theorem unit_b (k : Int) (w : World) : Calls Tryz.prog 14 #[.int .i64 k] w fun e w' => e = .returned (.bool (decide (k = 5 ∨ k = 6))) ∧ Below w.heap.size w w' :=
  (unit_s k w).mono fun e w' ⟨a, b⟩ => ⟨a, by subst b; exact Below.refl _ _⟩
theorem word_none_b (k : Int) (hk : ¬ (0 ≤ k ∧ k < 8)) (w : World) : Calls Tryz.prog 12 #[.int .i64 k] w fun e w' => e = .returned (strV []) ∧ Below w.heap.size w w' :=
  (word_none k hk w).mono fun e w' ⟨a, b⟩ => ⟨a, by subst b; exact Below.refl _ _⟩
theorem link_none_b (k : Int) (hk : ¬ (0 ≤ k ∧ k < 8)) (w : World) : Calls Tryz.prog 13 #[.int .i64 k] w fun e w' => e = .returned (strV []) ∧ Below w.heap.size w w' :=
  (link_none k hk w).mono fun e w' ⟨a, b⟩ => ⟨a, by subst b; exact Below.refl _ _⟩
set_option maxHeartbeats 4000000 in
set_option maxRecDepth 100000 in
theorem words_out (n : Int) (hn : ¬ (0 ≤ n ∧ n < 8)) (w : World) (hI : InS w) : Calls Tryz.prog 4 #[.int .i64 n] w fun e w' => e = .returned (.bool true) ∧ Below w.heap.size w w' := by
  have hmix : Tryz.prog.follows .mixedOrders = true := by kernel_rfl
  have KA := Lib.hid (awake13_ev w hI)
  have KW := Lib.hid (fun w' => word_none_b n hn w')
  have KL := Lib.hid (fun w' => link_none_b n hn w')
  have KU := Lib.hid (fun w' => unit_b n w')
  rw [decide_eq_false (by omega)] at KU
  unfold strV at *
  have e1 : decide (n < 0) = true ∨ decide (n < 0) = false ∧ decide (7 < n) = true := by
    rcases Int.lt_or_le n 0 with h | h
    · exact .inl (by simp [h])
    · exact .inr ⟨by simp; omega, by simp; omega⟩
  clear hI
  rcases e1 with e1 | ⟨e1, e2⟩
  · have e1' := of_decide_eq_true e1
    go_enter Tryz.func4, Tryz.ntmps4
    go_upto_region 5 with (go_at_call 7; refine KA.out.mono ?_; rintro e w1 ⟨rfl, hb⟩; have HB := Lib.hid hb; clear hb)
    go_wp2_with (first | (go_at_call 12; refine (KW.out _).mono ?_; rintro e w2 ⟨rfl, hb⟩; have HB2 := Lib.hid (HB.out.trans (hb.mono HB.out.size)); clear hb) | (go_at_call 13; refine (KL.out _).mono ?_; rintro e w3 ⟨rfl, hb⟩; have HB3 := Lib.hid (HB2.out.trans (hb.mono HB2.out.size)); clear hb) | (go_at_call 14; refine (KU.out _).mono ?_; rintro e w4 ⟨rfl, hb⟩; have HB4 := Lib.hid (HB3.out.trans (hb.mono HB3.out.size)); clear hb))
    go_ret
    exact ⟨rfl, HB4.out⟩
  · have e1' := of_decide_eq_false e1
    have e2' := of_decide_eq_true e2
    go_enter Tryz.func4, Tryz.ntmps4
    go_upto_region 5 with (go_at_call 7; refine KA.out.mono ?_; rintro e w1 ⟨rfl, hb⟩; have HB := Lib.hid hb; clear hb)
    go_wp2_with (first | (go_at_call 12; refine (KW.out _).mono ?_; rintro e w2 ⟨rfl, hb⟩; have HB2 := Lib.hid (HB.out.trans (hb.mono HB.out.size)); clear hb) | (go_at_call 13; refine (KL.out _).mono ?_; rintro e w3 ⟨rfl, hb⟩; have HB3 := Lib.hid (HB2.out.trans (hb.mono HB2.out.size)); clear hb) | (go_at_call 14; refine (KU.out _).mono ?_; rintro e w4 ⟨rfl, hb⟩; have HB4 := Lib.hid (HB3.out.trans (hb.mono HB3.out.size)); clear hb))
    go_ret
    exact ⟨rfl, HB4.out⟩
theorem wordsL_at (k : Nat) (hk : k < 8) : (wordsL.map strV)[k]? = some (strV (wordK k)) := by
  have e : ∀ k : Fin 8, wordsL[k.val]? = some (wordK k.val) := by decide
  rw [List.getElem?_map, e ⟨k, hk⟩]
  rfl
theorem linksL_at (k : Nat) (hk : k < 8) : (linksL.map strV)[k]? = some (strV (linkK k)) := by
  have e : ∀ k : Fin 8, linksL[k.val]? = some (linkK k.val) := by decide
  rw [List.getElem?_map, e ⟨k, hk⟩]
  rfl
set_option maxHeartbeats 4000000 in
set_option maxRecDepth 100000 in
theorem words_in (n : Nat) (hn : n < 8) (w : World) (hI : InS w) : Calls Tryz.prog 4 #[.int .i64 (n : Int)] w fun e w' => e = .returned (.bool true) ∧ Below w.heap.size w w' := by
  have hmix : Tryz.prog.follows .mixedOrders = true := by kernel_rfl
  have KA := Lib.hid (awake13_ev w hI)
  have HI := Lib.hid hI
  have KW := Lib.hid (fun w' (h : InS w') => word_b n hn w' h.2)
  have KL := Lib.hid (fun w' (h : InS w') => link_b n hn w' h.2)
  have KU := Lib.hid (fun w' => unit_b (n : Int) w')
  have e1 : ¬ (n : Int) < 0 := by omega
  have e2 : ¬ 7 < (n : Int) := by omega
  clear hI
  go_enter Tryz.func4, Tryz.ntmps4
  go_upto_region 6 with (go_at_call 7; refine KA.out.mono ?_; rintro e w1 ⟨rfl, hb⟩; have HB := Lib.hid hb; clear hb)
  go_upto_region 7 with fail
  have hb1 := HB.out.alloc HB.out.size (.cells #[.string ⟨#[114, 101, 110, 117, 109, 98, 101, 114]⟩, .string ⟨#[114, 101, 110, 97, 109, 101]⟩, .string ⟨#[114, 101, 112, 97, 114, 101, 110, 116]⟩, .string ⟨#[109, 101, 114, 103, 101]⟩, .string ⟨#[115, 112, 108, 105, 116]⟩, .string ⟨#[114, 101, 99, 111, 100, 101]⟩, .string ⟨#[106, 111, 105, 110]⟩, .string ⟨#[99, 97, 108, 101, 110, 100, 97, 114]⟩] 9)
  have bx := RBox.new w1 [.string ⟨#[114, 101, 110, 117, 109, 98, 101, 114]⟩, .string ⟨#[114, 101, 110, 97, 109, 101]⟩, .string ⟨#[114, 101, 112, 97, 114, 101, 110, 116]⟩, .string ⟨#[109, 101, 114, 103, 101]⟩, .string ⟨#[115, 112, 108, 105, 116]⟩, .string ⟨#[114, 101, 99, 111, 100, 101]⟩, .string ⟨#[106, 111, 105, 110]⟩, .string ⟨#[99, 97, 108, 101, 110, 100, 97, 114]⟩] 9
  change RBox (w1.alloc (.cells #[.string ⟨#[114, 101, 110, 117, 109, 98, 101, 114]⟩, .string ⟨#[114, 101, 110, 97, 109, 101]⟩, .string ⟨#[114, 101, 112, 97, 114, 101, 110, 116]⟩, .string ⟨#[109, 101, 114, 103, 101]⟩, .string ⟨#[115, 112, 108, 105, 116]⟩, .string ⟨#[114, 101, 99, 111, 100, 101]⟩, .string ⟨#[106, 111, 105, 110]⟩, .string ⟨#[99, 97, 108, 101, 110, 100, 97, 114]⟩] 9)) _ _ at bx
  have hsz : (w1.alloc (.cells #[.string ⟨#[114, 101, 110, 117, 109, 98, 101, 114]⟩, .string ⟨#[114, 101, 110, 97, 109, 101]⟩, .string ⟨#[114, 101, 112, 97, 114, 101, 110, 116]⟩, .string ⟨#[109, 101, 114, 103, 101]⟩, .string ⟨#[115, 112, 108, 105, 116]⟩, .string ⟨#[114, 101, 99, 111, 100, 101]⟩, .string ⟨#[106, 111, 105, 110]⟩, .string ⟨#[99, 97, 108, 101, 110, 100, 97, 114]⟩] 9)).heap.size = w1.heap.size + 1 := by simp
  generalize w1.alloc (.cells #[.string ⟨#[114, 101, 110, 117, 109, 98, 101, 114]⟩, .string ⟨#[114, 101, 110, 97, 109, 101]⟩, .string ⟨#[114, 101, 112, 97, 114, 101, 110, 116]⟩, .string ⟨#[109, 101, 114, 103, 101]⟩, .string ⟨#[115, 112, 108, 105, 116]⟩, .string ⟨#[114, 101, 99, 111, 100, 101]⟩, .string ⟨#[106, 111, 105, 110]⟩, .string ⟨#[99, 97, 108, 101, 110, 100, 97, 114]⟩] 9) = w2 at *
  have HX := Lib.hid bx
  have HB2 := Lib.hid hb1
  clear bx hb1
  go_upto_region 8 with fail
  have hb1 := HB2.out.alloc HB2.out.size (.cells #[.string ⟨#[116, 111]⟩, .string ⟨#[]⟩, .string ⟨#[117, 110, 100, 101, 114]⟩, .string ⟨#[105, 110, 116, 111]⟩, .string ⟨#[105, 110, 116, 111]⟩, .string ⟨#[116, 111]⟩, .string ⟨#[105, 110, 116, 111]⟩, .string ⟨#[117, 110, 116, 105, 108]⟩] 9)
  have hc1 := (Below.refl w2.heap.size w2).alloc (Nat.le_refl _) (.cells #[.string ⟨#[116, 111]⟩, .string ⟨#[]⟩, .string ⟨#[117, 110, 100, 101, 114]⟩, .string ⟨#[105, 110, 116, 111]⟩, .string ⟨#[105, 110, 116, 111]⟩, .string ⟨#[116, 111]⟩, .string ⟨#[105, 110, 116, 111]⟩, .string ⟨#[117, 110, 116, 105, 108]⟩] 9)
  have bx := RBox.new w2 [.string ⟨#[116, 111]⟩, .string ⟨#[]⟩, .string ⟨#[117, 110, 100, 101, 114]⟩, .string ⟨#[105, 110, 116, 111]⟩, .string ⟨#[105, 110, 116, 111]⟩, .string ⟨#[116, 111]⟩, .string ⟨#[105, 110, 116, 111]⟩, .string ⟨#[117, 110, 116, 105, 108]⟩] 9
  change RBox (w2.alloc (.cells #[.string ⟨#[116, 111]⟩, .string ⟨#[]⟩, .string ⟨#[117, 110, 100, 101, 114]⟩, .string ⟨#[105, 110, 116, 111]⟩, .string ⟨#[105, 110, 116, 111]⟩, .string ⟨#[116, 111]⟩, .string ⟨#[105, 110, 116, 111]⟩, .string ⟨#[117, 110, 116, 105, 108]⟩] 9)) _ _ at bx
  generalize w2.alloc (.cells #[.string ⟨#[116, 111]⟩, .string ⟨#[]⟩, .string ⟨#[117, 110, 100, 101, 114]⟩, .string ⟨#[105, 110, 116, 111]⟩, .string ⟨#[105, 110, 116, 111]⟩, .string ⟨#[116, 111]⟩, .string ⟨#[105, 110, 116, 111]⟩, .string ⟨#[117, 110, 116, 105, 108]⟩] 9) = w3 at *
  have by_ := HX.out.stay hc1
  have HB3 := Lib.hid hb1
  have HIW : Hid (InS w3) := Lib.hid (HI.out.stay hb1)
  have HIR := Lib.hid (fun d os => HIW.out.stay (below_regrown w3 d os))
  have x1 := fun d os => cell_regrown (by_.at_ n _ (wordsL_at n hn)) d os
  have x2 := fun d os => cell_regrown (bx.at_ n _ (linksL_at n hn)) d os
  obtain ⟨X, hXX⟩ : ∃ X, w1.heap.size = X := ⟨_, rfl⟩
  rw [hsz, hXX] at x2
  rw [hXX] at x1 ⊢
  clear hb1 hc1 by_ bx hsz hXX HX
  have e3 : (n : Int) < 8 := by omega
  unfold strV at *
  generalize wordK n = WD at *
  generalize linkK n = LD at *
  by_cases h5 : (n : Int) = 5
  · have n5 : ((n : Int) == 5) = true := by simpa using h5
    rw [decide_eq_true (.inl h5)] at KU
    clear h5
    refine wp_region_quiet_below hmix (by kernel_rfl) ?_
    repeat (first | go_big_quiet_step ((first | (go_at_call 12; with_reducible exact Calls.regrown_of (KW.out _ (HIR.out _ _))) | (go_at_call 13; with_reducible exact Calls.regrown_of (KL.out _ (HIR.out _ _))) | (go_at_call 14; with_reducible exact Calls.regrown_of (KU.out _)))) | quiet_step ((first | (go_at_call 12; with_reducible exact Calls.regrown_of (KW.out _ (HIR.out _ _))) | (go_at_call 13; with_reducible exact Calls.regrown_of (KL.out _ (HIR.out _ _))) | (go_at_call 14; with_reducible exact Calls.regrown_of (KU.out _)))))
    refine wpQuiet_nil ?_
    intro w4 hw4
    have hb2 : Below w3.heap.size w3 w4 := by obtain ⟨q, rfl⟩ := hw4; exact below_regrown _ _ _
    have HB4 := Lib.hid (HB3.out.trans (hb2.mono HB3.out.size))
    clear hw4 hb2
    go_wp2
    go_ret
    exact ⟨rfl, HB4.out⟩
  · have n5 : ((n : Int) == 5) = false := by simpa using h5
    by_cases h6 : (n : Int) = 6
    · have n6 : ((n : Int) == 6) = true := by simpa using h6
      rw [decide_eq_true (.inr h6)] at KU
      clear h5 h6
      refine wp_region_quiet_below hmix (by kernel_rfl) ?_
      repeat (first | go_big_quiet_step ((first | (go_at_call 12; with_reducible exact Calls.regrown_of (KW.out _ (HIR.out _ _))) | (go_at_call 13; with_reducible exact Calls.regrown_of (KL.out _ (HIR.out _ _))) | (go_at_call 14; with_reducible exact Calls.regrown_of (KU.out _)))) | quiet_step ((first | (go_at_call 12; with_reducible exact Calls.regrown_of (KW.out _ (HIR.out _ _))) | (go_at_call 13; with_reducible exact Calls.regrown_of (KL.out _ (HIR.out _ _))) | (go_at_call 14; with_reducible exact Calls.regrown_of (KU.out _)))))
      refine wpQuiet_nil ?_
      intro w4 hw4
      have hb2 : Below w3.heap.size w3 w4 := by obtain ⟨q, rfl⟩ := hw4; exact below_regrown _ _ _
      have HB4 := Lib.hid (HB3.out.trans (hb2.mono HB3.out.size))
      clear hw4 hb2
      go_wp2
      go_ret
      exact ⟨rfl, HB4.out⟩
    · have n6 : ((n : Int) == 6) = false := by simpa using h6
      rw [decide_eq_false (by omega)] at KU
      clear h5 h6
      refine wp_region_quiet_below hmix (by kernel_rfl) ?_
      repeat (first | go_big_quiet_step ((first | (go_at_call 12; with_reducible exact Calls.regrown_of (KW.out _ (HIR.out _ _))) | (go_at_call 13; with_reducible exact Calls.regrown_of (KL.out _ (HIR.out _ _))) | (go_at_call 14; with_reducible exact Calls.regrown_of (KU.out _)))) | quiet_step ((first | (go_at_call 12; with_reducible exact Calls.regrown_of (KW.out _ (HIR.out _ _))) | (go_at_call 13; with_reducible exact Calls.regrown_of (KL.out _ (HIR.out _ _))) | (go_at_call 14; with_reducible exact Calls.regrown_of (KU.out _)))))
      refine wpQuiet_nil ?_
      intro w4 hw4
      have hb2 : Below w3.heap.size w3 w4 := by obtain ⟨q, rfl⟩ := hw4; exact below_regrown _ _ _
      have HB4 := Lib.hid (HB3.out.trans (hb2.mono HB3.out.size))
      clear hw4 hb2
      go_wp2
      go_ret
      exact ⟨rfl, HB4.out⟩
theorem words_c (n : Int) (w : World) (hI : InS w) : Calls Tryz.prog 4 #[.int .i64 n] w fun e w' => e = .returned (.bool true) ∧ Below w.heap.size w w' := by
  by_cases hn : 0 ≤ n ∧ n < 8
  · obtain ⟨m, rfl⟩ := Int.eq_ofNat_of_zero_le hn.1
    exact words_in m (by omega) w hI
  · exact words_out n hn w hI
end Go.Proofs.YthmeoccecoldeaaGreatDoor

/- The walk of law KeyPacks. -/
import Derived.Test.YtnmnjoleebhhiaaDoorVl
import Derived.Deep.DeepCutAuto
import Derived.Test.YtnmnjoleebhhiaaDoorVt
namespace Go.Proofs.YtnmnjoleebhhiaaDoor
open Go.RowKit Go.Sort
set_option linter.unusedVariables false
set_option linter.unusedSimpArgs false
/-- Two keys in boxes of the call's own. -/
structure Two (w0 W : World) (a e p a' e' p' : Int) : Prop where
  c0 : W.cell? ⟨w0.heap.size, 0, none⟩ = some (.int .u32 a)
  c1 : W.cell? ⟨w0.heap.size, 1, none⟩ = some (.int .u16 e)
  c2 : W.cell? ⟨w0.heap.size, 2, none⟩ = some (.int .u16 p)
  d0 : W.cell? ⟨w0.heap.size + 1, 0, none⟩ = some (.int .u32 a')
  d1 : W.cell? ⟨w0.heap.size + 1, 1, none⟩ = some (.int .u16 e')
  d2 : W.cell? ⟨w0.heap.size + 1, 2, none⟩ = some (.int .u16 p')
  f0 : W.frozen? ⟨w0.heap.size + 1, 0, none⟩ = false
  f1 : W.frozen? ⟨w0.heap.size + 1, 1, none⟩ = false
  size : w0.heap.size + 1 < W.heap.size
  below : Below w0.heap.size w0 W
theorem Two.stay {w0 W W' : World} {a e p a' e' p' : Int} (h : Two w0 W a e p a' e' p') (hb : Below W.heap.size W W') : Two w0 W' a e p a' e' p' := by
  have s := h.size
  have s0 : w0.heap.size < W.heap.size := by omega
  exact ⟨(hb.cell (p := ⟨_, 0, none⟩) s0).trans h.c0, (hb.cell (p := ⟨_, 1, none⟩) s0).trans h.c1, (hb.cell (p := ⟨_, 2, none⟩) s0).trans h.c2, (hb.cell (p := ⟨_, 0, none⟩) s).trans h.d0, (hb.cell (p := ⟨_, 1, none⟩) s).trans h.d1, (hb.cell (p := ⟨_, 2, none⟩) s).trans h.d2,
    (hb.frozen (p := ⟨_, 0, none⟩) s).trans h.f0, (hb.frozen (p := ⟨_, 1, none⟩) s).trans h.f1, Nat.lt_of_lt_of_le s hb.size, h.below.trans (hb.mono (by omega))⟩
theorem Two.drew {w0 W : World} {a e p a' e' p' : Int} (h : Two w0 W a e p a' e' p') : Two w0 W.drew a e p a' e' p' := ⟨h.c0, h.c1, h.c2, h.d0, h.d1, h.d2, h.f0, h.f1, h.size, h.below.drew⟩
theorem Two.new (w : World) (a e p a' e' p' : Int) (t u : TypeId) : Two w ((w.alloc (.cells #[.int .u32 a, .int .u16 e, .int .u16 p] t)).alloc (.cells #[.int .u32 a', .int .u16 e', .int .u16 p'] u)) a e p a' e' p' := by
  refine ⟨?_, ?_, ?_, ?_, ?_, ?_, ?_, ?_, by simp, ((Below.refl _ _).alloc (Nat.le_refl _) _).alloc (by simp) _⟩
  all_goals go_simp
theorem Two.set0 {w0 W : World} {a e p a' e' p' : Int} (h : Two w0 W a e p a' e' p') (x : Int) : Two w0 (W.setCell ⟨w0.heap.size + 1, 0, none⟩ (.int .u32 x)) a e p x e' p' := by
  have c0 := h.c0
  have c1 := h.c1
  have c2 := h.c2
  have d0 := h.d0
  have d1 := h.d1
  have d2 := h.d2
  have f0 := h.f0
  have f1 := h.f1
  refine ⟨?_, ?_, ?_, ?_, ?_, ?_, ?_, ?_, by simpa using h.size, h.below.setCell (by simp) _⟩
  all_goals go_simp
theorem Two.set1 {w0 W : World} {a e p a' e' p' : Int} (h : Two w0 W a e p a' e' p') (x : Int) : Two w0 (W.setCell ⟨w0.heap.size + 1, 1, none⟩ (.int .u16 x)) a e p a' x p' := by
  have c0 := h.c0
  have c1 := h.c1
  have c2 := h.c2
  have d0 := h.d0
  have d1 := h.d1
  have d2 := h.d2
  have f0 := h.f0
  have f1 := h.f1
  refine ⟨?_, ?_, ?_, ?_, ?_, ?_, ?_, ?_, by simpa using h.size, h.below.setCell (by simp) _⟩
  all_goals go_simp
theorem cmpZ_less {a e p a' e' p' : Int} (h : IsKey a e p) (h' : IsKey a' e' p') : cmpZ (packN a e p) (packN a' e' p') = if lessB a e p a' e' p' then -1 else if lessB a' e' p' a e p then 1 else 0 := by
  rw [lessB_pack h h', lessB_pack h' h]
  unfold cmpZ
  simp only [decide_eq_true_eq]
set_option maxRecDepth 100000 in
set_option maxHeartbeats 4000000 in
theorem keypacks_0 {I : World → Prop} (C : AllotC) (D : DayC I) (K : KeyC I) (a e p a' e' p' s : Int) (w : World) (hI : I w) (hk : IsKey a e p) (hk' : IsKey a' e' p') (hs : 0 ≤ s ∧ s < 256) (h3 : s % 3 = 0) :
    Calls Tryd.prog 3 #[keyV a e p, keyV a' e' p', .int .u8 s] w fun r w' => r = .returned (.bool true) ∧ Below w.heap.size w w' := by
  have hb : IsKey a' e' p' := by
    obtain ⟨h1, h2, h3⟩ := hk
    obtain ⟨g1, g2, g3⟩ := hk'
    exact ⟨by assumption, by assumption, by assumption⟩
  have hBn := packN_bd hk
  obtain ⟨u1, u2, u3⟩ := pack_parts hk
  have hz := cmpZ_less hk hb
  have T0 := Two.new w a e p a' e' p' 25 25
  have K1 := Lib.hid (awake5_any C D K _ (D.stay hI T0.below))
  have K2 := Lib.hid (fun w' (hw : I w') => K.pack a e p w' hw hk)
  have K3 := Lib.hid (fun w' (hw : I w') => K.unpack (packN a e p) w' hw hBn)
  have K4 := Lib.hid (fun w' (hw : I w') => K.compare a e p a' e' p' w' hw hk hb)
  have L1 := Lib.hid (fun w' => less_any a e p a' e' p' w')
  have L2 := Lib.hid (fun w' => less_any a' e' p' a e p w')
  rw [u1, u2, u3] at K3
  have HT0 := Lib.hid T0
  have HN := Lib.hid (show packN a e p = a * 4294967296 + e * 65536 + p from rfl)
  have HE := Lib.hid (show ∀ w, (binOp .eql 25 (keyV a e p) (keyV a e p)).run Tryd.prog w = .ok (.bool true) w from fun w => by
    obtain ⟨x, hx, _⟩ := kt_of hk
    rw [hx, eqb_k x x w, decide_eq_true rfl])
  unfold keyV at *
  clear u1 u2 u3 T0
  generalize packN a e p = x at *
  generalize cmpZ x (packN a' e' p') = cc at *
  obtain ⟨b1, hb1'⟩ : ∃ b1, lessB a e p a' e' p' = b1 := ⟨_, rfl⟩
  obtain ⟨b2, hb2'⟩ : ∃ b2, lessB a' e' p' a e p = b2 := ⟨_, rfl⟩
  rw [hb1'] at L1 hz
  rw [hb2'] at L2 hz
  clear hb1' hb2'
  have HZ := Lib.hid hz
  clear hz
  go_enter Tryd.func3, Tryd.ntmps3
  go_upto_if 27 with (first
    | (go_at_call 9; refine (L1.out _).mono ?_; rintro r w3 ⟨rfl, hb3⟩; have T3 := T2.stay hb3)
    | (go_at_call 8; refine (K2.out _ (D.stay hI T1.below)).mono ?_; rintro r w2 ⟨rfl, hb2⟩; have T2 := T1.stay hb2; have g0 := T2.c0; have g1 := T2.c1; have g2 := T2.c2; have g3 := T2.d0; have g4 := T2.d1; have g5 := T2.d2)
    | (go_at_call 7; refine K1.out.mono ?_; rintro r w1 ⟨rfl, hb1⟩; have T1 := HT0.out.stay hb1; have g0 := T1.c0; have g1 := T1.c1; have g2 := T1.c2; have g3 := T1.d0; have g4 := T1.d1; have g5 := T1.d2; have j0 := T1.f0; have j1 := T1.f1))
  go_cut [8] (fun v wr => v = .int .i64 cc ∧ Two w wr a e p a' e' p')
  case first =>
    have g0 := T3.c0
    have g1 := T3.c1
    have g2 := T3.c2
    have g3 := T3.d0
    have g4 := T3.d1
    have g5 := T3.d2
    cases b1 with
    | true =>
      have hcc := HZ.out
      simp only [if_true] at hcc
      have HC := Lib.hid hcc
      clear hcc
      go_wp2
      go_meet
      exact ⟨int_int (by rw [HC.out]), T3⟩
    | false =>
      cases b2 with
      | true =>
        have hcc := HZ.out
        simp at hcc
        have HC := Lib.hid hcc
        clear hcc
        go_wp2_with (go_at_call 9; refine (L2.out _).mono ?_; rintro r w4 ⟨rfl, hb4⟩; have T4 := T3.stay hb4)
        go_meet
        exact ⟨int_int (by rw [HC.out]), T4⟩
      | false =>
        have hcc := HZ.out
        simp at hcc
        have HC := Lib.hid hcc
        clear hcc
        go_wp2_with (go_at_call 9; refine (L2.out _).mono ?_; rintro r w4 ⟨rfl, hb4⟩; have T4 := T3.stay hb4)
        go_meet
        exact ⟨int_int (by rw [HC.out]), T4⟩
  case rest =>
    obtain ⟨rfl, T5⟩ := hcut
    rename World => wr
    have hx := HN.out.symm
    obtain ⟨⟨a1, a2⟩, ⟨a3, a4⟩, ⟨a5, a6⟩⟩ := hk
    have q1 : IntKind.u64.wrap a = a := by rw [IntKind.wrap_u64]; omega
    have q2 : IntKind.u64.wrap (a * 4294967296) = a * 4294967296 := by rw [IntKind.wrap_u64]; omega
    have q3 : IntKind.u64.wrap e = e := by rw [IntKind.wrap_u64]; omega
    have q4 : IntKind.u64.wrap (e * 65536) = e * 65536 := by rw [IntKind.wrap_u64]; omega
    have q5 : IntKind.u64.wrap p = p := by rw [IntKind.wrap_u64]; omega
    have q6 : IntKind.u64.wrap (a * 4294967296 + e * 65536) = a * 4294967296 + e * 65536 := by rw [IntKind.wrap_u64]; omega
    have q7 : IntKind.u64.wrap (a * 4294967296 + e * 65536 + p) = x := by rw [IntKind.wrap_u64]; omega
    clear hx
    have HI := Lib.hid (fun d os => D.stay hI (T5.below.trans ((below_regrown wr d os).mono (Nat.le_of_lt (Nat.lt_of_le_of_lt (Nat.le_succ _) T5.size)))))
    have y0 := fun d os => cell_regrown T5.c0 d os
    have y1 := fun d os => cell_regrown T5.c1 d os
    have y2 := fun d os => cell_regrown T5.c2 d os
    have z0 := fun d os => cell_regrown T5.d0 d os
    have z1 := fun d os => cell_regrown T5.d1 d os
    have z2 := fun d os => cell_regrown T5.d2 d os
    have heq := HE.out
    have hmix : Tryd.prog.follows .mixedOrders = true := by kernel_rfl
    have HT5 := Lib.hid T5
    clear T5 T3 T2 T1 g0 g1 g2 g3 g4 g5 j0 j1 HT0
    go_wp2_with fail
    refine wp_region_quiet_below hmix (by kernel_rfl) ?_
    repeat (quiet_step ((first
      | (go_at_call 10; with_reducible exact Calls.regrown_of (K3.out _ (HI.out _ _)))
      | (go_at_call 11; with_reducible exact Calls.regrown_of (K4.out _ (HI.out _ _))))))
    refine wpQuiet_nil ?_
    intro w9 hw9
    have hb9 : Below wr.heap.size wr w9 := by obtain ⟨q, rfl⟩ := hw9; exact below_regrown _ _ _
    have HB9 := Lib.hid hb9
    clear hw9 hb9
    go_wp2
    go_ret
    exact ⟨rfl, HT5.out.below.trans (HB9.out.mono (Nat.le_of_lt (Nat.lt_of_le_of_lt (Nat.le_succ _) HT5.out.size)))⟩
set_option maxRecDepth 100000 in
set_option maxHeartbeats 4000000 in
theorem keypacks_1 {I : World → Prop} (C : AllotC) (D : DayC I) (K : KeyC I) (a e p a' e' p' s : Int) (w : World) (hI : I w) (hk : IsKey a e p) (hk' : IsKey a' e' p') (hs : 0 ≤ s ∧ s < 256) (h3 : s % 3 = 1) :
    Calls Tryd.prog 3 #[keyV a e p, keyV a' e' p', .int .u8 s] w fun r w' => r = .returned (.bool true) ∧ Below w.heap.size w w' := by
  have hb : IsKey a e' p' := by
    obtain ⟨h1, h2, h3⟩ := hk
    obtain ⟨g1, g2, g3⟩ := hk'
    exact ⟨by assumption, by assumption, by assumption⟩
  have hBn := packN_bd hk
  obtain ⟨u1, u2, u3⟩ := pack_parts hk
  have hz := cmpZ_less hk hb
  have T0 := Two.new w a e p a' e' p' 25 25
  have K1 := Lib.hid (awake5_any C D K _ (D.stay hI T0.below))
  have K2 := Lib.hid (fun w' (hw : I w') => K.pack a e p w' hw hk)
  have K3 := Lib.hid (fun w' (hw : I w') => K.unpack (packN a e p) w' hw hBn)
  have K4 := Lib.hid (fun w' (hw : I w') => K.compare a e p a e' p' w' hw hk hb)
  have L1 := Lib.hid (fun w' => less_any a e p a e' p' w')
  have L2 := Lib.hid (fun w' => less_any a e' p' a e p w')
  rw [u1, u2, u3] at K3
  have HT0 := Lib.hid T0
  have HN := Lib.hid (show packN a e p = a * 4294967296 + e * 65536 + p from rfl)
  have HE := Lib.hid (show ∀ w, (binOp .eql 25 (keyV a e p) (keyV a e p)).run Tryd.prog w = .ok (.bool true) w from fun w => by
    obtain ⟨x, hx, _⟩ := kt_of hk
    rw [hx, eqb_k x x w, decide_eq_true rfl])
  unfold keyV at *
  clear u1 u2 u3 T0
  generalize packN a e p = x at *
  generalize cmpZ x (packN a e' p') = cc at *
  obtain ⟨b1, hb1'⟩ : ∃ b1, lessB a e p a e' p' = b1 := ⟨_, rfl⟩
  obtain ⟨b2, hb2'⟩ : ∃ b2, lessB a e' p' a e p = b2 := ⟨_, rfl⟩
  rw [hb1'] at L1 hz
  rw [hb2'] at L2 hz
  clear hb1' hb2'
  have HZ := Lib.hid hz
  clear hz
  go_enter Tryd.func3, Tryd.ntmps3
  go_upto_if 27 with (first
    | (go_at_call 9; refine (L1.out _).mono ?_; rintro r w3 ⟨rfl, hb3⟩; have T3 := T2.stay hb3)
    | (go_at_call 8; refine (K2.out _ (D.stay hI (T1.set0 a).below)).mono ?_; rintro r w2 ⟨rfl, hb2⟩; have T2 := (T1.set0 a).stay hb2; have g0 := T2.c0; have g1 := T2.c1; have g2 := T2.c2; have g3 := T2.d0; have g4 := T2.d1; have g5 := T2.d2)
    | (go_at_call 7; refine K1.out.mono ?_; rintro r w1 ⟨rfl, hb1⟩; have T1 := HT0.out.stay hb1; have g0 := T1.c0; have g1 := T1.c1; have g2 := T1.c2; have g3 := T1.d0; have g4 := T1.d1; have g5 := T1.d2; have j0 := T1.f0; have j1 := T1.f1))
  go_cut [8] (fun v wr => v = .int .i64 cc ∧ Two w wr a e p a e' p')
  case first =>
    have g0 := T3.c0
    have g1 := T3.c1
    have g2 := T3.c2
    have g3 := T3.d0
    have g4 := T3.d1
    have g5 := T3.d2
    cases b1 with
    | true =>
      have hcc := HZ.out
      simp only [if_true] at hcc
      have HC := Lib.hid hcc
      clear hcc
      go_wp2
      go_meet
      exact ⟨int_int (by rw [HC.out]), T3⟩
    | false =>
      cases b2 with
      | true =>
        have hcc := HZ.out
        simp at hcc
        have HC := Lib.hid hcc
        clear hcc
        go_wp2_with (go_at_call 9; refine (L2.out _).mono ?_; rintro r w4 ⟨rfl, hb4⟩; have T4 := T3.stay hb4)
        go_meet
        exact ⟨int_int (by rw [HC.out]), T4⟩
      | false =>
        have hcc := HZ.out
        simp at hcc
        have HC := Lib.hid hcc
        clear hcc
        go_wp2_with (go_at_call 9; refine (L2.out _).mono ?_; rintro r w4 ⟨rfl, hb4⟩; have T4 := T3.stay hb4)
        go_meet
        exact ⟨int_int (by rw [HC.out]), T4⟩
  case rest =>
    obtain ⟨rfl, T5⟩ := hcut
    rename World => wr
    have hx := HN.out.symm
    obtain ⟨⟨a1, a2⟩, ⟨a3, a4⟩, ⟨a5, a6⟩⟩ := hk
    have q1 : IntKind.u64.wrap a = a := by rw [IntKind.wrap_u64]; omega
    have q2 : IntKind.u64.wrap (a * 4294967296) = a * 4294967296 := by rw [IntKind.wrap_u64]; omega
    have q3 : IntKind.u64.wrap e = e := by rw [IntKind.wrap_u64]; omega
    have q4 : IntKind.u64.wrap (e * 65536) = e * 65536 := by rw [IntKind.wrap_u64]; omega
    have q5 : IntKind.u64.wrap p = p := by rw [IntKind.wrap_u64]; omega
    have q6 : IntKind.u64.wrap (a * 4294967296 + e * 65536) = a * 4294967296 + e * 65536 := by rw [IntKind.wrap_u64]; omega
    have q7 : IntKind.u64.wrap (a * 4294967296 + e * 65536 + p) = x := by rw [IntKind.wrap_u64]; omega
    clear hx
    have HI := Lib.hid (fun d os => D.stay hI (T5.below.trans ((below_regrown wr d os).mono (Nat.le_of_lt (Nat.lt_of_le_of_lt (Nat.le_succ _) T5.size)))))
    have y0 := fun d os => cell_regrown T5.c0 d os
    have y1 := fun d os => cell_regrown T5.c1 d os
    have y2 := fun d os => cell_regrown T5.c2 d os
    have z0 := fun d os => cell_regrown T5.d0 d os
    have z1 := fun d os => cell_regrown T5.d1 d os
    have z2 := fun d os => cell_regrown T5.d2 d os
    have heq := HE.out
    have hmix : Tryd.prog.follows .mixedOrders = true := by kernel_rfl
    have HT5 := Lib.hid T5
    clear T5 T3 T2 T1 g0 g1 g2 g3 g4 g5 j0 j1 HT0
    go_wp2_with fail
    refine wp_region_quiet_below hmix (by kernel_rfl) ?_
    repeat (quiet_step ((first
      | (go_at_call 10; with_reducible exact Calls.regrown_of (K3.out _ (HI.out _ _)))
      | (go_at_call 11; with_reducible exact Calls.regrown_of (K4.out _ (HI.out _ _))))))
    refine wpQuiet_nil ?_
    intro w9 hw9
    have hb9 : Below wr.heap.size wr w9 := by obtain ⟨q, rfl⟩ := hw9; exact below_regrown _ _ _
    have HB9 := Lib.hid hb9
    clear hw9 hb9
    go_wp2
    go_ret
    exact ⟨rfl, HT5.out.below.trans (HB9.out.mono (Nat.le_of_lt (Nat.lt_of_le_of_lt (Nat.le_succ _) HT5.out.size)))⟩
set_option maxRecDepth 100000 in
set_option maxHeartbeats 4000000 in
theorem keypacks_2 {I : World → Prop} (C : AllotC) (D : DayC I) (K : KeyC I) (a e p a' e' p' s : Int) (w : World) (hI : I w) (hk : IsKey a e p) (hk' : IsKey a' e' p') (hs : 0 ≤ s ∧ s < 256) (h3 : s % 3 = 2) :
    Calls Tryd.prog 3 #[keyV a e p, keyV a' e' p', .int .u8 s] w fun r w' => r = .returned (.bool true) ∧ Below w.heap.size w w' := by
  have hb : IsKey a e p' := by
    obtain ⟨h1, h2, h3⟩ := hk
    obtain ⟨g1, g2, g3⟩ := hk'
    exact ⟨by assumption, by assumption, by assumption⟩
  have hBn := packN_bd hk
  obtain ⟨u1, u2, u3⟩ := pack_parts hk
  have hz := cmpZ_less hk hb
  have T0 := Two.new w a e p a' e' p' 25 25
  have K1 := Lib.hid (awake5_any C D K _ (D.stay hI T0.below))
  have K2 := Lib.hid (fun w' (hw : I w') => K.pack a e p w' hw hk)
  have K3 := Lib.hid (fun w' (hw : I w') => K.unpack (packN a e p) w' hw hBn)
  have K4 := Lib.hid (fun w' (hw : I w') => K.compare a e p a e p' w' hw hk hb)
  have L1 := Lib.hid (fun w' => less_any a e p a e p' w')
  have L2 := Lib.hid (fun w' => less_any a e p' a e p w')
  rw [u1, u2, u3] at K3
  have HT0 := Lib.hid T0
  have HN := Lib.hid (show packN a e p = a * 4294967296 + e * 65536 + p from rfl)
  have HE := Lib.hid (show ∀ w, (binOp .eql 25 (keyV a e p) (keyV a e p)).run Tryd.prog w = .ok (.bool true) w from fun w => by
    obtain ⟨x, hx, _⟩ := kt_of hk
    rw [hx, eqb_k x x w, decide_eq_true rfl])
  unfold keyV at *
  clear u1 u2 u3 T0
  generalize packN a e p = x at *
  generalize cmpZ x (packN a e p') = cc at *
  obtain ⟨b1, hb1'⟩ : ∃ b1, lessB a e p a e p' = b1 := ⟨_, rfl⟩
  obtain ⟨b2, hb2'⟩ : ∃ b2, lessB a e p' a e p = b2 := ⟨_, rfl⟩
  rw [hb1'] at L1 hz
  rw [hb2'] at L2 hz
  clear hb1' hb2'
  have HZ := Lib.hid hz
  clear hz
  go_enter Tryd.func3, Tryd.ntmps3
  go_upto_if 27 with (first
    | (go_at_call 9; refine (L1.out _).mono ?_; rintro r w3 ⟨rfl, hb3⟩; have T3 := T2.stay hb3)
    | (go_at_call 8; refine (K2.out _ (D.stay hI ((T1.set0 a).set1 e).below)).mono ?_; rintro r w2 ⟨rfl, hb2⟩; have T2 := ((T1.set0 a).set1 e).stay hb2; have g0 := T2.c0; have g1 := T2.c1; have g2 := T2.c2; have g3 := T2.d0; have g4 := T2.d1; have g5 := T2.d2)
    | (go_at_call 7; refine K1.out.mono ?_; rintro r w1 ⟨rfl, hb1⟩; have T1 := HT0.out.stay hb1; have g0 := T1.c0; have g1 := T1.c1; have g2 := T1.c2; have g3 := T1.d0; have g4 := T1.d1; have g5 := T1.d2; have j0 := T1.f0; have j1 := T1.f1))
  go_cut [8] (fun v wr => v = .int .i64 cc ∧ Two w wr a e p a e p')
  case first =>
    have g0 := T3.c0
    have g1 := T3.c1
    have g2 := T3.c2
    have g3 := T3.d0
    have g4 := T3.d1
    have g5 := T3.d2
    cases b1 with
    | true =>
      have hcc := HZ.out
      simp only [if_true] at hcc
      have HC := Lib.hid hcc
      clear hcc
      go_wp2
      go_meet
      exact ⟨int_int (by rw [HC.out]), T3⟩
    | false =>
      cases b2 with
      | true =>
        have hcc := HZ.out
        simp at hcc
        have HC := Lib.hid hcc
        clear hcc
        go_wp2_with (go_at_call 9; refine (L2.out _).mono ?_; rintro r w4 ⟨rfl, hb4⟩; have T4 := T3.stay hb4)
        go_meet
        exact ⟨int_int (by rw [HC.out]), T4⟩
      | false =>
        have hcc := HZ.out
        simp at hcc
        have HC := Lib.hid hcc
        clear hcc
        go_wp2_with (go_at_call 9; refine (L2.out _).mono ?_; rintro r w4 ⟨rfl, hb4⟩; have T4 := T3.stay hb4)
        go_meet
        exact ⟨int_int (by rw [HC.out]), T4⟩
  case rest =>
    obtain ⟨rfl, T5⟩ := hcut
    rename World => wr
    have hx := HN.out.symm
    obtain ⟨⟨a1, a2⟩, ⟨a3, a4⟩, ⟨a5, a6⟩⟩ := hk
    have q1 : IntKind.u64.wrap a = a := by rw [IntKind.wrap_u64]; omega
    have q2 : IntKind.u64.wrap (a * 4294967296) = a * 4294967296 := by rw [IntKind.wrap_u64]; omega
    have q3 : IntKind.u64.wrap e = e := by rw [IntKind.wrap_u64]; omega
    have q4 : IntKind.u64.wrap (e * 65536) = e * 65536 := by rw [IntKind.wrap_u64]; omega
    have q5 : IntKind.u64.wrap p = p := by rw [IntKind.wrap_u64]; omega
    have q6 : IntKind.u64.wrap (a * 4294967296 + e * 65536) = a * 4294967296 + e * 65536 := by rw [IntKind.wrap_u64]; omega
    have q7 : IntKind.u64.wrap (a * 4294967296 + e * 65536 + p) = x := by rw [IntKind.wrap_u64]; omega
    clear hx
    have HI := Lib.hid (fun d os => D.stay hI (T5.below.trans ((below_regrown wr d os).mono (Nat.le_of_lt (Nat.lt_of_le_of_lt (Nat.le_succ _) T5.size)))))
    have y0 := fun d os => cell_regrown T5.c0 d os
    have y1 := fun d os => cell_regrown T5.c1 d os
    have y2 := fun d os => cell_regrown T5.c2 d os
    have z0 := fun d os => cell_regrown T5.d0 d os
    have z1 := fun d os => cell_regrown T5.d1 d os
    have z2 := fun d os => cell_regrown T5.d2 d os
    have heq := HE.out
    have hmix : Tryd.prog.follows .mixedOrders = true := by kernel_rfl
    have HT5 := Lib.hid T5
    clear T5 T3 T2 T1 g0 g1 g2 g3 g4 g5 j0 j1 HT0
    go_wp2_with fail
    refine wp_region_quiet_below hmix (by kernel_rfl) ?_
    repeat (quiet_step ((first
      | (go_at_call 10; with_reducible exact Calls.regrown_of (K3.out _ (HI.out _ _)))
      | (go_at_call 11; with_reducible exact Calls.regrown_of (K4.out _ (HI.out _ _))))))
    refine wpQuiet_nil ?_
    intro w9 hw9
    have hb9 : Below wr.heap.size wr w9 := by obtain ⟨q, rfl⟩ := hw9; exact below_regrown _ _ _
    have HB9 := Lib.hid hb9
    clear hw9 hb9
    go_wp2
    go_ret
    exact ⟨rfl, HT5.out.below.trans (HB9.out.mono (Nat.le_of_lt (Nat.lt_of_le_of_lt (Nat.le_succ _) HT5.out.size)))⟩
theorem keypacks_any {I : World → Prop} (C : AllotC) (D : DayC I) (K : KeyC I) (a e p a' e' p' s : Int) (w : World) (hI : I w) (hk : IsKey a e p) (hk' : IsKey a' e' p') (hs : 0 ≤ s ∧ s < 256) :
    Calls Tryd.prog 3 #[keyV a e p, keyV a' e' p', .int .u8 s] w fun r w' => r = .returned (.bool true) ∧ Below w.heap.size w w' := by
  have h : s % 3 = 0 ∨ s % 3 = 1 ∨ s % 3 = 2 := by omega
  rcases h with h | h | h
  · exact keypacks_0 C D K a e p a' e' p' s w hI hk hk' hs h
  · exact keypacks_1 C D K a e p a' e' p' s w hI hk hk' hs h
  · exact keypacks_2 C D K a e p a' e' p' s w hI hk hk' hs h
end Go.Proofs.YtnmnjoleebhhiaaDoor

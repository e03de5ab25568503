/- The walk of law ShareSums. -/
import Derived.Test.YtkeicflmbhokhaaDoorSm
import Derived.BigQuiet
import Derived.Deep.QuietTactic
namespace Go.Proofs.YtkeicflmbhokhaaDoor
open Go.RowKit
set_option linter.unusedVariables false
set_option linter.unusedSimpArgs false
theorem below_drewN {B : Nat} {a w : World} (h : Below B a w) (n : Nat) : Below B a (w.drewN n) := ⟨h.os, h.tape, h.output, h.size, h.block⟩
theorem slice_upto (a : Addr) (n cap i : Nat) (h0 : 0 < cap) (hc : i ≤ cap) (w : World) :
    (Instr.slice 24 (.slice (some a) n cap) none (some (.int .i64 (i : Int))) none).run Tryd.prog w = .ok (.slice (some a) i cap) w := by
  have hu : Tryd.prog.underlying 24 = some (.slice (Tryd.prog.elem 24)) := by kernel_rfl
  have hs : (sizeOf (Tryd.prog.elem 24)).run Tryd.prog w = .ok 1 w := by kernel_rfl
  rw [run_slice_h w 24 (some a) n cap hu .i64 (i : Int) (by omega) (by omega), hs]
  simp only [Result.andThen_ok, sliced, Int.toNat_natCast]
  rw [if_neg (by omega)]
  simp [Addr.add]
theorem amts_one (w : World) (t : TypeId) (a : Int) (ha : (Lit.int .i64 a).wf = true) :
    Amts (w.alloc (.cells #[.int .i64 a] t)) (.slice (some ⟨w.heap.size, 0, none⟩) 1 1) [a] := by
  refine .inr ⟨w.heap.size, 0, 1, rfl, by simp, by simp, by simp, fun i hi => ?_⟩
  obtain rfl : i = 0 := by simp at hi; omega
  exact ⟨by simp, by simpa using ha⟩
set_option maxHeartbeats 4000000 in
set_option maxRecDepth 100000 in
theorem sharesums_some (b off cap : Nat) (zs : List Int) (a : Int) (w : World) (C : AllotC) (htab : Pow w) (hw : 0 < w.heap.size) (ha : (Lit.int .i64 a).wf = true) (hb : b < w.heap.size) (h0 : 0 < zs.length) (h8 : zs.length ≤ 8)
    (hz : ∀ i, i < zs.length → w.cell? ⟨b, off + i, none⟩ = some (.int .u32 (zs.getD i 0)) ∧ (Lit.int .u32 (zs.getD i 0)).wf = true) :
    Calls Tryd.prog 4 #[.int .i64 a, .slice (some ⟨b, off, none⟩) zs.length cap] w fun e w' => e = .returned (.bool true) ∧ Below w.heap.size w w' := by
  have hba := wf_bd_i64 ha
  have K1 := Lib.hid (awake3_any C w htab hw)
  have K2 := Lib.hid (fun (w' : World) (h : Below w.heap.size w w') => weights_some b off cap zs w' (Nat.lt_of_lt_of_le hb h.size) (by omega) (fun i hi => ⟨by rw [h.cell (p := ⟨b, off + i, none⟩) hb]; exact (hz i hi).1, (hz i hi).2⟩))
  have K3 := Lib.hid (fun (v : Value) (w' : World) (h : Amts w' v (zs.map wgt)) => C.good v (zs.map wgt) a w' h ha (by simpa using h0) (by simpa using h8) (weights_good zs))
  have hlen : (sharesV a (zs.map wgt)).length = (zs.map wgt).length := sharesV_length ha (weights_good zs) (by simpa using h0) (by simpa using h8)
  have Hlen := Lib.hid hlen
  have W1 := Lib.hid (fun z hz => wgt_all zs z hz)
  have W2 := Lib.hid (sharesV_wf (a := a) (zs := zs.map wgt))
  have e8 : decide ((8 : Int) < (zs.length : Int)) = false := by simp; omega
  have e8' : decide ((zs.length : Int) > 8) = false := by simp; omega
  have e0 : (((zs.length : Nat) : Int) == 0) = false := beq_eq_false_iff_ne.2 (by omega)
  clear hz hlen
  go_enter Tryd.func4, Tryd.ntmps4
  go_wp2_with (first
    | (go_at_call 8; refine K1.out.mono ?_; rintro e w1 ⟨rfl, hb1⟩)
    | (go_at_call 9; refine (K2.out _ hb1).mono ?_; rintro e w2 ⟨v2, rfl, ho2, hb2⟩; have A2 : Amts w2 v2 (zs.map wgt) := amts_owns (by simpa using ho2) (by simp; omega) W1.out; have hB2 := hb1.trans (hb2.mono hb1.size))
    | (go_at_call 10; refine (K3.out _ _ A2).mono ?_; rintro e w3 ⟨v3, rfl, ho3, hb3⟩; have A3 : Amts w3 v3 (sharesV a (zs.map wgt)) := amts_owns (by rw [Hlen.out]; exact ho3) (by rw [Hlen.out]; simp; omega) W2.out; have A23 := A2.stay hb3; have hB3 := hB2.trans (hb3.mono hB2.size); obtain ⟨r2, c2, hv2, m2, F2⟩ := A23.form; obtain ⟨r3, c3, hv3, m3, F3⟩ := A3.form; rw [Hlen.out] at m3 F3 hv3; rw [List.length_map] at m2 F2 hv2 m3 F3 hv3; subst hv2; subst hv3; obtain ⟨q2, o2, rfl, x2, y2, z2⟩ := F2 h0; obtain ⟨q3, o3, rfl, x3, y3, z3⟩ := F3 h0))
  have HL := Lib.hid (shares_like (a := a) (zs := zs.map wgt) ha (weights_good zs) (by simpa using h0) (by simpa using h8))
  have HS := Lib.hid (shares_sum (a := a) (zs := zs.map wgt) ha (weights_good zs) (by simpa using h0) (by simpa using h8))
  have HG := Lib.hid (weights_good zs)
  have HA := Lib.hid A23
  clear A2 A3 A23 F2 F3 ho2 ho3
  have Z2 := Lib.hid z2
  have Z3 := Lib.hid z3
  clear z2 z3
  have hle2 : (zs.map wgt).length = zs.length := List.length_map _
  have Hle2 := Lib.hid hle2
  clear hle2
  rw [List.length_map] at HS
  generalize zs.map wgt = ws at *
  generalize hLs : sharesV a ws = L at *
  have HW3 := Lib.hid (Below.refl w3.heap.size w3)
  go_loopw [8, 42] (fun s i wr => ∃ j : Nat, j ≤ zs.length ∧ i = .int .i64 j ∧ s = .int .u64 (IntKind.u64.wrap (L.take j).sum) ∧ Below w3.heap.size w3 wr) (fun _ i _ => zs.length - (RowKit.intOf i).toNat)
  case atStart => exact ⟨0, Nat.zero_le _, rfl, by simp; rfl, HW3.out⟩
  case round =>
    obtain ⟨j, hj, rfl, rfl, hBr⟩ := hrel
    rename World => wr
    by_cases hlt : j < zs.length
    · obtain ⟨hcj0, hwj⟩ := Z3.out j hlt
      have hcj : wr.cell? ⟨q3, o3 + j, none⟩ = some (.int .i64 (L.getD j 0)) := by rw [hBr.cell (p := ⟨q3, o3 + j, none⟩) x3]; exact hcj0
      obtain ⟨f1, f2, f3⟩ := HL.out j (by rw [Hle2.out]; exact hlt)
      have F3 := Lib.hid f3
      have hs := Lib.hid (sum_take L j (by rw [Hlen.out, Hle2.out]; exact hlt))
      clear f3 hcj0
      generalize hxx : L.getD j 0 = x at *
      have HX := Lib.hid hxx
      clear hxx
      have bx := wf_bd_i64 hwj
      generalize (L.take j).sum = u at *
      cases j with
      | zero =>
        rw [Nat.add_zero] at hcj
        rcases (by omega : (0 < x ∧ ¬ x < 0 ∧ ¬ a < 0) ∨ (¬ 0 < x ∧ x < 0 ∧ ¬ 0 < a) ∨ (¬ 0 < x ∧ ¬ x < 0)) with ⟨p1, p2, p3⟩ | ⟨p1, p2, p3⟩ | ⟨p1, p2⟩
        all_goals
          go_wp2_with fail
          go_quiet (fail)
          go_wp2
          go_roundw
          case rel => exact ⟨1, by omega, by go_num, int_int (by rw [hs.out]; simp only [IntKind.wrap_u64]; omega), below_drewN hBr _⟩
          case measure => simp [RowKit.intOf]; omega
      | succ k =>
        obtain ⟨hck0, hwk⟩ := Z3.out k (by omega)
        obtain ⟨hd10, _⟩ := Z2.out (k + 1) hlt
        obtain ⟨hd20, _⟩ := Z2.out k (by omega)
        have hck : wr.cell? ⟨q3, o3 + k, none⟩ = some (.int .i64 (L.getD k 0)) := by rw [hBr.cell (p := ⟨q3, o3 + k, none⟩) x3]; exact hck0
        have hd1 : wr.cell? ⟨q2, o2 + (k + 1), none⟩ = some (.int .i64 (ws.getD (k + 1) 0)) := by rw [hBr.cell (p := ⟨q2, o2 + (k + 1), none⟩) x2]; exact hd10
        have hd2 : wr.cell? ⟨q2, o2 + k, none⟩ = some (.int .i64 (ws.getD k 0)) := by rw [hBr.cell (p := ⟨q2, o2 + k, none⟩) x2]; exact hd20
        have F4 := Lib.hid (F3.out k (by rw [Hle2.out]; omega))
        clear hck0 hd10 hd20
        generalize L.getD k 0 = y at *
        generalize ws.getD (k + 1) 0 = c at *
        generalize ws.getD k 0 = d at *
        have bk := wf_bd_i64 hwk
        have t0 : (0 : Int) < (k : Int) + 1 := by omega
        have t1 : (0 : Int) ≤ (k : Int) + 1 := by omega
        have t2 : (k : Int) + 1 < (zs.length : Int) := by omega
        have t3 : (k : Int) < (zs.length : Int) := by omega
        have t4 : ((k : Int) + 1).toNat = k + 1 := by omega
        have t5 : IntKind.i64.wrap (k : Int) = (k : Int) := by rw [IntKind.wrap_i64]; omega
        by_cases e : c = d
        · obtain ⟨g1, g2⟩ := F4.out e
          subst e
          have g3 : decide ((1 : Int) < x - y) = false := decide_eq_false (by omega)
          have g4 : decide ((1 : Int) < y - x) = false := decide_eq_false (by omega)
          have g5 : wrap64 (x - y) = x - y := by rw [w64w]; omega
          have g6 : wrap64 (y - x) = y - x := by rw [w64w]; omega
          rcases (by omega : (0 < x ∧ ¬ x < 0 ∧ ¬ a < 0) ∨ (¬ 0 < x ∧ x < 0 ∧ ¬ 0 < a) ∨ (¬ 0 < x ∧ ¬ x < 0)) with ⟨p1, p2, p3⟩ | ⟨p1, p2, p3⟩ | ⟨p1, p2⟩
          all_goals
            go_wp2_with fail
            go_quiet (fail)
            go_wp2
            go_roundw
            case rel => exact ⟨k + 1 + 1, by omega, by go_num, int_int (by rw [hs.out]; simp only [IntKind.wrap_u64]; omega), below_drewN hBr _⟩
            case measure => simp [RowKit.intOf]; omega
        · have e' : (c == d) = false := beq_eq_false_iff_ne.2 e
          rcases (by omega : (0 < x ∧ ¬ x < 0 ∧ ¬ a < 0) ∨ (¬ 0 < x ∧ x < 0 ∧ ¬ 0 < a) ∨ (¬ 0 < x ∧ ¬ x < 0)) with ⟨p1, p2, p3⟩ | ⟨p1, p2, p3⟩ | ⟨p1, p2⟩
          all_goals
            go_wp2_with fail
            go_quiet (fail)
            go_wp2
            go_roundw
            case rel => exact ⟨k + 1 + 1, by omega, by go_num, int_int (by rw [hs.out]; simp only [IntKind.wrap_u64]; omega), below_drewN hBr _⟩
            case measure => simp [RowKit.intOf]; omega
    · obtain rfl : j = zs.length := by omega
      have hS := HS.out
      have hfirst : ws.take 1 = [ws.getD 0 0] := by
        have := Hle2.out
        cases ws with
        | nil => simp at this; omega
        | cons z r => simp
      have hg1 : GoodW [ws.getD 0 0] := fun i hi => by
        obtain rfl : i = 0 := by simp at hi; omega
        exact HG.out 0 (by rw [Hle2.out]; exact h0)
      have A1 : Amts wr (.slice (some ⟨q2, o2, none⟩) 1 c2) [ws.getD 0 0] := by
        rw [← hfirst]
        refine Amts.stay (w := w3) (amts_take (cap := c2) x2 (by rw [Hle2.out]; exact m2) (fun i hi => Z2.out i (by rw [← Hle2.out]; exact hi)) 1 c2 (by rw [Hle2.out]; omega) (by omega)) hBr
      have KA := Lib.hid (C.good (.slice (some ⟨q2, o2, none⟩) 1 c2) [ws.getD 0 0] a wr A1 ha (by simp) (by simp) hg1)
      rw [shares_alone ha hg1] at KA
      have hsl := slice_upto ⟨q2, o2, none⟩ zs.length c2 1 (by omega) (by omega)
      have KE := Lib.hid (fun (v : Value) (w' : World) (h : Amts w' v [a]) => equal_any v (.slice (some ⟨w'.heap.size, 0, none⟩) 1 1) [a] [a] (w'.alloc (.cells #[.int .i64 a] 2)) (h.stay ((Below.refl _ _).alloc (Nat.le_refl _) _)) (amts_one w' 2 a ha))
      have W3 := Lib.hid (show ∀ z ∈ [a], (Lit.int .i64 z).wf = true from fun z hz => by simp at hz; subst hz; exact ha)
      rw [hS]
      clear A1 hS hfirst hg1
      go_wp2_with (first
        | (go_at_call 10; refine KA.out.mono ?_; rintro e w4 ⟨v4, rfl, ho4, hb4⟩; have A4 : Amts w4 v4 [a] := amts_owns ho4 (by simp) W3.out)
        | (go_at_call 11; refine (KE.out _ _ A4).mono ?_; rintro e w5 ⟨rfl, hb5⟩))
      go_ret
      have g1 := hB3.trans (hBr.mono hB3.size)
      have g2 := g1.trans (hb4.mono g1.size)
      have g3 := g2.alloc g2.size (.cells #[.int .i64 a] 2)
      exact ⟨by simp, g3.trans (hb5.mono g3.size)⟩
theorem sharesums_out (r : Option Addr) (n cap : Nat) (a : Int) (w : World) (hn : n = 0 ∨ 8 < n) (C : AllotC) (htab : Pow w) (hw : 0 < w.heap.size) :
    Calls Tryd.prog 4 #[.int .i64 a, .slice r n cap] w fun e w' => e = .returned (.bool true) ∧ Below w.heap.size w w' := by
  have K := Lib.hid (fun w' => fun h1 h2 => awake3_any C w' h1 h2)
  rcases hn with rfl | hn
  · go_enter Tryd.func4, Tryd.ntmps4
    go_wp2_with (go_at_call 8; refine (K.out _ htab hw).mono ?_; rintro e w1 ⟨rfl, hb1⟩)
    go_ret
    exact ⟨rfl, hb1⟩
  · go_enter Tryd.func4, Tryd.ntmps4
    go_wp2_with (go_at_call 8; refine (K.out _ htab hw).mono ?_; rintro e w1 ⟨rfl, hb1⟩)
    go_ret
    exact ⟨rfl, hb1⟩
theorem sharesums_any (v : Value) (zs : List Int) (a : Int) (w : World) (C : AllotC) (htab : Pow w) (hw : 0 < w.heap.size) (ha : (Lit.int .i64 a).wf = true) (h : Nums .u32 w v zs) :
    Calls Tryd.prog 4 #[.int .i64 a, v] w fun e w' => e = .returned (.bool true) ∧ Below w.heap.size w w' := by
  rcases h with ⟨r, cap, rfl, rfl⟩ | ⟨b, off, cap, rfl, hb, hl, hc, hz⟩
  · exact sharesums_out r 0 cap a w (.inl rfl) C htab hw
  · by_cases h : zs.length = 0 ∨ 8 < zs.length
    · exact sharesums_out _ _ cap a w h C htab hw
    · exact sharesums_some b off cap zs a w C htab hw ha hb (by omega) (by omega) hz
end Go.Proofs.YtkeicflmbhokhaaDoor

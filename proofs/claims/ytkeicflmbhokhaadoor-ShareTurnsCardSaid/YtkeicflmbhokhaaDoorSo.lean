/- The walk of law ShareTurns. -/
import Derived.Test.YtkeicflmbhokhaaDoorSn
import Derived.BigQuiet
import Derived.Deep.QuietTactic
namespace Go.Proofs.YtkeicflmbhokhaaDoor
open Go.RowKit
set_option linter.unusedVariables false
set_option linter.unusedSimpArgs false
theorem below_drewn {B : Nat} {a w : World} (h : Below B a w) (n : Nat) : Below B a (w.drewN n) := ⟨h.os, h.tape, h.output, h.size, h.block⟩
set_option maxHeartbeats 8000000 in
set_option maxRecDepth 100000 in
theorem shareturns_some (b off cap : Nat) (zs : List Int) (a y : Int) (w : World) (C : AllotC) (htab : Pow w) (hw : 0 < w.heap.size) (ha : (Lit.int .i64 a).wf = true) (hy : (Lit.int .u8 y).wf = true) (hmin : a ≠ -9223372036854775808) (hb : b < w.heap.size) (h0 : 0 < zs.length) (h8 : zs.length ≤ 8)
    (hz : ∀ i, i < zs.length → w.cell? ⟨b, off + i, none⟩ = some (.int .u32 (zs.getD i 0)) ∧ (Lit.int .u32 (zs.getD i 0)).wf = true) :
    Calls Tryd.prog 6 #[.int .i64 a, .slice (some ⟨b, off, none⟩) zs.length cap, .int .u8 y] w fun e w' => e = .returned (.bool true) ∧ Below w.heap.size w w' := by
  have hba := wf_bd_i64 ha
  have hby : 0 ≤ y ∧ y < 256 := by
    simp [Lit.wf, IntKind.min, IntKind.max, IntKind.signed, IntKind.bits] at hy; omega
  have hna : (Lit.int .i64 (-a)).wf = true := WalkArith.wf_i64 (by omega)
  have nw : IntKind.i64.wrap (-a) = -a := by rw [IntKind.wrap_i64]; omega
  obtain ⟨i0, hi, hz0, hz1, hz2⟩ := infoI
  have K1 := Lib.hid (awake3_any C w htab hw)
  have G1 := wtt_good zs
  have G2 := wto_good y zs
  have KA := Lib.hid (fun (v : Value) (w' : World) (h : Amts w' v (zs.map wtt)) => C.good v (zs.map wtt) a w' h ha (by simpa using h0) (by simpa using h8) G1)
  have KB := Lib.hid (fun (v : Value) (w' : World) (h : Amts w' v (zs.map wtt)) => C.good v (zs.map wtt) (-a) w' h hna (by simpa using h0) (by simpa using h8) G1)
  have KC := Lib.hid (fun (v : Value) (w' : World) (h : Amts w' v (zs.map (wto y))) => C.good v (zs.map (wto y)) a w' h ha (by simpa using h0) (by simpa using h8) G2)
  have lA : (sharesV a (zs.map wtt)).length = zs.length := by rw [sharesV_length ha G1 (by simpa using h0) (by simpa using h8)]; simp
  have lB : (sharesV (-a) (zs.map wtt)).length = zs.length := by rw [sharesV_length hna G1 (by simpa using h0) (by simpa using h8)]; simp
  have sgn : ∀ i, i < zs.length → IntKind.i64.wrap (-(sharesV (-a) (zs.map wtt)).getD i 0) = (sharesV a (zs.map wtt)).getD i 0 := fun i hi => sharesV_signs ha hna G1 (by simpa using h0) (by simpa using h8) i (by simpa using hi)
  have WA := Lib.hid (sharesV_wf (a := a) (zs := zs.map wtt))
  have WB := Lib.hid (sharesV_wf (a := -a) (zs := zs.map wtt))
  rw [often_same a y zs] at KC
  have l1 : (zs.map wtt).length = zs.length := List.length_map _
  have l2 : (zs.map (wto y)).length = zs.length := List.length_map _
  rw [l1] at KA KB
  rw [l2] at KC
  have W1 := Lib.hid (wtt_all zs)
  have W2 := Lib.hid (wto_all y zs)
  have LL := Lib.hid (And.intro l1 l2)
  have LA := Lib.hid lA
  have LB := Lib.hid lB
  have SG := Lib.hid sgn
  have e8 : decide ((8 : Int) < (zs.length : Int)) = false := by simp; omega
  have e8' : decide ((zs.length : Int) > 8) = false := by simp; omega
  have e0 : (((zs.length : Nat) : Int) == 0) = false := beq_eq_false_iff_ne.2 (by omega)
  have em : (a == -9223372036854775808) = false := beq_eq_false_iff_ne.2 hmin
  have Hz := Lib.hid hz
  have Hmin := Lib.hid hmin
  clear hz G1 G2 lA lB sgn l1 l2 hmin
  go_enter Tryd.func6, Tryd.ntmps6
  go_wp2_with (first
    | (go_at_call 8; refine K1.out.mono ?_; rintro e w1 ⟨rfl, hb1⟩))
  have hs1 := hb1.size
  go_loopw [7, 8, 34] (fun u v i wr => ∃ j : Nat, j ≤ zs.length ∧ i = .int .i64 j ∧ wr.ownsRow w1.heap.size 2 1 u j (ints ((zs.take j).map wtt)) ∧ wr.ownsRow w1.heap.size 2 1 v j (ints ((zs.take j).map (wto y))) ∧ Apart u v ∧ Below w1.heap.size w1 wr) (fun _ _ i _ => zs.length - (RowKit.intOf i).toNat)
  case atStart => exact ⟨0, Nat.zero_le _, rfl, World.ownsRow_nil _ _ _ _, World.ownsRow_nil _ _ _ _, ⟨.inl rfl, .inl rfl⟩, Below.refl _ _⟩
  case round =>
    obtain ⟨j, hj, rfl, ho1, ho2, hap, hB⟩ := hrel
    rename World => wr
    by_cases hlt : j < zs.length
    · obtain ⟨hc, hwf⟩ := Hz.out j hlt
      have hc' : wr.cell? ⟨b, off + j, none⟩ = some (.int .u32 (zs.getD j 0)) := by rw [hB.cell (p := ⟨b, off + j, none⟩) (by show b < _; omega), hb1.cell (p := ⟨b, off + j, none⟩) hb]; exact hc
      have e1 := take_map_step wtt zs j hlt
      have e2 := take_map_step (wto y) zs j hlt
      have hp := wto_bd y (zs.getD j 0)
      have hq := wtt_bd (zs.getD j 0)
      generalize hx : zs.getD j 0 = x at *
      have hbx : 0 ≤ x ∧ x < 4294967296 := by
        simp [Lit.wf, IntKind.min, IntKind.max, IntKind.signed, IntKind.bits] at hwf; omega
      have k1 : 1 + x % 1000 = wtt x := rfl
      have k2 : 1 + y % 200 = oft y := rfl
      have k3 : wtt x * oft y = wto y x := rfl
      have E1 := Lib.hid e1
      have E2 := Lib.hid e2
      have hs := hB.size
      clear e1 e2 hx hc
      go_wp2_with (first
        | (at_builtin; refine wpList_append_own_at _ rfl (.tmp 38) (.tmp 43) 24 rfl w1.heap.size 2 i0 (.int .i64 0) 1 8 Tryd.underlying24 hi hz0 hz1 hz2 rfl (by decide) _ j _ rfl (ho1.alloc _) ⟨wr.heap.size, 0, none⟩ 1 1 [.int .i64 (wtt x)] rfl rfl (cell_one_new _ _ _) (fun u hu => by simp at hu; subst hu; rfl) (by unfold maxLen; omega) (by omega) (by simp; omega) ?_; intro v3 w3 hown3 hgrow3 hnil3 hat3; have ho23 := (ho2.alloc _).kept hgrow3 hap.2; have hB3 : Below w1.heap.size w1 w3 := (hB.alloc hs _).grown hgrow3 (by simp; omega) (fun g hg => (ho1.lt g hg).1); have hs3 := hB3.size; have hap3 : Apart v3 _ := hap.step hat3 (fun k hk => by have := (ho2.lt k hk).2; simp; omega))
        | (at_builtin; refine wpList_append_own_at _ rfl (.tmp 45) (.tmp 55) 24 rfl w1.heap.size 2 i0 (.int .i64 0) 1 8 Tryd.underlying24 hi hz0 hz1 hz2 rfl (by decide) _ j _ rfl (ho23.alloc _) ⟨w3.heap.size, 0, none⟩ 1 1 [.int .i64 (wto y x)] rfl rfl (cell_one_new _ _ _) (fun u hu => by simp at hu; subst hu; rfl) (by unfold maxLen; omega) (by omega) (by simp; omega) ?_; intro v4 w4 hown4 hgrow4 hnil4 hat4))
      go_roundw
      case rel =>
        refine ⟨j + 1, by omega, by go_num, ?_, ?_, (hap3.symm.step hat4 (fun k hk => by have := (hown3.lt k hk).2; simp; omega)).symm, (hB3.alloc hs3 _).grown hgrow4 (by simp; omega) (fun g hg => (ho23.lt g hg).1)⟩
        · rw [← E1.out]; exact (hown3.alloc _).kept hgrow4 hap3.1
        · rw [← E2.out]; exact hown4
      case measure => simp [RowKit.intOf]; omega
    · obtain rfl : j = zs.length := by omega
      rw [List.take_length] at ho1 ho2
      have A1 : Amts wr _ (zs.map wtt) := amts_owns (by rw [LL.out.1]; exact ho1) (by rw [LL.out.1]; omega) W1.out
      have A2 : Amts wr _ (zs.map (wto y)) := amts_owns (by rw [LL.out.2]; exact ho2) (by rw [LL.out.2]; omega) W2.out
      have AA := Lib.hid (And.intro A1 A2)
      clear ho1 ho2 A1 A2 W1 W2
      generalize zs.map wtt = ws at *
      generalize zs.map (wto y) = vs at *
      go_wp2_with (first
        | (go_at_call 10; refine (KC.out _ _ (AA.out.2.stay hBB)).mono ?_; rintro e wC ⟨vC, rfl, hoC, hbC⟩; have aC : Amts wC vC (sharesV a ws) := amts_owns (by rw [LA.out]; exact hoC) (by rw [LA.out]; omega) WA.out; have hBC := hBB.trans (hbC.mono hBB.size); have aA2 := aA.stay (hbB.trans (hbC.mono hbB.size)); have aB2 := aB.stay hbC; have AAC := Lib.hid (And.intro aA2 aC); obtain ⟨rA, cA, hvA, mA, FA⟩ := aA2.form; obtain ⟨rB, cB, hvB, mB, FB⟩ := aB2.form; rw [LA.out] at mA FA hvA; rw [LB.out] at mB FB hvB; subst hvA; subst hvB; obtain ⟨qA, oA, rfl, xA, yA, zA⟩ := FA h0; obtain ⟨qB, oB, rfl, xB, yB, zB⟩ := FB h0)
        | (go_at_call 10; refine (KB.out _ _ (AA.out.1.stay hbA)).mono ?_; rintro e wB ⟨vB, rfl, hoB, hbB⟩; have aB : Amts wB vB (sharesV (-a) ws) := amts_owns (by rw [LB.out]; exact hoB) (by rw [LB.out]; omega) WB.out; have hBB := hbA.trans (hbB.mono hbA.size))
        | (go_at_call 10; refine (KA.out _ _ AA.out.1).mono ?_; rintro e wA ⟨vA, rfl, hoA, hbA⟩; have aA : Amts wA vA (sharesV a ws) := amts_owns (by rw [LA.out]; exact hoA) (by rw [LA.out]; omega) WA.out))
      have ZA := Lib.hid zA
      have ZB := Lib.hid zB
      clear zA zB FA FB aA aB aC hoA hoB hoC
      have hBw : Below w.heap.size w wC := hb1.trans ((hB.trans (hbA.mono hB.size)).trans ((hbB.trans (hbC.mono hbB.size)).mono (Nat.le_trans hB.size hbA.size)) |>.mono hs1)
      go_loopw [96] (fun i wq => ∃ j : Nat, j ≤ zs.length ∧ i = .int .i64 j ∧ Below wC.heap.size wC wq) (fun i _ => zs.length - (RowKit.intOf i).toNat)
      case atStart => exact ⟨0, Nat.zero_le _, rfl, Below.refl _ _⟩
      case round =>
        obtain ⟨j, hj, rfl, hBq⟩ := hrel
        rename World => wq
        by_cases hlt : j < zs.length
        · have c1 : wq.cell? ⟨qA, oA + j, none⟩ = some (.int .i64 ((sharesV a ws).getD j 0)) := by rw [hBq.cell (p := ⟨qA, oA + j, none⟩) xA]; exact (ZA.out j hlt).1
          have c2 : wq.cell? ⟨qB, oB + j, none⟩ = some (.int .i64 ((sharesV (-a) ws).getD j 0)) := by rw [hBq.cell (p := ⟨qB, oB + j, none⟩) xB]; exact (ZB.out j hlt).1
          have sj := SG.out j hlt
          generalize (sharesV a ws).getD j 0 = x at *
          generalize (sharesV (-a) ws).getD j 0 = t at *
          have j1 : (j : Int) < (zs.length : Int) := by omega
          go_wp2_with fail
          go_quiet (fail)
          go_wp2
          go_roundw
          case rel => exact ⟨j + 1, by omega, by go_num, below_drewn hBq _⟩
          case measure => simp [RowKit.intOf]; omega
        · obtain rfl : j = zs.length := by omega
          have KE := Lib.hid (equal_any _ _ _ _ wq (AAC.out.1.stay hBq) (AAC.out.2.stay hBq))
          go_wp2_with (go_at_call 11; refine KE.out.mono ?_; rintro e wE ⟨rfl, hbE⟩)
          go_ret
          have g1 := hBw.trans (hBq.mono hBw.size)
          exact ⟨by simp, g1.trans (hbE.mono g1.size)⟩
theorem shareturns_out (r : Option Addr) (n cap : Nat) (a y : Int) (w : World) (hn : n = 0 ∨ 8 < n ∨ a = -9223372036854775808) (C : AllotC) (htab : Pow w) (hw : 0 < w.heap.size) :
    Calls Tryd.prog 6 #[.int .i64 a, .slice r n cap, .int .u8 y] w fun e w' => e = .returned (.bool true) ∧ Below w.heap.size w w' := by
  have K := Lib.hid (fun w' => fun h1 h2 => awake3_any C w' h1 h2)
  rcases hn with rfl | hn | rfl
  · go_enter Tryd.func6, Tryd.ntmps6
    go_wp2_with (go_at_call 8; refine (K.out _ htab hw).mono ?_; rintro e w1 ⟨rfl, hb1⟩)
    go_ret
    exact ⟨rfl, hb1⟩
  · go_enter Tryd.func6, Tryd.ntmps6
    go_wp2_with (go_at_call 8; refine (K.out _ htab hw).mono ?_; rintro e w1 ⟨rfl, hb1⟩)
    go_ret
    exact ⟨rfl, hb1⟩
  · by_cases h8 : 8 < n
    · go_enter Tryd.func6, Tryd.ntmps6
      go_wp2_with (go_at_call 8; refine (K.out _ htab hw).mono ?_; rintro e w1 ⟨rfl, hb1⟩)
      go_ret
      exact ⟨rfl, hb1⟩
    · have e8 : decide ((8 : Int) < (n : Int)) = false := by simp; omega
      have e8' : decide ((n : Int) > 8) = false := by simp; omega
      by_cases h0 : n = 0
      · subst h0
        go_enter Tryd.func6, Tryd.ntmps6
        go_wp2_with (go_at_call 8; refine (K.out _ htab hw).mono ?_; rintro e w1 ⟨rfl, hb1⟩)
        go_ret
        exact ⟨rfl, hb1⟩
      · have e0 : ((n : Int) == 0) = false := beq_eq_false_iff_ne.2 (by omega)
        go_enter Tryd.func6, Tryd.ntmps6
        go_wp2_with (go_at_call 8; refine (K.out _ htab hw).mono ?_; rintro e w1 ⟨rfl, hb1⟩)
        go_ret
        exact ⟨rfl, hb1⟩
theorem shareturns_any (v : Value) (zs : List Int) (a y : Int) (w : World) (C : AllotC) (htab : Pow w) (hw : 0 < w.heap.size) (ha : (Lit.int .i64 a).wf = true) (hy : (Lit.int .u8 y).wf = true) (h : Nums .u32 w v zs) :
    Calls Tryd.prog 6 #[.int .i64 a, v, .int .u8 y] w fun e w' => e = .returned (.bool true) ∧ Below w.heap.size w w' := by
  rcases h with ⟨r, cap, rfl, rfl⟩ | ⟨b, off, cap, rfl, hb, hl, hc, hz⟩
  · exact shareturns_out r 0 cap a y w (.inl rfl) C htab hw
  · by_cases h : zs.length = 0 ∨ 8 < zs.length ∨ a = -9223372036854775808
    · exact shareturns_out _ _ cap a y w h C htab hw
    · exact shareturns_some b off cap zs a y w C htab hw ha hy (fun e => h (.inr (.inr e))) hb (by omega) (by omega) hz
end Go.Proofs.YtkeicflmbhokhaaDoor

/- The walk of law ShareNear. -/
import Derived.Test.YtkeicflmbhokhaaDoorSm
import Derived.Test.YtkeicflmbhokhaaDoorWd
import Derived.Test.YtkeicflmbhokhaaDoorWm
import Derived.Test.YtkeicflmbhokhaaDoorOb
import Derived.Test.YtkeicflmbhokhaaDoorWb
namespace Go.Proofs.YtkeicflmbhokhaaDoor
open Go.RowKit
set_option linter.unusedVariables false
set_option linter.unusedSimpArgs false
set_option maxHeartbeats 8000000 in
set_option maxRecDepth 100000 in
theorem sharenear_some (b off cap : Nat) (zs : List Int) (a : Int) (w : World) (C : AllotC) (htab : Pow w) (hw : 0 < w.heap.size) (ha : (Lit.int .i64 a).wf = true) (hb : b < w.heap.size) (h0 : 0 < zs.length) (h8 : zs.length ≤ 8)
    (hz : ∀ i, i < zs.length → w.cell? ⟨b, off + i, none⟩ = some (.int .u32 (zs.getD i 0)) ∧ (Lit.int .u32 (zs.getD i 0)).wf = true) :
    Calls Tryd.prog 7 #[.int .i64 a, .slice (some ⟨b, off, none⟩) zs.length cap] w fun e w' => e = .returned (.bool true) ∧ Below w.heap.size w w' := by
  have K1 := Lib.hid (awake3_any C w htab hw)
  have K2 := Lib.hid (fun (w' : World) (h : Below w.heap.size w w') => weights_some b off cap zs w' (Nat.lt_of_lt_of_le hb h.size) (by omega) (fun i hi => ⟨by rw [h.cell (p := ⟨b, off + i, none⟩) hb]; exact (hz i hi).1, (hz i hi).2⟩))
  have K3 := Lib.hid (fun (v : Value) (w' : World) (h : Amts w' v (zs.map wgt)) => C.good v (zs.map wgt) a w' h ha (by simpa using h0) (by simpa using h8) (weights_good zs))
  have hlen : (sharesV a (zs.map wgt)).length = (zs.map wgt).length := sharesV_length ha (weights_good zs) (by simpa using h0) (by simpa using h8)
  have Hlen := Lib.hid hlen
  have W1 := Lib.hid (fun z hz => wgt_all zs z hz)
  have W2 := Lib.hid (sharesV_wf (a := a) (zs := zs.map wgt))
  have e8 : decide ((8 : Int) < (zs.length : Int)) = false := by simp; omega
  have e8' : decide ((zs.length : Int) > 8) = false := by simp; omega
  have e0 : (((zs.length : Nat) : Int) == 0) = false := beq_eq_false_iff_ne.2 (by omega)
  clear hz hlen
  go_enter Tryd.func7, Tryd.ntmps7
  go_wp2_with (first
    | (go_at_call 8; refine K1.out.mono ?_; rintro e w1 ⟨rfl, hb1⟩)
    | (go_at_call 9; refine (K2.out _ hb1).mono ?_; rintro e w2 ⟨v2, rfl, ho2, hb2⟩; have A2 : Amts w2 v2 (zs.map wgt) := amts_owns (by simpa using ho2) (by simp; omega) W1.out; have hB2 := hb1.trans (hb2.mono hb1.size))
    | (go_at_call 10; refine (K3.out _ _ A2).mono ?_; rintro e w3 ⟨v3, rfl, ho3, hb3⟩; have A3 : Amts w3 v3 (sharesV a (zs.map wgt)) := amts_owns (by rw [Hlen.out]; exact ho3) (by rw [Hlen.out]; simp; omega) W2.out; have A23 := A2.stay hb3; have hB3 := hB2.trans (hb3.mono hB2.size); obtain ⟨r2, c2, hv2, m2, F2⟩ := A23.form; obtain ⟨r3, c3, hv3, m3, F3⟩ := A3.form; rw [Hlen.out] at m3 F3 hv3; rw [List.length_map] at m2 F2 hv2 m3 F3 hv3; subst hv2; subst hv3; obtain ⟨q2, o2, rfl, x2, y2, z2⟩ := F2 h0; obtain ⟨q3, o3, rfl, x3, y3, z3⟩ := F3 h0))
  clear A2 A3 A23 F2 F3 ho2 ho3
  have Z2 := Lib.hid z2
  have Z3 := Lib.hid z3
  clear z2 z3
  have hg := weights_good zs
  have HN := Lib.hid (near_core (a := a) (zs := zs.map wgt) ha hg (by simpa using h0) (by simpa using h8))
  have HB := Lib.hid (fun j (hj : j ≤ zs.length) => sumTo_bound (wOf (zs.map wgt)) 1000000 j (fun i hi => by have := (hg i (by simp; omega)).2; unfold wOf; omega))
  have HW := Lib.hid (fun i (hi : i < zs.length) => show (zs.map wgt).getD i 0 = ((wOf (zs.map wgt) i : Nat) : Int) ∧ 1 ≤ wOf (zs.map wgt) i ∧ wOf (zs.map wgt) i ≤ 1000000 by
    have := hg i (by simpa using hi)
    unfold wOf
    omega)
  have HT0 := Lib.hid (good_total hg (by simpa using h0) (by simpa using h8)).1
  clear hg
  rw [List.length_map] at HN HT0
  generalize zs.map wgt = ws at *
  go_loop [8, 43] (fun t i => ∃ j : Nat, j ≤ zs.length ∧ i = .int .i64 j ∧ t = .int .i64 ((sumTo (wOf ws) j : Nat) : Int)) (fun _ i => zs.length - (RowKit.intOf i).toNat)
  case atStart => exact ⟨0, Nat.zero_le _, rfl, rfl⟩
  case round =>
    obtain ⟨j, hj, rfl, rfl⟩ := hrel
    have hsb := HB.out j hj
    by_cases hlt : j < zs.length
    · have hcj := (Z2.out j (by simpa using hlt)).1
      obtain ⟨hw1, hw2, hw3⟩ := HW.out j hlt
      rw [hw1] at hcj
      have Hsj := Lib.hid (show sumTo (wOf ws) (j + 1) = sumTo (wOf ws) j + wOf ws j from rfl)
      clear hw1
      generalize sumTo (wOf ws) j = t at *
      generalize wOf ws j = x at *
      go_wp2
      go_round
      case rel => exact ⟨j + 1, by omega, by go_num, int_int (by rw [Hsj.out]; push_cast; rfl)⟩
      case measure => simp [RowKit.intOf]; omega
    · obtain rfl : j = zs.length := by omega
      have hT0 := HT0.out
      generalize sumTo (wOf ws) zs.length = T at *
      have tf : (Lit.int .i64 (T : Int)).wf = true := WalkArith.wf_i64 (by omega)
      have nf : (Lit.int .i64 (-(T : Int))).wf = true := WalkArith.wf_i64 (by omega)
      have cO1 := Lib.hid (fun w' => of_any (T : Int) w' tf)
      have cO2 := Lib.hid (fun w' => of_any (-(T : Int)) w' nf)
      go_wp2
      go_loopw [53] (fun i wr => ∃ j : Nat, j ≤ zs.length ∧ i = .int .i64 j ∧ Below w3.heap.size w3 wr) (fun i _ => zs.length - (RowKit.intOf i).toNat)
      case atStart => exact ⟨0, Nat.zero_le _, rfl, Below.refl _ _⟩
      case round =>
        obtain ⟨j, hj, rfl, hBr⟩ := hrel
        rename World => wr
        by_cases hlt : j < zs.length
        · have hs3 := hBr.size
          obtain ⟨hcj0, hwj⟩ := Z3.out j hlt
          have hcj : wr.cell? ⟨q3, o3 + j, none⟩ = some (.int .i64 ((sharesV a ws).getD j 0)) := by rw [hBr.cell (p := ⟨q3, o3 + j, none⟩) x3]; exact hcj0
          obtain ⟨hdj0, hvj⟩ := Z2.out j (by simpa using hlt)
          have hdj : wr.cell? ⟨q2, o2 + j, none⟩ = some (.int .i64 (ws.getD j 0)) := by rw [hBr.cell (p := ⟨q2, o2 + j, none⟩) x2]; exact hdj0
          have hn := HN.out j (by simpa using hlt)
          have x2' : q2 < wr.heap.size := by omega
          clear hcj0 hdj0
          generalize (sharesV a ws).getD j 0 = x at *
          generalize ws.getD j 0 = y at *
          have cM1 := Lib.hid (fun w' => mul_any x (T : Int) w' hwj tf)
          have cM2 := Lib.hid (fun w' => mul_any a y w' ha hvj)
          have cS := Lib.hid (fun w' => sub_any (x * (T : Int)) (a * y) w')
          have j1 : (j : Int) < (zs.length : Int) := by omega
          generalize hD : x * (T : Int) - a * y = D at *
          have cC1 := Lib.hid (fun w' => cmp_any (hiW D) (loW D) (hiW (T : Int)) (loW (T : Int)) w')
          have cC2 := Lib.hid (fun w' => cmp_any (hiW D) (loW D) (hiW (-(T : Int))) (loW (-(T : Int))) w')
          rw [cmp_small (by omega) (by omega), if_pos hn.1] at cC1
          rw [cmp_small (by omega) (by omega), if_neg (by omega), if_pos hn.2] at cC2
          clear hD hn
          generalize hiW (x * (T : Int)) = ph at *
          generalize loW (x * (T : Int)) = pl at *
          generalize hiW (a * y) = rh at *
          generalize loW (a * y) = rl at *
          generalize hiW D = dh at *
          generalize loW D = dl at *
          generalize hiW (T : Int) = th at *
          generalize loW (T : Int) = tl at *
          generalize hiW (-(T : Int)) = nh at *
          generalize loW (-(T : Int)) = nl at *
          go_wp2_with fail
          go_cut [13] (fun p wq => ∃ Q : Nat, p = .pointer (some ⟨Q, 0, none⟩) ∧ Pair wq Q (.int .i64 dh) (.int .u64 dl) ∧ Below w3.heap.size w3 wq)
          case first =>
            refine wp_region_any (by kernel_rfl) ?_
            change wpAny _ _ _ _ _ _ _ (World.drew _)
            have bl0 : Below wr.heap.size wr wr.drew := (Below.refl _ _).drew
            refine take_op (i := 0) (.move (.tmp 12)) (some 58) (.int .i64 x) (by unfold opWants; kernel_rfl) (by kernel_rfl) (by kernel_rfl) (by kernel_rfl) (fun _ _ _ h => h) (fun o ho w' => ?_) ?_
            · unfold execOp; simp only [ho]; go_simp
            simp only [Act.put, List.setIfInBounds_toArray, List.set_cons_zero, List.set_cons_succ]
            refine take_op (i := 1) (.move (.tmp 8)) (some 59) (.int .i64 (T : Int)) (by unfold opWants; kernel_rfl) (by kernel_rfl) (by kernel_rfl) (by kernel_rfl) (fun _ _ _ h => h) (fun o ho w' => ?_) ?_
            · unfold execOp; simp only [ho]; go_simp
            simp only [Act.put, List.setIfInBounds_toArray, List.set_cons_zero, List.set_cons_succ]
            refine take_op (i := 3) (.move (.tmp 0)) (some 61) (.int .i64 a) (by unfold opWants; kernel_rfl) (by kernel_rfl) (by kernel_rfl) (by kernel_rfl) (fun _ _ _ h => h) (fun o ho w' => ?_) ?_
            · unfold execOp; simp only [ho]; go_simp
            simp only [Act.put, List.setIfInBounds_toArray, List.set_cons_zero, List.set_cons_succ]
            refine take_op (i := 4) (.move (.tmp 5)) (some 62) (.slice (some ⟨q2, o2, none⟩) zs.length c2) (by unfold opWants; kernel_rfl) (by kernel_rfl) (by kernel_rfl) (by kernel_rfl) (fun _ _ _ h => h) (fun o ho w' => ?_) ?_
            · unfold execOp; simp only [ho]; go_simp
            simp only [Act.put, List.setIfInBounds_toArray, List.set_cons_zero, List.set_cons_succ]
            refine take_op (i := 5) (.move (.tmp 11)) (some 63) (.int .i64 (j : Int)) (by unfold opWants; kernel_rfl) (by kernel_rfl) (by kernel_rfl) (by kernel_rfl) (fun _ _ _ h => h) (fun o ho w' => ?_) ?_
            · unfold execOp; simp only [ho]; go_simp
            simp only [Act.put, List.setIfInBounds_toArray, List.set_cons_zero, List.set_cons_succ]
            refine take_op (i := 6) (.indexAddr 24 (.tmp 62) (.tmp 63)) (some 64) (.pointer (some ⟨q2, o2 + j, none⟩)) (by unfold opWants; kernel_rfl) (by kernel_rfl) (by kernel_rfl) (by kernel_rfl) (fun _ _ _ h => h) (fun o ho w' => ?_) ?_
            · unfold execOp; simp only [ho]; go_simp
            simp only [Act.put, List.setIfInBounds_toArray, List.set_cons_zero, List.set_cons_succ]
            refine any3 2 7 10 (by kernel_rfl) ?_ ?_ ?_
            · skip
              refine op_call (.call { callee := .value (.func 14), args := #[.tmp 58, .tmp 59], argTypes := #[2, 2] }) (some 60) (by unfold opIs; kernel_rfl) 14 #[.int .i64 x, .int .i64 (T : Int)] (fun o ho => by unfold execOp; rw [ho]; kernel_rfl) (cM1.out _) ?_
              rintro e v1 ⟨rfl, hb1⟩
              refine ⟨_, rfl, ?_⟩
              have bl1 := bel_call bl0 hb1
              simp only [Act.put, List.setIfInBounds_toArray, List.set_cons_zero, List.set_cons_succ]
              refine any2 7 10 (by kernel_rfl) ?_ ?_
              · skip
                refine op_load 2 (.tmp 64) (some 65) (by unfold opIs; kernel_rfl) (.pointer (some ⟨q2, o2 + j, none⟩)) (.int .i64 y) (by kernel_rfl) (load_one _ _ _ _ ((bl1.cell (p := ⟨q2, o2 + j, none⟩) x2').trans hdj)) ?_
                simp only [Act.put, List.setIfInBounds_toArray, List.set_cons_zero, List.set_cons_succ]
                refine any2 8 10 (by kernel_rfl) ?_ ?_
                · skip
                  refine op_call (.call { callee := .value (.func 14), args := #[.tmp 61, .tmp 65], argTypes := #[2, 2] }) (some 66) (by unfold opIs; kernel_rfl) 14 #[.int .i64 a, .int .i64 y] (fun o ho => by unfold execOp; rw [ho]; kernel_rfl) (cM2.out _) ?_
                  rintro e v3 ⟨rfl, hb3⟩
                  refine ⟨_, rfl, ?_⟩
                  have bl3 := bel_call bl1 hb3
                  simp only [Act.put, List.setIfInBounds_toArray, List.set_cons_zero, List.set_cons_succ]
                  refine any2 9 10 (by kernel_rfl) ?_ ?_
                  · skip
                    refine op_call (.call { callee := .value (.func 13), args := #[.tmp 60, .tmp 66], argTypes := #[37, 37] }) (some 67) (by unfold opIs; kernel_rfl) 13 #[.agg #[.int .i64 ph, .int .u64 pl], .agg #[.int .i64 rh, .int .u64 rl]] (fun o ho => by unfold execOp; rw [ho]; kernel_rfl) (cS.out _) ?_
                    rintro e v4 ⟨rfl, hb4⟩
                    refine ⟨_, rfl, ?_⟩
                    have bl4 := bel_call bl3 hb4
                    simp only [Act.put, List.setIfInBounds_toArray, List.set_cons_zero, List.set_cons_succ]
                    refine any1 10 (by kernel_rfl) ?_
                    · skip
                      refine opw_new (some 13) (by unfold opWants; kernel_rfl) ?_
                      have bl5 := bel_new bl4 (.cells #[.int .i64 0, .int .u64 0] 37)
                      have pr5 := Pair.new (v4) (.int .i64 0) (.int .u64 0) 37
                      simp only [Act.put, List.setIfInBounds_toArray, List.set_cons_zero, List.set_cons_succ]
                      refine any1 11 (by kernel_rfl) ?_
                      · skip
                        refine op_store 37 (.tmp 13) (.tmp 67) none (by unfold opIs; kernel_rfl) (.pointer (some ⟨(v4).heap.size, 0, none⟩)) (.agg #[.int .i64 dh, .int .u64 dl]) (by kernel_rfl) (by kernel_rfl) (store_pair _ _ _ _ _ _ pr5) ?_
                        have bl6 := bel_set bl5 (bl4.size) (.int .i64 dh) (.int .u64 dl)
                        have pr6 := pr5.set dh dl
                        simp only [Act.put]
                        refine wpAny_done (by kernel_rfl) ?_ _
                        go_wp2
                        go_meet
                        exact ⟨_, rfl, pr6, hBr.trans (bl6.mono hBr.size)⟩
                  · skip
                    refine opw_new (some 13) (by unfold opWants; kernel_rfl) ?_
                    have bl4 := bel_new bl3 (.cells #[.int .i64 0, .int .u64 0] 37)
                    have pr4 := Pair.new (v3) (.int .i64 0) (.int .u64 0) 37
                    simp only [Act.put, List.setIfInBounds_toArray, List.set_cons_zero, List.set_cons_succ]
                    refine any1 9 (by kernel_rfl) ?_
                    · skip
                      refine op_call (.call { callee := .value (.func 13), args := #[.tmp 60, .tmp 66], argTypes := #[37, 37] }) (some 67) (by unfold opIs; kernel_rfl) 13 #[.agg #[.int .i64 ph, .int .u64 pl], .agg #[.int .i64 rh, .int .u64 rl]] (fun o ho => by unfold execOp; rw [ho]; kernel_rfl) (cS.out _) ?_
                      rintro e v5 ⟨rfl, hb5⟩
                      refine ⟨_, rfl, ?_⟩
                      have bl5 := bel_call bl4 hb5
                      have pr5 := pr4.stay hb5
                      simp only [Act.put, List.setIfInBounds_toArray, List.set_cons_zero, List.set_cons_succ]
                      refine any1 11 (by kernel_rfl) ?_
                      · skip
                        refine op_store 37 (.tmp 13) (.tmp 67) none (by unfold opIs; kernel_rfl) (.pointer (some ⟨(v3).heap.size, 0, none⟩)) (.agg #[.int .i64 dh, .int .u64 dl]) (by kernel_rfl) (by kernel_rfl) (store_pair _ _ _ _ _ _ pr5) ?_
                        have bl6 := bel_set bl5 (bl3.size) (.int .i64 dh) (.int .u64 dl)
                        have pr6 := pr5.set dh dl
                        simp only [Act.put]
                        refine wpAny_done (by kernel_rfl) ?_ _
                        go_wp2
                        go_meet
                        exact ⟨_, rfl, pr6, hBr.trans (bl6.mono hBr.size)⟩
                · skip
                  refine opw_new (some 13) (by unfold opWants; kernel_rfl) ?_
                  have bl3 := bel_new bl1 (.cells #[.int .i64 0, .int .u64 0] 37)
                  have pr3 := Pair.new (v1) (.int .i64 0) (.int .u64 0) 37
                  simp only [Act.put, List.setIfInBounds_toArray, List.set_cons_zero, List.set_cons_succ]
                  refine any1 8 (by kernel_rfl) ?_
                  · skip
                    refine op_call (.call { callee := .value (.func 14), args := #[.tmp 61, .tmp 65], argTypes := #[2, 2] }) (some 66) (by unfold opIs; kernel_rfl) 14 #[.int .i64 a, .int .i64 y] (fun o ho => by unfold execOp; rw [ho]; kernel_rfl) (cM2.out _) ?_
                    rintro e v4 ⟨rfl, hb4⟩
                    refine ⟨_, rfl, ?_⟩
                    have bl4 := bel_call bl3 hb4
                    have pr4 := pr3.stay hb4
                    simp only [Act.put, List.setIfInBounds_toArray, List.set_cons_zero, List.set_cons_succ]
                    refine any1 9 (by kernel_rfl) ?_
                    · skip
                      refine op_call (.call { callee := .value (.func 13), args := #[.tmp 60, .tmp 66], argTypes := #[37, 37] }) (some 67) (by unfold opIs; kernel_rfl) 13 #[.agg #[.int .i64 ph, .int .u64 pl], .agg #[.int .i64 rh, .int .u64 rl]] (fun o ho => by unfold execOp; rw [ho]; kernel_rfl) (cS.out _) ?_
                      rintro e v5 ⟨rfl, hb5⟩
                      refine ⟨_, rfl, ?_⟩
                      have bl5 := bel_call bl4 hb5
                      have pr5 := pr4.stay hb5
                      simp only [Act.put, List.setIfInBounds_toArray, List.set_cons_zero, List.set_cons_succ]
                      refine any1 11 (by kernel_rfl) ?_
                      · skip
                        refine op_store 37 (.tmp 13) (.tmp 67) none (by unfold opIs; kernel_rfl) (.pointer (some ⟨(v1).heap.size, 0, none⟩)) (.agg #[.int .i64 dh, .int .u64 dl]) (by kernel_rfl) (by kernel_rfl) (store_pair _ _ _ _ _ _ pr5) ?_
                        have bl6 := bel_set bl5 (bl1.size) (.int .i64 dh) (.int .u64 dl)
                        have pr6 := pr5.set dh dl
                        simp only [Act.put]
                        refine wpAny_done (by kernel_rfl) ?_ _
                        go_wp2
                        go_meet
                        exact ⟨_, rfl, pr6, hBr.trans (bl6.mono hBr.size)⟩
              · skip
                refine opw_new (some 13) (by unfold opWants; kernel_rfl) ?_
                have bl2 := bel_new bl1 (.cells #[.int .i64 0, .int .u64 0] 37)
                have pr2 := Pair.new (v1) (.int .i64 0) (.int .u64 0) 37
                simp only [Act.put, List.setIfInBounds_toArray, List.set_cons_zero, List.set_cons_succ]
                refine any1 7 (by kernel_rfl) ?_
                · skip
                  refine op_load 2 (.tmp 64) (some 65) (by unfold opIs; kernel_rfl) (.pointer (some ⟨q2, o2 + j, none⟩)) (.int .i64 y) (by kernel_rfl) (load_one _ _ _ _ ((bl2.cell (p := ⟨q2, o2 + j, none⟩) x2').trans hdj)) ?_
                  simp only [Act.put, List.setIfInBounds_toArray, List.set_cons_zero, List.set_cons_succ]
                  refine any1 8 (by kernel_rfl) ?_
                  · skip
                    refine op_call (.call { callee := .value (.func 14), args := #[.tmp 61, .tmp 65], argTypes := #[2, 2] }) (some 66) (by unfold opIs; kernel_rfl) 14 #[.int .i64 a, .int .i64 y] (fun o ho => by unfold execOp; rw [ho]; kernel_rfl) (cM2.out _) ?_
                    rintro e v4 ⟨rfl, hb4⟩
                    refine ⟨_, rfl, ?_⟩
                    have bl4 := bel_call bl2 hb4
                    have pr4 := pr2.stay hb4
                    simp only [Act.put, List.setIfInBounds_toArray, List.set_cons_zero, List.set_cons_succ]
                    refine any1 9 (by kernel_rfl) ?_
                    · skip
                      refine op_call (.call { callee := .value (.func 13), args := #[.tmp 60, .tmp 66], argTypes := #[37, 37] }) (some 67) (by unfold opIs; kernel_rfl) 13 #[.agg #[.int .i64 ph, .int .u64 pl], .agg #[.int .i64 rh, .int .u64 rl]] (fun o ho => by unfold execOp; rw [ho]; kernel_rfl) (cS.out _) ?_
                      rintro e v5 ⟨rfl, hb5⟩
                      refine ⟨_, rfl, ?_⟩
                      have bl5 := bel_call bl4 hb5
                      have pr5 := pr4.stay hb5
                      simp only [Act.put, List.setIfInBounds_toArray, List.set_cons_zero, List.set_cons_succ]
                      refine any1 11 (by kernel_rfl) ?_
                      · skip
                        refine op_store 37 (.tmp 13) (.tmp 67) none (by unfold opIs; kernel_rfl) (.pointer (some ⟨(v1).heap.size, 0, none⟩)) (.agg #[.int .i64 dh, .int .u64 dl]) (by kernel_rfl) (by kernel_rfl) (store_pair _ _ _ _ _ _ pr5) ?_
                        have bl6 := bel_set bl5 (bl1.size) (.int .i64 dh) (.int .u64 dl)
                        have pr6 := pr5.set dh dl
                        simp only [Act.put]
                        refine wpAny_done (by kernel_rfl) ?_ _
                        go_wp2
                        go_meet
                        exact ⟨_, rfl, pr6, hBr.trans (bl6.mono hBr.size)⟩
            · skip
              refine op_load 2 (.tmp 64) (some 65) (by unfold opIs; kernel_rfl) (.pointer (some ⟨q2, o2 + j, none⟩)) (.int .i64 y) (by kernel_rfl) (load_one _ _ _ _ ((bl0.cell (p := ⟨q2, o2 + j, none⟩) x2').trans hdj)) ?_
              simp only [Act.put, List.setIfInBounds_toArray, List.set_cons_zero, List.set_cons_succ]
              refine any2 2 10 (by kernel_rfl) ?_ ?_
              · skip
                refine op_call (.call { callee := .value (.func 14), args := #[.tmp 58, .tmp 59], argTypes := #[2, 2] }) (some 60) (by unfold opIs; kernel_rfl) 14 #[.int .i64 x, .int .i64 (T : Int)] (fun o ho => by unfold execOp; rw [ho]; kernel_rfl) (cM1.out _) ?_
                rintro e v2 ⟨rfl, hb2⟩
                refine ⟨_, rfl, ?_⟩
                have bl2 := bel_call bl0 hb2
                simp only [Act.put, List.setIfInBounds_toArray, List.set_cons_zero, List.set_cons_succ]
                refine any2 8 10 (by kernel_rfl) ?_ ?_
                · skip
                  refine op_call (.call { callee := .value (.func 14), args := #[.tmp 61, .tmp 65], argTypes := #[2, 2] }) (some 66) (by unfold opIs; kernel_rfl) 14 #[.int .i64 a, .int .i64 y] (fun o ho => by unfold execOp; rw [ho]; kernel_rfl) (cM2.out _) ?_
                  rintro e v3 ⟨rfl, hb3⟩
                  refine ⟨_, rfl, ?_⟩
                  have bl3 := bel_call bl2 hb3
                  simp only [Act.put, List.setIfInBounds_toArray, List.set_cons_zero, List.set_cons_succ]
                  refine any2 9 10 (by kernel_rfl) ?_ ?_
                  · skip
                    refine op_call (.call { callee := .value (.func 13), args := #[.tmp 60, .tmp 66], argTypes := #[37, 37] }) (some 67) (by unfold opIs; kernel_rfl) 13 #[.agg #[.int .i64 ph, .int .u64 pl], .agg #[.int .i64 rh, .int .u64 rl]] (fun o ho => by unfold execOp; rw [ho]; kernel_rfl) (cS.out _) ?_
                    rintro e v4 ⟨rfl, hb4⟩
                    refine ⟨_, rfl, ?_⟩
                    have bl4 := bel_call bl3 hb4
                    simp only [Act.put, List.setIfInBounds_toArray, List.set_cons_zero, List.set_cons_succ]
                    refine any1 10 (by kernel_rfl) ?_
                    · skip
                      refine opw_new (some 13) (by unfold opWants; kernel_rfl) ?_
                      have bl5 := bel_new bl4 (.cells #[.int .i64 0, .int .u64 0] 37)
                      have pr5 := Pair.new (v4) (.int .i64 0) (.int .u64 0) 37
                      simp only [Act.put, List.setIfInBounds_toArray, List.set_cons_zero, List.set_cons_succ]
                      refine any1 11 (by kernel_rfl) ?_
                      · skip
                        refine op_store 37 (.tmp 13) (.tmp 67) none (by unfold opIs; kernel_rfl) (.pointer (some ⟨(v4).heap.size, 0, none⟩)) (.agg #[.int .i64 dh, .int .u64 dl]) (by kernel_rfl) (by kernel_rfl) (store_pair _ _ _ _ _ _ pr5) ?_
                        have bl6 := bel_set bl5 (bl4.size) (.int .i64 dh) (.int .u64 dl)
                        have pr6 := pr5.set dh dl
                        simp only [Act.put]
                        refine wpAny_done (by kernel_rfl) ?_ _
                        go_wp2
                        go_meet
                        exact ⟨_, rfl, pr6, hBr.trans (bl6.mono hBr.size)⟩
                  · skip
                    refine opw_new (some 13) (by unfold opWants; kernel_rfl) ?_
                    have bl4 := bel_new bl3 (.cells #[.int .i64 0, .int .u64 0] 37)
                    have pr4 := Pair.new (v3) (.int .i64 0) (.int .u64 0) 37
                    simp only [Act.put, List.setIfInBounds_toArray, List.set_cons_zero, List.set_cons_succ]
                    refine any1 9 (by kernel_rfl) ?_
                    · skip
                      refine op_call (.call { callee := .value (.func 13), args := #[.tmp 60, .tmp 66], argTypes := #[37, 37] }) (some 67) (by unfold opIs; kernel_rfl) 13 #[.agg #[.int .i64 ph, .int .u64 pl], .agg #[.int .i64 rh, .int .u64 rl]] (fun o ho => by unfold execOp; rw [ho]; kernel_rfl) (cS.out _) ?_
                      rintro e v5 ⟨rfl, hb5⟩
                      refine ⟨_, rfl, ?_⟩
                      have bl5 := bel_call bl4 hb5
                      have pr5 := pr4.stay hb5
                      simp only [Act.put, List.setIfInBounds_toArray, List.set_cons_zero, List.set_cons_succ]
                      refine any1 11 (by kernel_rfl) ?_
                      · skip
                        refine op_store 37 (.tmp 13) (.tmp 67) none (by unfold opIs; kernel_rfl) (.pointer (some ⟨(v3).heap.size, 0, none⟩)) (.agg #[.int .i64 dh, .int .u64 dl]) (by kernel_rfl) (by kernel_rfl) (store_pair _ _ _ _ _ _ pr5) ?_
                        have bl6 := bel_set bl5 (bl3.size) (.int .i64 dh) (.int .u64 dl)
                        have pr6 := pr5.set dh dl
                        simp only [Act.put]
                        refine wpAny_done (by kernel_rfl) ?_ _
                        go_wp2
                        go_meet
                        exact ⟨_, rfl, pr6, hBr.trans (bl6.mono hBr.size)⟩
                · skip
                  refine opw_new (some 13) (by unfold opWants; kernel_rfl) ?_
                  have bl3 := bel_new bl2 (.cells #[.int .i64 0, .int .u64 0] 37)
                  have pr3 := Pair.new (v2) (.int .i64 0) (.int .u64 0) 37
                  simp only [Act.put, List.setIfInBounds_toArray, List.set_cons_zero, List.set_cons_succ]
                  refine any1 8 (by kernel_rfl) ?_
                  · skip
                    refine op_call (.call { callee := .value (.func 14), args := #[.tmp 61, .tmp 65], argTypes := #[2, 2] }) (some 66) (by unfold opIs; kernel_rfl) 14 #[.int .i64 a, .int .i64 y] (fun o ho => by unfold execOp; rw [ho]; kernel_rfl) (cM2.out _) ?_
                    rintro e v4 ⟨rfl, hb4⟩
                    refine ⟨_, rfl, ?_⟩
                    have bl4 := bel_call bl3 hb4
                    have pr4 := pr3.stay hb4
                    simp only [Act.put, List.setIfInBounds_toArray, List.set_cons_zero, List.set_cons_succ]
                    refine any1 9 (by kernel_rfl) ?_
                    · skip
                      refine op_call (.call { callee := .value (.func 13), args := #[.tmp 60, .tmp 66], argTypes := #[37, 37] }) (some 67) (by unfold opIs; kernel_rfl) 13 #[.agg #[.int .i64 ph, .int .u64 pl], .agg #[.int .i64 rh, .int .u64 rl]] (fun o ho => by unfold execOp; rw [ho]; kernel_rfl) (cS.out _) ?_
                      rintro e v5 ⟨rfl, hb5⟩
                      refine ⟨_, rfl, ?_⟩
                      have bl5 := bel_call bl4 hb5
                      have pr5 := pr4.stay hb5
                      simp only [Act.put, List.setIfInBounds_toArray, List.set_cons_zero, List.set_cons_succ]
                      refine any1 11 (by kernel_rfl) ?_
                      · skip
                        refine op_store 37 (.tmp 13) (.tmp 67) none (by unfold opIs; kernel_rfl) (.pointer (some ⟨(v2).heap.size, 0, none⟩)) (.agg #[.int .i64 dh, .int .u64 dl]) (by kernel_rfl) (by kernel_rfl) (store_pair _ _ _ _ _ _ pr5) ?_
                        have bl6 := bel_set bl5 (bl2.size) (.int .i64 dh) (.int .u64 dl)
                        have pr6 := pr5.set dh dl
                        simp only [Act.put]
                        refine wpAny_done (by kernel_rfl) ?_ _
                        go_wp2
                        go_meet
                        exact ⟨_, rfl, pr6, hBr.trans (bl6.mono hBr.size)⟩
              · skip
                refine opw_new (some 13) (by unfold opWants; kernel_rfl) ?_
                have bl2 := bel_new bl0 (.cells #[.int .i64 0, .int .u64 0] 37)
                have pr2 := Pair.new (wr.drew) (.int .i64 0) (.int .u64 0) 37
                simp only [Act.put, List.setIfInBounds_toArray, List.set_cons_zero, List.set_cons_succ]
                refine any1 2 (by kernel_rfl) ?_
                · skip
                  refine op_call (.call { callee := .value (.func 14), args := #[.tmp 58, .tmp 59], argTypes := #[2, 2] }) (some 60) (by unfold opIs; kernel_rfl) 14 #[.int .i64 x, .int .i64 (T : Int)] (fun o ho => by unfold execOp; rw [ho]; kernel_rfl) (cM1.out _) ?_
                  rintro e v3 ⟨rfl, hb3⟩
                  refine ⟨_, rfl, ?_⟩
                  have bl3 := bel_call bl2 hb3
                  have pr3 := pr2.stay hb3
                  simp only [Act.put, List.setIfInBounds_toArray, List.set_cons_zero, List.set_cons_succ]
                  refine any1 8 (by kernel_rfl) ?_
                  · skip
                    refine op_call (.call { callee := .value (.func 14), args := #[.tmp 61, .tmp 65], argTypes := #[2, 2] }) (some 66) (by unfold opIs; kernel_rfl) 14 #[.int .i64 a, .int .i64 y] (fun o ho => by unfold execOp; rw [ho]; kernel_rfl) (cM2.out _) ?_
                    rintro e v4 ⟨rfl, hb4⟩
                    refine ⟨_, rfl, ?_⟩
                    have bl4 := bel_call bl3 hb4
                    have pr4 := pr3.stay hb4
                    simp only [Act.put, List.setIfInBounds_toArray, List.set_cons_zero, List.set_cons_succ]
                    refine any1 9 (by kernel_rfl) ?_
                    · skip
                      refine op_call (.call { callee := .value (.func 13), args := #[.tmp 60, .tmp 66], argTypes := #[37, 37] }) (some 67) (by unfold opIs; kernel_rfl) 13 #[.agg #[.int .i64 ph, .int .u64 pl], .agg #[.int .i64 rh, .int .u64 rl]] (fun o ho => by unfold execOp; rw [ho]; kernel_rfl) (cS.out _) ?_
                      rintro e v5 ⟨rfl, hb5⟩
                      refine ⟨_, rfl, ?_⟩
                      have bl5 := bel_call bl4 hb5
                      have pr5 := pr4.stay hb5
                      simp only [Act.put, List.setIfInBounds_toArray, List.set_cons_zero, List.set_cons_succ]
                      refine any1 11 (by kernel_rfl) ?_
                      · skip
                        refine op_store 37 (.tmp 13) (.tmp 67) none (by unfold opIs; kernel_rfl) (.pointer (some ⟨(wr.drew).heap.size, 0, none⟩)) (.agg #[.int .i64 dh, .int .u64 dl]) (by kernel_rfl) (by kernel_rfl) (store_pair _ _ _ _ _ _ pr5) ?_
                        have bl6 := bel_set bl5 (Nat.le_refl _) (.int .i64 dh) (.int .u64 dl)
                        have pr6 := pr5.set dh dl
                        simp only [Act.put]
                        refine wpAny_done (by kernel_rfl) ?_ _
                        go_wp2
                        go_meet
                        exact ⟨_, rfl, pr6, hBr.trans (bl6.mono hBr.size)⟩
            · skip
              refine opw_new (some 13) (by unfold opWants; kernel_rfl) ?_
              have bl1 := bel_new bl0 (.cells #[.int .i64 0, .int .u64 0] 37)
              have pr1 := Pair.new (wr.drew) (.int .i64 0) (.int .u64 0) 37
              simp only [Act.put, List.setIfInBounds_toArray, List.set_cons_zero, List.set_cons_succ]
              refine any2 2 7 (by kernel_rfl) ?_ ?_
              · skip
                refine op_call (.call { callee := .value (.func 14), args := #[.tmp 58, .tmp 59], argTypes := #[2, 2] }) (some 60) (by unfold opIs; kernel_rfl) 14 #[.int .i64 x, .int .i64 (T : Int)] (fun o ho => by unfold execOp; rw [ho]; kernel_rfl) (cM1.out _) ?_
                rintro e v2 ⟨rfl, hb2⟩
                refine ⟨_, rfl, ?_⟩
                have bl2 := bel_call bl1 hb2
                have pr2 := pr1.stay hb2
                simp only [Act.put, List.setIfInBounds_toArray, List.set_cons_zero, List.set_cons_succ]
                refine any1 7 (by kernel_rfl) ?_
                · skip
                  refine op_load 2 (.tmp 64) (some 65) (by unfold opIs; kernel_rfl) (.pointer (some ⟨q2, o2 + j, none⟩)) (.int .i64 y) (by kernel_rfl) (load_one _ _ _ _ ((bl2.cell (p := ⟨q2, o2 + j, none⟩) x2').trans hdj)) ?_
                  simp only [Act.put, List.setIfInBounds_toArray, List.set_cons_zero, List.set_cons_succ]
                  refine any1 8 (by kernel_rfl) ?_
                  · skip
                    refine op_call (.call { callee := .value (.func 14), args := #[.tmp 61, .tmp 65], argTypes := #[2, 2] }) (some 66) (by unfold opIs; kernel_rfl) 14 #[.int .i64 a, .int .i64 y] (fun o ho => by unfold execOp; rw [ho]; kernel_rfl) (cM2.out _) ?_
                    rintro e v4 ⟨rfl, hb4⟩
                    refine ⟨_, rfl, ?_⟩
                    have bl4 := bel_call bl2 hb4
                    have pr4 := pr2.stay hb4
                    simp only [Act.put, List.setIfInBounds_toArray, List.set_cons_zero, List.set_cons_succ]
                    refine any1 9 (by kernel_rfl) ?_
                    · skip
                      refine op_call (.call { callee := .value (.func 13), args := #[.tmp 60, .tmp 66], argTypes := #[37, 37] }) (some 67) (by unfold opIs; kernel_rfl) 13 #[.agg #[.int .i64 ph, .int .u64 pl], .agg #[.int .i64 rh, .int .u64 rl]] (fun o ho => by unfold execOp; rw [ho]; kernel_rfl) (cS.out _) ?_
                      rintro e v5 ⟨rfl, hb5⟩
                      refine ⟨_, rfl, ?_⟩
                      have bl5 := bel_call bl4 hb5
                      have pr5 := pr4.stay hb5
                      simp only [Act.put, List.setIfInBounds_toArray, List.set_cons_zero, List.set_cons_succ]
                      refine any1 11 (by kernel_rfl) ?_
                      · skip
                        refine op_store 37 (.tmp 13) (.tmp 67) none (by unfold opIs; kernel_rfl) (.pointer (some ⟨(wr.drew).heap.size, 0, none⟩)) (.agg #[.int .i64 dh, .int .u64 dl]) (by kernel_rfl) (by kernel_rfl) (store_pair _ _ _ _ _ _ pr5) ?_
                        have bl6 := bel_set bl5 (Nat.le_refl _) (.int .i64 dh) (.int .u64 dl)
                        have pr6 := pr5.set dh dl
                        simp only [Act.put]
                        refine wpAny_done (by kernel_rfl) ?_ _
                        go_wp2
                        go_meet
                        exact ⟨_, rfl, pr6, hBr.trans (bl6.mono hBr.size)⟩
              · skip
                refine op_load 2 (.tmp 64) (some 65) (by unfold opIs; kernel_rfl) (.pointer (some ⟨q2, o2 + j, none⟩)) (.int .i64 y) (by kernel_rfl) (load_one _ _ _ _ ((bl1.cell (p := ⟨q2, o2 + j, none⟩) x2').trans hdj)) ?_
                simp only [Act.put, List.setIfInBounds_toArray, List.set_cons_zero, List.set_cons_succ]
                refine any1 2 (by kernel_rfl) ?_
                · skip
                  refine op_call (.call { callee := .value (.func 14), args := #[.tmp 58, .tmp 59], argTypes := #[2, 2] }) (some 60) (by unfold opIs; kernel_rfl) 14 #[.int .i64 x, .int .i64 (T : Int)] (fun o ho => by unfold execOp; rw [ho]; kernel_rfl) (cM1.out _) ?_
                  rintro e v3 ⟨rfl, hb3⟩
                  refine ⟨_, rfl, ?_⟩
                  have bl3 := bel_call bl1 hb3
                  have pr3 := pr1.stay hb3
                  simp only [Act.put, List.setIfInBounds_toArray, List.set_cons_zero, List.set_cons_succ]
                  refine any1 8 (by kernel_rfl) ?_
                  · skip
                    refine op_call (.call { callee := .value (.func 14), args := #[.tmp 61, .tmp 65], argTypes := #[2, 2] }) (some 66) (by unfold opIs; kernel_rfl) 14 #[.int .i64 a, .int .i64 y] (fun o ho => by unfold execOp; rw [ho]; kernel_rfl) (cM2.out _) ?_
                    rintro e v4 ⟨rfl, hb4⟩
                    refine ⟨_, rfl, ?_⟩
                    have bl4 := bel_call bl3 hb4
                    have pr4 := pr3.stay hb4
                    simp only [Act.put, List.setIfInBounds_toArray, List.set_cons_zero, List.set_cons_succ]
                    refine any1 9 (by kernel_rfl) ?_
                    · skip
                      refine op_call (.call { callee := .value (.func 13), args := #[.tmp 60, .tmp 66], argTypes := #[37, 37] }) (some 67) (by unfold opIs; kernel_rfl) 13 #[.agg #[.int .i64 ph, .int .u64 pl], .agg #[.int .i64 rh, .int .u64 rl]] (fun o ho => by unfold execOp; rw [ho]; kernel_rfl) (cS.out _) ?_
                      rintro e v5 ⟨rfl, hb5⟩
                      refine ⟨_, rfl, ?_⟩
                      have bl5 := bel_call bl4 hb5
                      have pr5 := pr4.stay hb5
                      simp only [Act.put, List.setIfInBounds_toArray, List.set_cons_zero, List.set_cons_succ]
                      refine any1 11 (by kernel_rfl) ?_
                      · skip
                        refine op_store 37 (.tmp 13) (.tmp 67) none (by unfold opIs; kernel_rfl) (.pointer (some ⟨(wr.drew).heap.size, 0, none⟩)) (.agg #[.int .i64 dh, .int .u64 dl]) (by kernel_rfl) (by kernel_rfl) (store_pair _ _ _ _ _ _ pr5) ?_
                        have bl6 := bel_set bl5 (Nat.le_refl _) (.int .i64 dh) (.int .u64 dl)
                        have pr6 := pr5.set dh dl
                        simp only [Act.put]
                        refine wpAny_done (by kernel_rfl) ?_ _
                        go_wp2
                        go_meet
                        exact ⟨_, rfl, pr6, hBr.trans (bl6.mono hBr.size)⟩
          case rest =>
            obtain ⟨Q, rfl, hp, hBq⟩ := hcut
            rename World => wq
            have hp0 := hp.drew
            have bl0 : Below wq.heap.size wq wq.drew := (Below.refl _ _).drew
            go_wp2_with fail
            refine wp_region_any (by kernel_rfl) ?_
            change wpAny _ _ _ _ _ _ _ (World.drew _)
            refine take_op (i := 1) (.move (.tmp 8)) (some 69) (.int .i64 (T : Int)) (by unfold opWants; kernel_rfl) (by kernel_rfl) (by kernel_rfl) (by kernel_rfl) (fun _ _ _ h => h) (fun o ho w' => ?_) ?_
            · unfold execOp; simp only [ho]; go_simp
            simp only [Act.put, List.setIfInBounds_toArray, List.set_cons_zero, List.set_cons_succ]
            refine any2 0 2 (by kernel_rfl) ?_ ?_
            · skip
              refine opw_load 37 (.tmp 13) (some 68) (by unfold opWants; kernel_rfl) (.pointer (some ⟨Q, 0, none⟩)) (.agg #[.int .i64 dh, .int .u64 dl]) (by kernel_rfl) (load_pair _ _ _ _ hp0) ?_
              simp only [Act.put, List.setIfInBounds_toArray, List.set_cons_zero, List.set_cons_succ]
              refine any1 2 (by kernel_rfl) ?_
              · skip
                refine opw_call (.call { callee := .value (.func 16), args := #[.tmp 69], argTypes := #[2] }) (some 70) (by unfold opWants; kernel_rfl) 16 #[.int .i64 (T : Int)] (fun o ho => by unfold execOp; rw [ho]; kernel_rfl) (cO1.out _) ?_
                rintro e v2 ⟨rfl, hb2⟩
                refine ⟨_, rfl, ?_⟩
                have bl2 := bel_call bl0 hb2
                have pr2 := hp0.stay hb2
                simp only [Act.put, List.setIfInBounds_toArray, List.set_cons_zero, List.set_cons_succ]
                refine any1 3 (by kernel_rfl) ?_
                · skip
                  refine opw_call (.call { callee := .value (.func 15), args := #[.tmp 68, .tmp 70], argTypes := #[37, 37] }) (some 71) (by unfold opWants; kernel_rfl) 15 #[.agg #[.int .i64 dh, .int .u64 dl], .agg #[.int .i64 th, .int .u64 tl]] (fun o ho => by unfold execOp; rw [ho]; kernel_rfl) (cC1.out _) ?_
                  rintro e v3 ⟨rfl, hb3⟩
                  refine ⟨_, rfl, ?_⟩
                  have bl3 := bel_call bl2 hb3
                  have pr3 := pr2.stay hb3
                  simp only [Act.put, List.setIfInBounds_toArray, List.set_cons_zero, List.set_cons_succ]
                  refine take_op (i := 4) (.binOp .geq 3 (.tmp 71) (.const (.int .i64 0)) 3) (some 72) (.bool false) (by unfold opWants; kernel_rfl) (by kernel_rfl) (by kernel_rfl) (by kernel_rfl) (fun _ _ _ h => h) (fun o ho w' => ?_) ?_
                  · unfold execOp; simp only [ho]; go_simp
                  simp only [Act.put, List.setIfInBounds_toArray, List.set_cons_zero, List.set_cons_succ]
                  refine take_op (i := 5) (.move (.tmp 72)) (some 73) (.bool false) (by unfold opWants; kernel_rfl) (by kernel_rfl) (by kernel_rfl) (by kernel_rfl) (fun _ _ _ h => h) (fun o ho w' => ?_) ?_
                  · unfold execOp; simp only [ho]; go_simp
                  simp only [Act.put, List.setIfInBounds_toArray, List.set_cons_zero, List.set_cons_succ]
                  refine take_op (i := 7) (.move (.tmp 8)) (some 75) (.int .i64 (T : Int)) (by unfold opWants; kernel_rfl) (by kernel_rfl) (by kernel_rfl) (by kernel_rfl) (fun _ _ _ h => h) (fun o ho w' => ?_) ?_
                  · unfold execOp; simp only [ho]; go_simp
                  simp only [Act.put, List.setIfInBounds_toArray, List.set_cons_zero, List.set_cons_succ]
                  refine take_op (i := 8) (.unOp .neg 2 (.tmp 75)) (some 76) (.int .i64 (-(T : Int))) (by unfold opWants; kernel_rfl) (by kernel_rfl) (by kernel_rfl) (by kernel_rfl) (fun _ _ _ h => h) (fun o ho w' => ?_) ?_
                  · unfold execOp; simp only [ho]; (go_simp; rw [IntKind.wrap_i64]; omega)
                  simp only [Act.put, List.setIfInBounds_toArray, List.set_cons_zero, List.set_cons_succ]
                  refine any2 6 9 (by kernel_rfl) ?_ ?_
                  · skip
                    refine opw_load 37 (.tmp 13) (some 74) (by unfold opWants; kernel_rfl) (.pointer (some ⟨Q, 0, none⟩)) (.agg #[.int .i64 dh, .int .u64 dl]) (by kernel_rfl) (load_pair _ _ _ _ pr3) ?_
                    simp only [Act.put, List.setIfInBounds_toArray, List.set_cons_zero, List.set_cons_succ]
                    refine any1 9 (by kernel_rfl) ?_
                    · skip
                      refine opw_call (.call { callee := .value (.func 16), args := #[.tmp 76], argTypes := #[2] }) (some 77) (by unfold opWants; kernel_rfl) 16 #[.int .i64 (-(T : Int))] (fun o ho => by unfold execOp; rw [ho]; kernel_rfl) (cO2.out _) ?_
                      rintro e v5 ⟨rfl, hb5⟩
                      refine ⟨_, rfl, ?_⟩
                      have bl5 := bel_call bl3 hb5
                      have pr5 := pr3.stay hb5
                      simp only [Act.put, List.setIfInBounds_toArray, List.set_cons_zero, List.set_cons_succ]
                      refine any1 10 (by kernel_rfl) ?_
                      · skip
                        refine opw_call (.call { callee := .value (.func 15), args := #[.tmp 74, .tmp 77], argTypes := #[37, 37] }) (some 78) (by unfold opWants; kernel_rfl) 15 #[.agg #[.int .i64 dh, .int .u64 dl], .agg #[.int .i64 nh, .int .u64 nl]] (fun o ho => by unfold execOp; rw [ho]; kernel_rfl) (cC2.out _) ?_
                        rintro e v6 ⟨rfl, hb6⟩
                        refine ⟨_, rfl, ?_⟩
                        have bl6 := bel_call bl5 hb6
                        have pr6 := pr5.stay hb6
                        simp only [Act.put, List.setIfInBounds_toArray, List.set_cons_zero, List.set_cons_succ]
                        refine take_op (i := 11) (.binOp .leq 3 (.tmp 78) (.const (.int .i64 0)) 3) (some 79) (.bool false) (by unfold opWants; kernel_rfl) (by kernel_rfl) (by kernel_rfl) (by kernel_rfl) (fun _ _ _ h => h) (fun o ho w' => ?_) ?_
                        · unfold execOp; simp only [ho]; go_simp
                        simp only [Act.put, List.setIfInBounds_toArray, List.set_cons_zero, List.set_cons_succ]
                        refine take_op (i := 12) (.pick (.tmp 73) (.const (.bool true)) (.tmp 79)) (some 80) (.bool false) (by unfold opWants; kernel_rfl) (by kernel_rfl) (by kernel_rfl) (by kernel_rfl) (fun _ _ _ h => h) (fun o ho w' => ?_) ?_
                        · unfold execOp; simp only [ho]; go_simp
                        simp only [Act.put, List.setIfInBounds_toArray, List.set_cons_zero, List.set_cons_succ]
                        refine wpAny_done (by kernel_rfl) ?_ _
                        go_wp2
                        go_roundw
                        case rel => exact ⟨j + 1, by omega, by go_num, hBq.trans (bl6.mono hBq.size)⟩
                        case measure => simp [RowKit.intOf]; omega
                  · skip
                    refine opw_call (.call { callee := .value (.func 16), args := #[.tmp 76], argTypes := #[2] }) (some 77) (by unfold opWants; kernel_rfl) 16 #[.int .i64 (-(T : Int))] (fun o ho => by unfold execOp; rw [ho]; kernel_rfl) (cO2.out _) ?_
                    rintro e v4 ⟨rfl, hb4⟩
                    refine ⟨_, rfl, ?_⟩
                    have bl4 := bel_call bl3 hb4
                    have pr4 := pr3.stay hb4
                    simp only [Act.put, List.setIfInBounds_toArray, List.set_cons_zero, List.set_cons_succ]
                    refine any1 6 (by kernel_rfl) ?_
                    · skip
                      refine opw_load 37 (.tmp 13) (some 74) (by unfold opWants; kernel_rfl) (.pointer (some ⟨Q, 0, none⟩)) (.agg #[.int .i64 dh, .int .u64 dl]) (by kernel_rfl) (load_pair _ _ _ _ pr4) ?_
                      simp only [Act.put, List.setIfInBounds_toArray, List.set_cons_zero, List.set_cons_succ]
                      refine any1 10 (by kernel_rfl) ?_
                      · skip
                        refine opw_call (.call { callee := .value (.func 15), args := #[.tmp 74, .tmp 77], argTypes := #[37, 37] }) (some 78) (by unfold opWants; kernel_rfl) 15 #[.agg #[.int .i64 dh, .int .u64 dl], .agg #[.int .i64 nh, .int .u64 nl]] (fun o ho => by unfold execOp; rw [ho]; kernel_rfl) (cC2.out _) ?_
                        rintro e v6 ⟨rfl, hb6⟩
                        refine ⟨_, rfl, ?_⟩
                        have bl6 := bel_call bl4 hb6
                        have pr6 := pr4.stay hb6
                        simp only [Act.put, List.setIfInBounds_toArray, List.set_cons_zero, List.set_cons_succ]
                        refine take_op (i := 11) (.binOp .leq 3 (.tmp 78) (.const (.int .i64 0)) 3) (some 79) (.bool false) (by unfold opWants; kernel_rfl) (by kernel_rfl) (by kernel_rfl) (by kernel_rfl) (fun _ _ _ h => h) (fun o ho w' => ?_) ?_
                        · unfold execOp; simp only [ho]; go_simp
                        simp only [Act.put, List.setIfInBounds_toArray, List.set_cons_zero, List.set_cons_succ]
                        refine take_op (i := 12) (.pick (.tmp 73) (.const (.bool true)) (.tmp 79)) (some 80) (.bool false) (by unfold opWants; kernel_rfl) (by kernel_rfl) (by kernel_rfl) (by kernel_rfl) (fun _ _ _ h => h) (fun o ho w' => ?_) ?_
                        · unfold execOp; simp only [ho]; go_simp
                        simp only [Act.put, List.setIfInBounds_toArray, List.set_cons_zero, List.set_cons_succ]
                        refine wpAny_done (by kernel_rfl) ?_ _
                        go_wp2
                        go_roundw
                        case rel => exact ⟨j + 1, by omega, by go_num, hBq.trans (bl6.mono hBq.size)⟩
                        case measure => simp [RowKit.intOf]; omega
            · skip
              refine opw_call (.call { callee := .value (.func 16), args := #[.tmp 69], argTypes := #[2] }) (some 70) (by unfold opWants; kernel_rfl) 16 #[.int .i64 (T : Int)] (fun o ho => by unfold execOp; rw [ho]; kernel_rfl) (cO1.out _) ?_
              rintro e v1 ⟨rfl, hb1⟩
              refine ⟨_, rfl, ?_⟩
              have bl1 := bel_call bl0 hb1
              have pr1 := hp0.stay hb1
              simp only [Act.put, List.setIfInBounds_toArray, List.set_cons_zero, List.set_cons_succ]
              refine any1 0 (by kernel_rfl) ?_
              · skip
                refine opw_load 37 (.tmp 13) (some 68) (by unfold opWants; kernel_rfl) (.pointer (some ⟨Q, 0, none⟩)) (.agg #[.int .i64 dh, .int .u64 dl]) (by kernel_rfl) (load_pair _ _ _ _ pr1) ?_
                simp only [Act.put, List.setIfInBounds_toArray, List.set_cons_zero, List.set_cons_succ]
                refine any1 3 (by kernel_rfl) ?_
                · skip
                  refine opw_call (.call { callee := .value (.func 15), args := #[.tmp 68, .tmp 70], argTypes := #[37, 37] }) (some 71) (by unfold opWants; kernel_rfl) 15 #[.agg #[.int .i64 dh, .int .u64 dl], .agg #[.int .i64 th, .int .u64 tl]] (fun o ho => by unfold execOp; rw [ho]; kernel_rfl) (cC1.out _) ?_
                  rintro e v3 ⟨rfl, hb3⟩
                  refine ⟨_, rfl, ?_⟩
                  have bl3 := bel_call bl1 hb3
                  have pr3 := pr1.stay hb3
                  simp only [Act.put, List.setIfInBounds_toArray, List.set_cons_zero, List.set_cons_succ]
                  refine take_op (i := 4) (.binOp .geq 3 (.tmp 71) (.const (.int .i64 0)) 3) (some 72) (.bool false) (by unfold opWants; kernel_rfl) (by kernel_rfl) (by kernel_rfl) (by kernel_rfl) (fun _ _ _ h => h) (fun o ho w' => ?_) ?_
                  · unfold execOp; simp only [ho]; go_simp
                  simp only [Act.put, List.setIfInBounds_toArray, List.set_cons_zero, List.set_cons_succ]
                  refine take_op (i := 5) (.move (.tmp 72)) (some 73) (.bool false) (by unfold opWants; kernel_rfl) (by kernel_rfl) (by kernel_rfl) (by kernel_rfl) (fun _ _ _ h => h) (fun o ho w' => ?_) ?_
                  · unfold execOp; simp only [ho]; go_simp
                  simp only [Act.put, List.setIfInBounds_toArray, List.set_cons_zero, List.set_cons_succ]
                  refine take_op (i := 7) (.move (.tmp 8)) (some 75) (.int .i64 (T : Int)) (by unfold opWants; kernel_rfl) (by kernel_rfl) (by kernel_rfl) (by kernel_rfl) (fun _ _ _ h => h) (fun o ho w' => ?_) ?_
                  · unfold execOp; simp only [ho]; go_simp
                  simp only [Act.put, List.setIfInBounds_toArray, List.set_cons_zero, List.set_cons_succ]
                  refine take_op (i := 8) (.unOp .neg 2 (.tmp 75)) (some 76) (.int .i64 (-(T : Int))) (by unfold opWants; kernel_rfl) (by kernel_rfl) (by kernel_rfl) (by kernel_rfl) (fun _ _ _ h => h) (fun o ho w' => ?_) ?_
                  · unfold execOp; simp only [ho]; (go_simp; rw [IntKind.wrap_i64]; omega)
                  simp only [Act.put, List.setIfInBounds_toArray, List.set_cons_zero, List.set_cons_succ]
                  refine any2 6 9 (by kernel_rfl) ?_ ?_
                  · skip
                    refine opw_load 37 (.tmp 13) (some 74) (by unfold opWants; kernel_rfl) (.pointer (some ⟨Q, 0, none⟩)) (.agg #[.int .i64 dh, .int .u64 dl]) (by kernel_rfl) (load_pair _ _ _ _ pr3) ?_
                    simp only [Act.put, List.setIfInBounds_toArray, List.set_cons_zero, List.set_cons_succ]
                    refine any1 9 (by kernel_rfl) ?_
                    · skip
                      refine opw_call (.call { callee := .value (.func 16), args := #[.tmp 76], argTypes := #[2] }) (some 77) (by unfold opWants; kernel_rfl) 16 #[.int .i64 (-(T : Int))] (fun o ho => by unfold execOp; rw [ho]; kernel_rfl) (cO2.out _) ?_
                      rintro e v5 ⟨rfl, hb5⟩
                      refine ⟨_, rfl, ?_⟩
                      have bl5 := bel_call bl3 hb5
                      have pr5 := pr3.stay hb5
                      simp only [Act.put, List.setIfInBounds_toArray, List.set_cons_zero, List.set_cons_succ]
                      refine any1 10 (by kernel_rfl) ?_
                      · skip
                        refine opw_call (.call { callee := .value (.func 15), args := #[.tmp 74, .tmp 77], argTypes := #[37, 37] }) (some 78) (by unfold opWants; kernel_rfl) 15 #[.agg #[.int .i64 dh, .int .u64 dl], .agg #[.int .i64 nh, .int .u64 nl]] (fun o ho => by unfold execOp; rw [ho]; kernel_rfl) (cC2.out _) ?_
                        rintro e v6 ⟨rfl, hb6⟩
                        refine ⟨_, rfl, ?_⟩
                        have bl6 := bel_call bl5 hb6
                        have pr6 := pr5.stay hb6
                        simp only [Act.put, List.setIfInBounds_toArray, List.set_cons_zero, List.set_cons_succ]
                        refine take_op (i := 11) (.binOp .leq 3 (.tmp 78) (.const (.int .i64 0)) 3) (some 79) (.bool false) (by unfold opWants; kernel_rfl) (by kernel_rfl) (by kernel_rfl) (by kernel_rfl) (fun _ _ _ h => h) (fun o ho w' => ?_) ?_
                        · unfold execOp; simp only [ho]; go_simp
                        simp only [Act.put, List.setIfInBounds_toArray, List.set_cons_zero, List.set_cons_succ]
                        refine take_op (i := 12) (.pick (.tmp 73) (.const (.bool true)) (.tmp 79)) (some 80) (.bool false) (by unfold opWants; kernel_rfl) (by kernel_rfl) (by kernel_rfl) (by kernel_rfl) (fun _ _ _ h => h) (fun o ho w' => ?_) ?_
                        · unfold execOp; simp only [ho]; go_simp
                        simp only [Act.put, List.setIfInBounds_toArray, List.set_cons_zero, List.set_cons_succ]
                        refine wpAny_done (by kernel_rfl) ?_ _
                        go_wp2
                        go_roundw
                        case rel => exact ⟨j + 1, by omega, by go_num, hBq.trans (bl6.mono hBq.size)⟩
                        case measure => simp [RowKit.intOf]; omega
                  · skip
                    refine opw_call (.call { callee := .value (.func 16), args := #[.tmp 76], argTypes := #[2] }) (some 77) (by unfold opWants; kernel_rfl) 16 #[.int .i64 (-(T : Int))] (fun o ho => by unfold execOp; rw [ho]; kernel_rfl) (cO2.out _) ?_
                    rintro e v4 ⟨rfl, hb4⟩
                    refine ⟨_, rfl, ?_⟩
                    have bl4 := bel_call bl3 hb4
                    have pr4 := pr3.stay hb4
                    simp only [Act.put, List.setIfInBounds_toArray, List.set_cons_zero, List.set_cons_succ]
                    refine any1 6 (by kernel_rfl) ?_
                    · skip
                      refine opw_load 37 (.tmp 13) (some 74) (by unfold opWants; kernel_rfl) (.pointer (some ⟨Q, 0, none⟩)) (.agg #[.int .i64 dh, .int .u64 dl]) (by kernel_rfl) (load_pair _ _ _ _ pr4) ?_
                      simp only [Act.put, List.setIfInBounds_toArray, List.set_cons_zero, List.set_cons_succ]
                      refine any1 10 (by kernel_rfl) ?_
                      · skip
                        refine opw_call (.call { callee := .value (.func 15), args := #[.tmp 74, .tmp 77], argTypes := #[37, 37] }) (some 78) (by unfold opWants; kernel_rfl) 15 #[.agg #[.int .i64 dh, .int .u64 dl], .agg #[.int .i64 nh, .int .u64 nl]] (fun o ho => by unfold execOp; rw [ho]; kernel_rfl) (cC2.out _) ?_
                        rintro e v6 ⟨rfl, hb6⟩
                        refine ⟨_, rfl, ?_⟩
                        have bl6 := bel_call bl4 hb6
                        have pr6 := pr4.stay hb6
                        simp only [Act.put, List.setIfInBounds_toArray, List.set_cons_zero, List.set_cons_succ]
                        refine take_op (i := 11) (.binOp .leq 3 (.tmp 78) (.const (.int .i64 0)) 3) (some 79) (.bool false) (by unfold opWants; kernel_rfl) (by kernel_rfl) (by kernel_rfl) (by kernel_rfl) (fun _ _ _ h => h) (fun o ho w' => ?_) ?_
                        · unfold execOp; simp only [ho]; go_simp
                        simp only [Act.put, List.setIfInBounds_toArray, List.set_cons_zero, List.set_cons_succ]
                        refine take_op (i := 12) (.pick (.tmp 73) (.const (.bool true)) (.tmp 79)) (some 80) (.bool false) (by unfold opWants; kernel_rfl) (by kernel_rfl) (by kernel_rfl) (by kernel_rfl) (fun _ _ _ h => h) (fun o ho w' => ?_) ?_
                        · unfold execOp; simp only [ho]; go_simp
                        simp only [Act.put, List.setIfInBounds_toArray, List.set_cons_zero, List.set_cons_succ]
                        refine wpAny_done (by kernel_rfl) ?_ _
                        go_wp2
                        go_roundw
                        case rel => exact ⟨j + 1, by omega, by go_num, hBq.trans (bl6.mono hBq.size)⟩
                        case measure => simp [RowKit.intOf]; omega
        · obtain rfl : j = zs.length := by omega
          go_wp2
          go_ret
          exact ⟨rfl, hB3.trans (hBr.mono hB3.size)⟩
theorem sharenear_out (r : Option Addr) (n cap : Nat) (a : Int) (w : World) (hn : n = 0 ∨ 8 < n) (C : AllotC) (htab : Pow w) (hw : 0 < w.heap.size) :
    Calls Tryd.prog 7 #[.int .i64 a, .slice r n cap] w fun e w' => e = .returned (.bool true) ∧ Below w.heap.size w w' := by
  have K := Lib.hid (fun w' => fun h1 h2 => awake3_any C w' h1 h2)
  rcases hn with rfl | hn
  · go_enter Tryd.func7, Tryd.ntmps7
    go_wp2_with (go_at_call 8; refine (K.out _ htab hw).mono ?_; rintro e w1 ⟨rfl, hb1⟩)
    go_ret
    exact ⟨rfl, hb1⟩
  · go_enter Tryd.func7, Tryd.ntmps7
    go_wp2_with (go_at_call 8; refine (K.out _ htab hw).mono ?_; rintro e w1 ⟨rfl, hb1⟩)
    go_ret
    exact ⟨rfl, hb1⟩
theorem sharenear_any (v : Value) (zs : List Int) (a : Int) (w : World) (C : AllotC) (htab : Pow w) (hw : 0 < w.heap.size) (ha : (Lit.int .i64 a).wf = true) (h : Nums .u32 w v zs) :
    Calls Tryd.prog 7 #[.int .i64 a, v] w fun e w' => e = .returned (.bool true) ∧ Below w.heap.size w w' := by
  rcases h with ⟨r, cap, rfl, rfl⟩ | ⟨b, off, cap, rfl, hb, hl, hc, hz⟩
  · exact sharenear_out r 0 cap a w (.inl rfl) C htab hw
  · by_cases h : zs.length = 0 ∨ 8 < zs.length
    · exact sharenear_out _ _ cap a w h C htab hw
    · exact sharenear_some b off cap zs a w C htab hw ha hb (by omega) (by omega) hz
end Go.Proofs.YtkeicflmbhokhaaDoor

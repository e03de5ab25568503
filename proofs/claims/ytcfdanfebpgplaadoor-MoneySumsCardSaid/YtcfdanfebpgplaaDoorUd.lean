/- The walk of law MoneySums. -/
import Derived.Test.YtcfdanfebpgplaaDoorTd
import Derived.Test.YtcfdanfebpgplaaDoorTf
import Derived.Test.YtcfdanfebpgplaaDoorYb
import Derived.Test.YtcfdanfebpgplaaDoorOa
import Derived.Test.YtcfdanfebpgplaaDoorUa
namespace Go.Proofs.YtcfdanfebpgplaaDoor
open Go.RowKit Go.Lib
set_option linter.unusedVariables false
set_option linter.unusedSimpArgs false
theorem load_arr (w : World) (b : Nat) (f : Nat → Int) (h : IsArr w b f) : (Instr.loadAt 24 (.pointer (some ⟨b, 0, none⟩))).run Tryd.prog w = .ok (.agg (arr f)) w := by
  simp only [Instr.loadAt, Instr.sureAddr, Sem.run_bind, Sem.run_pure, Result.andThen_ok, run_loadVar_row w b 24 24 (arr f) (0, 0) _ h Tryd.underlying24 rfl (infoArr f)]
theorem store_arr (w : World) (b : Nat) (f g : Nat → Int) (h : IsArr w b f) : (Instr.storeAt 24 (.pointer (some ⟨b, 0, none⟩)) (.agg (arr g))).run Tryd.prog w = .ok () (w.setRow b (arr g)) := by
  simp only [Instr.storeAt, Instr.sureAddr, Sem.run_bind, Sem.run_pure, Result.andThen_ok, run_storeVar_row w b 24 24 (arr f) (arr g) h (infoArr g) (by rw [arr_size, arr_size]) (arr_one g)]
theorem hi_of {n : Int} (h : (Lit.int .i64 n).wf = true) : n / 9223372036854775808 = hiW n := of_hi h
set_option maxHeartbeats 4000000 in
set_option maxRecDepth 100000 in
theorem moneysums_some (b off cap : Nat) (zs : List Int) (w : World) (htab : Pow w) (hw : 0 < w.heap.size) (hb : b < w.heap.size) (hl : zs.length ≤ 60) (hcap : zs.length ≤ cap)
    (hz : ∀ i, i < zs.length → w.cell? ⟨b, off + i, none⟩ = some (.int .i64 (zs.getD i 0)) ∧ (Lit.int .i64 (zs.getD i 0)).wf = true) :
    Calls Tryd.prog 3 #[.slice (some ⟨b, off, none⟩) zs.length cap] w fun e w' => e = .returned (.bool true) ∧ Below w.heap.size w w' := by
  have z1 := hi_zero
  have z2 := lo_zero
  have hza := zeroArr
  have cb := fun w' => bits_any 0 w'
  rw [z1, z2] at cb
  go_enter Tryd.func3, Tryd.ntmps3
  go_wp2_with (first
    | (go_at_call 9; refine (awake2_any _ htab hw).mono ?_; rintro e w1 ⟨rfl, hb1⟩)
    | (go_at_call 10; refine (cb _).mono ?_; rintro e w2 ⟨rfl, hb2⟩; have N0 := Lib.hid (IsArr.new w2 (fun _ => 0)))
    | refine wpList_store_row rfl 24 _ _ rfl w2.heap.size _ rfl rfl 24 _ N0.out (infoArr _) (by rw [arr_size, arr_size]) (arr_one _) ?_)
  have hs1 := hb1.size
  have hs2 := hb2.size
  go_loopw [19] (fun i wr => ∃ k : Nat, k ≤ zs.length ∧ i = .int .i64 k ∧ IsArr wr w2.heap.size (bitZ (zs.take k).sum) ∧ Below w.heap.size w wr) (fun i _ => zs.length - (RowKit.intOf i).toNat)
  case atStart => exact ⟨0, Nat.zero_le _, rfl, N0.out.setRow _, below_setRow ((hb1.trans (hb2.mono hs1)).alloc (by omega) _) (by omega) _⟩
  case round =>
    obtain ⟨k, hk, rfl, hA, hB⟩ := hrel
    rename World => wr
    by_cases hlt : k < zs.length
    · obtain ⟨hc, hwf⟩ := hz k hlt
      have hc' : wr.cell? ⟨b, off + k, none⟩ = some (.int .i64 (zs.getD k 0)) := by rw [hB.cell (p := ⟨b, off + k, none⟩) hb]; exact hc
      have e1 := sum_take zs k hlt
      generalize hS : (zs.take k).sum = S at *
      generalize hx : zs.getD k 0 = x at *
      have hh := of_hi hwf
      have hlo := u64_lo x
      have hAd : IsArr wr.drew w2.heap.size (bitZ S) := hA
      go_wp2
      have HA := Lib.hid hAd
      have e1' := e1
      have hs2' : w.heap.size ≤ w2.heap.size := Nat.le_trans hs1 hs2
      have E1 := Lib.hid e1'
      clear e1'
      clear hza N0 hAd hA cb z1 z2 hz hs1 hs2 e1 hc
      refine wp_region_any (by kernel_rfl) ?_
      change wpAny _ _ _ _ _ _ _ (World.drew _)
      refine wpAny_take (i := 1) (v := .int .i64 x) rfl (by kernel_rfl) (by kernel_rfl) (by kernel_rfl) (fun _ _ _ h => h) (Or.inl ⟨by rfl, ?_⟩) ?_
      · intro w'; go_simp
      refine wpAny_take (i := 2) (v := .int .i64 (hiW x)) rfl (by kernel_rfl) (by kernel_rfl) (by kernel_rfl) (fun _ _ _ h => h) (Or.inl ⟨by rfl, ?_⟩) ?_
      · intro w'; go_simp
      refine wpAny_take (i := 3) (v := .int .i64 x) rfl (by kernel_rfl) (by kernel_rfl) (by kernel_rfl) (fun _ _ _ h => h) (Or.inl ⟨by rfl, ?_⟩) ?_
      · intro w'; go_simp
      refine wpAny_take (i := 4) (v := .int .u64 (loW x)) rfl (by kernel_rfl) (by kernel_rfl) (by kernel_rfl) (fun _ _ _ h => h) (Or.inl ⟨by rfl, ?_⟩) ?_
      · intro w'; go_simp
      simp only [Act.put, List.setIfInBounds_toArray, List.set_cons_zero, List.set_cons_succ]
      refine any2 0 5 (by kernel_rfl) ?_ ?_
      · skip
        refine op_load 24 (.tmp 3) (some 23) (by unfold opIs; kernel_rfl) (.pointer (some ⟨w2.heap.size, 0, none⟩)) (.agg (arr (bitZ S))) (by kernel_rfl) (load_arr _ _ _ HA.out) ?_
        simp only [Act.put, List.setIfInBounds_toArray, List.set_cons_zero, List.set_cons_succ]
        refine any1 5 (by kernel_rfl) ?_
        refine op_call (.call { callee := .value (.func 10), args := #[.tmp 25, .tmp 27], argTypes := #[2, 26] }) (some 28) (by unfold opIs; kernel_rfl) 10 #[.int .i64 (hiW x), .int .u64 (loW x)] (fun o ho => by unfold execOp; rw [ho]; kernel_rfl) (bits_any x _) ?_
        rintro e w3 ⟨rfl, hb3⟩
        refine ⟨_, rfl, ?_⟩
        have hA3 : IsArr w3 w2.heap.size (bitZ S) := HA.out.below hb3
        simp only [Act.put, List.setIfInBounds_toArray, List.set_cons_zero, List.set_cons_succ]
        refine any1 6 (by kernel_rfl) ?_
        refine op_call (.call { callee := .value (.func 11), args := #[.tmp 23, .tmp 28], argTypes := #[24, 24] }) (some 29) (by unfold opIs; kernel_rfl) 11 #[.agg (arr (bitZ S)), .agg (arr (bitZ x))] (fun o ho => by unfold execOp; rw [ho]; kernel_rfl) (radd_any S x _) ?_
        rintro e w4 ⟨rfl, hb4⟩
        refine ⟨_, rfl, ?_⟩
        have hA4 : IsArr w4 w2.heap.size (bitZ S) := hA3.below hb4
        simp only [Act.put, List.setIfInBounds_toArray, List.set_cons_zero, List.set_cons_succ]
        refine any1 7 (by kernel_rfl) ?_
        refine op_store 24 (.tmp 3) (.tmp 29) none (by unfold opIs; kernel_rfl) (.pointer (some ⟨w2.heap.size, 0, none⟩)) (.agg (arr (bitZ (S + x)))) (by kernel_rfl) (by kernel_rfl) (store_arr _ _ _ _ hA4) ?_
        simp only [Act.put]
        refine wpAny_done (by kernel_rfl) ?_ _
        go_wp2
        go_roundw
        case rel => exact ⟨k + 1, by omega, by go_num, by rw [E1.out]; exact hA4.setRow _, below_setRow ((hB.drew.trans (hb3.mono hB.size)).trans (hb4.mono (Nat.le_trans hB.size hb3.size))) (by omega) _⟩
        case measure => simp [RowKit.intOf]; omega
      · skip
        refine op_call (.call { callee := .value (.func 10), args := #[.tmp 25, .tmp 27], argTypes := #[2, 26] }) (some 28) (by unfold opIs; kernel_rfl) 10 #[.int .i64 (hiW x), .int .u64 (loW x)] (fun o ho => by unfold execOp; rw [ho]; kernel_rfl) (bits_any x _) ?_
        rintro e w3 ⟨rfl, hb3⟩
        refine ⟨_, rfl, ?_⟩
        have hA3 : IsArr w3 w2.heap.size (bitZ S) := HA.out.below hb3
        simp only [Act.put, List.setIfInBounds_toArray, List.set_cons_zero, List.set_cons_succ]
        refine any1 0 (by kernel_rfl) ?_
        refine op_load 24 (.tmp 3) (some 23) (by unfold opIs; kernel_rfl) (.pointer (some ⟨w2.heap.size, 0, none⟩)) (.agg (arr (bitZ S))) (by kernel_rfl) (load_arr _ _ _ hA3) ?_
        simp only [Act.put, List.setIfInBounds_toArray, List.set_cons_zero, List.set_cons_succ]
        refine any1 6 (by kernel_rfl) ?_
        refine op_call (.call { callee := .value (.func 11), args := #[.tmp 23, .tmp 28], argTypes := #[24, 24] }) (some 29) (by unfold opIs; kernel_rfl) 11 #[.agg (arr (bitZ S)), .agg (arr (bitZ x))] (fun o ho => by unfold execOp; rw [ho]; kernel_rfl) (radd_any S x _) ?_
        rintro e w4 ⟨rfl, hb4⟩
        refine ⟨_, rfl, ?_⟩
        have hA4 : IsArr w4 w2.heap.size (bitZ S) := hA3.below hb4
        simp only [Act.put, List.setIfInBounds_toArray, List.set_cons_zero, List.set_cons_succ]
        refine any1 7 (by kernel_rfl) ?_
        refine op_store 24 (.tmp 3) (.tmp 29) none (by unfold opIs; kernel_rfl) (.pointer (some ⟨w2.heap.size, 0, none⟩)) (.agg (arr (bitZ (S + x)))) (by kernel_rfl) (by kernel_rfl) (store_arr _ _ _ _ hA4) ?_
        simp only [Act.put]
        refine wpAny_done (by kernel_rfl) ?_ _
        go_wp2
        go_roundw
        case rel => exact ⟨k + 1, by omega, by go_num, by rw [E1.out]; exact hA4.setRow _, below_setRow ((hB.drew.trans (hb3.mono hB.size)).trans (hb4.mono (Nat.le_trans hB.size hb3.size))) (by omega) _⟩
        case measure => simp [RowKit.intOf]; omega
    · obtain rfl : k = zs.length := by omega
      rw [List.take_length] at hA
      have HA := Lib.hid hA
      have Hz := Lib.hid hz
      clear hA hz
      have am : Amts w (.slice (some ⟨b, off, none⟩) zs.length cap) zs := .inr ⟨b, off, cap, rfl, hb, by omega, hcap, Hz.out⟩
      have AM := Lib.hid am
      clear am
      have hwf : (Lit.int .i64 (wrap64 (loW zs.sum))).wf = true := wrap64_wf _
      have hsh := of_hi hwf
      by_cases hf : hiW (wrap64 (loW zs.sum)) = hiW zs.sum
      · have hsum := fun (w' : World) (hb' : Below w.heap.size w w') => sum_any _ _ w' (AM.out.stay hb')
        rw [fitV_yes hf] at hsum
        rw [hf] at hsh
        generalize zs.sum = S at *
        go_wp2_with (first
          | refine wpList_load_row rfl 24 _ rfl w2.heap.size rfl 24 _ (0, 0) _ HA.out Tryd.underlying24 rfl (infoArr _) ?_
          | (go_at_call 12; refine (number_any S _).mono ?_; rintro e w3 ⟨rfl, hb3⟩; have hB3 := hB.trans (hb3.mono hB.size))
          | (go_at_call 13; refine (hsum _ hB3).mono ?_; rintro e w4 ⟨rfl, hb4⟩))
        go_ret
        exact ⟨rfl, hB3.trans (hb4.mono hB3.size)⟩
      · have hsum := fun (w' : World) (hb' : Below w.heap.size w w') => sum_any _ _ w' (AM.out.stay hb')
        rw [fitV_no hf] at hsum
        have hne : (hiW zs.sum == hiW (wrap64 (loW zs.sum))) = false := beq_eq_false_iff_ne.2 (fun e => hf e.symm)
        generalize zs.sum = S at *
        have hf' := Lib.hid hf
        clear hf
        go_wp2_with (first
          | refine wpList_load_row rfl 24 _ rfl w2.heap.size rfl 24 _ (0, 0) _ HA.out Tryd.underlying24 rfl (infoArr _) ?_
          | (go_at_call 12; refine (number_any S _).mono ?_; rintro e w3 ⟨rfl, hb3⟩; have hB3 := hB.trans (hb3.mono hB.size))
          | (go_at_call 13; refine (hsum _ hB3).mono ?_; rintro e w4 ⟨rfl, hb4⟩))
        go_ret
        exact ⟨rfl, hB3.trans (hb4.mono hB3.size)⟩
set_option maxHeartbeats 4000000 in
set_option maxRecDepth 100000 in
theorem moneysums_none (r : Option Addr) (cap : Nat) (w : World) (htab : Pow w) (hw : 0 < w.heap.size) :
    Calls Tryd.prog 3 #[.slice r 0 cap] w fun e w' => e = .returned (.bool true) ∧ Below w.heap.size w w' := by
  have z1 := hi_zero
  have z2 := lo_zero
  have hza := zeroArr
  have cb := fun w' => bits_any 0 w'
  rw [z1, z2] at cb
  have cn := fun w' => number_any 0 w'
  rw [z1, z2] at cn
  have cs := fun w' => sum_nil r cap w'
  rw [fit_in (by decide)] at cs
  go_enter Tryd.func3, Tryd.ntmps3
  go_wp2_with (first
    | (go_at_call 9; refine (awake2_any _ htab hw).mono ?_; rintro e w1 ⟨rfl, hb1⟩)
    | (go_at_call 10; refine (cb _).mono ?_; rintro e w2 ⟨rfl, hb2⟩; have N0 := Lib.hid (IsArr.new w2 (fun _ => 0)))
    | refine wpList_store_row rfl 24 _ _ rfl w2.heap.size _ rfl rfl 24 _ N0.out (infoArr _) (by rw [arr_size, arr_size]) (arr_one _) ?_)
  have hs1 := hb1.size
  have hs2 := hb2.size
  go_loopw [19] (fun i wr => i = .int .i64 0 ∧ IsArr wr w2.heap.size (bitZ 0) ∧ Below w.heap.size w wr) (fun i _ => 0)
  case atStart => exact ⟨rfl, N0.out.setRow _, below_setRow ((hb1.trans (hb2.mono hs1)).alloc (by omega) _) (by omega) _⟩
  case round =>
    obtain ⟨rfl, hA, hB⟩ := hrel
    have HA := Lib.hid hA
    clear hA
    go_wp2_with (first
      | refine wpList_load_row rfl 24 _ rfl w2.heap.size rfl 24 _ (0, 0) _ HA.out Tryd.underlying24 rfl (infoArr _) ?_
      | (go_at_call 12; refine (cn _).mono ?_; rintro e w3 ⟨rfl, hb3⟩; have hB3 := hB.trans (hb3.mono hB.size))
      | (go_at_call 13; refine (cs _).mono ?_; rintro e w4 ⟨rfl, hb4⟩))
    go_ret
    exact ⟨rfl, hB3.trans (hb4.mono hB3.size)⟩
theorem moneysums_long (r : Option Addr) (n cap : Nat) (w : World) (hn : 60 < n) (htab : Pow w) (hw : 0 < w.heap.size) :
    Calls Tryd.prog 3 #[.slice r n cap] w fun e w' => e = .returned (.bool true) ∧ Below w.heap.size w w' := by
  go_enter Tryd.func3, Tryd.ntmps3
  go_wp2_with (first
    | (go_at_call 9; refine (awake2_any _ htab hw).mono ?_; rintro e w1 ⟨rfl, hb1⟩))
  go_ret
  exact ⟨rfl, hb1⟩
theorem moneysums_any (v : Value) (zs : List Int) (w : World) (htab : Pow w) (hw : 0 < w.heap.size) (h : Amts w v zs) :
    Calls Tryd.prog 3 #[v] w fun e w' => e = .returned (.bool true) ∧ Below w.heap.size w w' := by
  rcases h with ⟨r, cap, rfl, rfl⟩ | ⟨b, off, cap, rfl, hb, hl, hc, hz⟩
  · exact moneysums_none r cap w htab hw
  · by_cases h : zs.length ≤ 60
    · exact moneysums_some b off cap zs w htab hw hb h hc hz
    · exact moneysums_long _ _ cap w (by omega) htab hw
end Go.Proofs.YtcfdanfebpgplaaDoor

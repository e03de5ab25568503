/- Contracts of package key's Sums and Links. -/
import Derived.Test.YtnmnjoleebhhiaaGreatDoorVh
import Derived.Test.YtnmnjoleebhhiaaGreatDoorVt
import Derived.Test.YtnmnjoleebhhiaaGreatDoorOne
import Derived.WalkSpells
namespace Go.Proofs.YtnmnjoleebhhiaaGreatDoor
open Go.RowKit Go.Sort
set_option linter.unusedVariables false
set_option linter.unusedSimpArgs false
theorem box_cell (w : World) (c : Array Value) (T : TypeId) (j : Nat) (v : Value) (hv : c[j]? = some v) : (w.alloc (.cells c T)).cell? ⟨w.heap.size, j, none⟩ = some v := by simp [hv]
set_option maxHeartbeats 1000000 in
set_option maxRecDepth 100000 in
theorem sadd_k (b : Nat) (L : List (Kt × Int)) (x : Kt) (n : Int) (w : World) (hM : MapOf kv wv b L w) (hn : (Lit.int .i64 n).wf = true) :
    Calls Tryz.prog 5 #[.map (some b), kv x, .int .i64 n] w fun e w' => e = .returned (.tuple #[]) ∧ MapOf kv wv b (putK L x ((getK L x).getD 0 + n)) w' ∧ w.grownBy w' (some b) := by
  have hbl := hM.lt
  have K1 := Lib.hid (fun w => of_any n w hn)
  have K2 := Lib.hid (fun w => add_any ((getK L x).getD 0) n w)
  have heq : ∀ w, (binOp .eql 25 (.map (some b)) (.map none)).run Tryz.prog w = .ok (.bool false) w := fun w => run_eql_map_nil w _ _ _ (some b) Tryz.underlying25
  have hB := (Below.refl w.heap.size w).alloc (Nat.le_refl _) (.cells #[.int .u32 (x.a : Int), .int .u16 (x.e : Int), .int .u16 (x.p : Int)] 31)
  have hM1 := hM.below hB hbl
  have hW : w.heap.size < (w.alloc (.cells #[.int .u32 (x.a : Int), .int .u16 (x.e : Int), .int .u16 (x.p : Int)] 31)).heap.size := by simp
  have hlk := fun d os => (hM1.below (below_regrown _ d os) hM1.lt).look map_s x false
  have HS := Lib.hid (fun (w' : World) (h : MapOf kv wv b L w') => h.store map_s x ((getK L x).getD 0 + n))
  have HM1 := Lib.hid hM1
  have HB := Lib.hid hB
  have c0 := fun d os => cell_regrown (box_cell w #[.int .u32 (x.a : Int), .int .u16 (x.e : Int), .int .u16 (x.p : Int)] 31 0 _ rfl) d os
  have c1 := fun d os => cell_regrown (box_cell w #[.int .u32 (x.a : Int), .int .u16 (x.e : Int), .int .u16 (x.p : Int)] 31 1 _ rfl) d os
  have c2 := fun d os => cell_regrown (box_cell w #[.int .u32 (x.a : Int), .int .u16 (x.e : Int), .int .u16 (x.p : Int)] 31 2 _ rfl) d os
  have hmix : Tryz.prog.follows .mixedOrders = true := by kernel_rfl
  generalize hv : (getK L x).getD 0 = v at *
  have hq : ∀ L', putK L x (v + n) = L' → putK L x (v + n) = L' := fun _ h => h
  clear hM hn hB hM1 hv hq
  unfold wv at hlk
  simp only [Bool.false_eq_true, if_false] at hlk
  obtain ⟨L', hL'⟩ : ∃ L', putK L x (v + n) = L' := ⟨_, rfl⟩
  rw [hL'] at HS ⊢
  clear hL'
  have hkv : kv x = .agg #[.int .u32 (x.a : Int), .int .u16 (x.e : Int), .int .u16 (x.p : Int)] := rfl
  rw [hkv] at hlk HS ⊢
  clear hkv
  go_enter Tryz.func5, Tryz.ntmps5
  go_wp2_with fail
  generalize w.alloc (.cells #[.int .u32 (x.a : Int), .int .u16 (x.e : Int), .int .u16 (x.p : Int)] 31) = W at *
  refine wp_tail_below 8 hmix (by kernel_rfl) ?_
  simp only [List.take_succ_cons, List.take_zero, List.drop_succ_cons, List.drop_zero]
  repeat (quiet_step ((first
    | (go_at_call 17; with_reducible exact Calls.regrown_of (K1.out _))
    | (go_at_call 16; with_reducible exact Calls.regrown_of (K2.out _)))))
  refine wpQuiet_nil ?_
  intro w1 hw1
  have hb1 : Below W.heap.size W w1 := by obtain ⟨p, rfl⟩ := hw1; exact below_regrown _ _ _
  obtain ⟨w2, hrun, hM2, hg2, hs2⟩ := HS.out w1 (HM1.out.below hb1 HM1.out.lt)
  unfold wv at hrun
  have HM2 := Lib.hid hM2
  have HG2 := Lib.hid hg2
  have HB1 := Lib.hid hb1
  clear hM2 hg2 hb1 hw1 hlk hs2
  go_wp2
  go_end0
  refine ⟨rfl, HM2.out, ?_⟩
  exact ⟨HG2.out.os.trans (HB1.out.os.trans HB.out.os), HG2.out.tape.trans (HB1.out.tape.trans HB.out.tape), HG2.out.output.trans (HB1.out.output.trans HB.out.output), Nat.le_trans HB.out.size (Nat.le_trans HB1.out.size HG2.out.size),
    fun k hk hne => (HG2.out.block k (Nat.lt_of_lt_of_le (Nat.lt_trans hk hW) HB1.out.size) hne).trans ((HB1.out.block k (Nat.lt_trans hk hW)).trans (HB.out.block k hk))⟩
theorem sadd_nil (x : Kt) (n : Int) (w : World) : Calls Tryz.prog 5 #[.map none, kv x, .int .i64 n] w fun e w' => e = .returned (.tuple #[]) ∧ Below w.heap.size w w' := by
  have heq : ∀ w, (binOp .eql 25 (.map none) (.map none)).run Tryz.prog w = .ok (.bool true) w := fun w => run_eql_map_nil w _ _ _ none Tryz.underlying25
  have hB := Lib.hid ((Below.refl w.heap.size w).alloc (Nat.le_refl _) (.cells #[.int .u32 (x.a : Int), .int .u16 (x.e : Int), .int .u16 (x.p : Int)] 31))
  unfold kv
  generalize x.a = a at *
  generalize x.e = c at *
  generalize x.p = d at *
  go_enter Tryz.func5, Tryz.ntmps5
  go_wp2
  refine bodyPost_ret (results_none rfl _ _ _) rfl ?_
  exact ⟨rfl, hB.out⟩
theorem skeys_k (b : Nat) (L : List (Kt × Int)) (w : World) (hM : MapOf kv wv b L w) (hL : L.length < 1073741824) :
    Calls Tryz.prog 9 #[.map (some b)] w fun e w' => ∃ v ks, e = .returned v ∧ ks.Perm (L.map Prod.fst) ∧ Rises Kt.num ks ∧ Recs kc 3 w' v ks ∧ Below w.heap.size w w' := by
  have hB := (Below.refl w.heap.size w).alloc (Nat.le_refl _) (.cells #[.func (.func 19) #[] #[]] 35)
  have K := Lib.hid (rising_k b w.heap.size 1 L (w.alloc (.cells #[.func (.func 19) #[] #[]] 35)) (hM.below hB hM.lt) (by simp) hL)
  have HB := Lib.hid hB
  clear hM hB
  go_enter Tryz.func9, Tryz.ntmps9
  go_wp2_with (go_at_call 18; refine K.out.mono ?_; rintro e w' ⟨v, ks, rfl, hq⟩; have HQ := Lib.hid hq; clear hq)
  go_ret
  obtain ⟨h1, h2, h3, h4⟩ := HQ.out
  exact ⟨v, ks, rfl, h1, h2, h3, HB.out.trans (h4.mono HB.out.size)⟩
theorem skeys_nil (w : World) : Calls Tryz.prog 9 #[.map none] w fun e w' => ∃ v, e = .returned v ∧ Recs kc 3 w' v [] ∧ Below w.heap.size w w' := by
  have hB := (Below.refl w.heap.size w).alloc (Nat.le_refl _) (.cells #[.func (.func 19) #[] #[]] 35)
  have K := Lib.hid (rising_k_nil w.heap.size 1 (w.alloc (.cells #[.func (.func 19) #[] #[]] 35)) (by simp))
  have HB := Lib.hid hB
  clear hB
  go_enter Tryz.func9, Tryz.ntmps9
  go_wp2_with (go_at_call 18; refine K.out.mono ?_; rintro e w' ⟨v, rfl, hq⟩; have HQ := Lib.hid hq; clear hq)
  go_ret
  obtain ⟨h3, h4⟩ := HQ.out
  exact ⟨v, rfl, h3, HB.out.trans (h4.mono HB.out.size)⟩
theorem lpairs_k (b : Nat) (L : List ((Kt × Kt) × Int)) (w : World) (hM : MapOf pv (Value.int .i64) b L w) (hL : L.length < 1073741824) :
    Calls Tryz.prog 13 #[.map (some b)] w fun e w' => ∃ v ks, e = .returned v ∧ ks.Perm (L.map Prod.fst) ∧ Rises pnum ks ∧ Recs pc 6 w' v ks ∧ Below w.heap.size w w' := by
  have hB := (Below.refl w.heap.size w).alloc (Nat.le_refl _) (.cells #[.func (.func 21) #[] #[], .func (.func 22) #[] #[]] 55)
  have K := Lib.hid (rising_p b w.heap.size 2 L (w.alloc (.cells #[.func (.func 21) #[] #[], .func (.func 22) #[] #[]] 55)) (hM.below hB hM.lt) (by simp) (by simp) hL)
  have HB := Lib.hid hB
  clear hM hB
  go_enter Tryz.func13, Tryz.ntmps13
  go_wp2_with (go_at_call 20; refine K.out.mono ?_; rintro e w' ⟨v, ks, rfl, hq⟩; have HQ := Lib.hid hq; clear hq)
  go_ret
  obtain ⟨h1, h2, h3, h4⟩ := HQ.out
  exact ⟨v, ks, rfl, h1, h2, h3, HB.out.trans (h4.mono HB.out.size)⟩
theorem lpairs_nil (w : World) : Calls Tryz.prog 13 #[.map none] w fun e w' => ∃ v, e = .returned v ∧ Recs pc 6 w' v [] ∧ Below w.heap.size w w' := by
  have hB := (Below.refl w.heap.size w).alloc (Nat.le_refl _) (.cells #[.func (.func 21) #[] #[], .func (.func 22) #[] #[]] 55)
  have K := Lib.hid (rising_p_nil w.heap.size 2 (w.alloc (.cells #[.func (.func 21) #[] #[], .func (.func 22) #[] #[]] 55)) (by simp) (by simp))
  have HB := Lib.hid hB
  clear hB
  go_enter Tryz.func13, Tryz.ntmps13
  go_wp2_with (go_at_call 20; refine K.out.mono ?_; rintro e w' ⟨v, rfl, hq⟩; have HQ := Lib.hid hq; clear hq)
  go_ret
  obtain ⟨h3, h4⟩ := HQ.out
  exact ⟨v, rfl, h3, HB.out.trans (h4.mono HB.out.size)⟩
end Go.Proofs.YtnmnjoleebhhiaaGreatDoor

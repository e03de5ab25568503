/- The walk of law MoneyTurns. -/
import Derived.Test.YtcfdanfebpgplaaDoorUe
namespace Go.Proofs.YtcfdanfebpgplaaDoor
open Go.RowKit Go.Lib
set_option linter.unusedVariables false
set_option linter.unusedSimpArgs false
theorem fitV_wf {S n : Int} {f : Bool} (h : fitV S = .tuple #[.int .i64 n, .bool f]) : (Lit.int .i64 n).wf = true := by
  by_cases hf : hiW (wrap64 (loW S)) = hiW S
  · rw [fitV_yes hf] at h
    have e : wrap64 (loW S) = n := by simp at h; exact h.1
    rw [← e]; exact wrap64_wf _
  · rw [fitV_no hf] at h
    have e : 0 = n := by simp at h; exact h.1
    rw [← e]; decide
theorem turn_mod (k : Int) (n : Nat) (hk : (Lit.int .u8 k).wf = true) (hn : 0 < n) : (wrap64 k).tmod (n : Int) = ((k.toNat % n : Nat) : Int) := by
  have hb : 0 ≤ k ∧ k < 256 := by
    simp [Lit.wf, IntKind.min, IntKind.max, IntKind.signed, IntKind.bits] at hk; omega
  have e : wrap64 k = k := by rw [w64w]; omega
  rw [e, Int.tmod_eq_emod_of_nonneg hb.1]
  obtain ⟨m, rfl⟩ := Int.eq_ofNat_of_zero_le hb.1
  simp
set_option maxHeartbeats 8000000 in
set_option maxRecDepth 100000 in
theorem moneyturns_core (b off cap : Nat) (zs : List Int) (k : Int) (w : World) (htab : Pow w) (hw : 0 < w.heap.size) (hb : b < w.heap.size) (hl : zs.length ≤ 40) (h0 : 0 < zs.length) (hcap : zs.length ≤ cap) (hk : (Lit.int .u8 k).wf = true)
    (hz : ∀ i, i < zs.length → w.cell? ⟨b, off + i, none⟩ = some (.int .i64 (zs.getD i 0)) ∧ (Lit.int .i64 (zs.getD i 0)).wf = true) :
    Calls Tryd.prog 7 #[.slice (some ⟨b, off, none⟩) zs.length cap, .int .u8 k] w fun e w' => e = .returned (.bool true) ∧ Below w.heap.size w w' := by
  obtain ⟨n0, f0, e0⟩ := fitV_pair zs.sum
  have hmod := turn_mod k zs.length hk h0
  have hi : k.toNat % zs.length < zs.length := Nat.mod_lt _ h0
  generalize k.toNat % zs.length = i at hmod hi
  obtain ⟨n1, f1, e1⟩ := fitV_pair (zs.take i).sum
  obtain ⟨n2, f2, e2⟩ := fitV_pair (zs.drop i).sum
  obtain ⟨n3, f3, e3⟩ := fitV_pair (n1 + n2)
  have hsum : (zs.take i).sum + (zs.drop i).sum = zs.sum := by rw [← List.sum_append, List.take_append_drop]
  have hboth : f1 = true → f2 = true → n3 = n0 ∧ f3 = f0 := fun h1 h2 => by
    subst h1 h2
    have m1 := fitV_mod e1
    have m2 := fitV_mod e2
    have := fitV_congr (S := n1 + n2) (T := zs.sum) (by rw [← hsum]; omega)
    rw [e3, e0] at this
    simpa using this
  have s0 := fun (w' : World) (hb' : Below w.heap.size w w') => sum_any _ _ w' ((show Amts w (.slice (some ⟨b, off, none⟩) zs.length cap) zs from .inr ⟨b, off, cap, rfl, hb, by omega, hcap, hz⟩).stay hb')
  have s1 := fun (w' : World) (hb' : Below w.heap.size w w') => sum_any _ _ w' ((amts_take (cap := cap) hb (by omega) hz i cap (by omega) (by omega)).stay hb')
  have s2 := fun (w' : World) (hb' : Below w.heap.size w w') => sum_any _ _ w' ((amts_drop (cap := cap) hb (by omega) hz i (cap - i) (by omega) (by omega)).stay hb')
  rw [e0] at s0
  rw [e1] at s1
  rw [e2] at s2
  have c3 := fun (w' : World) => madd_any n1 n2 w' (fitV_wf e1) (fitV_wf e2)
  rw [e3] at c3
  have Hz := Lib.hid hz
  have hwf : ∀ z ∈ zs, (Lit.int .i64 z).wf = true := fun z hz' => by
    obtain ⟨j, hj, rfl⟩ := List.mem_iff_getElem.1 hz'
    have := (hz j hj).2
    simpa [List.getD, hj] using this
  have HW := Lib.hid hwf
  clear hz hwf
  have hne : ((zs.length : Int) == 0) = false := beq_eq_false_iff_ne.2 (by omega)
  have hsf := fun (w' : World) => slice_from ⟨b, off, none⟩ zs.length cap i (by omega) (by omega) w'
  have hst := fun (w' : World) => slice_to ⟨b, off, none⟩ zs.length cap i (by omega) w'
  rw [Lib.add_plain] at hsf
  have H0 := Lib.hid (And.intro e0 (And.intro e1 (And.intro e2 e3)))
  have HS := Lib.hid hsum
  have HB := Lib.hid hboth
  clear e0 e1 e2 e3 hsum hboth
  go_enter Tryd.func7, Tryd.ntmps7
  go_wp2_with (first
    | (go_at_call 9; refine (awake2_any _ htab hw).mono ?_; rintro e w1 ⟨rfl, hb1⟩)
    | (go_at_call 13; refine (s0 _ hb1).mono ?_; rintro e w2 ⟨rfl, hb2⟩))
  have hB2 : Below w.heap.size w w2 := hb1.trans (hb2.mono hb1.size)
  refine wp_region_any (by kernel_rfl) ?_
  change wpAny _ _ _ _ _ _ _ (World.drew _)
  refine wpAny_take (i := 0) (v := .slice (some ⟨b, off, none⟩) zs.length cap) rfl (by kernel_rfl) (by kernel_rfl) (by kernel_rfl) (fun _ _ _ h => h) (Or.inl ⟨by rfl, ?_⟩) ?_
  · intro w'; go_simp
  refine wpAny_take (i := 1) (v := .int .i64 (i : Int)) rfl (by kernel_rfl) (by kernel_rfl) (by kernel_rfl) (fun _ _ _ h => h) (Or.inl ⟨by rfl, ?_⟩) ?_
  · intro w'; go_simp
  refine wpAny_take (i := 2) (v := .slice (some ⟨b, off + i, none⟩) (zs.length - i) (cap - i)) rfl (by kernel_rfl) (by kernel_rfl) (by kernel_rfl) (fun _ _ _ h => h) (Or.inl ⟨by rfl, ?_⟩) ?_
  · intro w'; go_simp
  refine wpAny_take (i := 4) (v := .slice (some ⟨b, off, none⟩) zs.length cap) rfl (by kernel_rfl) (by kernel_rfl) (by kernel_rfl) (fun _ _ _ h => h) (Or.inl ⟨by rfl, ?_⟩) ?_
  · intro w'; go_simp
  refine wpAny_take (i := 5) (v := .int .i64 (i : Int)) rfl (by kernel_rfl) (by kernel_rfl) (by kernel_rfl) (fun _ _ _ h => h) (Or.inl ⟨by rfl, ?_⟩) ?_
  · intro w'; go_simp
  refine wpAny_take (i := 6) (v := .slice (some ⟨b, off, none⟩) i cap) rfl (by kernel_rfl) (by kernel_rfl) (by kernel_rfl) (fun _ _ _ h => h) (Or.inl ⟨by rfl, ?_⟩) ?_
  · intro w'; go_simp
  simp only [Act.put, List.getElem_toArray, List.getElem_cons_zero, List.getElem_cons_succ, List.setIfInBounds_toArray, List.set_cons_zero, List.set_cons_succ]
  have ld : (zs.drop i).length = zs.length - i := List.length_drop
  have lt : (zs.take i).length = i := by rw [List.length_take]; omega
  have hbd : b < w2.drew.heap.size := Nat.lt_of_lt_of_le hb hB2.size
  have hcl := clone_any b (off + i) (cap - i) (zs.drop i) w2.drew hbd (by omega) (by omega) (fun t ht => by
    rw [hB2.drew.cell (p := ⟨b, off + i + t, none⟩) hb, Nat.add_assoc]
    have := (Hz.out (i + t) (by omega)).1
    rw [this]
    simp [List.getD, List.getElem?_drop])
  rw [ld] at hcl
  refine any1 3 (by kernel_rfl) ?_
  refine op_call (.call { callee := .value (.func 19), args := #[.tmp 39], argTypes := #[22] }) (some 40) (by unfold opIs; kernel_rfl) 19 #[.slice (some ⟨b, off + i, none⟩) (zs.length - i) (cap - i)] (fun o ho => by unfold execOp; rw [ho]; kernel_rfl) hcl ?_
  rintro e w3 ⟨v, rfl, hown, hb3⟩
  refine ⟨_, rfl, ?_⟩
  simp only [Act.put, List.getElem_toArray, List.getElem_cons_zero, List.getElem_cons_succ, List.setIfInBounds_toArray, List.set_cons_zero, List.set_cons_succ]
  have hB3 : Below w.heap.size w w3 := hB2.drew.trans (hb3.mono hB2.size)
  obtain ⟨i0, hi0, hz0, hz1, hz2⟩ := infoI
  refine any1 7 (by kernel_rfl) ?_
  refine op_any (op := .call { callee := .builtin .append, args := #[.tmp 40, .tmp 43], argTypes := #[22, 22] }) (dst := some 44) (by unfold opIs; kernel_rfl) (fun o h1 h2 => ?_)
  refine wp_append_own w3 (.tmp 40) (.tmp 43) 22 h1 w2.drew.heap.size 2 i0 (.int .i64 0) 1 8 Tryd.underlying22 hi0 hz0 hz1 hz2 rfl (by decide) v (zs.length - i) (ints (zs.drop i)) (by kernel_rfl) hown ⟨b, off, none⟩ i cap (ints (zs.take i)) (by kernel_rfl) (by rw [ints_len]; omega) (fun j u hu => by
    obtain ⟨hj, rfl⟩ := ints_get hu
    rw [lt] at hj
    rw [Lib.add_plain, hB3.cell (p := ⟨b, off + j, none⟩) hb, (Hz.out j (by omega)).1]
    simp [List.getD, List.getElem?_take, hj]) (ints_one _) (by unfold maxLen; omega) (by omega) hb3.size (fun v' w4 hown4 hgr4 _ => ?_)
  rw [h2]
  simp only [Act.put, List.getElem_toArray, List.getElem_cons_zero, List.getElem_cons_succ, List.setIfInBounds_toArray, List.set_cons_zero, List.set_cons_succ]
  have hB4 : Below w.heap.size w w4 := hB3.grown hgr4 hB3.size (fun k hk => Nat.le_trans hB2.size (hown.lt k hk).1)
  have am4 : Amts w4 v' (zs.drop i ++ zs.take i) := by
    have hlen : (zs.drop i ++ zs.take i).length = zs.length - i + i := by rw [List.length_append, ld, lt]
    refine amts_owns (base := w2.drew.heap.size) ?_ (by omega) (fun z hz' => ?_)
    · rw [hlen, ← ints_app]; exact hown4
    · rcases List.mem_append.1 hz' with h | h
      · exact HW.out z (List.mem_of_mem_drop h)
      · exact HW.out z (List.mem_of_mem_take h)
  have c4 := sum_any _ _ w4 am4
  have e4 : (zs.drop i ++ zs.take i).sum = zs.sum := by rw [List.sum_append, Int.add_comm]; exact HS.out
  rw [e4, H0.out.1] at c4
  refine any1 8 (by kernel_rfl) ?_
  refine op_call (.call { callee := .value (.func 13), args := #[.tmp 44], argTypes := #[22] }) (some 45) (by unfold opIs; kernel_rfl) 13 #[v'] (fun o ho => by unfold execOp; rw [ho]; kernel_rfl) c4 ?_
  rintro e w5 ⟨rfl, hb5⟩
  refine ⟨_, rfl, ?_⟩
  simp only [Act.put, List.getElem_toArray, List.getElem_cons_zero, List.getElem_cons_succ, List.setIfInBounds_toArray, List.set_cons_zero, List.set_cons_succ]
  have hB5 : Below w.heap.size w w5 := hB4.trans (hb5.mono hB4.size)
  refine wpAny_take (i := 9) (v := .tuple #[.int .i64 n0, .bool f0]) rfl (by kernel_rfl) (by kernel_rfl) (by kernel_rfl) (fun _ _ _ h => h) (Or.inl ⟨by rfl, ?_⟩) ?_
  · intro w'; go_simp
  refine wpAny_take (i := 10) (v := .int .i64 n0) rfl (by kernel_rfl) (by kernel_rfl) (by kernel_rfl) (fun _ _ _ h => h) (Or.inl ⟨by rfl, ?_⟩) ?_
  · intro w'; go_simp
  refine wpAny_take (i := 11) (v := .bool f0) rfl (by kernel_rfl) (by kernel_rfl) (by kernel_rfl) (fun _ _ _ h => h) (Or.inl ⟨by rfl, ?_⟩) ?_
  · intro w'; go_simp
  refine wpAny_take (i := 12) (v := .int .i64 n0) rfl (by kernel_rfl) (by kernel_rfl) (by kernel_rfl) (fun _ _ _ h => h) (Or.inl ⟨by rfl, ?_⟩) ?_
  · intro w'; go_simp
  refine wpAny_take (i := 13) (v := .bool f0) rfl (by kernel_rfl) (by kernel_rfl) (by kernel_rfl) (fun _ _ _ h => h) (Or.inl ⟨by rfl, ?_⟩) ?_
  · intro w'; go_simp
  refine wpAny_done (by kernel_rfl) ?_ _
  simp only [Act.put, List.getElem_toArray, List.getElem_cons_zero, List.getElem_cons_succ, List.setIfInBounds_toArray, List.set_cons_zero, List.set_cons_succ]
  clear am4 c4 e4 hown hown4 hcl hi0 hz0 hz1 hz2
  have hd : ∀ (x y : Int) (f g : Bool), f1 = true ∧ f2 = true ∨ f1 = false ∨ f2 = false := fun _ _ _ _ => by cases f1 <;> cases f2 <;> simp
  rcases hd 0 0 true true with ⟨h1, h2⟩ | h1 | h2
  · obtain ⟨rfl, rfl⟩ := HB.out h1 h2
    subst h1 h2
    clear HB H0 hd
    go_wp2_with (first
      | (go_at_call 13; (first
          | (refine (s2 _ hB6).mono ?_; rintro e w7 ⟨rfl, hb7⟩; have hB7 := hB6.trans (hb7.mono hB6.size))
          | (refine (s1 _ hB5).mono ?_; rintro e w6 ⟨rfl, hb6⟩; have hB6 := hB5.trans (hb6.mono hB5.size))))
      | (go_at_call 14; refine (c3 _).mono ?_; rintro e w8 ⟨rfl, hb8⟩; have hB8 := hB7.trans (hb8.mono hB7.size)))
    go_ret
    exact ⟨by simp, hB8⟩
  · subst h1
    clear HB H0 hd
    go_wp2_with (first
      | (go_at_call 13; (first
          | (refine (s2 _ hB6).mono ?_; rintro e w7 ⟨rfl, hb7⟩; have hB7 := hB6.trans (hb7.mono hB6.size))
          | (refine (s1 _ hB5).mono ?_; rintro e w6 ⟨rfl, hb6⟩; have hB6 := hB5.trans (hb6.mono hB5.size))))
      | (go_at_call 14; refine (c3 _).mono ?_; rintro e w8 ⟨rfl, hb8⟩; have hB8 := hB7.trans (hb8.mono hB7.size)))
    go_ret
    exact ⟨by simp, hB8⟩
  · subst h2
    clear HB H0 hd
    cases f1
    all_goals
      go_wp2_with (first
        | (go_at_call 13; (first
            | (refine (s2 _ hB6).mono ?_; rintro e w7 ⟨rfl, hb7⟩; have hB7 := hB6.trans (hb7.mono hB6.size))
            | (refine (s1 _ hB5).mono ?_; rintro e w6 ⟨rfl, hb6⟩; have hB6 := hB5.trans (hb6.mono hB5.size))))
        | (go_at_call 14; refine (c3 _).mono ?_; rintro e w8 ⟨rfl, hb8⟩; have hB8 := hB7.trans (hb8.mono hB7.size)))
      go_ret
      exact ⟨by simp, hB8⟩
theorem moneyturns_none (r : Option Addr) (cap : Nat) (k : Int) (w : World) (htab : Pow w) (hw : 0 < w.heap.size) :
    Calls Tryd.prog 7 #[.slice r 0 cap, .int .u8 k] w fun e w' => e = .returned (.bool true) ∧ Below w.heap.size w w' := by
  go_enter Tryd.func7, Tryd.ntmps7
  go_wp2_with (first
    | (go_at_call 9; refine (awake2_any _ htab hw).mono ?_; rintro e w1 ⟨rfl, hb1⟩))
  go_ret
  exact ⟨rfl, hb1⟩
theorem moneyturns_long (r : Option Addr) (n cap : Nat) (k : Int) (w : World) (hn : 40 < n) (htab : Pow w) (hw : 0 < w.heap.size) :
    Calls Tryd.prog 7 #[.slice r n cap, .int .u8 k] w fun e w' => e = .returned (.bool true) ∧ Below w.heap.size w w' := by
  go_enter Tryd.func7, Tryd.ntmps7
  go_wp2_with (first
    | (go_at_call 9; refine (awake2_any _ htab hw).mono ?_; rintro e w1 ⟨rfl, hb1⟩))
  go_ret
  exact ⟨rfl, hb1⟩
theorem moneyturns_any (v : Value) (zs : List Int) (k : Int) (w : World) (htab : Pow w) (hw : 0 < w.heap.size) (h : Amts w v zs) (hk : (Lit.int .u8 k).wf = true) :
    Calls Tryd.prog 7 #[v, .int .u8 k] w fun e w' => e = .returned (.bool true) ∧ Below w.heap.size w w' := by
  rcases h with ⟨r, cap, rfl, rfl⟩ | ⟨b, off, cap, rfl, hb, hl, hc, hz⟩
  · exact moneyturns_none r cap k w htab hw
  · by_cases h : zs.length ≤ 40
    · by_cases h0 : zs.length = 0
      · rw [h0]; exact moneyturns_none _ cap k w htab hw
      · exact moneyturns_core b off cap zs k w htab hw hb h (by omega) hc hk hz
    · exact moneyturns_long _ _ cap k w (by omega) htab hw
end Go.Proofs.YtcfdanfebpgplaaDoor

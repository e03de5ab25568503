/- The walk of law KeyTurns (written by wip/ecgen.py). -/
import Derived.Test.YtnmnjoleebhhiaaGreatDoorEb
import Derived.Test.YtnmnjoleebhhiaaGreatDoorOa
namespace Go.Proofs.YtnmnjoleebhhiaaGreatDoor
open Go.RowKit Go.Sort
set_option linter.unusedVariables false
set_option linter.unusedSimpArgs false
theorem lits_w (d : Nat) (a : Int) : Tryz.prog.keyLits (d + 2) 42 [.int .i64 (hiW a), .int .u64 (loW a)] = some [.int .i64 (hiW a), .int .u64 (loW a)] := by
  have w1 := wf_hi a
  have w2 := wf_lo a
  have c1 : Tryz.prog.cellsOf 42 = 2 := by kernel_rfl
  have c2 : Tryz.prog.cellsOf 3 = 1 := by kernel_rfl
  have c3 : Tryz.prog.cellsOf 40 = 1 := by kernel_rfl
  have c4 : Tryz.prog.cellsOf 2 = 1 := by kernel_rfl
  simp [Program.keyLits, Tryz.underlying42, Tryz.underlying2, Tryz.underlying40, w1, w2, c1, c2, c3, c4]
theorem key_w (a : Int) : ∃ q, keyOf Tryz.prog 42 (wv a) = some q := by
  obtain ⟨d, hd⟩ := big_types
  have hk : Tryz.prog.keyType 42 = true := by kernel_rfl
  have c1 : Tryz.prog.cellsOf 42 = 2 := by kernel_rfl
  have hf : (wv a).formed Tryz.prog 42 = true := by unfold wv; simp [Value.formed, Tryz.underlying42, c1]
  have hl := lits_w (d + 1) a
  refine ⟨.string (keyBytes [.int .i64 (hiW a), .int .u64 (loW a)]), ?_⟩
  unfold keyOf
  simp only [Tryz.underlying42, hk, hf, Bool.and_self, if_true, hd]
  rw [show (wv a).cells.toList = [.int .i64 (hiW a), .int .u64 (loW a)] from rfl, show d + 3 = d + 1 + 2 from rfl, hl]
  rfl
theorem neq_w (a : Int) (w : World) : (binOp .neq 42 (.agg #[.int .i64 (hiW a), .int .u64 (loW a)]) (.agg #[.int .i64 (hiW a), .int .u64 (loW a)])).run Tryz.prog w = .ok (.bool false) w := by
  obtain ⟨q, hq⟩ := key_w a
  obtain ⟨r, hr, hi⟩ := run_equal_deep w (m := 4) (by omega) (k := 42) (by kernel_rfl) (by rw [Tryz.underlying42]) hq hq
  have hr1 : r = true := hi.2 rfl
  subst hr1
  unfold wv at hr
  simp [binOp, hr]
theorem Recs.grown {α : Type} {enc : α → List Value} {k : Nat} {w w' : World} {g o n cap m : Nat} {xs : List α} (h : Recs enc k w (.slice (some ⟨g, o, none⟩) n cap) xs) (hg : w.grownBy w' (some m)) (hne : g ≠ m) : Recs enc k w' (.slice (some ⟨g, o, none⟩) n cap) xs := by
  rcases h with ⟨r', cap', h1, h2⟩ | ⟨g', off, cap', h1, h2, h3, h4, h5⟩
  · exact .inl ⟨r', cap', h1, h2⟩
  · cases h1
    exact .inr ⟨g, o, cap, rfl, Nat.lt_of_lt_of_le h2 hg.size, h3, h4, fun i x hx j u hu => hg.cell (h5 i x hx j u hu) (fun e => hne (Option.some.inj e))⟩
/-- A row, four maps: what both loops over records keep. -/
structure RowM (G : Nat) (o n cap : Nat) (zs : List Mt) (b : Nat) (La Lb : List (Kt × Int)) (Lc Ld : List ((Kt × Kt) × Int)) (w : World) : Prop where
  row : Recs mc 4 w (.slice (some ⟨G, o, none⟩) n cap) zs
  maps : M4 b La Lb Lc Ld w
theorem RowM.below {G o n cap b B : Nat} {zs : List Mt} {La Lb : List (Kt × Int)} {Lc Ld : List ((Kt × Kt) × Int)} {w w' : World} (h : RowM G o n cap zs b La Lb Lc Ld w) (hb : Below w.heap.size w w') : RowM G o n cap zs b La Lb Lc Ld w' :=
  ⟨h.row.stay hb, h.maps.below hb (Nat.le_refl _)⟩
set_option maxHeartbeats 8000000 in
set_option maxRecDepth 100000 in
theorem keyturns_some {I : World → Prop} (C : AllotC) (D : DayC I) (K : KeyC I) (g off n cap : Nat) (zs : List Mt) (kk : Int) (w : World) (hI : I w) (hR : Recs mc 4 w (.slice (some ⟨g, off, none⟩) n cap) zs) (hg : g < w.heap.size) (hc : n ≤ cap) (hn : n = zs.length) (hl : n ≤ 40) (h0 : 0 < n) (hk : (Lit.int .u8 kk).wf = true) :
    Calls Tryz.prog 3 #[.slice (some ⟨g, off, none⟩) n cap, .int .u8 kk] w fun e w' => e = .returned (.bool true) ∧ Below w.heap.size w w' := by
  have K1 := Lib.hid (awake5_any C D K w hI)
  have hmod := turn_mod5 kk n hk h0
  have hi : kk.toNat % n < n := Nat.mod_lt _ h0
  generalize kk.toNat % n = i at hmod hi
  have HR := Lib.hid hR
  have HNA := Lib.hid hn
  have hmm := @run_makeMap Tryz.prog
  have hd40 : decide ((40 : Int) < (n : Int)) = false := decide_eq_false (by omega)
  have hd0 : ((n : Int) == 0) = false := beq_eq_false_iff_ne.2 (by omega)
  have hmix : Tryz.prog.follows .mixedOrders = true := by kernel_rfl
  have HC := Lib.hid (And.intro hg hc)
  clear hR hn hk hg hc
  go_enter Tryz.func3, Tryz.ntmps3
  go_wp2_with (go_at_call 4; refine K1.out.mono ?_; rintro e w1 ⟨rfl, hb1⟩)
  have hs1 := hb1.size
  obtain ⟨b, hb⟩ : ∃ b, w1.heap.size = b := ⟨_, rfl⟩
  have hm0 : M4 b [] [] [] [] ((((w1.alloc (.map #[] 0)).alloc (.map #[] 0)).alloc (.map #[] 0)).alloc (.map #[] 0)) := hb ▸ M4.made w1
  have hb0 : Below w1.heap.size w1 ((((w1.alloc (.map #[] 0)).alloc (.map #[] 0)).alloc (.map #[] 0)).alloc (.map #[] 0)) := ((((Below.refl _ _).alloc (Nat.le_refl _) _).alloc (by simp) _).alloc (by simp; omega) _).alloc (by simp; omega) _
  have RM0 := Lib.hid (RowM.mk ((HR.out.stay hb1).stay hb0) hm0)
  have HW0 := Lib.hid (hb1.trans (hb0.mono hs1))
  have HB0 : Hid (w.heap.size ≤ b) := Lib.hid (hb ▸ hs1)
  have HNE : Hid (g ≠ b ∧ g ≠ b + 1 ∧ g ≠ b + 2 ∧ g ≠ b + 3) := Lib.hid (by have := HC.out; have := HB0.out; omega)
  rw [hb] at hs1 ⊢
  clear hmm hm0 hb0 hs1
  go_loopw [37] (fun i wr => ∃ k : Nat, k ≤ n ∧ i = .int .i64 k ∧ ∃ (L : List (Kt × Int)) (M : List ((Kt × Kt) × Int)), RowM g off n cap zs b L [] M [] wr ∧ Hid (∀ y, getK L y = sumK ((zs.take k).map mp) y) ∧ Hid (∀ y, getK M y = sumK ((zs.take k).map lm) y) ∧ L.length ≤ k ∧ M.length ≤ k ∧ Below w.heap.size w wr) (fun i _ => n - (RowKit.intOf i).toNat)
  case atStart => exact ⟨0, Nat.zero_le _, rfl, [], [], RM0.out, Lib.hid (fun y => by simp [getK, sumK]), Lib.hid (fun y => by simp [getK, sumK]), by simp, by simp, HW0.out⟩
  case round =>
    obtain ⟨k, hk, rfl, LA, LC, hRM, HL, HM, hLl, hMl, hB⟩ := hrel
    rename World => wr
    by_cases hlt : k < n
    ·
      -- HOLE 1
      obtain ⟨x, hx⟩ : ∃ x, zs[k]? = some x := ⟨zs[k]'(by have := HNA.out; omega), List.getElem?_eq_getElem (by have := HNA.out; omega)⟩
      obtain ⟨g', off', e', hg', hc⟩ := hRM.row.at hx
      cases e'
      have HX := Lib.hid hx
      clear hx
      have c0 := hc 0 _ rfl
      have c1 := hc 1 _ rfl
      have c2 := hc 2 _ rfl
      have c3 := hc 3 _ rfl
      rw [Nat.add_zero] at c0
      clear hc
      have hsz := hB.size
      have HR1 := Lib.hid (hRM.below (B := 0) ((Below.refl wr.heap.size wr).alloc (Nat.le_refl _) (.cells #[.int .u32 (x.k.a : Int), .int .u16 (x.k.e : Int), .int .u16 (x.k.p : Int), .int .i64 x.n] 33)))
      have HBW := Lib.hid (hB.alloc hB.size (.cells #[.int .u32 (x.k.a : Int), .int .u16 (x.k.e : Int), .int .u16 (x.k.p : Int), .int .i64 x.n] 33))
      have hbA := hRM.maps.a.lt
      have hbC := hRM.maps.c.lt
      have b0 := box_cell wr #[.int .u32 (x.k.a : Int), .int .u16 (x.k.e : Int), .int .u16 (x.k.p : Int), .int .i64 x.n] 33 0 _ rfl
      have b1 := box_cell wr #[.int .u32 (x.k.a : Int), .int .u16 (x.k.e : Int), .int .u16 (x.k.p : Int), .int .i64 x.n] 33 1 _ rfl
      have b2 := box_cell wr #[.int .u32 (x.k.a : Int), .int .u16 (x.k.e : Int), .int .u16 (x.k.p : Int), .int .i64 x.n] 33 2 _ rfl
      have b3 := box_cell wr #[.int .u32 (x.k.a : Int), .int .u16 (x.k.e : Int), .int .u16 (x.k.p : Int), .int .i64 x.n] 33 3 _ rfl
      have hWs : (wr.alloc (.cells #[.int .u32 (x.k.a : Int), .int .u16 (x.k.e : Int), .int .u16 (x.k.p : Int), .int .i64 x.n] 33)).heap.size = wr.heap.size + 1 := by simp
      have hcb := lm_bd (zs.take k) (x.k.small, oneK)
      have hcl : (zs.take k).length ≤ k := by rw [List.length_take]; omega
      have S1 : Hid (∀ w, Calls Tryz.prog 6 #[.agg #[.int .u32 (x.k.a : Int), .int .u16 (x.k.e : Int), .int .u16 (x.k.p : Int)]] w fun e w' => e = .returned (kv x.k.small) ∧ Below w.heap.size w w') := Lib.hid (fun w => small_k x.k w)
      have A1 := Lib.hid (fun (w : World) (h : MapOf kv wv (b) LA w) => sadd_k (b) LA x.k.small x.n w h x.hn)
      have A3 : Hid (∀ w, MapOf pv (Value.int .i64) (b + 2) LC w → Calls Tryz.prog 7 #[.map (some (b + 2)), kv x.k.small, .agg #[.int .u32 1, .int .u16 0, .int .u16 0]] w fun e w' => e = .returned (.tuple #[]) ∧ MapOf pv (Value.int .i64) (b + 2) (putK LC (x.k.small, oneK) ((getK LC (x.k.small, oneK)).getD 0 + 1)) w' ∧ w.grownBy w' (some (b + 2))) := Lib.hid (fun w h => llink_k (b + 2) LC x.k.small oneK w h (by rw [HM.out]; exact hcb.1) (by rw [HM.out]; omega))
      have HLL := Lib.hid hLl
      have HML := Lib.hid hMl
      have HBS := Lib.hid (And.intro hbA hbC)
      have HSZ := Lib.hid hsz
      clear hB hRM hLl hMl hcb hcl hbA hbC hsz
      go_wp2_with fail
      generalize wr.alloc (.cells #[.int .u32 (x.k.a : Int), .int .u16 (x.k.e : Int), .int .u16 (x.k.p : Int), .int .i64 x.n] 33) = W at *
      have d0 := fun d os => cell_regrown b0 d os
      have d1 := fun d os => cell_regrown b1 d os
      have d2 := fun d os => cell_regrown b2 d os
      have d3 := fun d os => cell_regrown b3 d os
      refine wp_tail_below 6 hmix (by kernel_rfl) ?_
      simp only [List.take_succ_cons, List.take_zero, List.drop_succ_cons, List.drop_zero]
      repeat (first | go_big_quiet_step ((go_at_call 6; with_reducible exact Calls.regrown_of (S1.out _))) | quiet_step ((go_at_call 6; with_reducible exact Calls.regrown_of (S1.out _))))
      refine wpQuiet_nil ?_
      intro w3 hw3
      have hb3 : Below W.heap.size W w3 := by obtain ⟨q, rfl⟩ := hw3; exact below_regrown _ _ _
      have p0 := (hb3.cell (p := ⟨wr.heap.size, 0, none⟩) (by show wr.heap.size < _; omega)).trans b0
      have p1 := (hb3.cell (p := ⟨wr.heap.size, 1, none⟩) (by show wr.heap.size < _; omega)).trans b1
      have p2 := (hb3.cell (p := ⟨wr.heap.size, 2, none⟩) (by show wr.heap.size < _; omega)).trans b2
      have p3 := (hb3.cell (p := ⟨wr.heap.size, 3, none⟩) (by show wr.heap.size < _; omega)).trans b3
      have HR3 := Lib.hid (HR1.out.below (B := 0) hb3)
      have HB3 := Lib.hid (HBW.out.trans (hb3.mono HBW.out.size))
      clear d0 d1 d2 d3 b0 b1 b2 b3 hw3 hb3 c0 c1 c2 c3
      go_wp2_with (first
        | (go_at_call 5; ((with_reducible refine (A1.out _ HR3.out.maps.a).mono ?_); rintro e w4 ⟨rfl, hM4, hg4⟩; have q0 := hg4.cell p0 (by simp; have := HBS.out.1; omega); have q1 := hg4.cell p1 (by simp; have := HBS.out.1; omega); have q2 := hg4.cell p2 (by simp; have := HBS.out.1; omega); have q3 := hg4.cell p3 (by simp; have := HBS.out.1; omega); have HR4 := Lib.hid (RowM.mk (HR3.out.row.grown hg4 HNE.out.1) (HR3.out.maps.setA hM4 hg4)); have HB4 := Lib.hid (HB3.out.grown hg4 HB3.out.size (fun j hj => by cases hj; have := HB0.out; omega)); clear hM4 hg4))
        | (go_at_call 6; ((with_reducible refine (S1.out _).mono ?_); rintro e w5 ⟨rfl, hb5⟩; have HR5 := Lib.hid (HR4.out.below (B := 0) hb5); have HB5 := Lib.hid (HB4.out.trans (hb5.mono HB4.out.size)); clear hb5))
        | (go_at_call 7; ((with_reducible refine (A3.out _ HR5.out.maps.c).mono ?_); rintro e w6 ⟨rfl, hM6, hg6⟩; have HR6 := Lib.hid (RowM.mk (HR5.out.row.grown hg6 HNE.out.2.2.1) (HR5.out.maps.setC hM6 hg6)); have HB6 := Lib.hid (HB5.out.grown hg6 HB5.out.size (fun j hj => by cases hj; have := HB0.out; omega)); clear hM6 hg6)))
      go_roundw
      case rel =>
        refine ⟨k + 1, by omega, by go_num, putK LA x.k.small ((getK LA x.k.small).getD 0 + x.n), putK LC (x.k.small, oneK) ((getK LC (x.k.small, oneK)).getD 0 + 1), HR6.out, Lib.hid (fun y => ?_), Lib.hid (fun y => ?_), Nat.le_trans (length_putK _ _ _) (by have := HLL.out; omega), Nat.le_trans (length_putK _ _ _) (by have := HML.out; omega), HB6.out⟩
        · rw [take_map mp zs k HX.out, sumK_snoc, getK_putK, HL.out, HL.out]
          show _ = if x.k.small = y then some ((sumK ((zs.take k).map mp) y).getD 0 + x.n) else _
          by_cases h : x.k.small = y
          · subst h; rfl
          · rw [if_neg h, if_neg h]
        · rw [take_map lm zs k HX.out, sumK_snoc, getK_putK, HM.out, HM.out]
          show _ = if (x.k.small, oneK) = y then some ((sumK ((zs.take k).map lm) y).getD 0 + 1) else _
          by_cases h : (x.k.small, oneK) = y
          · subst h; rfl
          · rw [if_neg h, if_neg h]
      case measure => simp [RowKit.intOf]; omega
      -- END 1
    · obtain rfl : n = k := by omega
      have HLA : Hid (∀ y, getK LA y = sumK (zs.map mp) y) := Lib.hid (fun y => by have := HL.out y; rw [HNA.out, List.take_length] at this; exact this)
      have HLC : Hid (∀ y, getK LC y = sumK (zs.map lm) y) := Lib.hid (fun y => by have := HM.out y; rw [HNA.out, List.take_length] at this; exact this)
      have hsf := fun (w' : World) => slice_fromM ⟨g, off, none⟩ n cap i (by omega) (by have := HC.out; omega) w'
      have hst := fun (w' : World) => slice_toM ⟨g, off, none⟩ n cap i (by have := HC.out; omega) w'
      rw [Lib.add_plain] at hsf
      have HRM := Lib.hid hRM
      have HBR := Lib.hid hB
      have HLL := Lib.hid hLl
      have HML := Lib.hid hMl
      have hgr : g < wr.heap.size := Nat.lt_of_lt_of_le HC.out.1 hB.size
      clear HL HM hRM hB hLl hMl RM0 HW0
      go_wp2_with fail
      -- HOLE 6
      refine wp_region_any (by kernel_rfl) ?_
      change wpAny _ _ _ _ _ _ _ (World.drew _)
      refine wpAny_take (i := 0) (v := .slice (some ⟨g, off, none⟩) n cap) rfl (by kernel_rfl) (by kernel_rfl) (by kernel_rfl) (fun _ _ _ h => h) (Or.inl ⟨by rfl, ?_⟩) ?_
      · intro w'; go_simp
      refine wpAny_take (i := 1) (v := .int .i64 (i : Int)) rfl (by kernel_rfl) (by kernel_rfl) (by kernel_rfl) (fun _ _ _ h => h) (Or.inl ⟨by rfl, ?_⟩) ?_
      · intro w'; go_simp
      refine wpAny_take (i := 2) (v := .slice (some ⟨g, off + i * 4, none⟩) (n - i) (cap - i)) rfl (by kernel_rfl) (by kernel_rfl) (by kernel_rfl) (fun _ _ _ h => h) (Or.inl ⟨by rfl, ?_⟩) ?_
      · intro w'; go_simp
      refine wpAny_take (i := 4) (v := .slice (some ⟨g, off, none⟩) n cap) rfl (by kernel_rfl) (by kernel_rfl) (by kernel_rfl) (fun _ _ _ h => h) (Or.inl ⟨by rfl, ?_⟩) ?_
      · intro w'; go_simp
      refine wpAny_take (i := 5) (v := .int .i64 (i : Int)) rfl (by kernel_rfl) (by kernel_rfl) (by kernel_rfl) (fun _ _ _ h => h) (Or.inl ⟨by rfl, ?_⟩) ?_
      · intro w'; go_simp
      refine wpAny_take (i := 6) (v := .slice (some ⟨g, off, none⟩) i cap) rfl (by kernel_rfl) (by kernel_rfl) (by kernel_rfl) (fun _ _ _ h => h) (Or.inl ⟨by rfl, ?_⟩) ?_
      · intro w'; go_simp
      refine wpAny_take (i := 9) (v := .int .i64 0) rfl (by kernel_rfl) (by kernel_rfl) (by kernel_rfl) (fun _ _ _ h => h) (Or.inl ⟨by rfl, ?_⟩) ?_
      · intro w'; go_simp
      simp only [Act.put, List.getElem_toArray, List.getElem_cons_zero, List.getElem_cons_succ, List.setIfInBounds_toArray, List.set_cons_zero, List.set_cons_succ]
      have ld : (zs.drop i).length = n - i := by rw [List.length_drop, ← HNA.out]
      have lt : (zs.take i).length = i := by rw [List.length_take, ← HNA.out]; omega
      have RD := Lib.hid ((HRM.out.row.stay ((Below.refl wr.heap.size wr).drew)).drop hgr HNA.out HC.out.2 (by omega) i (by omega))
      have RT := Lib.hid ((HRM.out.row.stay ((Below.refl wr.heap.size wr).drew)).take hgr HNA.out HC.out.2 (by omega) i (by omega))
      have hcl := clone_m g (off + i * 4) (n - i) (cap - i) (zs.drop i) wr.drew RD.out hgr (by omega) ld.symm (by omega)
      refine any1 3 (by kernel_rfl) ?_
      refine op_call (.call { callee := .value (.func 8), args := #[.tmp 57], argTypes := #[22] }) (some 58) (by unfold opIs; kernel_rfl) 8 #[.slice (some ⟨g, off + i * 4, none⟩) (n - i) (cap - i)] (fun o ho => by unfold execOp; rw [ho]; kernel_rfl) hcl ?_
      rintro e w3 ⟨v, rfl, hown, hb3⟩
      refine ⟨_, rfl, ?_⟩
      simp only [Act.put, List.getElem_toArray, List.getElem_cons_zero, List.getElem_cons_succ, List.setIfInBounds_toArray, List.set_cons_zero, List.set_cons_succ]
      have hB3 : Below wr.heap.size wr w3 := ((Below.refl wr.heap.size wr).drew).trans (hb3.mono (Nat.le_refl _))
      obtain ⟨i0, hi0, hz0, hz1, hz2⟩ := info_parts infoM
      refine any1 7 (by kernel_rfl) ?_
      refine op_any (op := .call { callee := .builtin .append, args := #[.tmp 58, .tmp 61], argTypes := #[22, 22] }) (dst := some 62) (by unfold opIs; kernel_rfl) (fun o h1 h2 => ?_)
      refine wp_append_own w3 (.tmp 58) (.tmp 61) 22 h1 wr.drew.heap.size 33 i0 (.agg #[.int .u32 0, .int .u16 0, .int .u16 0, .int .i64 0]) 4 16 Tryz.underlying22 hi0 hz0 hz1 hz2 rfl (by decide) v (n - i) ((zs.drop i).flatMap mc) (by kernel_rfl) hown ⟨g, off, none⟩ i cap ((zs.take i).flatMap mc) (by kernel_rfl) (by rw [flat_len mc_len, lt]) (fun j u hu => by
        rw [Lib.add_plain]
        exact recs_flat mc_len (by omega) (RT.out.stay hb3) j u hu) (flat_one mc_one _) (by unfold maxLen; omega) (by omega) hb3.size (fun v' w4 hown4 hgr4 _ => ?_)
      rw [h2]
      simp only [Act.put, List.getElem_toArray, List.getElem_cons_zero, List.getElem_cons_succ, List.setIfInBounds_toArray, List.set_cons_zero, List.set_cons_succ]
      have hB4 : Below wr.heap.size wr w4 := hB3.grown hgr4 hB3.size (fun k hk => (hown.lt k hk).1)
      have hlen2 : (zs.drop i ++ zs.take i).length = n := by rw [List.length_append, ld, lt]; omega
      have hni : n - i + i = n := by omega
      rw [← List.flatMap_append, hni] at hown4
      have hrec := recs_of_owns mc_len hown4 hlen2.symm (by omega)
      have HPM := Lib.hid (turn_perm zs i)
      obtain ⟨zs2, hzs2⟩ : ∃ zs2, zs.drop i ++ zs.take i = zs2 := ⟨_, rfl⟩
      rw [hzs2] at hrec hlen2 HPM hown4
      rcases hrec with ⟨_, _, _, h2'⟩ | ⟨g2, o2, cap2, hv', hg2, _, hc2, hcells⟩
      · rw [h2'] at hlen2; simp at hlen2; omega
      rw [hlen2] at hv'
      have hbase := (hown4.lt g2 (by rw [hv']; rfl)).1
      subst hv'
      have hrow : Recs mc 4 w4 (.slice (some ⟨g2, o2, none⟩) n cap2) zs2 := .inr ⟨g2, o2, cap2, by rw [hlen2], hg2, by omega, hc2, hcells⟩
      have RM0 := Lib.hid (RowM.mk hrow (HRM.out.maps.below hB4 (Nat.le_refl _)))
      have HW0 := Lib.hid (HBR.out.trans (hB4.mono HBR.out.size))
      have HNB := Lib.hid hlen2.symm
      have HNE2 : Hid (g2 ≠ b ∧ g2 ≠ b + 1 ∧ g2 ≠ b + 2 ∧ g2 ≠ b + 3) := Lib.hid (by
        have h4 := HRM.out.maps.d.lt
        have h5 : wr.heap.size ≤ g2 := hbase
        omega)
      refine wpAny_take (i := 8) (v := .int .i64 (n : Int)) rfl (by kernel_rfl) (by kernel_rfl) (by kernel_rfl) (fun _ _ _ h => h) (Or.inl ⟨by rfl, ?_⟩) ?_
      · intro w'; go_simp
      refine wpAny_done (by kernel_rfl) ?_ _
      simp only [Act.put, List.getElem_toArray, List.getElem_cons_zero, List.getElem_cons_succ, List.setIfInBounds_toArray, List.set_cons_zero, List.set_cons_succ]
      clear hrow hcells hg2 hc2 hbase hown4 hown hgr4 hB4 hB3 hcl RD RT ld lt hi0 hz0 hz1 hz2 hsf hst hb3 h1 h2 HNE HRM HBR hlen2 hzs2 hgr hni
      have HNE := HNE2
      clear HNE2
      go_wp2_with fail
      go_loopw [64] (fun i wr => ∃ k : Nat, k ≤ n ∧ i = .int .i64 k ∧ ∃ (L : List (Kt × Int)) (M : List ((Kt × Kt) × Int)), RowM g2 o2 n cap2 zs2 b LA L LC M wr ∧ Hid (∀ y, getK L y = sumK ((zs2.take k).map mp) y) ∧ Hid (∀ y, getK M y = sumK ((zs2.take k).map lm) y) ∧ L.length ≤ k ∧ M.length ≤ k ∧ Below w.heap.size w wr) (fun i _ => n - (RowKit.intOf i).toNat)
      case atStart => exact ⟨0, Nat.zero_le _, rfl, [], [], RM0.out, Lib.hid (fun y => by simp [getK, sumK]), Lib.hid (fun y => by simp [getK, sumK]), by simp, by simp, HW0.out⟩
      case round =>
        obtain ⟨k, hk, rfl, LB, LD, hRM, HL, HM, hLl, hMl, hB⟩ := hrel
        rename World => wt
        by_cases hlt : k < n
        ·
          -- HOLE 2
          obtain ⟨x, hx⟩ : ∃ x, zs2[k]? = some x := ⟨zs2[k]'(by have := HNB.out; omega), List.getElem?_eq_getElem (by have := HNB.out; omega)⟩
          obtain ⟨g', off', e', hg', hc⟩ := hRM.row.at hx
          cases e'
          have HX := Lib.hid hx
          clear hx
          have c0 := hc 0 _ rfl
          have c1 := hc 1 _ rfl
          have c2 := hc 2 _ rfl
          have c3 := hc 3 _ rfl
          rw [Nat.add_zero] at c0
          clear hc
          have hsz := hB.size
          have HR1 := Lib.hid (hRM.below (B := 0) ((Below.refl wt.heap.size wt).alloc (Nat.le_refl _) (.cells #[.int .u32 (x.k.a : Int), .int .u16 (x.k.e : Int), .int .u16 (x.k.p : Int), .int .i64 x.n] 33)))
          have HBW := Lib.hid (hB.alloc hB.size (.cells #[.int .u32 (x.k.a : Int), .int .u16 (x.k.e : Int), .int .u16 (x.k.p : Int), .int .i64 x.n] 33))
          have hbA := hRM.maps.b.lt
          have hbC := hRM.maps.d.lt
          have b0 := box_cell wt #[.int .u32 (x.k.a : Int), .int .u16 (x.k.e : Int), .int .u16 (x.k.p : Int), .int .i64 x.n] 33 0 _ rfl
          have b1 := box_cell wt #[.int .u32 (x.k.a : Int), .int .u16 (x.k.e : Int), .int .u16 (x.k.p : Int), .int .i64 x.n] 33 1 _ rfl
          have b2 := box_cell wt #[.int .u32 (x.k.a : Int), .int .u16 (x.k.e : Int), .int .u16 (x.k.p : Int), .int .i64 x.n] 33 2 _ rfl
          have b3 := box_cell wt #[.int .u32 (x.k.a : Int), .int .u16 (x.k.e : Int), .int .u16 (x.k.p : Int), .int .i64 x.n] 33 3 _ rfl
          have hWs : (wt.alloc (.cells #[.int .u32 (x.k.a : Int), .int .u16 (x.k.e : Int), .int .u16 (x.k.p : Int), .int .i64 x.n] 33)).heap.size = wt.heap.size + 1 := by simp
          have hcb := lm_bd (zs2.take k) (x.k.small, oneK)
          have hcl : (zs2.take k).length ≤ k := by rw [List.length_take]; omega
          have S1 : Hid (∀ w, Calls Tryz.prog 6 #[.agg #[.int .u32 (x.k.a : Int), .int .u16 (x.k.e : Int), .int .u16 (x.k.p : Int)]] w fun e w' => e = .returned (kv x.k.small) ∧ Below w.heap.size w w') := Lib.hid (fun w => small_k x.k w)
          have A1 := Lib.hid (fun (w : World) (h : MapOf kv wv (b + 1) LB w) => sadd_k (b + 1) LB x.k.small x.n w h x.hn)
          have A3 : Hid (∀ w, MapOf pv (Value.int .i64) (b + 3) LD w → Calls Tryz.prog 7 #[.map (some (b + 3)), kv x.k.small, .agg #[.int .u32 1, .int .u16 0, .int .u16 0]] w fun e w' => e = .returned (.tuple #[]) ∧ MapOf pv (Value.int .i64) (b + 3) (putK LD (x.k.small, oneK) ((getK LD (x.k.small, oneK)).getD 0 + 1)) w' ∧ w.grownBy w' (some (b + 3))) := Lib.hid (fun w h => llink_k (b + 3) LD x.k.small oneK w h (by rw [HM.out]; exact hcb.1) (by rw [HM.out]; omega))
          have HLL := Lib.hid hLl
          have HML := Lib.hid hMl
          have HBS := Lib.hid (And.intro hbA hbC)
          have HSZ := Lib.hid hsz
          clear hB hRM hLl hMl hcb hcl hbA hbC hsz
          go_wp2_with fail
          generalize wt.alloc (.cells #[.int .u32 (x.k.a : Int), .int .u16 (x.k.e : Int), .int .u16 (x.k.p : Int), .int .i64 x.n] 33) = W at *
          have d0 := fun d os => cell_regrown b0 d os
          have d1 := fun d os => cell_regrown b1 d os
          have d2 := fun d os => cell_regrown b2 d os
          have d3 := fun d os => cell_regrown b3 d os
          refine wp_tail_below 6 hmix (by kernel_rfl) ?_
          simp only [List.take_succ_cons, List.take_zero, List.drop_succ_cons, List.drop_zero]
          repeat (first | go_big_quiet_step ((go_at_call 6; with_reducible exact Calls.regrown_of (S1.out _))) | quiet_step ((go_at_call 6; with_reducible exact Calls.regrown_of (S1.out _))))
          refine wpQuiet_nil ?_
          intro w3 hw3
          have hb3 : Below W.heap.size W w3 := by obtain ⟨q, rfl⟩ := hw3; exact below_regrown _ _ _
          have p0 := (hb3.cell (p := ⟨wt.heap.size, 0, none⟩) (by show wt.heap.size < _; omega)).trans b0
          have p1 := (hb3.cell (p := ⟨wt.heap.size, 1, none⟩) (by show wt.heap.size < _; omega)).trans b1
          have p2 := (hb3.cell (p := ⟨wt.heap.size, 2, none⟩) (by show wt.heap.size < _; omega)).trans b2
          have p3 := (hb3.cell (p := ⟨wt.heap.size, 3, none⟩) (by show wt.heap.size < _; omega)).trans b3
          have HR3 := Lib.hid (HR1.out.below (B := 0) hb3)
          have HB3 := Lib.hid (HBW.out.trans (hb3.mono HBW.out.size))
          clear d0 d1 d2 d3 b0 b1 b2 b3 hw3 hb3 c0 c1 c2 c3
          go_wp2_with (first
            | (go_at_call 5; ((with_reducible refine (A1.out _ HR3.out.maps.b).mono ?_); rintro e w4 ⟨rfl, hM4, hg4⟩; have q0 := hg4.cell p0 (by simp; have := HBS.out.1; omega); have q1 := hg4.cell p1 (by simp; have := HBS.out.1; omega); have q2 := hg4.cell p2 (by simp; have := HBS.out.1; omega); have q3 := hg4.cell p3 (by simp; have := HBS.out.1; omega); have HR4 := Lib.hid (RowM.mk (HR3.out.row.grown hg4 HNE.out.2.1) (HR3.out.maps.setB hM4 hg4)); have HB4 := Lib.hid (HB3.out.grown hg4 HB3.out.size (fun j hj => by cases hj; have := HB0.out; omega)); clear hM4 hg4))
            | (go_at_call 6; ((with_reducible refine (S1.out _).mono ?_); rintro e w5 ⟨rfl, hb5⟩; have HR5 := Lib.hid (HR4.out.below (B := 0) hb5); have HB5 := Lib.hid (HB4.out.trans (hb5.mono HB4.out.size)); clear hb5))
            | (go_at_call 7; ((with_reducible refine (A3.out _ HR5.out.maps.d).mono ?_); rintro e w6 ⟨rfl, hM6, hg6⟩; have HR6 := Lib.hid (RowM.mk (HR5.out.row.grown hg6 HNE.out.2.2.2) (HR5.out.maps.setD hM6 hg6)); have HB6 := Lib.hid (HB5.out.grown hg6 HB5.out.size (fun j hj => by cases hj; have := HB0.out; omega)); clear hM6 hg6)))
          go_roundw
          case rel =>
            refine ⟨k + 1, by omega, by go_num, putK LB x.k.small ((getK LB x.k.small).getD 0 + x.n), putK LD (x.k.small, oneK) ((getK LD (x.k.small, oneK)).getD 0 + 1), HR6.out, Lib.hid (fun y => ?_), Lib.hid (fun y => ?_), Nat.le_trans (length_putK _ _ _) (by have := HLL.out; omega), Nat.le_trans (length_putK _ _ _) (by have := HML.out; omega), HB6.out⟩
            · rw [take_map mp zs2 k HX.out, sumK_snoc, getK_putK, HL.out, HL.out]
              show _ = if x.k.small = y then some ((sumK ((zs2.take k).map mp) y).getD 0 + x.n) else _
              by_cases h : x.k.small = y
              · subst h; rfl
              · rw [if_neg h, if_neg h]
            · rw [take_map lm zs2 k HX.out, sumK_snoc, getK_putK, HM.out, HM.out]
              show _ = if (x.k.small, oneK) = y then some ((sumK ((zs2.take k).map lm) y).getD 0 + 1) else _
              by_cases h : (x.k.small, oneK) = y
              · subst h; rfl
              · rw [if_neg h, if_neg h]
          case measure => simp [RowKit.intOf]; omega
          -- END 2
        · obtain rfl : n = k := by omega
          have HLB : Hid (∀ y, getK LB y = sumK (zs.map mp) y) := Lib.hid (fun y => by have := HL.out y; rw [HNB.out, List.take_length] at this; rw [this]; exact sumK_perm (HPM.out.map mp) y)
          have HLD : Hid (∀ y, getK LD y = sumK (zs.map lm) y) := Lib.hid (fun y => by have := HM.out y; rw [HNB.out, List.take_length] at this; rw [this]; exact sumK_perm (HPM.out.map lm) y)
          have hla := HLL.out
          have hlc := HML.out
          have K2 := Lib.hid (skeys_k b LA wt hRM.maps.a (by omega))
          have HRM := Lib.hid hRM
          have HB := Lib.hid hB
          have HLN := Lib.hid (show LA.length < 1073741824 ∧ LB.length < 1073741824 ∧ LC.length < 1073741824 ∧ LD.length < 1073741824 by omega)
          clear hRM hB hLl hMl HL HM hla hlc RM0 HW0
          go_wp2_with (go_at_call 9; refine K2.out.mono ?_; rintro e w7 ⟨v, ks, rfl, hq⟩; obtain ⟨r7, cap7, rfl, hkl⟩ := hq.2.2.1.form; have HQ := Lib.hid hq; clear hq)
          obtain ⟨hp, hr, hrec, hb2⟩ := HQ.out
          have HREC := Lib.hid hrec
          have HMAP := Lib.hid (HRM.out.maps.below hb2 (Nat.le_refl _))
          have HB7 := Lib.hid (HB.out.trans (hb2.mono HB.out.size))
          have KA : Hid (∀ w, M4 b LA LB LC LD w → Calls Tryz.prog 9 #[.map (some b)] w fun e w' => ∃ v, e = .returned v ∧ Recs kc 3 w' v ks ∧ Below w.heap.size w w') := Lib.hid (fun w h => (skeys_k b LA w h.a HLN.out.1).mono (fun e w' => by
            rintro ⟨v, ks', he, hp', hr', hrec', hb'⟩
            have := keys_one (fun _ _ => Kt.num_inj) HLA.out HLA.out hp hp' hr hr'
            rw [this] at hrec'
            exact ⟨v, he, hrec', hb'⟩))
          have KB : Hid (∀ w, M4 b LA LB LC LD w → Calls Tryz.prog 9 #[.map (some (b + 1))] w fun e w' => ∃ v, e = .returned v ∧ Recs kc 3 w' v ks ∧ Below w.heap.size w w') := Lib.hid (fun w h => (skeys_k (b + 1) LB w h.b HLN.out.2.1).mono (fun e w' => by
            rintro ⟨v, ks', he, hp', hr', hrec', hb'⟩
            have := keys_one (fun _ _ => Kt.num_inj) HLA.out HLB.out hp hp' hr hr'
            rw [this] at hrec'
            exact ⟨v, he, hrec', hb'⟩))
          obtain ⟨ps, hps⟩ : ∃ ps, ks.map (fun y => (y, oneK)) = ps := ⟨_, rfl⟩
          have HPL : Hid (ps.length = ks.length) := Lib.hid (by rw [← hps, List.length_map])
          have PC : Hid (∀ w, M4 b LA LB LC LD w → Calls Tryz.prog 13 #[.map (some (b + 2))] w fun e w' => ∃ v, e = .returned v ∧ Recs pc 6 w' v ps ∧ Below w.heap.size w w') := Lib.hid (fun w h => (lpairs_k (b + 2) LC w h.c HLN.out.2.2.1).mono (fun e w' => by
            rintro ⟨v, ps', he, hp', hr', hrec', hb'⟩
            have := pairs_keys hr hr' (keys_mem HLA.out hp) (keys_mem HLC.out hp')
            rw [this, hps] at hrec'
            exact ⟨v, he, hrec', hb'⟩))
          have PD : Hid (∀ w, M4 b LA LB LC LD w → Calls Tryz.prog 13 #[.map (some (b + 3))] w fun e w' => ∃ v, e = .returned v ∧ Recs pc 6 w' v ps ∧ Below w.heap.size w w') := Lib.hid (fun w h => (lpairs_k (b + 3) LD w h.d HLN.out.2.2.2).mono (fun e w' => by
            rintro ⟨v, ps', he, hp', hr', hrec', hb'⟩
            have := pairs_keys hr hr' (keys_mem HLA.out hp) (keys_mem HLD.out hp')
            rw [this, hps] at hrec'
            exact ⟨v, he, hrec', hb'⟩))
          clear hp hr hrec hb2 HQ K2 hps
          go_loopw [85] (fun i wq => ∃ j : Nat, j ≤ ks.length ∧ i = .int .i64 j ∧ Below w7.heap.size w7 wq) (fun i _ => ks.length - (RowKit.intOf i).toNat)
          case atStart => exact ⟨0, Nat.zero_le _, rfl, Below.refl _ _⟩
          case round =>
            obtain ⟨j, hj, rfl, hBq⟩ := hrel
            rename World => wq
            by_cases hjl : j < ks.length
            ·
              -- HOLE 8
              obtain ⟨y, hy⟩ : ∃ y, ks[j]? = some y := ⟨ks[j], List.getElem?_eq_getElem hjl⟩
              obtain ⟨g3, o3, rfl, hg3, hc3⟩ := HREC.out.at hy
              have e0 := (hBq.cell (p := ⟨g3, o3 + j * 3 + 0, none⟩) hg3).trans (hc3 0 _ rfl)
              have e1 := (hBq.cell (p := ⟨g3, o3 + j * 3 + 1, none⟩) hg3).trans (hc3 1 _ rfl)
              have e2 := (hBq.cell (p := ⟨g3, o3 + j * 3 + 2, none⟩) hg3).trans (hc3 2 _ rfl)
              rw [Nat.add_zero] at e0
              clear hc3 hy
              have hBW := hBq.alloc hBq.size (.cells #[.int .u32 (y.a : Int), .int .u16 (y.e : Int), .int .u16 (y.p : Int)] 31)
              have hm := HMAP.out.below hBW (Nat.le_refl _)
              have b0 := box_cell wq #[.int .u32 (y.a : Int), .int .u16 (y.e : Int), .int .u16 (y.p : Int)] 31 0 _ rfl
              have b1 := box_cell wq #[.int .u32 (y.a : Int), .int .u16 (y.e : Int), .int .u16 (y.p : Int)] 31 1 _ rfl
              have b2 := box_cell wq #[.int .u32 (y.a : Int), .int .u16 (y.e : Int), .int .u16 (y.p : Int)] 31 2 _ rfl
              obtain ⟨S, hS⟩ : ∃ S, (sumK (zs.map mp) y).getD 0 = S := ⟨_, rfl⟩
              obtain ⟨c, hcc⟩ : ∃ c, (sumK (zs.map lm) (y, oneK)).getD 0 = c := ⟨_, rfl⟩
              have hl1 := fun d os => (hm.below (below_regrown (wq.alloc (.cells #[.int .u32 (y.a : Int), .int .u16 (y.e : Int), .int .u16 (y.p : Int)] 31)) d os) (Nat.le_refl _)).a.look map_s y false
              have hl2 := fun d os => (hm.below (below_regrown (wq.alloc (.cells #[.int .u32 (y.a : Int), .int .u16 (y.e : Int), .int .u16 (y.p : Int)] 31)) d os) (Nat.le_refl _)).b.look map_s y false
              simp only [HLA.out, HLB.out, hS, Bool.false_eq_true, if_false] at hl1 hl2
              unfold kv wv at hl1 hl2
              have M1 : Hid (∀ d os, Calls Tryz.prog 10 #[.map (some (b + 2)), .agg #[.int .u32 (y.a : Int), .int .u16 (y.e : Int), .int .u16 (y.p : Int)], .agg #[.int .u32 1, .int .u16 0, .int .u16 0]] (grow (redrawn (wq.alloc (.cells #[.int .u32 (y.a : Int), .int .u16 (y.e : Int), .int .u16 (y.p : Int)] 31)) d) os) fun e w' => e = .returned (.int .i64 c) ∧ Below (grow (redrawn (wq.alloc (.cells #[.int .u32 (y.a : Int), .int .u16 (y.e : Int), .int .u16 (y.p : Int)] 31)) d) os).heap.size (grow (redrawn (wq.alloc (.cells #[.int .u32 (y.a : Int), .int .u16 (y.e : Int), .int .u16 (y.p : Int)] 31)) d) os) w') := Lib.hid (fun d os => by
                have := lmany_k (b + 2) LC y oneK (grow (redrawn (wq.alloc (.cells #[.int .u32 (y.a : Int), .int .u16 (y.e : Int), .int .u16 (y.p : Int)] 31)) d) os) (hm.below (below_regrown (wq.alloc (.cells #[.int .u32 (y.a : Int), .int .u16 (y.e : Int), .int .u16 (y.p : Int)] 31)) d os) (Nat.le_refl _)).c
                rw [HLC.out, hcc] at this
                exact this)
              have M2 : Hid (∀ d os, Calls Tryz.prog 10 #[.map (some (b + 3)), .agg #[.int .u32 (y.a : Int), .int .u16 (y.e : Int), .int .u16 (y.p : Int)], .agg #[.int .u32 1, .int .u16 0, .int .u16 0]] (grow (redrawn (wq.alloc (.cells #[.int .u32 (y.a : Int), .int .u16 (y.e : Int), .int .u16 (y.p : Int)] 31)) d) os) fun e w' => e = .returned (.int .i64 c) ∧ Below (grow (redrawn (wq.alloc (.cells #[.int .u32 (y.a : Int), .int .u16 (y.e : Int), .int .u16 (y.p : Int)] 31)) d) os).heap.size (grow (redrawn (wq.alloc (.cells #[.int .u32 (y.a : Int), .int .u16 (y.e : Int), .int .u16 (y.p : Int)] 31)) d) os) w') := Lib.hid (fun d os => by
                have := lmany_k (b + 3) LD y oneK (grow (redrawn (wq.alloc (.cells #[.int .u32 (y.a : Int), .int .u16 (y.e : Int), .int .u16 (y.p : Int)] 31)) d) os) (hm.below (below_regrown (wq.alloc (.cells #[.int .u32 (y.a : Int), .int .u16 (y.e : Int), .int .u16 (y.p : Int)] 31)) d os) (Nat.le_refl _)).d
                rw [HLD.out, hcc] at this
                exact this)
              have hnq := fun w => neq_w S w
              have HBW := Lib.hid hBW
              clear hBq hm hS hcc hBW
              go_wp2_with fail
              generalize wq.alloc (.cells #[.int .u32 (y.a : Int), .int .u16 (y.e : Int), .int .u16 (y.p : Int)] 31) = W at *
              have d0 := fun d os => cell_regrown b0 d os
              have d1 := fun d os => cell_regrown b1 d os
              have d2 := fun d os => cell_regrown b2 d os
              refine wp_region_quiet_below hmix (by kernel_rfl) ?_
              repeat (first | go_big_quiet_step ((first | (go_at_call 10; with_reducible exact Calls.regrown_of (M1.out _ _)) | (go_at_call 10; with_reducible exact Calls.regrown_of (M2.out _ _)))) | quiet_step ((first | (go_at_call 10; with_reducible exact Calls.regrown_of (M1.out _ _)) | (go_at_call 10; with_reducible exact Calls.regrown_of (M2.out _ _)))))
              refine wpQuiet_nil ?_
              intro w3 hw3
              have hb3 : Below W.heap.size W w3 := by obtain ⟨q, rfl⟩ := hw3; exact below_regrown _ _ _
              have HB3 := Lib.hid hb3
              clear d0 d1 d2 b0 b1 b2 hw3 hb3 e0 e1 e2 hl1 hl2 hnq
              go_wp2
              go_roundw
              case rel => exact ⟨j + 1, by omega, by go_num, HBW.out.trans (HB3.out.mono HBW.out.size)⟩
              case measure => simp [RowKit.intOf]; omega
              -- END 8
            · obtain rfl : ks.length = j := by omega
              -- HOLE 9
              have HMQ := Lib.hid (HMAP.out.below hBq (Nat.le_refl _))
              have HBQ := Lib.hid (HB7.out.trans (hBq.mono HB7.out.size))
              clear hBq
              go_wp2_with (first
                | (go_at_call 9; (first
                    | (refine (KA.out _ HM7.out).mono ?_; rintro e w18 ⟨v8, rfl, hr8, hb8⟩; obtain ⟨r8, cap8, rfl, _⟩ := hr8.form; have HB18 := Lib.hid (HB17.out.trans (hb8.mono HB17.out.size)); clear hr8 hb8)
                    | (refine (KB.out _ HM1.out).mono ?_; rintro e w12 ⟨v2, rfl, hr2, hb2⟩; have HR12 := Lib.hid (HR11.out.stay hb2); have HR2 := Lib.hid hr2; have HM2 := Lib.hid (HM1.out.below hb2 (Nat.le_refl _)); have HB12 := Lib.hid (HB11.out.trans (hb2.mono HB11.out.size)); clear hr2 hb2)
                    | (refine (KA.out _ HMQ.out).mono ?_; rintro e w11 ⟨v1, rfl, hr1, hb1⟩; have HR11 := Lib.hid hr1; have HM1 := Lib.hid (HMQ.out.below hb1 (Nat.le_refl _)); have HB11 := Lib.hid (HBQ.out.trans (hb1.mono HBQ.out.size)); clear hr1 hb1)))
                | (go_at_call 11; refine (equal_k _ _ ks _ HR12.out HR2.out).mono ?_; rintro e w13 ⟨rfl, hb3⟩; have HM3 := Lib.hid (HM2.out.below hb3 (Nat.le_refl _)); have HB13 := Lib.hid (HB12.out.trans (hb3.mono HB12.out.size)); clear hb3)
                | (go_at_call 13; (first
                    | (refine (PC.out _ HM6.out).mono ?_; rintro e w17 ⟨v7, rfl, hr7, hb7⟩; obtain ⟨r7', cap7', hv7, _⟩ := hr7.form; rw [HPL.out] at hv7; subst hv7; have HM7 := Lib.hid (HM6.out.below hb7 (Nat.le_refl _)); have HB17 := Lib.hid (HB16.out.trans (hb7.mono HB16.out.size)); clear hr7 hb7)
                    | (refine (PD.out _ HM4.out).mono ?_; rintro e w15 ⟨v5, rfl, hr5, hb5⟩; have HR15 := Lib.hid (HR14.out.stay hb5); have HR5 := Lib.hid hr5; have HM5 := Lib.hid (HM4.out.below hb5 (Nat.le_refl _)); have HB15 := Lib.hid (HB14.out.trans (hb5.mono HB14.out.size)); clear hr5 hb5)
                    | (refine (PC.out _ HM3.out).mono ?_; rintro e w14 ⟨v4, rfl, hr4, hb4⟩; have HR14 := Lib.hid hr4; have HM4 := Lib.hid (HM3.out.below hb4 (Nat.le_refl _)); have HB14 := Lib.hid (HB13.out.trans (hb4.mono HB13.out.size)); clear hr4 hb4)))
                | (go_at_call 12; refine (equal_p _ _ ps _ HR15.out HR5.out).mono ?_; rintro e w16 ⟨rfl, hb6⟩; have HM6 := Lib.hid (HM5.out.below hb6 (Nat.le_refl _)); have HB16 := Lib.hid (HB15.out.trans (hb6.mono HB15.out.size)); clear hb6))
              go_ret
              exact ⟨by simp, HB18.out⟩
              -- END 9
end Go.Proofs.YtnmnjoleebhhiaaGreatDoor

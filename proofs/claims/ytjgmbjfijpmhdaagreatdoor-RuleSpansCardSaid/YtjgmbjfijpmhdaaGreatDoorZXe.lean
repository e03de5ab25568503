/- Contract of law 10's lines: lines by small numbers, and behind them what makes them sum to nothing. -/
import Derived.Test.YtjgmbjfijpmhdaaGreatDoorZXd
import Derived.Test.YtjgmbjfijpmhdaaGreatDoorZOw
import Derived.Test.YtjgmbjfijpmhdaaGreatDoorZId
namespace Go.Proofs.YtjgmbjfijpmhdaaGreatDoor
open Go.RowKit
set_option linter.unusedVariables false
set_option linter.unusedSimpArgs false
theorem zero_a (w : World) : (zeroValue 2).run Tryz.prog w = .ok (.int .i64 0) w := by kernel_rfl
theorem map_a : MapT Tryz.prog 121 77 2 ec (Value.int .i64) 0 := ⟨law_e, Tryz.underlying121, ec_key, ec_inj, zero_a⟩
theorem Box4.grown {w w' : World} {b : Nat} {c0 c1 c2 c3 : Value} {row : Option Nat} (h : Box4 w b c0 c1 c2 c3) (hg : w.grownBy w' row) (hne : some b ≠ row) : Box4 w' b c0 c1 c2 c3 := by
  have e := hg.block b h.size hne
  exact ⟨(World.cell?_of_block (a := ⟨b, 0, none⟩) e).trans h.a0, (World.cell?_of_block (a := ⟨b, 1, none⟩) e).trans h.a1, (World.cell?_of_block (a := ⟨b, 2, none⟩) e).trans h.a2, (World.cell?_of_block (a := ⟨b, 3, none⟩) e).trans h.a3,
    (World.frozen?_of_block (a := ⟨b, 0, none⟩) e).trans h.f0, (World.frozen?_of_block (a := ⟨b, 1, none⟩) e).trans h.f1, (World.frozen?_of_block (a := ⟨b, 2, none⟩) e).trans h.f2, (World.frozen?_of_block (a := ⟨b, 3, none⟩) e).trans h.f3, Nat.lt_of_lt_of_le h.size hg.size⟩
theorem Recs.cellsS {w : World} {g off i : Nat} {x : Sm} (h : ∀ j u, (smc x)[j]? = some u → w.cell? ⟨g, off + i * 4 + j, none⟩ = some u) :
    w.cell? ⟨g, off + i * 4, none⟩ = some (.int .u8 (x.acc : Int)) ∧ w.cell? ⟨g, off + i * 4 + 1, none⟩ = some (.int .u8 (x.ent : Int)) ∧ w.cell? ⟨g, off + i * 4 + 2, none⟩ = some (.int .u8 (x.ctr : Int)) ∧ w.cell? ⟨g, off + i * 4 + 3, none⟩ = some (.int .i64 x.amt) :=
  ⟨h 0 _ rfl, h 1 _ rfl, h 2 _ rfl, h 3 _ rfl⟩
theorem lnV_cells (l : Ln) : lnV l = .agg #[.int .u32 (l.acc : Int), .int .u16 (l.ent.n : Int), .int .u16 (l.ctr : Int), .int .i64 l.amt] := rfl
theorem sumE_small {C : List Ac} {U : List Nat} (xs : List Sm) (n : En) (h : xs.length ≤ 8) : -2305843009213693952 ≤ (sumE (xs.map (lnA C U)) n).getD 0 ∧ (sumE (xs.map (lnA C U)) n).getD 0 ≤ 2305843009213693952 := by
  have := sumZ_small 288230376151711744 (by omega) (xs.map (lnA C U)) n (fun x hx => by
    obtain ⟨y, _, rfl⟩ := List.mem_map.1 hx
    have := amtF_in y.amt
    show -288230376151711744 ≤ amtF y.amt ∧ amtF y.amt ≤ 288230376151711744
    omega)
  rw [List.length_map] at this
  unfold sumZ at this
  omega
set_option maxHeartbeats 4000000 in
set_option maxRecDepth 100000 in
theorem lines_c (f : Fr) (vC vU vS vL : Value) (xs : List Sm) (lt : Int) (w : World) (hF : FrM f vC vU vS w) (hC : f.C ≠ []) (hU : f.U ≠ []) (h6 : ∀ x ∈ f.U, x < 65536) (hlC : f.C.length ≤ 1000) (hlU : f.U.length ≤ 1000) (hR : Recs smc 4 w vL xs) (h8 : xs.length ≤ 8) :
    Calls Tryz.prog 34 #[.agg #[.int .u8 lt, vL], frV vC vU vS f.E] w fun e w' => ∃ v, e = .returned v ∧ w'.ownsRow w.heap.size 125 4 v (linesB f.C f.U xs).length ((linesB f.C f.U xs).flatMap lc) ∧ Below w.heap.size w w' := by
  obtain ⟨i0, hi, hz0, hz1, hz2⟩ := info_parts infoL
  obtain ⟨r0, cap0, rfl, hm⟩ := hR.form
  have HR := Lib.hid hR
  have HF := Lib.hid hF
  obtain ⟨L, hL⟩ : ∃ L, xs.length = L := ⟨_, rfl⟩
  have HL := Lib.hid hL
  rw [hL] at HR hm h8 ⊢
  have KL := Lib.hid (fun (x : Sm) (w' : World) (h : FrM f vC vU vS w') => line_c f vC vU vS x w' h hC hU h6 hlC hlU)
  have H6 := Lib.hid (And.intro hC (And.intro hU h6))
  have hmix : Tryz.prog.follows .mixedOrders = true := by kernel_rfl
  have hmm := @run_makeMap Tryz.prog
  obtain ⟨EE, hEE⟩ : ∃ EE, f.E = EE := ⟨_, rfl⟩
  unfold frV at KL ⊢
  rw [hEE] at KL ⊢
  clear hR hL hF hC hU h6 hEE
  go_enter Tryz.func34, Tryz.ntmps34
  go_upto_region 3 with fail
  have hb := (((Below.refl w.heap.size w).alloc (Nat.le_refl _) (.cells #[.int .u8 lt, .slice r0 L cap0] 88)).alloc (by simp) (.cells #[vC, vU, vS, .int .i32 EE] 41)).alloc (by simp; omega) (.map #[] 0)
  have bj := ((Box2.new w (.int .u8 lt) (.slice r0 L cap0) 88).alloc (.cells #[vC, vU, vS, .int .i32 EE] 41)).alloc (.map #[] 0)
  have s1 : (w.alloc (.cells #[.int .u8 lt, .slice r0 L cap0] 88)).heap.size = w.heap.size + 1 := by simp
  generalize w.alloc (.cells #[.int .u8 lt, .slice r0 L cap0] 88) = w1 at hb bj s1 ⊢
  have bf := (Box4.new w1 vC vU vS (.int .i32 EE) 41).alloc (.map #[] 0)
  have s2 : (w1.alloc (.cells #[vC, vU, vS, .int .i32 EE] 41)).heap.size = w.heap.size + 1 + 1 := by simp; omega
  rw [s1] at bf
  generalize w1.alloc (.cells #[vC, vU, vS, .int .i32 EE] 41) = w2 at hb bj bf s2 ⊢
  have hM0 : MapOf ec (Value.int .i64) w2.heap.size ([] : List (En × Int)) (w2.alloc (.map #[] 0)) := MapOf.made w2
  have s3 : (w2.alloc (.map #[] 0)).heap.size = w.heap.size + 1 + 1 + 1 := by simp; omega
  rw [s2] at hM0
  generalize w2.alloc (.map #[] 0) = W at hb bj bf hM0 s3 ⊢
  obtain ⟨j0, j1, _, _, _⟩ := bj
  have HB0 := Lib.hid hb
  have HF0 := Lib.hid bf
  have HM0 := Lib.hid hM0
  have HS := Lib.hid s3
  clear hb bf hM0 s1 s2 s3 hmm
  go_wp2_with fail
  go_loopw [5, 16] (fun s i wr => ∃ (k : Nat) (M : List (En × Int)) (r : Option Addr) (cap : Nat), i = .int .i64 k ∧ k ≤ L ∧ s = .slice r k cap ∧ Hid (wr.ownsRow (w.heap.size + 1 + 1 + 1) 125 4 (.slice r k cap) k (((xs.take k).map (lnA f.C f.U)).flatMap lc)) ∧ Hid (MapOf ec (Value.int .i64) (w.heap.size + 1 + 1) M wr) ∧ Hid (∀ n, getK M n = sumE ((xs.take k).map (lnA f.C f.U)) n) ∧ Hid (Box4 wr (w.heap.size + 1) vC vU vS (.int .i32 EE)) ∧ Hid (Below w.heap.size w wr) ∧ Hid (w.heap.size + 1 + 1 + 1 ≤ wr.heap.size)) (fun _ i _ => L - (intOf i).toNat)
  case atStart => exact ⟨0, [], none, 0, rfl, Nat.zero_le _, rfl, Lib.hid (World.ownsRow_nil _ _ _ _), HM0, Lib.hid (fun n => rfl), HF0, HB0, Lib.hid (by have := HS.out; omega)⟩
  case round =>
    clear HM0 HF0 HB0 HS j0 j1
    obtain ⟨k, M, r, cap, rfl, hk, rfl, HO, HM, HG, HFB, HB, HZ⟩ := hrel
    rename World => wr
    by_cases hlt : k < L
    · obtain ⟨x, hx⟩ : ∃ x, xs[k]? = some x := ⟨xs[k]'(by have := HL.out; omega), List.getElem?_eq_getElem (by have := HL.out; omega)⟩
      have hBw : Below w.heap.size w wr := HB.out
      obtain ⟨g, off, rfl, hg, hc⟩ := (HR.out.stay hBw).at hx
      obtain ⟨c0, c1, c2, c3⟩ := Recs.cellsS hc
      have HX := Lib.hid hx
      clear hc hx
      obtain ⟨p0, p1, p2, p3, p4, p5, p6, p7, p8⟩ := HFB.out
      have b1 := Box4.new wr (.int .u8 (x.acc : Int)) (.int .u8 (x.ent : Int)) (.int .u8 (x.ctr : Int)) (.int .i64 x.amt) 123
      have HF1 := Lib.hid (HFB.out.alloc (.cells #[.int .u8 (x.acc : Int), .int .u8 (x.ent : Int), .int .u8 (x.ctr : Int), .int .i64 x.amt] 123))
      have HB1 := Lib.hid (HB.out.alloc (by have := HZ.out; omega) (.cells #[.int .u8 (x.acc : Int), .int .u8 (x.ent : Int), .int .u8 (x.ctr : Int), .int .i64 x.amt] 123))
      have HN1 := Lib.hid ((Below.refl wr.heap.size wr).alloc (Nat.le_refl _) (.cells #[.int .u8 (x.acc : Int), .int .u8 (x.ent : Int), .int .u8 (x.ctr : Int), .int .i64 x.amt] 123))
      go_upto_region 6 with fail
      generalize wr.alloc (.cells #[.int .u8 (x.acc : Int), .int .u8 (x.ent : Int), .int .u8 (x.ctr : Int), .int .i64 x.amt] 123) = W1 at *
      obtain ⟨q0, q1, q2, q3, _, _, _, _, _⟩ := b1
      obtain ⟨f0, f1, f2, f3, _, _, _, _, _⟩ := HF1.out
      have K1 := KL.out x W1 (HF.out.stay HB1.out)
      unfold smV at K1
      obtain ⟨l, hl⟩ : ∃ l, lnF f.C f.U x = l := ⟨_, rfl⟩
      rw [hl, lnV_cells] at K1
      have HLN : Hid (l.amt = x.amt ∧ lc (lnA f.C f.U x) = [.int .u32 (l.acc : Int), .int .u16 (l.ent.n : Int), .int .u16 (l.ctr : Int), .int .i64 (amtF x.amt)] ∧ (lnA f.C f.U x).ent = l.ent ∧ (lnA f.C f.U x).amt = amtF x.amt) := Lib.hid (by subst hl; exact ⟨rfl, rfl, rfl, rfl⟩)
      have K1 := Lib.hid K1
      have hlm := l.hm
      clear hl p0 p1 p2 p3 p4 p5 p6 p7 p8
      go_upto_region 7 with (go_at_call 54; refine K1.out.mono ?_; rintro e w2 ⟨rfl, hb2⟩; have HB2 := Lib.hid hb2; clear hb2)
      have BY := Lib.hid (Box4.new w2 (.int .u32 (l.acc : Int)) (.int .u16 (l.ent.n : Int)) (.int .u16 (l.ctr : Int)) (.int .i64 l.amt) 125)
      have HN3 := Lib.hid ((HN1.out.trans (HB2.out.mono HN1.out.size)).alloc (Nat.le_trans HN1.out.size HB2.out.size) (.cells #[.int .u32 (l.acc : Int), .int .u16 (l.ent.n : Int), .int .u16 (l.ctr : Int), .int .i64 l.amt] 125))
      have hYr : wr.heap.size ≤ w2.heap.size := Nat.le_trans HN1.out.size HB2.out.size
      generalize w2.alloc (.cells #[.int .u32 (l.acc : Int), .int .u16 (l.ent.n : Int), .int .u16 (l.ctr : Int), .int .i64 l.amt] 125) = W3 at *
      generalize w2.heap.size = Y at *
      clear q0 q1 q2 q3 f0 f1 f2 f3
      obtain ⟨y0, y1, y2, y3, y4, y5, y6, y7, y8⟩ := BY.out
      have hla := HLN.out.1
      rw [hla] at y3
      obtain ⟨am, ham⟩ : ∃ am, x.amt = am := ⟨_, rfl⟩
      obtain ⟨a2, ha2⟩ : ∃ a2, amtF am = a2 := ⟨_, rfl⟩
      have HAM := Lib.hid (And.intro ham ha2)
      rw [ham] at y3
      obtain ⟨s, hs⟩ : ∃ s, (getK M l.ent).getD 0 = s := ⟨_, rfl⟩
      have hsb : -2305843009213693952 ≤ s ∧ s ≤ 2305843009213693952 := by rw [← hs, HG.out]; exact sumE_small _ _ (by rw [List.length_take]; omega)
      have ha2b : -288230376151711744 < a2 ∧ a2 < 288230376151711744 := by rw [← ha2]; exact (amtF_in am).2
      have hwr : IntKind.i64.wrap (s + a2) = s + a2 := by rw [IntKind.wrap_i64]; omega
      have HS := Lib.hid hs
      have HO3 := Lib.hid (owns_below HO.out HN3.out)
      have HM3 := Lib.hid (HM.out.below HN3.out HM.out.lt)
      have HF3 := Lib.hid (HFB.out.stay HN3.out)
      have HB3 := Lib.hid (HB.out.trans (HN3.out.mono HB.out.size))
      have hZ := HZ.out
      have hfarY := owns_far HO.out (m := Y) (.inr hYr)
      have HZ3 := Lib.hid (Nat.le_trans hZ HN3.out.size)
      have HOF := Lib.hid hfarY
      clear ham hs hfarY hsb hla
      by_cases h0 : am.tmod 288230376151711744 = 0
      case pos =>
        have e2 : a2 = 1 := by rw [← ha2]; unfold amtF; rw [if_pos h0]
        have w0 : IntKind.i64.wrap (am.tmod 288230376151711744) = 0 := by rw [h0]; rfl
        clear ha2 ha2b
        subst e2
        go_upto_region 10 with fail
        have BY4 : Box4 ((W3.setCell ⟨Y, 3, none⟩ (.int .i64 0)).setCell ⟨Y, 3, none⟩ (.int .i64 1)) Y (.int .u32 (l.acc : Int)) (.int .u16 (l.ent.n : Int)) (.int .u16 (l.ctr : Int)) (.int .i64 1) := ((Box4.set3 ⟨y0, y1, y2, y3, y4, y5, y6, y7, y8⟩ _).set3 _)
        have G4 : W3.grownBy ((W3.setCell ⟨Y, 3, none⟩ (.int .i64 0)).setCell ⟨Y, 3, none⟩ (.int .i64 1)) (some Y) := (grownBy_set W3 ⟨Y, 3, none⟩ _).trans (grownBy_set _ ⟨Y, 3, none⟩ _)
        have HF4 := Lib.hid (HF3.out.grown G4 (by intro h; have := Option.some.inj h; have := hZ; omega))
        have HO4 := Lib.hid (HO3.out.kept G4 (.inr HOF.out))
        have HM4 := Lib.hid (HM3.out.same (G4.block (w.heap.size + 1 + 1) HM3.out.lt (by intro h; have := Option.some.inj h; omega)))
        have HB4 := Lib.hid (HB3.out.grown G4 HB3.out.size (fun j hj => by cases hj; omega))
        have HZ4 := Lib.hid (Nat.le_trans HZ3.out G4.size)
        have HY4 := Lib.hid BY4
        clear G4 y0 y1 y2 y3 y4 y5 y6 y7 y8 HF3 HO3 HM3 HB3 HZ3 BY
        generalize ((W3.setCell ⟨Y, 3, none⟩ (.int .i64 0)).setCell ⟨Y, 3, none⟩ (.int .i64 1)) = W4 at *
        obtain ⟨y0, y1, y2, y3, y4, y5, y6, y7, y8⟩ := BY4
        go_wp2_with (at_builtin; refine wpList_append_own_at _ rfl (.tmp 31) (.tmp 33) 71 rfl (w.heap.size + 1 + 1 + 1) 125 i0 _ 4 16 Tryz.underlying71 hi hz0 hz1 hz2 rfl (by decide) _ k _ rfl (HO4.out.alloc _) ⟨_, 0, none⟩ 1 1 [.int .u32 (l.acc : Int), .int .u16 (l.ent.n : Int), .int .u16 (l.ctr : Int), .int .i64 1] rfl rfl (cells_new _ [.int .u32 (l.acc : Int), .int .u16 (l.ent.n : Int), .int .u16 (l.ctr : Int), .int .i64 1] _) (fun v hv => by simp at hv; rcases hv with rfl | rfl | rfl | rfl <;> rfl) (by unfold maxLen; omega) (by omega) (by simp; have := HZ4.out; omega) ?_; intro v5 w5 hown5 hgrow5 _ hat5; have hs4 : (W4.alloc (.cells #[.int .u32 (l.acc : Int), .int .u16 (l.ent.n : Int), .int .u16 (l.ctr : Int), .int .i64 1] 125)).heap.size = W4.heap.size + 1 := by simp
                     have HM5 := Lib.hid ((HM4.out.below ((Below.refl W4.heap.size W4).alloc (Nat.le_refl _) (.cells #[.int .u32 (l.acc : Int), .int .u16 (l.ent.n : Int), .int .u16 (l.ctr : Int), .int .i64 1] 125)) HM4.out.lt).same (hgrow5.block (w.heap.size + 1 + 1) (by have := HM4.out.lt; omega) (fun h => owns_far HO4.out (m := w.heap.size + 1 + 1) (.inl (by omega)) h.symm)))
                     have HF5 := Lib.hid ((HF4.out.alloc (.cells #[.int .u32 (l.acc : Int), .int .u16 (l.ent.n : Int), .int .u16 (l.ctr : Int), .int .i64 1] 125)).grown hgrow5 (fun h => owns_far HO4.out (m := w.heap.size + 1) (.inl (by omega)) h.symm))
                     have HB5 := Lib.hid ((HB4.out.alloc (by have := HZ4.out; omega) (.cells #[.int .u32 (l.acc : Int), .int .u16 (l.ent.n : Int), .int .u16 (l.ctr : Int), .int .i64 1] 125)).grown hgrow5 (by have := HZ4.out; omega) (fun j hj => by have := HO4.out.lt j hj; omega))
                     have HZ5 := Lib.hid (Nat.le_trans (by have := HZ4.out; omega : w.heap.size + 1 + 1 + 1 ≤ (W4.alloc (.cells #[.int .u32 (l.acc : Int), .int .u16 (l.ent.n : Int), .int .u16 (l.ctr : Int), .int .i64 1] 125)).heap.size) hgrow5.size)
                     have hy5 := (HY4.out.alloc (.cells #[.int .u32 (l.acc : Int), .int .u16 (l.ent.n : Int), .int .u16 (l.ctr : Int), .int .i64 1] 125)).grown hgrow5 (fun h => HOF.out h.symm)
                     have HO5 := Lib.hid hown5
                     obtain ⟨r5, cap5, rfl⟩ := owns_form hown5
                     have HFM := Lib.hid (owns_far hown5 (m := w.heap.size + 1 + 1) (.inl (by omega)))
                     have hlk := HM5.out.look map_a l.ent false
                     simp only [Bool.false_eq_true, if_false] at hlk
                     rw [HS.out] at hlk
                     obtain ⟨w6, hrun, hM6, hg6, hs6⟩ := HM5.out.store map_a l.ent (s + 1)
                     unfold ec at hlk hrun
                     have HM6 := Lib.hid hM6
                     have HG6 := Lib.hid hg6
                     obtain ⟨u0, u1, u2, u3, _, _, _, _, _⟩ := hy5
                     clear hgrow5 hown5 hat5 hM6 hg6 hs6 hs4)
        go_roundw
        case rel =>
          have hst := sumE_step (ls := xs.map (lnA f.C f.U)) (k := k) (x := lnA f.C f.U x) (by rw [List.getElem?_map, HX.out]; rfl)
          have hcl : lc (lnA f.C f.U x) = [.int .u32 (l.acc : Int), .int .u16 (l.ent.n : Int), .int .u16 (l.ctr : Int), .int .i64 1] := by rw [HLN.out.2.1, HAM.out.1, HAM.out.2]
          have hae : (lnA f.C f.U x).amt = 1 := by rw [HLN.out.2.2.2, HAM.out.1, HAM.out.2]
          refine ⟨k + 1, putK M l.ent (s + 1), r5, cap5, by go_num, by omega, rfl, Lib.hid ?_, HM6, Lib.hid (fun n => ?_), Lib.hid (HF5.out.grown HG6.out (by intro h; have := Option.some.inj h; omega)), Lib.hid (HB5.out.grown HG6.out HB5.out.size (fun j hj => by cases hj; omega)), Lib.hid (Nat.le_trans HZ5.out HG6.out.size)⟩
          · have e : ((xs.take (k + 1)).map (lnA f.C f.U)).flatMap lc = ((xs.take k).map (lnA f.C f.U)).flatMap lc ++ [.int .u32 (l.acc : Int), .int .u16 (l.ent.n : Int), .int .u16 (l.ctr : Int), .int .i64 1] := by
              rw [List.take_add_one, HX.out, ← hcl]
              simp
            rw [e]
            exact HO5.out.kept HG6.out (.inr HFM.out)
          · rw [List.map_take, hst, HLN.out.2.2.1, hae, getK_putK, ← List.map_take, ← HG.out]
            by_cases h : l.ent = n
            · subst h; rw [HS.out]
            · rw [if_neg h, if_neg h]
        case measure => simp [intOf]; omega
      case neg =>
        have e2 : am.tmod 288230376151711744 = a2 := by rw [← ha2]; unfold amtF; rw [if_neg h0]
        have e3 : ¬ a2 = 0 := by rw [← e2]; exact h0
        have w0 : IntKind.i64.wrap a2 = a2 := by rw [IntKind.wrap_i64]; omega
        clear ha2 ha2b h0
        go_upto_region 10 with fail
        have BY4 : Box4 (W3.setCell ⟨Y, 3, none⟩ (.int .i64 a2)) Y (.int .u32 (l.acc : Int)) (.int .u16 (l.ent.n : Int)) (.int .u16 (l.ctr : Int)) (.int .i64 a2) := Box4.set3 ⟨y0, y1, y2, y3, y4, y5, y6, y7, y8⟩ _
        have G4 : W3.grownBy (W3.setCell ⟨Y, 3, none⟩ (.int .i64 a2)) (some Y) := grownBy_set W3 ⟨Y, 3, none⟩ _
        have HF4 := Lib.hid (HF3.out.grown G4 (by intro h; have := Option.some.inj h; have := hZ; omega))
        have HO4 := Lib.hid (HO3.out.kept G4 (.inr HOF.out))
        have HM4 := Lib.hid (HM3.out.same (G4.block (w.heap.size + 1 + 1) HM3.out.lt (by intro h; have := Option.some.inj h; omega)))
        have HB4 := Lib.hid (HB3.out.grown G4 HB3.out.size (fun j hj => by cases hj; omega))
        have HZ4 := Lib.hid (Nat.le_trans HZ3.out G4.size)
        have HY4 := Lib.hid BY4
        clear G4 y0 y1 y2 y3 y4 y5 y6 y7 y8 HF3 HO3 HM3 HB3 HZ3 BY
        generalize (W3.setCell ⟨Y, 3, none⟩ (.int .i64 a2)) = W4 at *
        obtain ⟨y0, y1, y2, y3, y4, y5, y6, y7, y8⟩ := BY4
        go_wp2_with (at_builtin; refine wpList_append_own_at _ rfl (.tmp 31) (.tmp 33) 71 rfl (w.heap.size + 1 + 1 + 1) 125 i0 _ 4 16 Tryz.underlying71 hi hz0 hz1 hz2 rfl (by decide) _ k _ rfl (HO4.out.alloc _) ⟨_, 0, none⟩ 1 1 [.int .u32 (l.acc : Int), .int .u16 (l.ent.n : Int), .int .u16 (l.ctr : Int), .int .i64 a2] rfl rfl (cells_new _ [.int .u32 (l.acc : Int), .int .u16 (l.ent.n : Int), .int .u16 (l.ctr : Int), .int .i64 a2] _) (fun v hv => by simp at hv; rcases hv with rfl | rfl | rfl | rfl <;> rfl) (by unfold maxLen; omega) (by omega) (by simp; have := HZ4.out; omega) ?_; intro v5 w5 hown5 hgrow5 _ hat5; have hs4 : (W4.alloc (.cells #[.int .u32 (l.acc : Int), .int .u16 (l.ent.n : Int), .int .u16 (l.ctr : Int), .int .i64 a2] 125)).heap.size = W4.heap.size + 1 := by simp
                     have HM5 := Lib.hid ((HM4.out.below ((Below.refl W4.heap.size W4).alloc (Nat.le_refl _) (.cells #[.int .u32 (l.acc : Int), .int .u16 (l.ent.n : Int), .int .u16 (l.ctr : Int), .int .i64 a2] 125)) HM4.out.lt).same (hgrow5.block (w.heap.size + 1 + 1) (by have := HM4.out.lt; omega) (fun h => owns_far HO4.out (m := w.heap.size + 1 + 1) (.inl (by omega)) h.symm)))
                     have HF5 := Lib.hid ((HF4.out.alloc (.cells #[.int .u32 (l.acc : Int), .int .u16 (l.ent.n : Int), .int .u16 (l.ctr : Int), .int .i64 a2] 125)).grown hgrow5 (fun h => owns_far HO4.out (m := w.heap.size + 1) (.inl (by omega)) h.symm))
                     have HB5 := Lib.hid ((HB4.out.alloc (by have := HZ4.out; omega) (.cells #[.int .u32 (l.acc : Int), .int .u16 (l.ent.n : Int), .int .u16 (l.ctr : Int), .int .i64 a2] 125)).grown hgrow5 (by have := HZ4.out; omega) (fun j hj => by have := HO4.out.lt j hj; omega))
                     have HZ5 := Lib.hid (Nat.le_trans (by have := HZ4.out; omega : w.heap.size + 1 + 1 + 1 ≤ (W4.alloc (.cells #[.int .u32 (l.acc : Int), .int .u16 (l.ent.n : Int), .int .u16 (l.ctr : Int), .int .i64 a2] 125)).heap.size) hgrow5.size)
                     have hy5 := (HY4.out.alloc (.cells #[.int .u32 (l.acc : Int), .int .u16 (l.ent.n : Int), .int .u16 (l.ctr : Int), .int .i64 a2] 125)).grown hgrow5 (fun h => HOF.out h.symm)
                     have HO5 := Lib.hid hown5
                     obtain ⟨r5, cap5, rfl⟩ := owns_form hown5
                     have HFM := Lib.hid (owns_far hown5 (m := w.heap.size + 1 + 1) (.inl (by omega)))
                     have hlk := HM5.out.look map_a l.ent false
                     simp only [Bool.false_eq_true, if_false] at hlk
                     rw [HS.out] at hlk
                     obtain ⟨w6, hrun, hM6, hg6, hs6⟩ := HM5.out.store map_a l.ent (s + a2)
                     unfold ec at hlk hrun
                     have HM6 := Lib.hid hM6
                     have HG6 := Lib.hid hg6
                     obtain ⟨u0, u1, u2, u3, _, _, _, _, _⟩ := hy5
                     clear hgrow5 hown5 hat5 hM6 hg6 hs6 hs4)
        go_roundw
        case rel =>
          have hst := sumE_step (ls := xs.map (lnA f.C f.U)) (k := k) (x := lnA f.C f.U x) (by rw [List.getElem?_map, HX.out]; rfl)
          have hcl : lc (lnA f.C f.U x) = [.int .u32 (l.acc : Int), .int .u16 (l.ent.n : Int), .int .u16 (l.ctr : Int), .int .i64 a2] := by rw [HLN.out.2.1, HAM.out.1, HAM.out.2]
          have hae : (lnA f.C f.U x).amt = a2 := by rw [HLN.out.2.2.2, HAM.out.1, HAM.out.2]
          refine ⟨k + 1, putK M l.ent (s + a2), r5, cap5, by go_num, by omega, rfl, Lib.hid ?_, HM6, Lib.hid (fun n => ?_), Lib.hid (HF5.out.grown HG6.out (by intro h; have := Option.some.inj h; omega)), Lib.hid (HB5.out.grown HG6.out HB5.out.size (fun j hj => by cases hj; omega)), Lib.hid (Nat.le_trans HZ5.out HG6.out.size)⟩
          · have e : ((xs.take (k + 1)).map (lnA f.C f.U)).flatMap lc = ((xs.take k).map (lnA f.C f.U)).flatMap lc ++ [.int .u32 (l.acc : Int), .int .u16 (l.ent.n : Int), .int .u16 (l.ctr : Int), .int .i64 a2] := by
              rw [List.take_add_one, HX.out, ← hcl]
              simp
            rw [e]
            exact HO5.out.kept HG6.out (.inr HFM.out)
          · rw [List.map_take, hst, HLN.out.2.2.1, hae, getK_putK, ← List.map_take, ← HG.out]
            by_cases h : l.ent = n
            · subst h; rw [HS.out]
            · rw [if_neg h, if_neg h]
        case measure => simp [intOf]; omega
    · obtain rfl : k = L := by omega
      obtain ⟨p0, p1, p2, p3, p4, p5, p6, p7, p8⟩ := HFB.out
      have hO := HO.out
      have hG := HG.out
      rw [List.take_of_length_le (by rw [HL.out]; exact Nat.le_refl _)] at hO
      rw [List.take_of_length_le (by rw [HL.out]; exact Nat.le_refl _)] at hG
      obtain ⟨X, hX⟩ : ∃ X, xs.map (lnA f.C f.U) = X := ⟨_, rfl⟩
      have hsm : ∀ n, -2305843009213693952 ≤ sumZ X n ∧ sumZ X n ≤ 2305843009213693952 := fun n => by rw [← hX]; exact sumE_small xs n (by rw [HL.out]; exact h8)
      rw [hX] at hO hG
      have hXl : X.length = k := by rw [← hX, List.length_map, HL.out]
      have hlb : linesB f.C f.U xs = X ++ padsF f.C f.U (sumZ X) f.U.length := by unfold linesB; rw [hX]
      have HLB := Lib.hid hlb
      have HSM := Lib.hid hsm
      have HGZ : Hid (∀ n, (getK M n).getD 0 = sumZ X n) := Lib.hid (fun n => by rw [hG]; rfl)
      have HXL := Lib.hid hXl
      have HO1 := Lib.hid hO
      obtain ⟨rU, capU, hvU, hmU⟩ := HF.out.u.form
      obtain ⟨LU, hLU⟩ : ∃ LU, f.U.length = LU := ⟨_, rfl⟩
      rw [hLU] at hvU hmU hlU
      have HLU := Lib.hid hLU
      subst hvU
      obtain ⟨rC, capC, hvC, hmC⟩ := HF.out.c.form
      obtain ⟨LC, hLC⟩ : ∃ LC, f.C.length = LC := ⟨_, rfl⟩
      rw [hLC] at hvC hmC hlC
      have HLC := Lib.hid hLC
      have hC0 : 0 < LC := by rw [← hLC]; exact List.length_pos_iff.2 H6.out.1
      subst hvC
      clear hLC hO hG hX hsm hXl hlb hLU HO HG
      go_wp2_with fail
      clear p0 p1 p2 p3 p4 p5 p6 p7 p8
      go_loopw [5, 46] (fun s i wq => ∃ (q m : Nat) (r' : Option Addr) (cap' : Nat), i = .int .i64 q ∧ q ≤ LU ∧ s = .slice r' m cap' ∧ m ≤ 8 + q ∧ Hid (m = (X ++ padsF f.C f.U (sumZ X) q).length) ∧ Hid (wq.ownsRow (w.heap.size + 1 + 1 + 1) 125 4 (.slice r' m cap') m ((X ++ padsF f.C f.U (sumZ X) q).flatMap lc)) ∧ Hid (MapOf ec (Value.int .i64) (w.heap.size + 1 + 1) M wq) ∧ Hid (Box4 wq (w.heap.size + 1) (.slice rC LC capC) (.slice rU LU capU) vS (.int .i32 EE)) ∧ Hid (Below w.heap.size w wq) ∧ Hid (w.heap.size + 1 + 1 + 1 ≤ wq.heap.size)) (fun _ i _ => LU - (intOf i).toNat)
      case atStart => exact ⟨0, k, r, cap, rfl, Nat.zero_le _, rfl, by omega, Lib.hid (by rw [List.length_append, HXL.out]; rfl), Lib.hid (by have := HO1.out; simpa [padsF] using this), HM, HFB, HB, HZ⟩
      case round =>
        clear HO1 HM HFB HB HZ
        obtain ⟨q, m, r', cap', rfl, hq, rfl, hm8, HML, HO, HM, HFB, HB, HZ⟩ := hrel
        rename World => wq
        by_cases hlt : q < LU
        · obtain ⟨n, hn⟩ : ∃ n, f.U[q]? = some n := ⟨f.U[q]'(by have := HLU.out; omega), List.getElem?_eq_getElem (by have := HLU.out; omega)⟩
          obtain ⟨en, hen⟩ : ∃ en, entAt f.U q = en := ⟨_, rfl⟩
          have henn : en.n = n := by rw [← hen]; exact entAt_lt H6.out.2.2 hn
          obtain ⟨gU, oU, rfl, hgU, hcU⟩ := (HF.out.stay HB.out).u.at hn
          have u0 := hcU 0 (.int .u16 (n : Int)) rfl
          simp only [Nat.mul_one, Nat.add_zero] at u0
          rw [← henn] at u0
          obtain ⟨s, hs⟩ : ∃ s, (getK M en).getD 0 = s := ⟨_, rfl⟩
          have hsz : sumZ X en = s := by rw [← HGZ.out, hs]
          have hsb := HSM.out en
          rw [hsz] at hsb
          clear hn hcU
          by_cases h0 : s = 0
          · have hp : padAt f.C f.U (sumZ X) q = [] := by unfold padAt; rw [dif_neg (fun h => h.1 (by rw [hen, hsz]; exact h0))]
            have hlk := HM.out.look map_a en false
            simp only [Bool.false_eq_true, if_false] at hlk
            rw [hs, h0] at hlk
            unfold ec at hlk
            have HP := Lib.hid hp
            clear hp hen henn hs hsz hsb h0
            go_wp2
            go_roundw
            case rel => exact ⟨q + 1, m, r', cap', by go_num, by omega, rfl, by omega, Lib.hid (by rw [padsF_step, HP.out, List.append_nil]; exact HML.out), Lib.hid (by rw [padsF_step, HP.out, List.append_nil]; exact HO.out), HM, HFB, HB, HZ⟩
            case measure => simp [intOf]; omega
          · obtain ⟨p, hp⟩ : ∃ p, q % LC = p := ⟨_, rfl⟩
            have hpl : p < LC := hp ▸ Nat.mod_lt _ hC0
            obtain ⟨a, ha⟩ : ∃ a, f.C[p]? = some a := ⟨f.C[p]'(by have := HLC.out; omega), List.getElem?_eq_getElem (by have := HLC.out; omega)⟩
            have hacc : accAt f.C q = a := accAt_get (by rw [HLC.out, hp]; exact ha)
            obtain ⟨y, hy, hyc⟩ : ∃ y, padAt f.C f.U (sumZ X) q = [y] ∧ lc y = [.int .u32 (a.code : Int), .int .u16 (en.n : Int), .int .u16 0, .int .i64 (-s)] := by
              refine ⟨⟨(accAt f.C q).code, entAt f.U q, 0, -sumZ X (entAt f.U q), (accAt f.C q).hc, by omega, by rw [hen, hsz]; omega⟩, ?_, ?_⟩
              · unfold padAt
                rw [dif_pos ⟨by rw [hen, hsz]; exact h0, by rw [hen, hsz]; omega, by rw [hen, hsz]; omega⟩]
              · unfold lc
                simp only [hacc, hen, hsz]
                rfl
            have HY := Lib.hid (And.intro hy hyc)
            obtain ⟨gC, oC, rfl, hgC, hcC⟩ := (HF.out.stay HB.out).c.at ha
            have c0 : wq.cell? ⟨gC, oC + p * 4, none⟩ = some (.int .u32 (a.code : Int)) := hcC 0 _ rfl
            obtain ⟨p1, p2⟩ := mod_int hp
            have z1 : ¬ LC = 0 := by omega
            have y1 : IntKind.i64.wrap (q : Int) = (q : Int) := by rw [IntKind.wrap_i64]; omega
            have y3 : IntKind.i64.wrap (p : Int) = (p : Int) := by rw [IntKind.wrap_i64]; omega
            have y4 : IntKind.i64.wrap (-s) = -s := by rw [IntKind.wrap_i64]; omega
            have hlk := HM.out.look map_a en false
            simp only [Bool.false_eq_true, if_false] at hlk
            rw [hs] at hlk
            have hlk2 := (HM.out.same (w' := wq.drew) rfl).look map_a en false
            simp only [Bool.false_eq_true, if_false] at hlk2
            rw [hs] at hlk2
            unfold ec at hlk hlk2
            obtain ⟨k0, k1, k2, k3, _, _, _, _, _⟩ := HFB.out
            have HSE := Lib.hid hs
            clear hen henn hs hsz hsb hp ha hacc hy hyc hcC
            go_upto_region 17 with fail
            have k0' : wq.drew.cell? ⟨w.heap.size + 1, 0, none⟩ = some (.slice (some ⟨gC, oC, none⟩) LC capC) := k0
            have hlk3 := (HM.out.below ((Below.refl wq.heap.size wq).alloc (Nat.le_refl _) (.cells #[.int .u32 (a.code : Int), .int .u16 (en.n : Int), .int .u16 0, .int .i64 (-s)] 125)).drew HM.out.lt).look map_a en false
            simp only [Bool.false_eq_true, if_false] at hlk3
            rw [HSE.out] at hlk3
            unfold ec at hlk3
            have hb1 : w.heap.size + 1 < wq.heap.size := by have := HZ.out; omega
            have hb2 : gC < wq.heap.size := by have := HB.out.size; omega
            refine wp_region_new 18 17 [] (.slice (some ⟨wq.heap.size, 0, none⟩) 1 1) (wq.drew.alloc (.cells #[.int .u32 (a.code : Int), .int .u16 (en.n : Int), .int .u16 0, .int .i64 (-s)] 125)) hmix (by decide) (by omega) (by kernel_rfl) (by kernel_rfl) (by kernel_rfl) (by kernel_rfl) ?_
            simp only [List.take_succ_cons, List.take_zero, List.drop_succ_cons, List.drop_zero]
            repeat (first | (refine two_skip rfl ?_) | (refine two_step rfl rfl (fun K hK => ?_); go_simp; refine hK _ ?_; clear hK K))
            refine two_nil ⟨fun o ho => by cases ho; left; go_simp, ?_⟩
            simp only [dstB, List.getElem?_cons_succ, List.getElem?_cons_zero, Option.bind_some]
            have HOd := Lib.hid (owns_below HO.out (w' := wq.drew) (Below.refl _ _).drew)
            have HMd := Lib.hid (HM.out.same (w' := wq.drew) rfl)
            have HFd := Lib.hid HFB.out.drew
            have HBd := Lib.hid HB.out.drew
            have HZd : Hid (w.heap.size + 1 + 1 + 1 ≤ wq.drew.heap.size) := HZ
            clear c0 u0 hlk hlk2 hlk3 k0 k0' k1 k2 k3 HO HM HFB HB HZ hb1 hb2
            go_wp2_with (at_builtin; refine wpList_append_own_at _ rfl (.tmp 55) (.tmp 72) 71 rfl (w.heap.size + 1 + 1 + 1) 125 i0 _ 4 16 Tryz.underlying71 hi hz0 hz1 hz2 rfl (by decide) _ m _ rfl (HOd.out.alloc _) ⟨_, 0, none⟩ 1 1 [.int .u32 (a.code : Int), .int .u16 (en.n : Int), .int .u16 0, .int .i64 (-s)] rfl rfl (cells_new _ [.int .u32 (a.code : Int), .int .u16 (en.n : Int), .int .u16 0, .int .i64 (-s)] _) (fun v hv => by simp at hv; rcases hv with rfl | rfl | rfl | rfl <;> rfl) (by unfold maxLen; omega) (by omega) (by simp; have := HZd.out; omega) ?_; intro v5 w5 hown5 hgrow5 _ hat5; have hs4 : (wq.drew.alloc (.cells #[.int .u32 (a.code : Int), .int .u16 (en.n : Int), .int .u16 0, .int .i64 (-s)] 125)).heap.size = wq.drew.heap.size + 1 := by simp
                         have HM5 := Lib.hid ((HMd.out.below ((Below.refl wq.drew.heap.size wq.drew).alloc (Nat.le_refl _) (.cells #[.int .u32 (a.code : Int), .int .u16 (en.n : Int), .int .u16 0, .int .i64 (-s)] 125)) HMd.out.lt).same (hgrow5.block (w.heap.size + 1 + 1) (by have := HMd.out.lt; omega) (fun h => owns_far HOd.out (m := w.heap.size + 1 + 1) (.inl (by omega)) h.symm)))
                         have HF5 := Lib.hid ((HFd.out.alloc (.cells #[.int .u32 (a.code : Int), .int .u16 (en.n : Int), .int .u16 0, .int .i64 (-s)] 125)).grown hgrow5 (fun h => owns_far HOd.out (m := w.heap.size + 1) (.inl (by omega)) h.symm))
                         have HB5 := Lib.hid ((HBd.out.alloc (by have := HZd.out; omega) (.cells #[.int .u32 (a.code : Int), .int .u16 (en.n : Int), .int .u16 0, .int .i64 (-s)] 125)).grown hgrow5 (by have := HZd.out; omega) (fun j hj => by have := HOd.out.lt j hj; omega))
                         have HZ5 := Lib.hid (Nat.le_trans (by have := HZd.out; omega : w.heap.size + 1 + 1 + 1 ≤ (wq.drew.alloc (.cells #[.int .u32 (a.code : Int), .int .u16 (en.n : Int), .int .u16 0, .int .i64 (-s)] 125)).heap.size) hgrow5.size)
                         have HO5 := Lib.hid hown5
                         obtain ⟨r5, cap5, rfl⟩ := owns_form hown5
                         clear hgrow5 hown5 hat5 hs4)
            go_roundw
            case rel =>
              refine ⟨q + 1, m + 1, r5, cap5, by go_num, by omega, rfl, by omega, Lib.hid ?_, Lib.hid ?_, HM5, HF5, HB5, HZ5⟩
              · rw [padsF_step, HY.out.1, ← List.append_assoc, List.length_append, ← HML.out]; rfl
              · rw [padsF_step, HY.out.1, ← List.append_assoc, List.flatMap_append, List.flatMap_cons, List.flatMap_nil, List.append_nil, HY.out.2]
                exact HO5.out
            case measure => simp [intOf]; omega
        · obtain rfl : q = LU := by omega
          go_wp2
          go_ret
          refine ⟨_, rfl, ?_, HB.out⟩
          have h1 := HO.out
          rw [HLB.out, HLU.out, ← HML.out]
          refine ⟨h1.1, ?_⟩
          rcases h1.2 with h | ⟨g1, c1, cur, e1, e2, e3⟩
          · exact .inl h
          · exact .inr ⟨g1, c1, cur, e1, by omega, e3⟩
end Go.Proofs.YtjgmbjfijpmhdaaGreatDoor

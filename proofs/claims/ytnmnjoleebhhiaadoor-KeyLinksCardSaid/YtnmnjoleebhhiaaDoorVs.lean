/- The walk of law KeyLinks. -/
import Derived.Test.YtnmnjoleebhhiaaDoorVr
namespace Go.Proofs.YtnmnjoleebhhiaaDoor
open Go.RowKit Go.Sort
set_option linter.unusedVariables false
set_option linter.unusedSimpArgs false
/-- A pair's box. -/
def pbox (x : Kt × Kt) : Obj := .cells #[.int .u32 (x.1.a : Int), .int .u16 (x.1.e : Int), .int .u16 (x.1.p : Int), .int .u32 (x.2.a : Int), .int .u16 (x.2.e : Int), .int .u16 (x.2.p : Int)] 54
/-- Six cells of a pair at a place. -/
def Six (w : World) (b o : Nat) (x : Kt × Kt) : Prop :=
  w.cell? ⟨b, o, none⟩ = some (.int .u32 (x.1.a : Int)) ∧ w.cell? ⟨b, o + 1, none⟩ = some (.int .u16 (x.1.e : Int)) ∧ w.cell? ⟨b, o + 2, none⟩ = some (.int .u16 (x.1.p : Int)) ∧
  w.cell? ⟨b, o + 3, none⟩ = some (.int .u32 (x.2.a : Int)) ∧ w.cell? ⟨b, o + 4, none⟩ = some (.int .u16 (x.2.e : Int)) ∧ w.cell? ⟨b, o + 5, none⟩ = some (.int .u16 (x.2.p : Int))
theorem Six.below {w w' : World} {b o B : Nat} {x : Kt × Kt} (h : Six w b o x) (hb : Below B w w') (hB : b < B) : Six w' b o x := by
  obtain ⟨h0, h1, h2, h3, h4, h5⟩ := h
  exact ⟨(hb.cell (p := ⟨b, _, none⟩) hB).trans h0, (hb.cell (p := ⟨b, _, none⟩) hB).trans h1, (hb.cell (p := ⟨b, _, none⟩) hB).trans h2, (hb.cell (p := ⟨b, _, none⟩) hB).trans h3, (hb.cell (p := ⟨b, _, none⟩) hB).trans h4, (hb.cell (p := ⟨b, _, none⟩) hB).trans h5⟩
theorem Six.grown {w w' : World} {b o m : Nat} {x : Kt × Kt} (h : Six w b o x) (hg : w.grownBy w' (some m)) (hne : b ≠ m) : Six w' b o x := by
  obtain ⟨h0, h1, h2, h3, h4, h5⟩ := h
  have hn : ∀ j, some (⟨b, j, none⟩ : Addr).block ≠ some m := fun j e => hne (Option.some.inj e)
  exact ⟨hg.cell h0 (hn _), hg.cell h1 (hn _), hg.cell h2 (hn _), hg.cell h3 (hn _), hg.cell h4 (hn _), hg.cell h5 (hn _)⟩
theorem Six.box (w : World) (x : Kt × Kt) : Six (w.alloc (pbox x)) w.heap.size 0 x := by
  unfold pbox
  exact ⟨box_cell _ _ _ 0 _ rfl, box_cell _ _ _ 1 _ rfl, box_cell _ _ _ 2 _ rfl, box_cell _ _ _ 3 _ rfl, box_cell _ _ _ 4 _ rfl, box_cell _ _ _ 5 _ rfl⟩
theorem Recs.six {w : World} {r : Option Addr} {n cap : Nat} {xs : List (Kt × Kt)} (h : Recs pc 6 w (.slice r n cap) xs) {i : Nat} {x : Kt × Kt} (hx : xs[i]? = some x) : ∃ g off, r = some ⟨g, off, none⟩ ∧ g < w.heap.size ∧ Six w g (off + i * 6) x := by
  obtain ⟨g, off, h1, h2, h3⟩ := h.at hx
  exact ⟨g, off, h1, h2, h3 0 _ rfl, h3 1 _ rfl, h3 2 _ rfl, h3 3 _ rfl, h3 4 _ rfl, h3 5 _ rfl⟩
set_option maxHeartbeats 8000000 in
set_option maxRecDepth 100000 in
theorem keylinks_some {I : World → Prop} (C : AllotC) (D : DayC I) (K : KeyC I) (r0 : Option Addr) (n cap0 : Nat) (zs : List (Kt × Kt)) (ot : Kt × Kt) (w : World) (hI : I w) (hR : Recs pc 6 w (.slice r0 n cap0) zs) (hn : n = zs.length) (hl : n ≤ 60) :
    Calls Tryd.prog 6 #[.slice r0 n cap0, pv ot] w fun e w' => e = .returned (.bool true) ∧ Below w.heap.size w w' := by
  have hbx := (Below.refl w.heap.size w).alloc (Nat.le_refl _) (pbox ot)
  have hos := Six.box w ot
  have hws : (w.alloc (pbox ot)).heap.size = w.heap.size + 1 := by simp
  have K1 := Lib.hid (awake5_any C D K _ (D.stay hI hbx))
  have HBX := Lib.hid hbx
  have HOS := Lib.hid hos
  have HR := Lib.hid hR
  have HN := Lib.hid hn
  have HWS := Lib.hid hws
  have hmm := @run_makeMap Tryd.prog
  have hd60 : decide ((60 : Int) < (n : Int)) = false := decide_eq_false (by omega)
  have hmix : Tryd.prog.follows .mixedOrders = true := by kernel_rfl
  clear hR hn hbx hos hws
  unfold pbox at K1 HBX HOS HWS
  unfold pv
  go_enter Tryd.func6, Tryd.ntmps6
  go_wp2_with (go_at_call 7; refine K1.out.mono ?_; rintro e w1 ⟨rfl, hb1⟩)
  have hs1 : w.heap.size + 1 ≤ w1.heap.size := by have := hb1.size; rw [HWS.out] at this; exact this
  have hb1' := HBX.out.trans (hb1.mono HBX.out.size)
  have HOS1 := Lib.hid (HOS.out.below hb1 (by rw [HWS.out]; exact Nat.lt_succ_self _))
  have HR1 := Lib.hid (HR.out.stay hb1')
  obtain ⟨b, hb⟩ : ∃ b, w1.heap.size = b := ⟨_, rfl⟩
  have hM0 : MapOf pv (Value.int .i64) b ([] : List ((Kt × Kt) × Int)) (w1.alloc (.map #[] 0)) := hb ▸ MapOf.made w1
  have hW0 : Below w1.heap.size w1 (w1.alloc (.map #[] 0)) := (Below.refl _ _).alloc (Nat.le_refl _) _
  have HB1 := Lib.hid hb1'
  rw [hb] at hs1 hW0 ⊢
  have HBb := Lib.hid hb
  clear hmm hb1 hb1' hb
  go_loopw [25] (fun i wr => ∃ k : Nat, k ≤ n ∧ i = .int .i64 k ∧ ∃ L : List ((Kt × Kt) × Int), MapOf pv (Value.int .i64) b L wr ∧ Hid (∀ y, getK L y = sumK ((zs.take k).map lp) y) ∧ L.length ≤ k ∧ Hid ((L.map Prod.snd).sum = k) ∧ Below b w1 wr) (fun i _ => n - (RowKit.intOf i).toNat)
  case atStart => exact ⟨0, Nat.zero_le _, rfl, [], hM0, Lib.hid (fun y => by simp [getK, sumK]), by simp, Lib.hid (by simp), hW0⟩
  case round =>
    clear hM0 hW0
    obtain ⟨k, hk, rfl, L, hM, HL, hLl, HT, hB⟩ := hrel
    rename World => wr
    by_cases hlt : k < n
    ·
      -- HOLE 1
      obtain ⟨x, hx⟩ : ∃ x, zs[k]? = some x := ⟨zs[k]'(by have := HN.out; omega), List.getElem?_eq_getElem (by have := HN.out; omega)⟩
      obtain ⟨g, off, rfl, hg, hc⟩ := HR1.out.six hx
      have HX := Lib.hid hx
      rw [HBb.out] at hg
      obtain ⟨c0, c1, c2, c3, c4, c5⟩ := hc.below hB hg
      have hbr := hM.lt
      have hWs : (wr.alloc (pbox x)).heap.size = wr.heap.size + 1 := by simp
      have HM1 := Lib.hid (hM.below ((Below.refl wr.heap.size wr).alloc (Nat.le_refl _) (pbox x)) hbr)
      have HBW := Lib.hid (hB.alloc (by have := hB.size; rw [HBb.out] at this; exact this) (pbox x))
      have HSX := Lib.hid (Six.box wr x)
      have hcb := count_bd zs (x.1.small, x.2.small) k
      have S1 : Hid (∀ w, Calls Tryd.prog 13 #[.agg #[.int .u32 (x.1.a : Int), .int .u16 (x.1.e : Int), .int .u16 (x.1.p : Int)]] w fun e w' => e = .returned (kv x.1.small) ∧ Below w.heap.size w w') := Lib.hid (fun w => small_k x.1 w)
      have S2 : Hid (∀ w, Calls Tryd.prog 13 #[.agg #[.int .u32 (x.2.a : Int), .int .u16 (x.2.e : Int), .int .u16 (x.2.p : Int)]] w fun e w' => e = .returned (kv x.2.small) ∧ Below w.heap.size w w') := Lib.hid (fun w => small_k x.2 w)
      have A1 := Lib.hid (fun (w : World) (h : MapOf pv (Value.int .i64) b L w) => llink_k b L x.1.small x.2.small w h (by rw [HL.out]; exact hcb.1) (by rw [HL.out]; omega))
      have A2 : Hid (∀ w, Calls Tryd.prog 19 #[.map none, .agg #[.int .u32 (x.1.a : Int), .int .u16 (x.1.e : Int), .int .u16 (x.1.p : Int)], .agg #[.int .u32 (x.2.a : Int), .int .u16 (x.2.e : Int), .int .u16 (x.2.p : Int)]] w fun e w' => e = .returned (.tuple #[]) ∧ Below w.heap.size w w') := Lib.hid (fun w => llink_nil x.1 x.2 w)
      have HND := Lib.hid hM.nodup
      have HBR := Lib.hid hbr
      have HLL := Lib.hid hLl
      unfold pbox at hWs HM1 HBW HSX
      clear hB hM hbr hLl hx hcb hc
      go_wp2_with fail
      generalize wr.alloc (.cells #[.int .u32 (x.1.a : Int), .int .u16 (x.1.e : Int), .int .u16 (x.1.p : Int), .int .u32 (x.2.a : Int), .int .u16 (x.2.e : Int), .int .u16 (x.2.p : Int)] 54) = W at *
      have hsx := HSX.out
      obtain ⟨b0, b1, b2, b3, b4, b5⟩ := hsx
      have d0 := fun d os => cell_regrown b0 d os
      have d1 := fun d os => cell_regrown b1 d os
      have d2 := fun d os => cell_regrown b2 d os
      have d3 := fun d os => cell_regrown b3 d os
      have d4 := fun d os => cell_regrown b4 d os
      have d5 := fun d os => cell_regrown b5 d os
      simp only [Nat.zero_add] at d0 d1 d2 d3 d4 d5
      clear b0 b1 b2 b3 b4 b5
      refine wp_tail_below 7 hmix (by kernel_rfl) ?_
      simp only [List.take_succ_cons, List.take_zero, List.drop_succ_cons, List.drop_zero]
      repeat (first | go_big_quiet_step ((first | (go_at_call 13; with_reducible exact Calls.regrown_of (S1.out _)) | (go_at_call 13; with_reducible exact Calls.regrown_of (S2.out _)))) | quiet_step ((first | (go_at_call 13; with_reducible exact Calls.regrown_of (S1.out _)) | (go_at_call 13; with_reducible exact Calls.regrown_of (S2.out _)))))
      refine wpQuiet_nil ?_
      intro w3 hw3
      have hb3 : Below W.heap.size W w3 := by obtain ⟨q, rfl⟩ := hw3; exact below_regrown _ _ _
      have HS3 := Lib.hid (HSX.out.below hb3 (by rw [hWs]; exact Nat.lt_succ_self _))
      have HB3 := Lib.hid hb3
      clear d0 d1 d2 d3 d4 d5 hw3 hb3 c0 c1 c2 c3 c4 c5
      go_wp2_with (first
        | (go_at_call 19; ((with_reducible refine (A1.out _ (HM1.out.below HB3.out HM1.out.lt)).mono ?_); rintro e w4 ⟨rfl, hM4, hg4⟩; have hq := HS3.out.grown hg4 (by have := HBR.out; omega); obtain ⟨q0, q1, q2, q3, q4, q5⟩ := hq; simp only [Nat.zero_add] at q0 q1 q2 q3 q4 q5; have HM4 := Lib.hid hM4; have HG4 := Lib.hid hg4; clear hM4 hg4))
        | (go_at_call 19; ((with_reducible refine (A2.out _).mono ?_); rintro e w5 ⟨rfl, hb5⟩; have HB5 := Lib.hid hb5; clear hb5)))
      go_roundw
      case rel =>
        refine ⟨k + 1, by omega, by go_num, putK L (x.1.small, x.2.small) ((getK L (x.1.small, x.2.small)).getD 0 + 1), HM4.out.below HB5.out HM4.out.lt, Lib.hid (fun y => ?_), Nat.le_trans (length_putK _ _ _) (by have := HLL.out; omega), Lib.hid ?_, ?_⟩
        · rw [take_lp zs k HX.out, sumK_snoc, getK_putK, HL.out, HL.out]
          show _ = if (x.1.small, x.2.small) = y then some ((sumK ((zs.take k).map lp) y).getD 0 + 1) else _
          by_cases h : (x.1.small, x.2.small) = y
          · subst h; rfl
          · rw [if_neg h, if_neg h]
        · rw [sum_putK _ _ HND.out, HT.out]; omega
        · exact ((HBW.out.trans (HB3.out.mono (by have := HBW.out.size; rw [HBb.out] at this; exact this))).grown HG4.out (by have h1 := HBW.out.size; rw [HBb.out] at h1; exact Nat.le_trans h1 HB3.out.size) (fun j hj => by cases hj; omega)).trans (HB5.out.mono (by have h1 := HBW.out.size; rw [HBb.out] at h1; exact Nat.le_trans h1 (Nat.le_trans HB3.out.size HG4.out.size)))
      case measure => simp [RowKit.intOf]; omega
      -- END 1
    · obtain rfl : k = n := by omega
      have HLA : Hid (∀ y, getK L y = sumK (zs.map lp) y) := Lib.hid (fun y => by have := HL.out y; rw [HN.out, List.take_length] at this; exact this)
      clear HL
      have K2 := Lib.hid (lpairs_k b L wr hM (by omega))
      have HND := Lib.hid hM.nodup
      have HM := Lib.hid hM
      have HB := Lib.hid hB
      have HLB := Lib.hid hLl
      clear hM hB hLl
      go_wp2_with (go_at_call 20; refine K2.out.mono ?_; rintro e w2 ⟨v, ks, rfl, hq⟩; obtain ⟨r2, cap2, rfl, hkl⟩ := hq.2.2.1.form; have HQ := Lib.hid hq; clear hq)
      obtain ⟨hp, hr, hrec, hb2⟩ := HQ.out
      have HP := Lib.hid hp
      have HRI := Lib.hid hr
      have HREC := Lib.hid hrec
      have hbr2 : b ≤ wr.heap.size := by have := HB.out.size; rw [HBb.out] at this; exact this
      have HM2 := Lib.hid (HM.out.below hb2 HM.out.lt)
      have HB2 := Lib.hid (HB.out.trans (hb2.mono hbr2))
      have hb2s : b ≤ w2.heap.size := Nat.le_trans hbr2 hb2.size
      have hkl60 : ks.length ≤ 60 := by have := hp.length_eq; have := HLB.out; simp at *; omega
      -- how often y is linked
      obtain ⟨G, hG⟩ : ∃ G : Kt × Kt → Int, G = fun y => (sumK (zs.map lp) y).getD 0 := ⟨_, rfl⟩
      have HG := Lib.hid hG
      have HGB : Hid (∀ y, 0 ≤ G y ∧ G y ≤ 60) := Lib.hid (fun y => by have := count_bd' zs y; have := HN.out; rw [hG]; exact (show 0 ≤ (sumK (zs.map lp) y).getD 0 ∧ (sumK (zs.map lp) y).getD 0 ≤ 60 from ⟨by omega, by omega⟩))
      have HPOS : Hid (∀ y, y ∈ ks ↔ 0 < G y) := Lib.hid (fun y => by
        rw [hp.mem_iff, mem_keys, HLA.out, hG]; exact (count_bd' zs y).2.2)
      have HTOT : Hid (totL G ks ks.length = (k : Int)) := Lib.hid (by
        unfold totL
        rw [List.take_length, ← HT.out, ← sum_keys HND.out, sum_perm (hp.map G), hG]
        congr 1
        refine List.map_congr_left fun y _ => ?_
        rw [HLA.out])
      have HTB : Hid (∀ j, 0 ≤ totL G ks j ∧ totL G ks j ≤ 60 * j) := Lib.hid (totL_bd (by omega) HGB.out ks)
      clear hp hr hrec hb2 HQ K2 HM HB HT HND hG
      go_loopw [10, 48] (fun tt i wq => ∃ j : Nat, j ≤ ks.length ∧ i = .int .i64 j ∧ tt = .int .i64 (totL G ks j) ∧ Below w2.heap.size w2 wq) (fun _ i _ => ks.length - (RowKit.intOf i).toNat)
      case atStart => exact ⟨0, Nat.zero_le _, rfl, by simp [totL], Below.refl _ _⟩
      case round =>
        obtain ⟨j, hj, rfl, rfl, hBq⟩ := hrel
        rename World => wq
        by_cases hjl : j < ks.length
        ·
          -- HOLE 4
          obtain ⟨y, hy⟩ : ∃ y, ks[j]? = some y := ⟨ks[j], List.getElem?_eq_getElem hjl⟩
          obtain ⟨g2, off2, rfl, hg2, hc2⟩ := HREC.out.six hy
          obtain ⟨e0, e1, e2, e3, e4, e5⟩ := hc2.below hBq hg2
          have HSY0 := Lib.hid (Six.box wq y)
          have hwqs : (wq.alloc (pbox y)).heap.size = wq.heap.size + 1 := by simp
          have HB3 := Lib.hid ((Below.refl wq.heap.size wq).alloc (Nat.le_refl _) (pbox y))
          have HY := Lib.hid hy
          have HBQ := Lib.hid hBq
          have hsuc := Lib.hid (totL_succ G ks hy)
          unfold pbox at HSY0 hwqs HB3
          clear hy hc2 hBq
          go_wp2_with fail
          generalize wq.alloc (.cells #[.int .u32 (y.1.a : Int), .int .u16 (y.1.e : Int), .int .u16 (y.1.p : Int), .int .u32 (y.2.a : Int), .int .u16 (y.2.e : Int), .int .u16 (y.2.p : Int)] 54) = w3 at *
          clear e0 e1 e2 e3 e4 e5
          go_loopw [13, 55] (fun c i wl => ∃ q : Nat, q ≤ k ∧ i = .int .i64 q ∧ c = .int .i64 ((sumK ((zs.take q).map lp) y).getD 0) ∧ Below w3.heap.size w3 wl) (fun _ i _ => k - (RowKit.intOf i).toNat)
          case atStart => exact ⟨0, Nat.zero_le _, rfl, by simp [sumK], Below.refl _ _⟩
          case round =>
            obtain ⟨q, hq, rfl, rfl, hBl⟩ := hrel
            rename World => wl
            by_cases hqk : q < k
            ·
              -- HOLE 2
              obtain ⟨x, hx⟩ : ∃ x, zs[q]? = some x := ⟨zs[q]'(by have := HN.out; omega), List.getElem?_eq_getElem (by have := HN.out; omega)⟩
              obtain ⟨g, off, rfl, hg, hc⟩ := HR1.out.six hx
              rw [HBb.out] at hg
              have hWl : Below b w1 wl := HB2.out.trans ((HBQ.out.mono hb2s).trans ((HB3.out.mono (Nat.le_trans hb2s HBQ.out.size)).trans (hBl.mono (Nat.le_trans hb2s (Nat.le_trans HBQ.out.size HB3.out.size)))))
              obtain ⟨c0, c1, c2, c3, c4, c5⟩ := hc.below hWl hg
              have hWB := (Below.refl wl.heap.size wl).alloc (Nat.le_refl _) (pbox x)
              have hBlW := hBl.trans (hWB.mono hBl.size)
              have HBlW := Lib.hid hBlW
              have HKY := Lib.hid (HSY0.out.below hBlW (by rw [hwqs]; exact Nat.lt_succ_self _))
              have HSX := Lib.hid (Six.box wl x)
              have hWs : (wl.alloc (pbox x)).heap.size = wl.heap.size + 1 := by simp
              have hcb := count_bd zs y q
              have S1 : Hid (∀ w, Calls Tryd.prog 13 #[.agg #[.int .u32 (x.1.a : Int), .int .u16 (x.1.e : Int), .int .u16 (x.1.p : Int)]] w fun e w' => e = .returned (.agg #[.int .u32 (x.1.small.a : Int), .int .u16 (x.1.small.e : Int), .int .u16 (x.1.small.p : Int)]) ∧ Below w.heap.size w w') := Lib.hid (fun w => small_k x.1 w)
              have S2 : Hid (∀ w, Calls Tryd.prog 13 #[.agg #[.int .u32 (x.2.a : Int), .int .u16 (x.2.e : Int), .int .u16 (x.2.p : Int)]] w fun e w' => e = .returned (.agg #[.int .u32 (x.2.small.a : Int), .int .u16 (x.2.small.e : Int), .int .u16 (x.2.small.p : Int)]) ∧ Below w.heap.size w w') := Lib.hid (fun w => small_k x.2 w)
              have heq1 : ∀ w, (binOp .eql 25 (.agg #[.int .u32 (x.1.small.a : Int), .int .u16 (x.1.small.e : Int), .int .u16 (x.1.small.p : Int)]) (.agg #[.int .u32 (y.1.a : Int), .int .u16 (y.1.e : Int), .int .u16 (y.1.p : Int)])).run Tryd.prog w = .ok (.bool (decide (x.1.small = y.1))) w := fun w => eqb_k x.1.small y.1 w
              have heq2 : ∀ w, (binOp .eql 25 (.agg #[.int .u32 (x.2.small.a : Int), .int .u16 (x.2.small.e : Int), .int .u16 (x.2.small.p : Int)]) (.agg #[.int .u32 (y.2.a : Int), .int .u16 (y.2.e : Int), .int .u16 (y.2.p : Int)])).run Tryd.prog w = .ok (.bool (decide (x.2.small = y.2))) w := fun w => eqb_k x.2.small y.2 w
              have hsn : sumK ((zs.take (q + 1)).map lp) y = if (x.1.small, x.2.small) = y then some ((sumK ((zs.take q).map lp) y).getD 0 + 1) else sumK ((zs.take q).map lp) y := by rw [take_lp zs q hx, sumK_snoc]; rfl
              have HSN := Lib.hid hsn
              have hyy : ((x.1.small, x.2.small) = y) ↔ (x.1.small = y.1 ∧ x.2.small = y.2) := by
                obtain ⟨y1, y2⟩ := y
                simp
              have HYY := Lib.hid hyy
              unfold pbox at HSX hWs HBlW HKY
              clear hx hc hWl hWB hBlW hBl hsn hyy
              obtain ⟨hc0, hc60, _⟩ := hcb
              obtain ⟨S, hS⟩ : ∃ S, (sumK ((zs.take q).map lp) y).getD 0 = S := ⟨_, rfl⟩
              rw [hS] at hc0 hc60 ⊢
              rw [hS] at HSN
              have HS := Lib.hid hS
              clear hS
              have hcase : (x.1.small = y.1 ∧ x.2.small = y.2) ∨ (x.1.small = y.1 ∧ x.2.small ≠ y.2) ∨ x.1.small ≠ y.1 := by
                by_cases h1 : x.1.small = y.1
                · by_cases h2 : x.2.small = y.2
                  · exact .inl ⟨h1, h2⟩
                  · exact .inr (.inl ⟨h1, h2⟩)
                · exact .inr (.inr h1)
              rcases hcase with ⟨h1, h2⟩ | ⟨h1, h2⟩ | h1
              · rw [decide_eq_true h1] at heq1
                rw [decide_eq_true h2] at heq2
                have HSE := Lib.hid (HSN.out.trans (if_pos (HYY.out.2 ⟨h1, h2⟩)))
                clear h1 h2 HSN HYY
                go_wp2_with fail
                generalize wl.alloc (.cells #[.int .u32 (x.1.a : Int), .int .u16 (x.1.e : Int), .int .u16 (x.1.p : Int), .int .u32 (x.2.a : Int), .int .u16 (x.2.e : Int), .int .u16 (x.2.p : Int)] 54) = W at *
                have hsx := HSX.out
                obtain ⟨b0, b1, b2, b3, b4, b5⟩ := hsx
                have hky := HKY.out
                obtain ⟨k0, k1, k2, k3, k4, k5⟩ := hky
                simp only [Nat.zero_add] at b0 b1 b2 b3 b4 b5 k0 k1 k2 k3 k4 k5
                have d0 := fun d os => cell_regrown b0 d os
                have d1 := fun d os => cell_regrown b1 d os
                have d2 := fun d os => cell_regrown b2 d os
                have d3 := fun d os => cell_regrown b3 d os
                have d4 := fun d os => cell_regrown b4 d os
                have d5 := fun d os => cell_regrown b5 d os
                have n0 := fun d os => cell_regrown k0 d os
                have n1 := fun d os => cell_regrown k1 d os
                have n2 := fun d os => cell_regrown k2 d os
                have n3 := fun d os => cell_regrown k3 d os
                have n4 := fun d os => cell_regrown k4 d os
                have n5 := fun d os => cell_regrown k5 d os
                refine wp_region_quiet_below hmix (by kernel_rfl) ?_
                repeat (first | go_big_quiet_step ((first | (go_at_call 13; with_reducible exact Calls.regrown_of (S1.out _)) | (go_at_call 13; with_reducible exact Calls.regrown_of (S2.out _)))) | quiet_step ((first | (go_at_call 13; with_reducible exact Calls.regrown_of (S1.out _)) | (go_at_call 13; with_reducible exact Calls.regrown_of (S2.out _)))))
                refine wpQuiet_nil ?_
                intro w5 hw5
                have hb5 : Below W.heap.size W w5 := by obtain ⟨q, rfl⟩ := hw5; exact below_regrown _ _ _
                clear d0 d1 d2 d3 d4 d5 n0 n1 n2 n3 n4 n5 b0 b1 b2 b3 b4 b5 k0 k1 k2 k3 k4 k5 c0 c1 c2 c3 c4 c5 hw5
                have HB5 := Lib.hid hb5
                clear hb5
                go_wp2
                go_roundw
                case rel => exact ⟨q + 1, by omega, by go_num, by rw [HSE.out]; simp, HBlW.out.trans (HB5.out.mono HBlW.out.size)⟩
                case measure => simp [RowKit.intOf]; omega
              · rw [decide_eq_true h1] at heq1
                rw [decide_eq_false h2] at heq2
                have HSE := Lib.hid (HSN.out.trans (if_neg (fun h => h2 (HYY.out.1 h).2)))
                clear h1 h2 HSN HYY
                go_wp2_with fail
                generalize wl.alloc (.cells #[.int .u32 (x.1.a : Int), .int .u16 (x.1.e : Int), .int .u16 (x.1.p : Int), .int .u32 (x.2.a : Int), .int .u16 (x.2.e : Int), .int .u16 (x.2.p : Int)] 54) = W at *
                have hsx := HSX.out
                obtain ⟨b0, b1, b2, b3, b4, b5⟩ := hsx
                have hky := HKY.out
                obtain ⟨k0, k1, k2, k3, k4, k5⟩ := hky
                simp only [Nat.zero_add] at b0 b1 b2 b3 b4 b5 k0 k1 k2 k3 k4 k5
                have d0 := fun d os => cell_regrown b0 d os
                have d1 := fun d os => cell_regrown b1 d os
                have d2 := fun d os => cell_regrown b2 d os
                have d3 := fun d os => cell_regrown b3 d os
                have d4 := fun d os => cell_regrown b4 d os
                have d5 := fun d os => cell_regrown b5 d os
                have n0 := fun d os => cell_regrown k0 d os
                have n1 := fun d os => cell_regrown k1 d os
                have n2 := fun d os => cell_regrown k2 d os
                have n3 := fun d os => cell_regrown k3 d os
                have n4 := fun d os => cell_regrown k4 d os
                have n5 := fun d os => cell_regrown k5 d os
                refine wp_region_quiet_below hmix (by kernel_rfl) ?_
                repeat (first | go_big_quiet_step ((first | (go_at_call 13; with_reducible exact Calls.regrown_of (S1.out _)) | (go_at_call 13; with_reducible exact Calls.regrown_of (S2.out _)))) | quiet_step ((first | (go_at_call 13; with_reducible exact Calls.regrown_of (S1.out _)) | (go_at_call 13; with_reducible exact Calls.regrown_of (S2.out _)))))
                refine wpQuiet_nil ?_
                intro w5 hw5
                have hb5 : Below W.heap.size W w5 := by obtain ⟨q, rfl⟩ := hw5; exact below_regrown _ _ _
                clear d0 d1 d2 d3 d4 d5 n0 n1 n2 n3 n4 n5 b0 b1 b2 b3 b4 b5 k0 k1 k2 k3 k4 k5 c0 c1 c2 c3 c4 c5 hw5
                have HB5 := Lib.hid hb5
                clear hb5
                go_wp2
                go_roundw
                case rel => exact ⟨q + 1, by omega, by go_num, by rw [HSE.out, HS.out], HBlW.out.trans (HB5.out.mono HBlW.out.size)⟩
                case measure => simp [RowKit.intOf]; omega
              · rw [decide_eq_false h1] at heq1
                have HSE := Lib.hid (HSN.out.trans (if_neg (fun h => h1 (HYY.out.1 h).1)))
                clear h1 HSN HYY heq2
                go_wp2_with fail
                generalize wl.alloc (.cells #[.int .u32 (x.1.a : Int), .int .u16 (x.1.e : Int), .int .u16 (x.1.p : Int), .int .u32 (x.2.a : Int), .int .u16 (x.2.e : Int), .int .u16 (x.2.p : Int)] 54) = W at *
                have hsx := HSX.out
                obtain ⟨b0, b1, b2, b3, b4, b5⟩ := hsx
                have hky := HKY.out
                obtain ⟨k0, k1, k2, k3, k4, k5⟩ := hky
                simp only [Nat.zero_add] at b0 b1 b2 b3 b4 b5 k0 k1 k2 k3 k4 k5
                have d0 := fun d os => cell_regrown b0 d os
                have d1 := fun d os => cell_regrown b1 d os
                have d2 := fun d os => cell_regrown b2 d os
                have d3 := fun d os => cell_regrown b3 d os
                have d4 := fun d os => cell_regrown b4 d os
                have d5 := fun d os => cell_regrown b5 d os
                have n0 := fun d os => cell_regrown k0 d os
                have n1 := fun d os => cell_regrown k1 d os
                have n2 := fun d os => cell_regrown k2 d os
                have n3 := fun d os => cell_regrown k3 d os
                have n4 := fun d os => cell_regrown k4 d os
                have n5 := fun d os => cell_regrown k5 d os
                refine wp_region_quiet_below hmix (by kernel_rfl) ?_
                repeat (first | go_big_quiet_step ((first | (go_at_call 13; with_reducible exact Calls.regrown_of (S1.out _)) | (go_at_call 13; with_reducible exact Calls.regrown_of (S2.out _)))) | quiet_step ((first | (go_at_call 13; with_reducible exact Calls.regrown_of (S1.out _)) | (go_at_call 13; with_reducible exact Calls.regrown_of (S2.out _)))))
                refine wpQuiet_nil ?_
                intro w5 hw5
                have hb5 : Below W.heap.size W w5 := by obtain ⟨q, rfl⟩ := hw5; exact below_regrown _ _ _
                clear d0 d1 d2 d3 d4 d5 n0 n1 n2 n3 n4 n5 b0 b1 b2 b3 b4 b5 k0 k1 k2 k3 k4 k5 c0 c1 c2 c3 c4 c5 hw5
                have HB5 := Lib.hid hb5
                clear hb5
                go_wp2
                go_roundw
                case rel => exact ⟨q + 1, by omega, by go_num, by rw [HSE.out, HS.out], HBlW.out.trans (HB5.out.mono HBlW.out.size)⟩
                case measure => simp [RowKit.intOf]; omega
              -- END 2
            · obtain rfl : q = k := by omega
              have hgy : (sumK ((zs.take q).map lp) y).getD 0 = G y := by rw [HN.out, List.take_length, HG.out]
              rw [hgy]
              have hpos := (HPOS.out y).1 (List.mem_of_getElem? HY.out)
              have hgb := HGB.out y
              have htb := HTB.out j
              have M1 : Hid (∀ d os, Calls Tryd.prog 21 #[.map (some b), .agg #[.int .u32 (y.1.a : Int), .int .u16 (y.1.e : Int), .int .u16 (y.1.p : Int)], .agg #[.int .u32 (y.2.a : Int), .int .u16 (y.2.e : Int), .int .u16 (y.2.p : Int)]] (grow (redrawn wl d) os) fun e w' => e = .returned (.int .i64 (G y)) ∧ Below (grow (redrawn wl d) os).heap.size (grow (redrawn wl d) os) w') := Lib.hid (fun d os => by
                have h := lmany_k b L y.1 y.2 (grow (redrawn wl d) os) (HM2.out.below ((HBQ.out.trans (HB3.out.mono HBQ.out.size)).trans ((hBl.mono (Nat.le_trans HBQ.out.size HB3.out.size)).trans ((below_regrown wl d os).mono (Nat.le_trans HBQ.out.size (Nat.le_trans HB3.out.size hBl.size))))) HM2.out.lt)
                rw [HLA.out] at h
                rw [HG.out]
                exact h)
              have HSUC : Hid (totL G ks (j + 1) = totL G ks j + G y) := hsuc
              obtain ⟨gy, hgyv⟩ : ∃ gy, G y = gy := ⟨_, rfl⟩
              obtain ⟨T, hTv⟩ : ∃ T, totL G ks j = T := ⟨_, rfl⟩
              rw [hgyv] at hpos hgb M1 HSUC ⊢
              rw [hTv] at htb HSUC ⊢
              obtain ⟨hg1, hg2'⟩ := hgb
              obtain ⟨ht1, ht2⟩ := htb
              have ht3 : T ≤ 3600 := by omega
              have hne : (gy == 0) = false := by simpa using (show gy ≠ 0 by omega)
              have HKY := Lib.hid (HSY0.out.below hBl (by rw [hwqs]; exact Nat.lt_succ_self _))
              have hky := HKY.out
              obtain ⟨k0, k1, k2, k3, k4, k5⟩ := hky
              simp only [Nat.zero_add] at k0 k1 k2 k3 k4 k5
              have n0 := fun d os => cell_regrown k0 d os
              have n1 := fun d os => cell_regrown k1 d os
              have n2 := fun d os => cell_regrown k2 d os
              have n3 := fun d os => cell_regrown k3 d os
              have n4 := fun d os => cell_regrown k4 d os
              have n5 := fun d os => cell_regrown k5 d os
              have HC2 := Lib.hid (fun i z (hz : ks[i]? = some z) (d : Nat) (os : Array Obj) => by
                obtain ⟨g', off', e', hg', hc'⟩ := HREC.out.six hz
                cases e'
                exact hc'.below ((HBQ.out.trans (HB3.out.mono HBQ.out.size)).trans ((hBl.mono (Nat.le_trans HBQ.out.size HB3.out.size)).trans ((below_regrown wl d os).mono (Nat.le_trans HBQ.out.size (Nat.le_trans HB3.out.size hBl.size))))) hg')
              have HBL := Lib.hid hBl
              have hjm : (ks.length : Int) ≤ 60 := by omega
              clear hBl k0 k1 k2 k3 k4 k5 hgy hgyv hTv hsuc
              by_cases hj0 : j = 0
              · subst hj0
                go_wp2_with fail
                refine wp_region_quiet_below hmix (by kernel_rfl) ?_
                repeat (first | go_big_quiet_step (((go_at_call 21; with_reducible exact Calls.regrown_of (M1.out _ _)))) | quiet_step (((go_at_call 21; with_reducible exact Calls.regrown_of (M1.out _ _)))))
                refine wpQuiet_nil ?_
                intro w5 hw5
                have hb5 : Below wl.heap.size wl w5 := by obtain ⟨q, rfl⟩ := hw5; exact below_regrown _ _ _
                have HB5 := Lib.hid hb5
                clear hw5 hb5 n0 n1 n2 n3 n4 n5 hne
                go_wp2
                go_roundw
                case rel => exact ⟨0 + 1, by omega, by go_num, by rw [HSUC.out], (HBQ.out.trans (HB3.out.mono HBQ.out.size)).trans ((HBL.out.mono (Nat.le_trans HBQ.out.size HB3.out.size)).trans (HB5.out.mono (Nat.le_trans HBQ.out.size (Nat.le_trans HB3.out.size HBL.out.size))))⟩
                case measure => simp [RowKit.intOf]; omega
              ·
                -- HOLE 3
                obtain ⟨j', rfl⟩ : ∃ j', j = j' + 1 := ⟨j - 1, by omega⟩
                obtain ⟨z, hz⟩ : ∃ z, ks[j']? = some z := ⟨ks[j']'(by omega), List.getElem?_eq_getElem (by omega)⟩
                have hzl := pnum_lt.1 (HRI.out.step hz HY.out)
                have v0 := fun d os => (HC2.out _ z hz d os).1
                have v1 := fun d os => (HC2.out _ z hz d os).2.1
                have v2 := fun d os => (HC2.out _ z hz d os).2.2.1
                have v3 := fun d os => (HC2.out _ z hz d os).2.2.2.1
                have v4 := fun d os => (HC2.out _ z hz d os).2.2.2.2.1
                have v5 := fun d os => (HC2.out _ z hz d os).2.2.2.2.2
                have hwp : IntKind.i64.wrap (j' : Int) = (j' : Int) := by rw [IntKind.wrap_i64]; omega
                have hj1 : (j' : Int) < (ks.length : Int) := by omega
                have L1 : Hid (∀ w, Calls Tryd.prog 9 #[.agg #[.int .u32 (z.1.a : Int), .int .u16 (z.1.e : Int), .int .u16 (z.1.p : Int)], .agg #[.int .u32 (y.1.a : Int), .int .u16 (y.1.e : Int), .int .u16 (y.1.p : Int)]] w fun e w' => e = .returned (.bool (decide (z.1.num < y.1.num))) ∧ Below w.heap.size w w') := Lib.hid (fun w => less_k z.1 y.1 w)
                have L2 : Hid (∀ w, Calls Tryd.prog 9 #[.agg #[.int .u32 (z.2.a : Int), .int .u16 (z.2.e : Int), .int .u16 (z.2.p : Int)], .agg #[.int .u32 (y.2.a : Int), .int .u16 (y.2.e : Int), .int .u16 (y.2.p : Int)]] w fun e w' => e = .returned (.bool (decide (z.2.num < y.2.num))) ∧ Below w.heap.size w w') := Lib.hid (fun w => less_k z.2 y.2 w)
                have heq : ∀ w, (binOp .eql 25 (.agg #[.int .u32 (z.1.a : Int), .int .u16 (z.1.e : Int), .int .u16 (z.1.p : Int)]) (.agg #[.int .u32 (y.1.a : Int), .int .u16 (y.1.e : Int), .int .u16 (y.1.p : Int)])).run Tryd.prog w = .ok (.bool (decide (z.1 = y.1))) w := fun w => eqb_k z.1 y.1 w
                clear hz hj0
                rcases hzl with h1 | ⟨h1, h2⟩
                · rw [decide_eq_true h1] at L1
                  clear h1 heq
                  go_wp2_with fail
                  refine wp_region_quiet_below hmix (by kernel_rfl) ?_
                  repeat (first | go_big_quiet_step ((first | (go_at_call 21; with_reducible exact Calls.regrown_of (M1.out _ _)) | (go_at_call 9; with_reducible exact Calls.regrown_of (L1.out _)) | (go_at_call 9; with_reducible exact Calls.regrown_of (L2.out _)))) | quiet_step ((first | (go_at_call 21; with_reducible exact Calls.regrown_of (M1.out _ _)) | (go_at_call 9; with_reducible exact Calls.regrown_of (L1.out _)) | (go_at_call 9; with_reducible exact Calls.regrown_of (L2.out _)))))
                  refine wpQuiet_nil ?_
                  intro w5 hw5
                  have hb5 : Below wl.heap.size wl w5 := by obtain ⟨q, rfl⟩ := hw5; exact below_regrown _ _ _
                  have HB5 := Lib.hid hb5
                  clear hw5 hb5 n0 n1 n2 n3 n4 n5 hne v0 v1 v2 v3 v4 v5
                  go_wp2
                  go_roundw
                  case rel => exact ⟨j' + 1 + 1, by omega, by go_num, by rw [HSUC.out], (HBQ.out.trans (HB3.out.mono HBQ.out.size)).trans ((HBL.out.mono (Nat.le_trans HBQ.out.size HB3.out.size)).trans (HB5.out.mono (Nat.le_trans HBQ.out.size (Nat.le_trans HB3.out.size HBL.out.size))))⟩
                  case measure => simp [RowKit.intOf]; omega
                · rw [decide_eq_false (show ¬ z.1.num < y.1.num by rw [h1]; omega)] at L1
                  rw [decide_eq_true h2] at L2
                  rw [decide_eq_true h1] at heq
                  clear h1 h2
                  go_wp2_with fail
                  refine wp_region_quiet_below hmix (by kernel_rfl) ?_
                  repeat (first | go_big_quiet_step ((first | (go_at_call 21; with_reducible exact Calls.regrown_of (M1.out _ _)) | (go_at_call 9; with_reducible exact Calls.regrown_of (L1.out _)) | (go_at_call 9; with_reducible exact Calls.regrown_of (L2.out _)))) | quiet_step ((first | (go_at_call 21; with_reducible exact Calls.regrown_of (M1.out _ _)) | (go_at_call 9; with_reducible exact Calls.regrown_of (L1.out _)) | (go_at_call 9; with_reducible exact Calls.regrown_of (L2.out _)))))
                  refine wpQuiet_nil ?_
                  intro w5 hw5
                  have hb5 : Below wl.heap.size wl w5 := by obtain ⟨q, rfl⟩ := hw5; exact below_regrown _ _ _
                  have HB5 := Lib.hid hb5
                  clear hw5 hb5 n0 n1 n2 n3 n4 n5 hne v0 v1 v2 v3 v4 v5 heq
                  go_wp2
                  go_roundw
                  case rel => exact ⟨j' + 1 + 1, by omega, by go_num, by rw [HSUC.out], (HBQ.out.trans (HB3.out.mono HBQ.out.size)).trans ((HBL.out.mono (Nat.le_trans HBQ.out.size HB3.out.size)).trans (HB5.out.mono (Nat.le_trans HBQ.out.size (Nat.le_trans HB3.out.size HBL.out.size))))⟩
                  case measure => simp [RowKit.intOf]; omega
                -- END 3
          -- END 4
        · obtain rfl : j = ks.length := by omega
          rw [HTOT.out]
          have hbq := hBq.size
          have hW1q : Below b w1 wq := HB2.out.trans (hBq.mono hb2s)
          have HOQ := Lib.hid (HOS1.out.below hW1q (by omega))
          have hsix := HOQ.out
          obtain ⟨u0, u1, u2, u3, u4, u5⟩ := hsix
          simp only [Nat.zero_add] at u0 u1 u2 u3 u4 u5
          obtain ⟨r, hr⟩ : ∃ r, decide (ot ∈ ks) = r := ⟨_, rfl⟩
          have hrg : decide (0 < G ot) = r := by rw [← hr]; exact decide_eq_decide.2 (HPOS.out ot).symm
          have M1 : Hid (Calls Tryd.prog 21 #[.map (some b), .agg #[.int .u32 (ot.1.a : Int), .int .u16 (ot.1.e : Int), .int .u16 (ot.1.p : Int)], .agg #[.int .u32 (ot.2.a : Int), .int .u16 (ot.2.e : Int), .int .u16 (ot.2.p : Int)]] wq fun e w' => e = .returned (.int .i64 (G ot)) ∧ Below wq.heap.size wq w') := Lib.hid (by
            have h := lmany_k b L ot.1 ot.2 wq (HM2.out.below hBq HM2.out.lt)
            rw [HLA.out] at h
            rw [HG.out]
            exact h)
          have M2 : Hid (∀ w, Calls Tryd.prog 21 #[.map none, .agg #[.int .u32 (ot.1.a : Int), .int .u16 (ot.1.e : Int), .int .u16 (ot.1.p : Int)], .agg #[.int .u32 (ot.2.a : Int), .int .u16 (ot.2.e : Int), .int .u16 (ot.2.p : Int)]] w fun e w' => e = .returned (.int .i64 0) ∧ Below w.heap.size w w') := Lib.hid (fun w => lmany_nil ot.1 ot.2 w)
          have M3 : Hid (∀ w', Below w2.heap.size w2 w' → Calls Tryd.prog 22 #[.slice r2 ks.length cap2, .agg #[.int .u32 (ot.1.a : Int), .int .u16 (ot.1.e : Int), .int .u16 (ot.1.p : Int), .int .u32 (ot.2.a : Int), .int .u16 (ot.2.e : Int), .int .u16 (ot.2.p : Int)]] w' fun e w'' => e = .returned (.bool r) ∧ Below w'.heap.size w' w'') := Lib.hid (fun w' hb' => by
            have h := contains_p (.slice r2 ks.length cap2) ks ot w' (HREC.out.stay hb')
            rw [hr] at h
            exact h)
          have M4 := Lib.hid (fun w => lpairs_nil w)
          have HW1Q := Lib.hid hW1q
          have HBQ := Lib.hid hBq
          obtain ⟨go, hgo⟩ : ∃ go, G ot = go := ⟨_, rfl⟩
          rw [hgo] at hrg M1
          have hwb : w.heap.size < wq.heap.size := by omega
          clear hBq hW1q hr hgo
          go_wp2_with (first
            | (go_at_call 20; ((with_reducible refine (M4.out _).mono ?_); rintro e w7 ⟨v7, rfl, hr7, hb7⟩; obtain ⟨r7, cap7, rfl, _⟩ := hr7.form; have HB7 := Lib.hid hb7; clear hb7 hr7))
            | (go_at_call 22; ((with_reducible refine (M3.out _ (HBQ.out.trans (HB4.out.mono HBQ.out.size))).mono ?_); rintro e w5 ⟨rfl, hb5⟩; have hs5 := HO4.out.below hb5 (Nat.lt_of_lt_of_le hwb HB4.out.size); obtain ⟨x0, x1, x2, x3, x4, x5⟩ := hs5; simp only [Nat.zero_add] at x0 x1 x2 x3 x4 x5; have HB5 := Lib.hid hb5; clear hb5))
            | (go_at_call 21; ((with_reducible refine M1.out.mono ?_); rintro e w4 ⟨rfl, hb4⟩; have HO4 := Lib.hid (HOQ.out.below hb4 hwb); have hs4 := HO4.out; obtain ⟨y0, y1, y2, y3, y4, y5⟩ := hs4; simp only [Nat.zero_add] at y0 y1 y2 y3 y4 y5; have HB4 := Lib.hid hb4; clear hb4))
            | (go_at_call 21; ((with_reducible refine (M2.out _).mono ?_); rintro e w6 ⟨rfl, hb6⟩; have HB6 := Lib.hid hb6; clear hb6)))
          go_ret
          have s1 : w.heap.size ≤ b := by omega
          have sq : w.heap.size ≤ wq.heap.size := Nat.le_of_lt hwb
          have s4 := Nat.le_trans sq HB4.out.size
          have s5 := Nat.le_trans s4 HB5.out.size
          have s6 := Nat.le_trans s5 HB6.out.size
          exact ⟨rfl, ((((HB1.out.trans (HW1Q.out.mono s1)).trans (HB4.out.mono sq)).trans (HB5.out.mono s4)).trans (HB6.out.mono s5)).trans (HB7.out.mono s6)⟩
set_option maxRecDepth 100000 in
theorem keylinks_any {I : World → Prop} (C : AllotC) (D : DayC I) (K : KeyC I) (v : Value) (zs : List (Kt × Kt)) (ot : Kt × Kt) (w : World) (hI : I w) (hR : Recs pc 6 w v zs) :
    Calls Tryd.prog 6 #[v, pv ot] w fun e w' => e = .returned (.bool true) ∧ Below w.heap.size w w' := by
  obtain ⟨r, cap, rfl, hm⟩ := hR.form
  by_cases hl : zs.length ≤ 60
  · exact keylinks_some C D K r zs.length cap zs ot w hI hR rfl hl
  · have hbx := (Below.refl w.heap.size w).alloc (Nat.le_refl _) (pbox ot)
    have K1 := Lib.hid (awake5_any C D K _ (D.stay hI hbx))
    have HBX := Lib.hid hbx
    have hd : decide ((60 : Int) < (zs.length : Int)) = true := decide_eq_true (by omega)
    clear hR hbx
    unfold pbox at K1 HBX
    unfold pv
    generalize zs.length = n at *
    go_enter Tryd.func6, Tryd.ntmps6
    go_wp2_with (go_at_call 7; refine K1.out.mono ?_; rintro e w1 ⟨rfl, hb1⟩)
    go_ret
    exact ⟨rfl, HBX.out.trans (hb1.mono HBX.out.size)⟩
end Go.Proofs.YtnmnjoleebhhiaaDoor

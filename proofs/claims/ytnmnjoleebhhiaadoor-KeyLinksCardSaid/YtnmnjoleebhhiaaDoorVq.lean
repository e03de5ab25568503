/- The walk of law KeySums. -/
import Derived.Test.YtnmnjoleebhhiaaDoorVp
import Derived.Carry
namespace Go.Proofs.YtnmnjoleebhhiaaDoor
open Go.RowKit Go.Sort
set_option linter.unusedVariables false
set_option linter.unusedSimpArgs false
/-- What lies behind: blocks of the call's own. -/
theorem grown_below {w w' : World} {b B : Nat} (h : w.grownBy w' (some b)) (hb : B ≤ b) (hB : B ≤ w.heap.size) : Below B w w' :=
  ⟨h.os, h.tape, h.output, h.size, fun k hk => h.block k (by omega) (by simp; omega)⟩
theorem take_mp (zs : List Mt) (k : Nat) {x : Mt} (h : zs[k]? = some x) : (zs.take (k + 1)).map mp = (zs.take k).map mp ++ [mp x] := by
  obtain ⟨hk, e⟩ := List.getElem?_eq_some_iff.1 h
  rw [List.take_succ_eq_append_getElem hk, List.map_append, e]; rfl
set_option maxHeartbeats 8000000 in
set_option maxRecDepth 100000 in
theorem keysums_some {I : World → Prop} (C : AllotC) (D : DayC I) (K : KeyC I) (r0 : Option Addr) (n cap0 : Nat) (zs : List Mt) (w : World) (hI : I w) (hR : Recs mc 4 w (.slice r0 n cap0) zs) (hn : n = zs.length) (hl : n ≤ 60) :
    Calls Tryd.prog 5 #[.slice r0 n cap0] w fun e w' => e = .returned (.bool true) ∧ Below w.heap.size w w' := by
  have K1 := Lib.hid (awake5_any C D K w hI)
  have HR := Lib.hid hR
  have HN := Lib.hid hn
  have hmm := @run_makeMap Tryd.prog
  have hd60 : decide ((60 : Int) < (n : Int)) = false := decide_eq_false (by omega)
  have hmix : Tryd.prog.follows .mixedOrders = true := by kernel_rfl
  clear hR hn
  go_enter Tryd.func5, Tryd.ntmps5
  go_wp2_with (go_at_call 7; refine K1.out.mono ?_; rintro e w1 ⟨rfl, hb1⟩)
  have hs1 := hb1.size
  obtain ⟨b, hb⟩ : ∃ b, w1.heap.size = b := ⟨_, rfl⟩
  have hM0 : MapOf kv wv b ([] : List (Kt × Int)) (w1.alloc (.map #[] 0)) := hb ▸ MapOf.made w1
  have HR1 := Lib.hid (HR.out.stay hb1)
  have hW0 : Below w.heap.size w (w1.alloc (.map #[] 0)) := hb1.alloc hs1 _
  rw [hb] at hs1 ⊢
  clear hmm
  go_loopw [26] (fun i wr => ∃ k : Nat, k ≤ n ∧ i = .int .i64 k ∧ ∃ L : List (Kt × Int), MapOf kv wv b L wr ∧ Hid (∀ y, getK L y = sumK ((zs.take k).map mp) y) ∧ L.length ≤ k ∧ Below w.heap.size w wr) (fun i _ => n - (RowKit.intOf i).toNat)
  case atStart => exact ⟨0, Nat.zero_le _, rfl, [], hM0, Lib.hid (fun y => by simp [getK, sumK]), by simp, hW0⟩
  case round =>
    clear hM0 hW0 hb1 hb HR1
    obtain ⟨k, hk, rfl, L, hM, HL, hLl, hB⟩ := hrel
    rename World => wr
    by_cases hlt : k < n
    ·
      -- HOLE 1
      obtain ⟨x, hx⟩ : ∃ x, zs[k]? = some x := ⟨zs[k]'(by have := HN.out; omega), List.getElem?_eq_getElem (by have := HN.out; omega)⟩
      obtain ⟨g, off, rfl, hg, hc⟩ := HR.out.at hx
      have HX := Lib.hid hx
      clear hx
      have hc' : ∀ j u, (mc x)[j]? = some u → wr.cell? ⟨g, off + k * 4 + j, none⟩ = some u := fun j u hu => by rw [hB.cell (p := ⟨g, off + k * 4 + j, none⟩) hg]; exact hc j u hu
      have c0 := hc' 0 _ rfl
      have c1 := hc' 1 _ rfl
      have c2 := hc' 2 _ rfl
      have c3 := hc' 3 _ rfl
      rw [Nat.add_zero] at c0
      clear hc hc'
      have HB := Lib.hid hB
      have HM := Lib.hid hM
      have hbr := hM.lt
      have hM1 := hM.below ((Below.refl wr.heap.size wr).alloc (Nat.le_refl _) (.cells #[.int .u32 (x.k.a : Int), .int .u16 (x.k.e : Int), .int .u16 (x.k.p : Int), .int .i64 x.n] 38)) hbr
      have HBW := Lib.hid (hB.alloc hB.size (.cells #[.int .u32 (x.k.a : Int), .int .u16 (x.k.e : Int), .int .u16 (x.k.p : Int), .int .i64 x.n] 38))
      have HM1 := Lib.hid hM1
      have b0 := box_cell wr #[.int .u32 (x.k.a : Int), .int .u16 (x.k.e : Int), .int .u16 (x.k.p : Int), .int .i64 x.n] 38 0 _ rfl
      have b1 := box_cell wr #[.int .u32 (x.k.a : Int), .int .u16 (x.k.e : Int), .int .u16 (x.k.p : Int), .int .i64 x.n] 38 1 _ rfl
      have b2 := box_cell wr #[.int .u32 (x.k.a : Int), .int .u16 (x.k.e : Int), .int .u16 (x.k.p : Int), .int .i64 x.n] 38 2 _ rfl
      have b3 := box_cell wr #[.int .u32 (x.k.a : Int), .int .u16 (x.k.e : Int), .int .u16 (x.k.p : Int), .int .i64 x.n] 38 3 _ rfl
      have hWs : (wr.alloc (.cells #[.int .u32 (x.k.a : Int), .int .u16 (x.k.e : Int), .int .u16 (x.k.p : Int), .int .i64 x.n] 38)).heap.size = wr.heap.size + 1 := by simp
      have S1 : Hid (∀ w, Calls Tryd.prog 13 #[.agg #[.int .u32 (x.k.a : Int), .int .u16 (x.k.e : Int), .int .u16 (x.k.p : Int)]] w fun e w' => e = .returned (kv x.k.small) ∧ Below w.heap.size w w') := Lib.hid (fun w => small_k x.k w)
      have A1 := Lib.hid (fun (w : World) (h : MapOf kv wv b L w) => sadd_k b L x.k.small x.n w h x.hn)
      have A2 : Hid (∀ w, Calls Tryd.prog 12 #[.map none, .agg #[.int .u32 (x.k.a : Int), .int .u16 (x.k.e : Int), .int .u16 (x.k.p : Int)], .int .i64 x.n] w fun e w' => e = .returned (.tuple #[]) ∧ Below w.heap.size w w') := Lib.hid (fun w => sadd_nil x.k x.n w)
      have HBR := Lib.hid hbr
      have HLL := Lib.hid hLl
      clear hB hM hM1 hbr hLl
      go_wp2_with fail
      generalize wr.alloc (.cells #[.int .u32 (x.k.a : Int), .int .u16 (x.k.e : Int), .int .u16 (x.k.p : Int), .int .i64 x.n] 38) = W at *
      have d0 := fun d os => cell_regrown b0 d os
      have d1 := fun d os => cell_regrown b1 d os
      have d2 := fun d os => cell_regrown b2 d os
      have d3 := fun d os => cell_regrown b3 d os
      refine wp_tail_below 6 hmix (by kernel_rfl) ?_
      simp only [List.take_succ_cons, List.take_zero, List.drop_succ_cons, List.drop_zero]
      repeat (first | go_big_quiet_step ((go_at_call 13; with_reducible exact Calls.regrown_of (S1.out _))) | quiet_step ((go_at_call 13; with_reducible exact Calls.regrown_of (S1.out _))))
      refine wpQuiet_nil ?_
      intro w3 hw3
      have hb3 : Below W.heap.size W w3 := by obtain ⟨q, rfl⟩ := hw3; exact below_regrown _ _ _
      have p0 := (hb3.cell (p := ⟨wr.heap.size, 0, none⟩) (by show wr.heap.size < _; omega)).trans b0
      have p1 := (hb3.cell (p := ⟨wr.heap.size, 1, none⟩) (by show wr.heap.size < _; omega)).trans b1
      have p2 := (hb3.cell (p := ⟨wr.heap.size, 2, none⟩) (by show wr.heap.size < _; omega)).trans b2
      have p3 := (hb3.cell (p := ⟨wr.heap.size, 3, none⟩) (by show wr.heap.size < _; omega)).trans b3
      have HB3 := Lib.hid hb3
      clear d0 d1 d2 d3 b0 b1 b2 b3 hw3 hb3 c0 c1 c2 c3
      go_wp2_with (first
        | (go_at_call 12; ((with_reducible refine (A1.out _ (HM1.out.below HB3.out HM1.out.lt)).mono ?_); rintro e w4 ⟨rfl, hM4, hg4⟩; have q0 := hg4.cell p0 (by simp; have := HBR.out; omega); have q1 := hg4.cell p1 (by simp; have := HBR.out; omega); have q2 := hg4.cell p2 (by simp; have := HBR.out; omega); have q3 := hg4.cell p3 (by simp; have := HBR.out; omega); have HM4 := Lib.hid hM4; have HG4 := Lib.hid hg4; clear hM4 hg4))
        | (go_at_call 12; ((with_reducible refine (A2.out _).mono ?_); rintro e w5 ⟨rfl, hb5⟩; have HB5 := Lib.hid hb5; clear hb5)))
      go_roundw
      case rel =>
        refine ⟨k + 1, by omega, by go_num, putK L x.k.small ((getK L x.k.small).getD 0 + x.n), HM4.out.below HB5.out HM4.out.lt, Lib.hid (fun y => ?_), Nat.le_trans (length_putK _ _ _) (by have := HLL.out; omega), ?_⟩
        · rw [take_mp zs k HX.out, sumK_snoc, getK_putK, HL.out, HL.out]
          show _ = if x.k.small = y then some ((sumK ((zs.take k).map mp) y).getD 0 + x.n) else _
          by_cases h : x.k.small = y
          · subst h; rfl
          · rw [if_neg h, if_neg h]
        · exact ((HBW.out.trans (HB3.out.mono HBW.out.size)).grown HG4.out (Nat.le_trans HBW.out.size HB3.out.size) (fun j hj => by cases hj; omega)).trans (HB5.out.mono (Nat.le_trans HBW.out.size (Nat.le_trans HB3.out.size HG4.out.size)))
      case measure => simp [RowKit.intOf]; omega
      -- END 1
    · obtain rfl : k = n := by omega
      have HLA : Hid (∀ y, getK L y = sumK (zs.map mp) y) := Lib.hid (fun y => by have := HL.out y; rw [HN.out, List.take_length] at this; exact this)
      clear HL
      have K2 := Lib.hid (skeys_k b L wr hM (by omega))
      have HM := Lib.hid hM
      have HB := Lib.hid hB
      clear hM hB
      go_wp2_with (go_at_call 14; refine K2.out.mono ?_; rintro e w2 ⟨v, ks, rfl, hq⟩; obtain ⟨r2, cap2, rfl, hkl⟩ := hq.2.2.1.form; have HQ := Lib.hid hq; clear hq)
      obtain ⟨hp, hr, hrec, hb2⟩ := HQ.out
      have HP := Lib.hid hp
      have HRI := Lib.hid hr
      have HREC := Lib.hid hrec
      have HM2 := Lib.hid (HM.out.below hb2 HM.out.lt)
      have HB2 := Lib.hid (HB.out.trans (hb2.mono HB.out.size))
      have HSOME : Hid (∀ y, y ∈ ks → (sumK (zs.map mp) y).isSome = true) := Lib.hid (fun y hy => by rw [← HLA.out]; exact mem_keys.1 (hp.mem_iff.1 hy))
      clear hp hr hrec hb2 HQ K2 HM HB
      go_loopw [48] (fun i wq => ∃ j : Nat, j ≤ ks.length ∧ i = .int .i64 j ∧ Below w2.heap.size w2 wq) (fun i _ => ks.length - (RowKit.intOf i).toNat)
      case atStart => exact ⟨0, Nat.zero_le _, rfl, Below.refl _ _⟩
      case round =>
        obtain ⟨j, hj, rfl, hBq⟩ := hrel
        rename World => wq
        by_cases hjl : j < ks.length
        ·
          -- HOLE 4
          have hby := fun (y : Kt) => Lib.hid (box_cell wq #[.int .u32 (y.a : Int), .int .u16 (y.e : Int), .int .u16 (y.p : Int)] 25)
          obtain ⟨y, hy⟩ : ∃ y, ks[j]? = some y := ⟨ks[j], List.getElem?_eq_getElem hjl⟩
          obtain ⟨g2, off2, rfl, hg2, hc2⟩ := HREC.out.at hy
          have e0 := (hBq.cell (p := ⟨g2, off2 + j * 3, none⟩) hg2).trans (hc2 0 _ rfl)
          have e1 := (hBq.cell (p := ⟨g2, off2 + j * 3 + 1, none⟩) hg2).trans (hc2 1 _ rfl)
          have e2 := (hBq.cell (p := ⟨g2, off2 + j * 3 + 2, none⟩) hg2).trans (hc2 2 _ rfl)
          have HY := Lib.hid hy
          have HBQ := Lib.hid hBq
          have hza := zeroArr
          have cb := fun w' => bits_any 0 w'
          rw [hi0, lo0] at cb
          clear hy hc2 hBq
          go_wp2_with (first
            | (go_at_call 15; refine (cb _).mono ?_; rintro e w3 ⟨rfl, hb3⟩; have N0 := Lib.hid (IsArr.new w3 (fun _ => 0)))
            | refine wpList_store_row rfl 43 _ _ rfl w3.heap.size _ rfl rfl 43 _ N0.out (infoArr _) (by rw [arr_size, arr_size]) (arr_one _) ?_)
          have HBY := hby y
          clear hby
          have hwqs : (wq.alloc (.cells #[.int .u32 (y.a : Int), .int .u16 (y.e : Int), .int .u16 (y.p : Int)] 25)).heap.size = wq.heap.size + 1 := by simp
          have hs3 := hb3.size
          rw [hwqs] at hs3
          have k0 := (hb3.cell (p := ⟨wq.heap.size, 0, none⟩) (by show wq.heap.size < _; omega)).trans (HBY.out 0 _ rfl)
          have k1 := (hb3.cell (p := ⟨wq.heap.size, 1, none⟩) (by show wq.heap.size < _; omega)).trans (HBY.out 1 _ rfl)
          have k2 := (hb3.cell (p := ⟨wq.heap.size, 2, none⟩) (by show wq.heap.size < _; omega)).trans (HBY.out 2 _ rfl)
          have KY := Lib.hid (show w3.cell? ⟨wq.heap.size, 0, none⟩ = some (.int .u32 (y.a : Int)) ∧ w3.cell? ⟨wq.heap.size, 1, none⟩ = some (.int .u16 (y.e : Int)) ∧ w3.cell? ⟨wq.heap.size, 2, none⟩ = some (.int .u16 (y.p : Int)) from ⟨k0, k1, k2⟩)
          have HB3 := Lib.hid (show Below wq.heap.size wq w3 from ((Below.refl wq.heap.size wq).alloc (Nat.le_refl _) _).trans (hb3.mono (by omega)))
          have HW3 := Lib.hid (HB2.out.trans ((HBQ.out.mono HB2.out.size).trans (HB3.out.mono (Nat.le_trans HB2.out.size HBQ.out.size))))
          clear HBY k0 k1 k2 hb3 hwqs e0 e1 e2 cb hza
          go_loopw [11, 56] (fun s i wl => ∃ q : Nat, q ≤ k ∧ i = .int .i64 q ∧ s = .bool (sumK ((zs.take q).map mp) y).isSome ∧ IsArr wl w3.heap.size (bitZ ((sumK ((zs.take q).map mp) y).getD 0)) ∧ Below w3.heap.size w3 wl) (fun _ i _ => k - (RowKit.intOf i).toNat)
          case atStart => exact ⟨0, Nat.zero_le _, rfl, rfl, N0.out.setRow _, below_setRow ((Below.refl _ _).alloc (Nat.le_refl _) _) (Nat.le_refl _) _⟩
          case round =>
            clear N0
            obtain ⟨q, hq, rfl, rfl, hA, hBl⟩ := hrel
            rename World => wl
            by_cases hqk : q < k
            ·
              -- HOLE 2
              obtain ⟨x, hx⟩ : ∃ x, zs[q]? = some x := ⟨zs[q]'(by have := HN.out; omega), List.getElem?_eq_getElem (by have := HN.out; omega)⟩
              obtain ⟨g, off, rfl, hg, hc⟩ := HR.out.at hx
              have HX := Lib.hid hx
              have hWl := HW3.out.trans (hBl.mono HW3.out.size)
              have hc' : ∀ j u, (mc x)[j]? = some u → wl.cell? ⟨g, off + q * 4 + j, none⟩ = some u := fun j u hu => by rw [hWl.cell (p := ⟨g, off + q * 4 + j, none⟩) hg]; exact hc j u hu
              have c0 := hc' 0 _ rfl
              have c1 := hc' 1 _ rfl
              have c2 := hc' 2 _ rfl
              have c3 := hc' 3 _ rfl
              rw [Nat.add_zero] at c0
              obtain ⟨y0, y1, y2⟩ := KY.out
              have hWB := (Below.refl wl.heap.size wl).alloc (Nat.le_refl _) (.cells #[.int .u32 (x.k.a : Int), .int .u16 (x.k.e : Int), .int .u16 (x.k.p : Int), .int .i64 x.n] 38)
              have hBlW := hBl.trans (hWB.mono hBl.size)
              have hsl := hBl.size
              have k0 := (hBlW.cell (p := ⟨wq.heap.size, 0, none⟩) (by show wq.heap.size < _; omega)).trans y0
              have k1 := (hBlW.cell (p := ⟨wq.heap.size, 1, none⟩) (by show wq.heap.size < _; omega)).trans y1
              have k2 := (hBlW.cell (p := ⟨wq.heap.size, 2, none⟩) (by show wq.heap.size < _; omega)).trans y2
              have b0 := box_cell wl #[.int .u32 (x.k.a : Int), .int .u16 (x.k.e : Int), .int .u16 (x.k.p : Int), .int .i64 x.n] 38 0 _ rfl
              have b1 := box_cell wl #[.int .u32 (x.k.a : Int), .int .u16 (x.k.e : Int), .int .u16 (x.k.p : Int), .int .i64 x.n] 38 1 _ rfl
              have b2 := box_cell wl #[.int .u32 (x.k.a : Int), .int .u16 (x.k.e : Int), .int .u16 (x.k.p : Int), .int .i64 x.n] 38 2 _ rfl
              have b3 := box_cell wl #[.int .u32 (x.k.a : Int), .int .u16 (x.k.e : Int), .int .u16 (x.k.p : Int), .int .i64 x.n] 38 3 _ rfl
              have hWs : (wl.alloc (.cells #[.int .u32 (x.k.a : Int), .int .u16 (x.k.e : Int), .int .u16 (x.k.p : Int), .int .i64 x.n] 38)).heap.size = wl.heap.size + 1 := by simp
              have HA := Lib.hid (hA.below hWB)
              have HBlW := Lib.hid hBlW
              have S1 : Hid (∀ w, Calls Tryd.prog 13 #[.agg #[.int .u32 (x.k.a : Int), .int .u16 (x.k.e : Int), .int .u16 (x.k.p : Int)]] w fun e w' => e = .returned (.agg #[.int .u32 (x.k.small.a : Int), .int .u16 (x.k.small.e : Int), .int .u16 (x.k.small.p : Int)]) ∧ Below w.heap.size w w') := Lib.hid (fun w => small_k x.k w)
              have heq : ∀ w, (binOp .eql 25 (.agg #[.int .u32 (x.k.small.a : Int), .int .u16 (x.k.small.e : Int), .int .u16 (x.k.small.p : Int)]) (.agg #[.int .u32 (y.a : Int), .int .u16 (y.e : Int), .int .u16 (y.p : Int)])).run Tryd.prog w = .ok (.bool (decide (x.k.small = y))) w := fun w => eqb_k x.k.small y w
              have hsn : sumK ((zs.take (q + 1)).map mp) y = if x.k.small = y then some ((sumK ((zs.take q).map mp) y).getD 0 + x.n) else sumK ((zs.take q).map mp) y := by rw [take_mp zs q hx, sumK_snoc]; rfl
              have HSN := Lib.hid hsn
              clear hx hc hc' hWl y0 y1 y2 hWB hBlW hBl hA hsn
              obtain ⟨bo, hbo⟩ : ∃ bo, (sumK ((zs.take q).map mp) y).isSome = bo := ⟨_, rfl⟩
              have HBO := Lib.hid hbo
              rw [hbo]
              clear hbo
              by_cases hxy : x.k.small = y
              · rw [decide_eq_true hxy] at heq
                have HSY := Lib.hid (HSN.out.trans (if_pos hxy))
                clear hxy HSN
                go_wp2_with fail
                generalize wl.alloc (.cells #[.int .u32 (x.k.a : Int), .int .u16 (x.k.e : Int), .int .u16 (x.k.p : Int), .int .i64 x.n] 38) = W at *
                have d0 := fun d os => cell_regrown b0 d os
                have d1 := fun d os => cell_regrown b1 d os
                have d2 := fun d os => cell_regrown b2 d os
                have n0 := fun d os => cell_regrown k0 d os
                have n1 := fun d os => cell_regrown k1 d os
                have n2 := fun d os => cell_regrown k2 d os
                refine wp_region_quiet_below hmix (by kernel_rfl) ?_
                repeat (first | go_big_quiet_step ((go_at_call 13; with_reducible exact Calls.regrown_of (S1.out _))) | quiet_step ((go_at_call 13; with_reducible exact Calls.regrown_of (S1.out _))))
                refine wpQuiet_nil ?_
                intro w5 hw5
                have hb5 : Below W.heap.size W w5 := by obtain ⟨q, rfl⟩ := hw5; exact below_regrown _ _ _
                have m3 := (hb5.cell (p := ⟨wl.heap.size, 3, none⟩) (by show wl.heap.size < _; omega)).trans b3
                clear d0 d1 d2 n0 n1 n2 b0 b1 b2 b3 k0 k1 k2 c0 c1 c2 c3 hw5
                have HB5 := Lib.hid hb5
                have HA5 := Lib.hid (HA.out.below hb5)
                have hh := of_hi x.hn
                have hlo := u64_lo x.n
                have B1 := Lib.hid (fun w => bits_any x.n w)
                have R1 := Lib.hid (fun w => radd_any ((sumK ((zs.take q).map mp) y).getD 0) x.n w)
                clear hb5
                obtain ⟨S, hS⟩ : ∃ S, (sumK ((zs.take q).map mp) y).getD 0 = S := ⟨_, rfl⟩
                rw [hS] at HA HA5 R1 HSY
                clear hS
                go_wp2_with fail
                have m3' := fun d os => cell_regrown m3 d os
                refine wp_tail_below 9 hmix (by kernel_rfl) ?_
                simp only [List.take_succ_cons, List.take_zero, List.drop_succ_cons, List.drop_zero]
                refine quiet_load 43 (.tmp 10) rfl rfl (.pointer (some ⟨w3.heap.size, 0, none⟩)) (.agg (arr (bitZ S))) rfl (fun w6 hw6 => load_arr _ _ _ (HA5.out.below (by obtain ⟨q, rfl⟩ := hw6; exact below_regrown _ _ _))) ?_
                go_frame
                repeat (quiet_step ((first
                  | (go_at_call 15; with_reducible exact Calls.regrown_of (B1.out _))
                  | (go_at_call 16; with_reducible exact Calls.regrown_of (R1.out _)))))
                refine wpQuiet_nil ?_
                intro w6 hw6
                have hb6 : Below w5.heap.size w5 w6 := by obtain ⟨q, rfl⟩ := hw6; exact below_regrown _ _ _
                have HB6 := Lib.hid hb6
                have HA6 := Lib.hid (HA5.out.below hb6)
                clear hw6 hb6 m3' m3
                go_wp2_with (refine wpList_store_row rfl 43 _ _ rfl w3.heap.size _ rfl rfl 43 _ HA6.out (infoArr _) (by rw [arr_size, arr_size]) (arr_one _) ?_)
                go_roundw
                case rel =>
                  refine ⟨q + 1, by omega, by go_num, ?_, ?_, below_setRow ((HBlW.out.trans (HB5.out.mono HBlW.out.size)).trans (HB6.out.mono (Nat.le_trans HBlW.out.size HB5.out.size))) (Nat.le_refl _) _⟩
                  · rw [HSY.out]; rfl
                  · rw [HSY.out]; exact HA6.out.setRow _
                case measure => simp [RowKit.intOf]; omega
              · rw [decide_eq_false hxy] at heq
                have HSY := Lib.hid (HSN.out.trans (if_neg hxy))
                clear hxy HSN
                go_wp2_with fail
                generalize wl.alloc (.cells #[.int .u32 (x.k.a : Int), .int .u16 (x.k.e : Int), .int .u16 (x.k.p : Int), .int .i64 x.n] 38) = W at *
                have d0 := fun d os => cell_regrown b0 d os
                have d1 := fun d os => cell_regrown b1 d os
                have d2 := fun d os => cell_regrown b2 d os
                have n0 := fun d os => cell_regrown k0 d os
                have n1 := fun d os => cell_regrown k1 d os
                have n2 := fun d os => cell_regrown k2 d os
                refine wp_region_quiet_below hmix (by kernel_rfl) ?_
                repeat (first | go_big_quiet_step ((go_at_call 13; with_reducible exact Calls.regrown_of (S1.out _))) | quiet_step ((go_at_call 13; with_reducible exact Calls.regrown_of (S1.out _))))
                refine wpQuiet_nil ?_
                intro w5 hw5
                have hb5 : Below W.heap.size W w5 := by obtain ⟨q, rfl⟩ := hw5; exact below_regrown _ _ _
                clear d0 d1 d2 n0 n1 n2 b0 b1 b2 b3 k0 k1 k2 c0 c1 c2 c3 hw5
                have HB5 := Lib.hid hb5
                clear hb5
                go_wp2
                go_roundw
                case rel =>
                  refine ⟨q + 1, by omega, by go_num, ?_, ?_, HBlW.out.trans (HB5.out.mono HBlW.out.size)⟩
                  · rw [HSY.out, HBO.out]
                  · rw [HSY.out]; exact HA.out.below HB5.out
                case measure => simp [RowKit.intOf]; omega
              -- END 2
            · obtain rfl : q = k := by omega
              have hall : (zs.take q).map mp = zs.map mp := by rw [HN.out, List.take_length]
              obtain ⟨S, hS⟩ := Option.isSome_iff_exists.1 (HSOME.out y (List.mem_of_getElem? HY.out))
              rw [hall, hS] at hA
              rw [hall, hS]
              simp only [Option.getD_some, Option.isSome_some] at hA ⊢
              have HA := Lib.hid hA
              have hsl := hBl.size
              obtain ⟨y0, y1, y2⟩ := KY.out
              have hlk0 := fun (w' : World) (hb' : Below wl.heap.size wl w') => (HM2.out.below ((HBQ.out.trans (HB3.out.mono HBQ.out.size)).trans ((hBl.mono (Nat.le_trans HBQ.out.size HB3.out.size)).trans (hb'.mono (Nat.le_trans HBQ.out.size (Nat.le_trans HB3.out.size hsl))))) HM2.out.lt).look map_s y false
              rw [HLA.out, hS] at hlk0
              unfold kv wv at hlk0
              simp only [Option.getD_some, Bool.false_eq_true, if_false] at hlk0
              have HLK := Lib.hid hlk0
              have HC2 := Lib.hid (fun i z (hz : ks[i]? = some z) (w' : World) (hb' : Below wl.heap.size wl w') => by
                obtain ⟨g', off', e', hg', hc'⟩ := HREC.out.at hz
                cases e'
                have hbb : Below w2.heap.size w2 w' := (HBQ.out.trans (HB3.out.mono HBQ.out.size)).trans ((hBl.mono (Nat.le_trans HBQ.out.size HB3.out.size)).trans (hb'.mono (Nat.le_trans HBQ.out.size (Nat.le_trans HB3.out.size hsl))))
                exact (show w'.cell? ⟨g2, off2 + i * 3, none⟩ = some (.int .u32 (z.a : Int)) ∧ w'.cell? ⟨g2, off2 + i * 3 + 1, none⟩ = some (.int .u16 (z.e : Int)) ∧ w'.cell? ⟨g2, off2 + i * 3 + 2, none⟩ = some (.int .u16 (z.p : Int)) from
                  ⟨(hbb.cell (p := ⟨g2, off2 + i * 3, none⟩) hg').trans (hc' 0 _ rfl), (hbb.cell (p := ⟨g2, off2 + i * 3 + 1, none⟩) hg').trans (hc' 1 _ rfl), (hbb.cell (p := ⟨g2, off2 + i * 3 + 2, none⟩) hg').trans (hc' 2 _ rfl)⟩))
              have k0 := Lib.hid (fun (w' : World) (hb' : Below wl.heap.size wl w') => (hb'.cell (p := ⟨wq.heap.size, 0, none⟩) (by show wq.heap.size < _; omega)).trans ((hBl.cell (p := ⟨wq.heap.size, 0, none⟩) (by show wq.heap.size < _; omega)).trans y0))
              have k1 := Lib.hid (fun (w' : World) (hb' : Below wl.heap.size wl w') => (hb'.cell (p := ⟨wq.heap.size, 1, none⟩) (by show wq.heap.size < _; omega)).trans ((hBl.cell (p := ⟨wq.heap.size, 1, none⟩) (by show wq.heap.size < _; omega)).trans y1))
              have k2 := Lib.hid (fun (w' : World) (hb' : Below wl.heap.size wl w') => (hb'.cell (p := ⟨wq.heap.size, 2, none⟩) (by show wq.heap.size < _; omega)).trans ((hBl.cell (p := ⟨wq.heap.size, 2, none⟩) (by show wq.heap.size < _; omega)).trans y2))
              have HBL := Lib.hid hBl
              have hjm : (ks.length : Int) ≤ 9223372036854775807 := by omega
              clear hA hBl y0 y1 y2 hlk0 hall hS
              go_wp2_with (first
                | refine wpList_load_row rfl 43 _ rfl w3.heap.size rfl 43 _ (0, 0) _ HA.out Tryd.underlying43 rfl (infoArr _) ?_
                | (go_at_call 17; refine (number_any S _).mono ?_; rintro e w4 ⟨rfl, hb4⟩))
              have HB4 := Lib.hid hb4
              have hcl := fun d os => HB4.out.trans ((below_regrown w4 d os).mono HB4.out.size)
              have HCL := Lib.hid hcl
              have hf0 := fun w => field_hi (.int .i64 (hiW S)) (.int .u64 (loW S)) w
              have hf1 := fun w => field_lo (.int .i64 (hiW S)) (.int .u64 (loW S)) w
              have n0 := fun d os => k0.out _ (HCL.out d os)
              have n1 := fun d os => k1.out _ (HCL.out d os)
              have n2 := fun d os => k2.out _ (HCL.out d os)
              have hlk := fun d os => HLK.out _ (HCL.out d os)
              clear hb4 hcl
              by_cases hj0 : j = 0
              · subst hj0
                refine wp_region_quiet_below hmix (by kernel_rfl) ?_
                repeat (first | go_big_quiet_step (fail) | quiet_step (fail))
                refine wpQuiet_nil ?_
                intro w5 hw5
                have hb5 : Below w4.heap.size w4 w5 := by obtain ⟨q, rfl⟩ := hw5; exact below_regrown _ _ _
                have HB5 := Lib.hid hb5
                clear hw5 hb5 n0 n1 n2 hlk hf0 hf1
                go_wp2
                go_roundw
                case rel => exact ⟨0 + 1, by omega, by go_num, (HBQ.out.trans (HB3.out.mono HBQ.out.size)).trans ((HBL.out.mono (Nat.le_trans HBQ.out.size HB3.out.size)).trans ((HB4.out.mono (Nat.le_trans HBQ.out.size (Nat.le_trans HB3.out.size HBL.out.size))).trans (HB5.out.mono (Nat.le_trans HBQ.out.size (Nat.le_trans HB3.out.size (Nat.le_trans HBL.out.size HB4.out.size))))))⟩
                case measure => simp [RowKit.intOf]; omega
              ·
                -- HOLE 3
                obtain ⟨j', rfl⟩ : ∃ j', j = j' + 1 := ⟨j - 1, by omega⟩
                obtain ⟨z, hz⟩ : ∃ z, ks[j']? = some z := ⟨ks[j']'(by omega), List.getElem?_eq_getElem (by omega)⟩
                have hzl := HRI.out.step hz HY.out
                have L1 : Hid (∀ w, Calls Tryd.prog 9 #[.agg #[.int .u32 (z.a : Int), .int .u16 (z.e : Int), .int .u16 (z.p : Int)], .agg #[.int .u32 (y.a : Int), .int .u16 (y.e : Int), .int .u16 (y.p : Int)]] w fun e w' => e = .returned (.bool true) ∧ Below w.heap.size w w') := Lib.hid (fun w => by
                  have := less_k z y w
                  rw [decide_eq_true hzl] at this
                  exact this)
                have v0 := fun d os => (HC2.out _ z hz _ (HCL.out d os)).1
                have v1 := fun d os => (HC2.out _ z hz _ (HCL.out d os)).2.1
                have v2 := fun d os => (HC2.out _ z hz _ (HCL.out d os)).2.2
                have hwp : IntKind.i64.wrap (j' : Int) = (j' : Int) := by rw [IntKind.wrap_i64]; omega
                have hj1 : (j' : Int) < (ks.length : Int) := by omega
                clear hz hzl hj0
                refine wp_region_quiet_below hmix (by kernel_rfl) ?_
                repeat (first | go_big_quiet_step ((go_at_call 9; with_reducible exact Calls.regrown_of (L1.out _))) | quiet_step ((go_at_call 9; with_reducible exact Calls.regrown_of (L1.out _))))
                refine wpQuiet_nil ?_
                intro w5 hw5
                have hb5 : Below w4.heap.size w4 w5 := by obtain ⟨q, rfl⟩ := hw5; exact below_regrown _ _ _
                have HB5 := Lib.hid hb5
                clear hw5 hb5 n0 n1 n2 hlk hf0 hf1 v0 v1 v2
                go_wp2
                go_roundw
                case rel => exact ⟨j' + 1 + 1, by omega, by go_num, (HBQ.out.trans (HB3.out.mono HBQ.out.size)).trans ((HBL.out.mono (Nat.le_trans HBQ.out.size HB3.out.size)).trans ((HB4.out.mono (Nat.le_trans HBQ.out.size (Nat.le_trans HB3.out.size HBL.out.size))).trans (HB5.out.mono (Nat.le_trans HBQ.out.size (Nat.le_trans HB3.out.size (Nat.le_trans HBL.out.size HB4.out.size))))))⟩
                case measure => simp [RowKit.intOf]; omega
                -- END 3
          -- END 4
        · obtain rfl : j = ks.length := by omega
          have HBQ := Lib.hid hBq
          clear hBq
          go_wp2_with fail
          go_loopw [115] (fun i wl => ∃ q : Nat, q ≤ k ∧ i = .int .i64 q ∧ Below w2.heap.size w2 wl) (fun i _ => k - (RowKit.intOf i).toNat)
          case atStart => exact ⟨0, Nat.zero_le _, rfl, HBQ.out⟩
          case round =>
            obtain ⟨q, hq, rfl, hBl⟩ := hrel
            rename World => wl
            by_cases hqk : q < k
            · obtain ⟨x, hx⟩ : ∃ x, zs[q]? = some x := ⟨zs[q]'(by have := HN.out; omega), List.getElem?_eq_getElem (by have := HN.out; omega)⟩
              obtain ⟨g, off, rfl, hg, hc⟩ := HR.out.at hx
              have hWl := HB2.out.trans (hBl.mono HB2.out.size)
              have hc' : ∀ j u, (mc x)[j]? = some u → wl.cell? ⟨g, off + q * 4 + j, none⟩ = some u := fun j u hu => by rw [hWl.cell (p := ⟨g, off + q * 4 + j, none⟩) hg]; exact hc j u hu
              have c0 := hc' 0 _ rfl
              have c1 := hc' 1 _ rfl
              have c2 := hc' 2 _ rfl
              have c3 := hc' 3 _ rfl
              rw [Nat.add_zero] at c0
              have hWB := hBl.trans (((Below.refl wl.heap.size wl).alloc (Nat.le_refl _) (.cells #[.int .u32 (x.k.a : Int), .int .u16 (x.k.e : Int), .int .u16 (x.k.p : Int), .int .i64 x.n] 38)).mono hBl.size)
              have HWB := Lib.hid hWB
              have hin : x.k.small ∈ ks := HP.out.mem_iff.2 (mem_keys.2 (by rw [HLA.out]; exact sumK_some.2 (List.mem_map.2 ⟨mp x, List.mem_map.2 ⟨x, List.mem_of_getElem? hx, rfl⟩, rfl⟩)))
              have S1 : Hid (∀ w, Calls Tryd.prog 13 #[.agg #[.int .u32 (x.k.a : Int), .int .u16 (x.k.e : Int), .int .u16 (x.k.p : Int)]] w fun e w' => e = .returned (kv x.k.small) ∧ Below w.heap.size w w') := Lib.hid (fun w => small_k x.k w)
              have S2 := Lib.hid (fun (w' : World) (hb' : Below w2.heap.size w2 w') => by
                have h := contains_k (.slice r2 ks.length cap2) ks x.k.small w' (HREC.out.stay hb')
                rw [decide_eq_true hin] at h
                exact h)
              clear hx hc hc' hWl hWB hin hBl
              go_wp2_with (first
                | (go_at_call 18; (with_reducible refine (S2.out _ (HWB.out.trans (HB5.out.mono HWB.out.size))).mono ?_); rintro e w6 ⟨rfl, hb6⟩; have HB6 := Lib.hid hb6; clear hb6)
                | (go_at_call 13; (with_reducible refine (S1.out _).mono ?_); rintro e w5 ⟨rfl, hb5⟩; have HB5 := Lib.hid hb5; clear hb5))
              go_roundw
              case rel => exact ⟨q + 1, by omega, by go_num, (HWB.out.trans (HB5.out.mono HWB.out.size)).trans (HB6.out.mono (Nat.le_trans HWB.out.size HB5.out.size))⟩
              case measure => simp [RowKit.intOf]; omega
            · obtain rfl : q = k := by omega
              have hll : (L.length : Int) = (ks.length : Int) := by have := HP.out.length_eq; simp at this; omega
              have hlen := (HM2.out.below hBl HM2.out.lt).len map_s
              unfold goInt at hlen
              rw [hll] at hlen
              have HBL := Lib.hid hBl
              have K3 := Lib.hid (fun w => skeys_nil w)
              clear hBl hll
              go_wp2_with (go_at_call 14; refine (K3.out _).mono ?_; rintro e w7 ⟨v7, rfl, hr7, hb7⟩; obtain ⟨r7, cap7, rfl, _⟩ := hr7.form; have HB7 := Lib.hid hb7; clear hb7 hr7)
              go_ret
              exact ⟨rfl, (HB2.out.trans (HBL.out.mono HB2.out.size)).trans (HB7.out.mono (Nat.le_trans HB2.out.size HBL.out.size))⟩
set_option maxRecDepth 100000 in
theorem keysums_any {I : World → Prop} (C : AllotC) (D : DayC I) (K : KeyC I) (v : Value) (zs : List Mt) (w : World) (hI : I w) (hR : Recs mc 4 w v zs) :
    Calls Tryd.prog 5 #[v] w fun e w' => e = .returned (.bool true) ∧ Below w.heap.size w w' := by
  obtain ⟨r, cap, rfl, hm⟩ := hR.form
  by_cases hl : zs.length ≤ 60
  · exact keysums_some C D K r zs.length cap zs w hI hR rfl hl
  · have K1 := Lib.hid (awake5_any C D K w hI)
    have hd : decide ((60 : Int) < (zs.length : Int)) = true := decide_eq_true (by omega)
    clear hR
    generalize zs.length = n at *
    go_enter Tryd.func5, Tryd.ntmps5
    go_wp2_with (go_at_call 7; refine K1.out.mono ?_; rintro e w1 ⟨rfl, hb1⟩)
    go_ret
    exact ⟨rfl, hb1⟩
end Go.Proofs.YtnmnjoleebhhiaaDoor

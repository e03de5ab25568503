/- Contracts of package key's closures: the places of a key and of a pair of keys; the comparisons that rising hands to the sort. -/
import Derived.Test.YtnmnjoleebhhiaaGreatDoorVc
import Derived.LoopTactic
namespace Go.Proofs.YtnmnjoleebhhiaaGreatDoor
open Go.RowKit Go.Sort
set_option linter.unusedVariables false
set_option linter.unusedSimpArgs false
theorem Grew.of_below {w w' : World} (h : Below w.heap.size w w') (hd : w.drawn ≤ w'.drawn) : Grew w w' := by
  refine ⟨w'.drawn - w.drawn, w'.heap.extract w.heap.size w'.heap.size, ?_⟩
  obtain ⟨heap', tape', drawn', os', output'⟩ := w'
  have e1 : os' = w.os := h.os
  have e2 : tape' = w.tape := h.tape
  have e3 : output' = w.output := h.output
  have hs : w.heap.size ≤ heap'.size := h.size
  have hb : ∀ k, k < w.heap.size → heap'[k]? = w.heap[k]? := h.block
  have hd' : w.drawn ≤ drawn' := hd
  subst e1 e2 e3
  have eh : heap' = w.heap ++ heap'.extract w.heap.size heap'.size := by
    apply Array.ext_getElem?
    intro k
    by_cases hk : k < w.heap.size
    · rw [Array.getElem?_append_left hk]; exact hb k hk
    · rw [Array.getElem?_append_right (by omega), Array.getElem?_extract]
      by_cases hk2 : k < heap'.size
      · rw [if_pos (by omega)]; congr 1; omega
      · rw [if_neg (by omega), Array.getElem?_eq_none (by omega)]
  have ed : drawn' = w.drawn + (drawn' - w.drawn) := by omega
  simp only [grow, World.drewN]
  congr 1
theorem Grew.grow (w : World) (n : Nat) (os : Array Obj) : Grew w (Go.Sort.grow (w.drewN n) os) := ⟨n, os, rfl⟩
set_option maxRecDepth 100000 in
theorem place_k (x : Kt) (w : World) : Calls Tryz.prog 19 #[kv x] w fun e w' => e = .returned (kv x) ∧ Grew w w' := by
  unfold kv
  generalize x.a = a at *
  generalize x.e = b at *
  generalize x.p = c at *
  go_enter Tryz.func19, Tryz.ntmps19
  go_wp2
  refine bodyPost_ret (v := .agg #[.int .u32 (a : Int), .int .u16 (b : Int), .int .u16 (c : Int)]) (by simp [results, Tryz.results19, go_sem]) rfl ⟨rfl, ?_⟩
  exact (Grew.one _ _).alloc _
/-- A cell of what was there, in every world behind. -/
theorem Grew.cells {w wr : World} (h : Grew w wr) {a : Addr} {v : Value} (hc : w.cell? a = some v) : ∀ n os, (Go.Sort.grow (wr.drewN n) os).cell? a = some v := fun n os => (h.trans (Grew.grow wr n os)).cell hc
theorem boxes_at (w : World) (c d : Array Value) (T U : TypeId) (j : Nat) : (∀ v, c[j]? = some v → ((w.alloc (.cells c T)).alloc (.cells d U)).cell? ⟨w.heap.size, j, none⟩ = some v) ∧
    (∀ v, d[j]? = some v → ((w.alloc (.cells c T)).alloc (.cells d U)).cell? ⟨w.heap.size + 1, j, none⟩ = some v) := by
  refine ⟨fun v hv => ?_, fun v hv => ?_⟩
  · simp [hv]
  · simp [hv]
set_option maxHeartbeats 1000000 in
set_option maxRecDepth 100000 in
theorem order_k (BX B cap : Nat) (x y : Kt) (W : World) (hX : W.cell? ⟨BX, 0, none⟩ = some (.slice (some ⟨B, 0, none⟩) 1 cap)) (hF : W.cell? ⟨B, 0, none⟩ = some (.func (.func 19) #[] #[])) :
    Calls Tryz.prog 27 #[kv x, kv y, .pointer (some ⟨BX, 0, none⟩)] W fun e w' => e = .returned (.int .i64 (kcmp x y)) ∧ Grew W w' := by
  have P1 := Lib.hid (fun w => place_k x w)
  have P2 := Lib.hid (fun w => place_k y w)
  have P3 := Lib.hid (fun w => compare_k x y w)
  have hB := boxes_at W #[.int .u32 (x.a : Int), .int .u16 (x.e : Int), .int .u16 (x.p : Int)] #[.int .u32 (y.a : Int), .int .u16 (y.e : Int), .int .u16 (y.p : Int)] 31 31
  have hG := ((Grew.refl W).alloc (.cells #[.int .u32 (x.a : Int), .int .u16 (x.e : Int), .int .u16 (x.p : Int)] 31)).alloc (.cells #[.int .u32 (y.a : Int), .int .u16 (y.e : Int), .int .u16 (y.p : Int)] 31)
  have HX := Lib.hid (hG.cell hX)
  have HF := Lib.hid (hG.cell hF)
  have hx := hG.cell hX
  have HG := Lib.hid hG
  have a0 := Lib.hid ((hB 0).1 _ rfl)
  have a1 := Lib.hid ((hB 1).1 _ rfl)
  have a2 := Lib.hid ((hB 2).1 _ rfl)
  have b0 := Lib.hid ((hB 0).2 _ rfl)
  have b1 := Lib.hid ((hB 1).2 _ rfl)
  have b2 := Lib.hid ((hB 2).2 _ rfl)
  clear hB hX hF hG
  have hmix : Tryz.prog.follows .mixedOrders = true := by kernel_rfl
  unfold kv at *
  generalize kcmp x y = r at *
  generalize x.a = xa at *
  generalize x.e = xe at *
  generalize x.p = xp at *
  generalize y.a = ya at *
  generalize y.e = ye at *
  generalize y.p = yp at *
  go_enter Tryz.func27, Tryz.ntmps27
  go_wp2
  generalize hV : (W.alloc (.cells #[.int .u32 (xa : Int), .int .u16 (xe : Int), .int .u16 (xp : Int)] 31)).alloc (.cells #[.int .u32 (ya : Int), .int .u16 (ye : Int), .int .u16 (yp : Int)] 31) = V at *
  clear hV hx
  go_loopw [11] (fun i wr => ∃ k : Nat, k ≤ 1 ∧ i = .int .i64 k ∧ Grew V wr ∧ (k = 1 → r = 0)) (fun i _ => 1 - (RowKit.intOf i).toNat)
  case atStart => exact ⟨0, by omega, rfl, Grew.refl _, fun h => by cases h⟩
  case round =>
    obtain ⟨k, hk, rfl, hGr, hr⟩ := hrel
    rename World => wr
    have hk' : k = 0 ∨ k = 1 := by omega
    rcases hk' with rfl | rfl
    · have x1 := hGr.cell HX.out
      have x2 := hGr.cell HF.out
      have y0 := hGr.cells a0.out
      have y1 := hGr.cells a1.out
      have y2 := hGr.cells a2.out
      have z0 := hGr.cells b0.out
      have z1 := hGr.cells b1.out
      have z2 := hGr.cells b2.out
      have HGr := Lib.hid hGr
      clear hr hGr
      by_cases h0 : r = 0
      · subst h0
        go_wp2_with fail
        go_quiet_grown (first
          | (go_at_call 28; with_reducible exact grew_of (P3.out _))
          | (go_at_call 19; with_reducible exact grew_of (P1.out _))
          | (go_at_call 19; with_reducible exact grew_of (P2.out _)))
        go_wp2
        go_roundw
        case rel => exact ⟨1, by omega, by go_num, HGr.out.trans ⟨_, _, rfl⟩, by simp⟩
        case measure => simp [RowKit.intOf]
      · have hd : (r != 0) = true := by simpa using h0
        go_wp2_with fail
        go_quiet_grown (first
          | (go_at_call 28; with_reducible exact grew_of (P3.out _))
          | (go_at_call 19; with_reducible exact grew_of (P1.out _))
          | (go_at_call 19; with_reducible exact grew_of (P2.out _)))
        go_wp2
        go_ret
        exact ⟨rfl, HG.out.trans (HGr.out.trans ⟨_, _, rfl⟩)⟩
    · obtain rfl := hr rfl
      go_wp2
      go_ret
      exact ⟨rfl, HG.out.trans hGr⟩
set_option maxRecDepth 100000 in
theorem place_p1 (x : Kt × Kt) (w : World) : Calls Tryz.prog 21 #[pv x] w fun e w' => e = .returned (kv x.1) ∧ Grew w w' := by
  unfold kv pv
  generalize x.1.a = a at *
  generalize x.1.e = b at *
  generalize x.1.p = c at *
  generalize x.2.a = a' at *
  generalize x.2.e = b' at *
  generalize x.2.p = c' at *
  go_enter Tryz.func21, Tryz.ntmps21
  go_wp2
  refine bodyPost_ret (v := .agg #[.int .u32 (a : Int), .int .u16 (b : Int), .int .u16 (c : Int)]) (by simp [results, Tryz.results21, go_sem]) rfl ⟨rfl, ?_⟩
  exact (Grew.one _ _).alloc _
set_option maxRecDepth 100000 in
theorem place_p2 (x : Kt × Kt) (w : World) : Calls Tryz.prog 22 #[pv x] w fun e w' => e = .returned (kv x.2) ∧ Grew w w' := by
  unfold kv pv
  generalize x.1.a = a at *
  generalize x.1.e = b at *
  generalize x.1.p = c at *
  generalize x.2.a = a' at *
  generalize x.2.e = b' at *
  generalize x.2.p = c' at *
  go_enter Tryz.func22, Tryz.ntmps22
  go_wp2
  refine bodyPost_ret (v := .agg #[.int .u32 (a' : Int), .int .u16 (b' : Int), .int .u16 (c' : Int)]) (by simp [results, Tryz.results22, go_sem]) rfl ⟨rfl, ?_⟩
  exact (Grew.one _ _).alloc _
set_option maxHeartbeats 4000000 in
set_option maxRecDepth 100000 in
theorem order_p (BX B cap : Nat) (x y : Kt × Kt) (W : World) (hX : W.cell? ⟨BX, 0, none⟩ = some (.slice (some ⟨B, 0, none⟩) 2 cap)) (hF : W.cell? ⟨B, 0, none⟩ = some (.func (.func 21) #[] #[]))
    (hF2 : W.cell? ⟨B, 1, none⟩ = some (.func (.func 22) #[] #[])) :
    Calls Tryz.prog 30 #[pv x, pv y, .pointer (some ⟨BX, 0, none⟩)] W fun e w' => e = .returned (.int .i64 (pcmp x y)) ∧ Grew W w' := by
  have P1 := Lib.hid (fun w => place_p1 x w)
  have P2 := Lib.hid (fun w => place_p1 y w)
  have P3 := Lib.hid (fun w => place_p2 x w)
  have P4 := Lib.hid (fun w => place_p2 y w)
  have P5 := Lib.hid (fun w => compare_k x.1 y.1 w)
  have P6 := Lib.hid (fun w => compare_k x.2 y.2 w)
  have hB := boxes_at W #[.int .u32 (x.1.a : Int), .int .u16 (x.1.e : Int), .int .u16 (x.1.p : Int), .int .u32 (x.2.a : Int), .int .u16 (x.2.e : Int), .int .u16 (x.2.p : Int)] #[.int .u32 (y.1.a : Int), .int .u16 (y.1.e : Int), .int .u16 (y.1.p : Int), .int .u32 (y.2.a : Int), .int .u16 (y.2.e : Int), .int .u16 (y.2.p : Int)] 47 47
  have hG := ((Grew.refl W).alloc (.cells #[.int .u32 (x.1.a : Int), .int .u16 (x.1.e : Int), .int .u16 (x.1.p : Int), .int .u32 (x.2.a : Int), .int .u16 (x.2.e : Int), .int .u16 (x.2.p : Int)] 47)).alloc (.cells #[.int .u32 (y.1.a : Int), .int .u16 (y.1.e : Int), .int .u16 (y.1.p : Int), .int .u32 (y.2.a : Int), .int .u16 (y.2.e : Int), .int .u16 (y.2.p : Int)] 47)
  have HX := Lib.hid (hG.cell hX)
  have HF := Lib.hid (hG.cell hF)
  have HF2 := Lib.hid (hG.cell hF2)
  have hx := hG.cell hX
  have HG := Lib.hid hG
  have a0 := Lib.hid ((hB 0).1 _ rfl)
  have a1 := Lib.hid ((hB 1).1 _ rfl)
  have a2 := Lib.hid ((hB 2).1 _ rfl)
  have a3 := Lib.hid ((hB 3).1 _ rfl)
  have a4 := Lib.hid ((hB 4).1 _ rfl)
  have a5 := Lib.hid ((hB 5).1 _ rfl)
  have b0 := Lib.hid ((hB 0).2 _ rfl)
  have b1 := Lib.hid ((hB 1).2 _ rfl)
  have b2 := Lib.hid ((hB 2).2 _ rfl)
  have b3 := Lib.hid ((hB 3).2 _ rfl)
  have b4 := Lib.hid ((hB 4).2 _ rfl)
  have b5 := Lib.hid ((hB 5).2 _ rfl)
  clear hB hX hF hF2 hG
  have hmix : Tryz.prog.follows .mixedOrders = true := by kernel_rfl
  have HQ1 := Lib.hid (show kcmp x.1 y.1 ≠ 0 → pcmp x y = kcmp x.1 y.1 from fun h => if_pos h)
  have HQ2 := Lib.hid (show kcmp x.1 y.1 = 0 → pcmp x y = kcmp x.2 y.2 from fun h => if_neg (fun g => g h))
  generalize pcmp x y = o at *
  unfold kv pv at *
  generalize kcmp x.1 y.1 = r at *
  generalize kcmp x.2 y.2 = s at *
  generalize x.1.a = xa at *
  generalize x.1.e = xe at *
  generalize x.1.p = xp at *
  generalize y.1.a = ya at *
  generalize y.1.e = ye at *
  generalize y.1.p = yp at *
  generalize x.2.a = ua at *
  generalize x.2.e = ue at *
  generalize x.2.p = up at *
  generalize y.2.a = va at *
  generalize y.2.e = ve at *
  generalize y.2.p = vp at *
  go_enter Tryz.func30, Tryz.ntmps30
  go_wp2
  generalize hV : (W.alloc (.cells #[.int .u32 (xa : Int), .int .u16 (xe : Int), .int .u16 (xp : Int), .int .u32 (ua : Int), .int .u16 (ue : Int), .int .u16 (up : Int)] 47)).alloc (.cells #[.int .u32 (ya : Int), .int .u16 (ye : Int), .int .u16 (yp : Int), .int .u32 (va : Int), .int .u16 (ve : Int), .int .u16 (vp : Int)] 47) = V at *
  clear hV hx
  go_loopw [11] (fun i wr => ∃ k : Nat, k ≤ 2 ∧ i = .int .i64 k ∧ Grew V wr ∧ (1 ≤ k → r = 0) ∧ (k = 2 → s = 0)) (fun i _ => 2 - (RowKit.intOf i).toNat)
  case atStart => exact ⟨0, by omega, rfl, Grew.refl _, fun h => by omega, fun h => by cases h⟩
  case round =>
    obtain ⟨k, hk, rfl, hGr, hr, hs⟩ := hrel
    rename World => wr
    have hk' : k = 0 ∨ k = 1 ∨ k = 2 := by omega
    have x1 := hGr.cell HX.out
    have x2 := hGr.cell HF.out
    have x3 := hGr.cell HF2.out
    have y0 := hGr.cells a0.out
    have y1 := hGr.cells a1.out
    have y2 := hGr.cells a2.out
    have y3 := hGr.cells a3.out
    have y4 := hGr.cells a4.out
    have y5 := hGr.cells a5.out
    have z0 := hGr.cells b0.out
    have z1 := hGr.cells b1.out
    have z2 := hGr.cells b2.out
    have z3 := hGr.cells b3.out
    have z4 := hGr.cells b4.out
    have z5 := hGr.cells b5.out
    have HGr := Lib.hid hGr
    clear hGr
    rcases hk' with rfl | rfl | rfl
    · clear hr hs
      by_cases h0 : r = 0
      · subst h0
        go_wp2_with fail
        go_quiet_grown (first
          | (go_at_call 28; with_reducible exact grew_of (P5.out _))
          | (go_at_call 21; with_reducible exact grew_of (P1.out _))
          | (go_at_call 21; with_reducible exact grew_of (P2.out _)))
        go_wp2
        go_roundw
        case rel => exact ⟨1, by omega, by go_num, HGr.out.trans ⟨_, _, rfl⟩, by simp, by simp⟩
        case measure => simp [RowKit.intOf]
      · have hd : (r != 0) = true := by simpa using h0
        obtain rfl := HQ1.out h0
        go_wp2_with fail
        go_quiet_grown (first
          | (go_at_call 28; with_reducible exact grew_of (P5.out _))
          | (go_at_call 21; with_reducible exact grew_of (P1.out _))
          | (go_at_call 21; with_reducible exact grew_of (P2.out _)))
        go_wp2
        go_ret
        exact ⟨rfl, HG.out.trans (HGr.out.trans ⟨_, _, rfl⟩)⟩
    · obtain rfl := hr (by omega)
      clear hr hs
      obtain rfl := HQ2.out rfl
      by_cases h0 : o = 0
      · subst h0
        go_wp2_with fail
        go_quiet_grown (first
          | (go_at_call 28; with_reducible exact grew_of (P6.out _))
          | (go_at_call 22; with_reducible exact grew_of (P3.out _))
          | (go_at_call 22; with_reducible exact grew_of (P4.out _)))
        go_wp2
        go_roundw
        case rel => exact ⟨2, by omega, by go_num, HGr.out.trans ⟨_, _, rfl⟩, by simp, by simp⟩
        case measure => simp [RowKit.intOf]
      · have hd : (o != 0) = true := by simpa using h0
        go_wp2_with fail
        go_quiet_grown (first
          | (go_at_call 28; with_reducible exact grew_of (P6.out _))
          | (go_at_call 22; with_reducible exact grew_of (P3.out _))
          | (go_at_call 22; with_reducible exact grew_of (P4.out _)))
        go_wp2
        go_ret
        exact ⟨rfl, HG.out.trans (HGr.out.trans ⟨_, _, rfl⟩)⟩
    · obtain rfl := hr (by omega)
      obtain rfl := hs rfl
      obtain rfl := HQ2.out rfl
      go_wp2
      go_ret
      exact ⟨rfl, HG.out.trans HGr.out⟩
end Go.Proofs.YtnmnjoleebhhiaaGreatDoor

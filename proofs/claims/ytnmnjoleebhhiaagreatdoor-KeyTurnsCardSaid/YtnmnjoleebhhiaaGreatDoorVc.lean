/- Contracts of package key's keys: Pack, Unpack, Compare; the closures that hand on a key of a place. -/
import Derived.Test.YtnmnjoleebhhiaaGreatDoorChecked
import Derived.Test.YtnmnjoleebhhiaaGreatDoorVab
import Derived.Test.YtnmnjoleebhhiaaGreatDoorOne
import Derived.WalkKit
import Derived.Lib.Hide
import Derived.BigQuiet
import Derived.Shelf.SlSortCmp.QuietGrown
namespace Go.Proofs.YtnmnjoleebhhiaaGreatDoor
open Go.RowKit Go.Sort
set_option linter.unusedVariables false
set_option linter.unusedSimpArgs false
/-- Behind w: draws, and blocks laid behind its own. -/
def Grew (w w' : World) : Prop := ∃ q os, w' = grow (w.drewN q) os
theorem Grew.refl (w : World) : Grew w w := ⟨0, #[], by rw [grow_empty]; rfl⟩
theorem Grew.trans {a b c : World} (h : Grew a b) (k : Grew b c) : Grew a c := by
  obtain ⟨q, os, rfl⟩ := h
  obtain ⟨q', os', rfl⟩ := k
  exact ⟨q + q', os ++ os', by show grow (grow ((a.drewN q).drewN q') os) os' = _; rw [grow_grow, World.drewN_drewN]⟩
theorem Grew.one (w : World) (o : Obj) : Grew w (w.alloc o) := ⟨0, #[o], by rw [alloc_eq_grow]; rfl⟩
theorem Grew.alloc {a w : World} (h : Grew a w) (o : Obj) : Grew a (w.alloc o) := h.trans (Grew.one w o)
theorem Grew.drewN {a w : World} (h : Grew a w) (n : Nat) : Grew a (w.drewN n) := h.trans ⟨n, #[], by rw [grow_empty]⟩
theorem Grew.below {w w' : World} (h : Grew w w') : Below w.heap.size w w' := by
  obtain ⟨q, os, rfl⟩ := h
  exact ⟨rfl, rfl, rfl, by simp [grow, World.drewN], fun k hk => by simp [grow, World.drewN, Array.getElem?_append, hk]⟩
theorem Grew.cell {w w' : World} (h : Grew w w') {a : Addr} {v : Value} (hc : w.cell? a = some v) : w'.cell? a = some v := by
  rw [h.below.cell (World.block_lt_of_cell? w a hc)]; exact hc
/-- A callee's contract, met in a world of a region's class. -/
theorem grew_of {P : Program} {f : FuncId} {args : Array Value} {w : World} {n : Nat} {os : Array Obj} {v : Value}
    (h : Calls P f args (grow (w.drewN n) os) fun e w' => e = .returned v ∧ Grew (grow (w.drewN n) os) w') : Calls P f args (grow (w.drewN n) os) fun e w'' => e = .returned v ∧ ∃ p : GrownBy, w'' = grow (w.drewN p.n) p.os :=
  Calls.grown_of h
theorem grew_same {P : Program} {f : FuncId} {args : Array Value} {w : World} {n : Nat} {os : Array Obj} {v : Value}
    (h : Calls P f args (grow (w.drewN n) os) fun e w' => e = .returned v ∧ w' = grow (w.drewN n) os) : Calls P f args (grow (w.drewN n) os) fun e w'' => e = .returned v ∧ ∃ p : GrownBy, w'' = grow (w.drewN p.n) p.os :=
  h.mono fun _ _ ⟨he, hw⟩ => ⟨he, ⟨n, os⟩, hw⟩
theorem or_join16 {x y : Int} (hx : 0 ≤ x) (hx' : x < 281474976710656) (hy : 0 ≤ y) (hy' : y < 65536) : bits .or .u64 (x * 65536) y = x * 65536 + y := by
  obtain ⟨n, rfl⟩ := Int.eq_ofNat_of_zero_le hx
  obtain ⟨m, rfl⟩ := Int.eq_ofNat_of_zero_le hy
  have := u64_or_nat (n * 65536) m (by omega) (by omega)
  rw [show ((n : Int) * 65536) = ((n * 65536 : Nat) : Int) by omega, this, nat_join 16 (n * 65536) m (by omega) (by omega)]
  omega
set_option maxRecDepth 100000 in
theorem pack_k (x : Kt) (w : World) : Calls Tryz.prog 14 #[kv x] w fun e w' => e = .returned (.int .u64 (x.num : Int)) ∧ Grew w w' := by
  have h1 := x.ha; have h2 := x.he; have h3 := x.hp
  have e1 : bits .or .u64 ((x.a : Int) * 4294967296) ((x.e : Int) * 65536) = (x.a : Int) * 4294967296 + (x.e : Int) * 65536 := or_join (by omega) (by omega) (by omega) (by omega)
  have e2 : bits .or .u64 ((x.a : Int) * 4294967296 + (x.e : Int) * 65536) (x.p : Int) = (x.num : Int) := by
    rw [show (x.a : Int) * 4294967296 + (x.e : Int) * 65536 = ((x.a : Int) * 65536 + (x.e : Int)) * 65536 by omega, or_join16 (by omega) (by omega) (by omega) (by omega)]
    unfold Kt.num; omega
  have HG := Lib.hid (Grew.one w (.cells #[.int .u32 (x.a : Int), .int .u16 (x.e : Int), .int .u16 (x.p : Int)] 31))
  unfold kv
  generalize x.num = n at *
  generalize x.a = a at *
  generalize x.e = b at *
  generalize x.p = c at *
  go_enter Tryz.func14, Tryz.ntmps14
  go_wp2
  go_ret
  exact ⟨rfl, HG.out⟩
/-- A number as a key. -/
def Kt.of (n : Nat) : Kt := ⟨n / 4294967296 % 4294967296, n / 65536 % 65536, n % 65536, by omega, by omega, by omega⟩
theorem Kt.num_of {n : Nat} (h : n < 18446744073709551616) : (Kt.of n).num = n := by unfold Kt.num Kt.of; simp only; omega
theorem Kt.of_num (x : Kt) : Kt.of x.num = x := Kt.num_inj (Kt.num_of x.num_lt)
theorem isnan64 (x : Int) (w : World) : Calls Tryz.prog 64 #[.int .u64 x] w fun e w' => e = .returned (.bool false) ∧ w' = w := by
  go_enter Tryz.func64, Tryz.ntmps64
  go_wp2
  go_ret
  exact ⟨by simp, rfl⟩
theorem cmp64 (x y : Kt) (w : World) : Calls Tryz.prog 40 #[.int .u64 (x.num : Int), .int .u64 (y.num : Int)] w fun e w' => e = .returned (.int .i64 (kcmp x y)) ∧ w' = w := by
  have K := Lib.hid (fun x => isnan64 x w)
  obtain ⟨m, hm⟩ : ∃ m, x.num = m := ⟨_, rfl⟩
  obtain ⟨n, hn⟩ : ∃ n, y.num = n := ⟨_, rfl⟩
  have e0 : kcmp x y = if m < n then -1 else if n < m then 1 else 0 := by unfold kcmp; rw [hm, hn]
  rw [hm, hn, e0]
  clear hm hn e0
  by_cases h1 : m < n
  · have e1 : (m : Int) < (n : Int) := by omega
    rw [if_pos h1]
    go_enter Tryz.func40, Tryz.ntmps40
    go_wp2_with (go_at_call 64; refine (K.out _).mono ?_; rintro e w1 ⟨rfl, rfl⟩)
    go_ret
    exact ⟨rfl, rfl⟩
  · have e1 : ¬ (m : Int) < (n : Int) := by omega
    rw [if_neg h1]
    by_cases h2 : n < m
    · have e2 : (n : Int) < (m : Int) := by omega
      rw [if_pos h2]
      go_enter Tryz.func40, Tryz.ntmps40
      go_wp2_with (go_at_call 64; refine (K.out _).mono ?_; rintro e w1 ⟨rfl, rfl⟩)
      go_ret
      exact ⟨rfl, rfl⟩
    · have e2 : ¬ (n : Int) < (m : Int) := by omega
      rw [if_neg h2]
      go_enter Tryz.func40, Tryz.ntmps40
      go_wp2_with (go_at_call 64; refine (K.out _).mono ?_; rintro e w1 ⟨rfl, rfl⟩)
      go_ret
      exact ⟨rfl, rfl⟩
/-- A box of a key's cells. -/
def kbox (x : Kt) (T : TypeId) : Obj := .cells #[.int .u32 (x.a : Int), .int .u16 (x.e : Int), .int .u16 (x.p : Int)] T
/-- Two boxes behind w: their cells, in every world of a region's class. -/
theorem two_boxes (w : World) (c d : Array Value) (T U : TypeId) : ∀ n os j, (∀ v, c[j]? = some v → (grow (((w.alloc (.cells c T)).alloc (.cells d U)).drewN n) os).cell? ⟨w.heap.size, j, none⟩ = some v) ∧
    (∀ v, d[j]? = some v → (grow (((w.alloc (.cells c T)).alloc (.cells d U)).drewN n) os).cell? ⟨w.heap.size + 1, j, none⟩ = some v) := by
  intro n os j
  have hs : ((w.alloc (.cells c T)).alloc (.cells d U)).heap.size = w.heap.size + 1 + 1 := by simp
  refine ⟨fun v hv => cell_grown (by rw [hs]; show w.heap.size < _; omega) ?_ n os, fun v hv => cell_grown (by rw [hs]; show w.heap.size + 1 < _; omega) ?_ n os⟩
  · simp [hv]
  · simp [hv]
set_option maxHeartbeats 1000000 in
set_option maxRecDepth 100000 in
theorem compare_k (x y : Kt) (w : World) : Calls Tryz.prog 28 #[kv x, kv y] w fun e w' => e = .returned (.int .i64 (kcmp x y)) ∧ Grew w w' := by
  have P1 := Lib.hid (fun w => pack_k x w)
  have P2 := Lib.hid (fun w => pack_k y w)
  have P3 := Lib.hid (fun w => cmp64 x y w)
  have hB := two_boxes w #[.int .u32 (x.a : Int), .int .u16 (x.e : Int), .int .u16 (x.p : Int)] #[.int .u32 (y.a : Int), .int .u16 (y.e : Int), .int .u16 (y.p : Int)] 31 31
  have hG := Lib.hid (((Grew.refl w).alloc (.cells #[.int .u32 (x.a : Int), .int .u16 (x.e : Int), .int .u16 (x.p : Int)] 31)).alloc (.cells #[.int .u32 (y.a : Int), .int .u16 (y.e : Int), .int .u16 (y.p : Int)] 31))
  have a0 := fun n os => (hB n os 0).1 _ rfl
  have a1 := fun n os => (hB n os 1).1 _ rfl
  have a2 := fun n os => (hB n os 2).1 _ rfl
  have b0 := fun n os => (hB n os 0).2 _ rfl
  have b1 := fun n os => (hB n os 1).2 _ rfl
  have b2 := fun n os => (hB n os 2).2 _ rfl
  clear hB
  have hmix : Tryz.prog.follows .mixedOrders = true := by kernel_rfl
  unfold kv at *
  generalize kcmp x y = r at *
  generalize x.num = xn at *
  generalize y.num = yn at *
  generalize x.a = xa at *
  generalize x.e = xe at *
  generalize x.p = xp at *
  generalize y.a = ya at *
  generalize y.e = ye at *
  generalize y.p = yp at *
  go_enter Tryz.func28, Tryz.ntmps28
  go_wp2_with fail
  generalize hW : (w.alloc (.cells #[.int .u32 (xa : Int), .int .u16 (xe : Int), .int .u16 (xp : Int)] 31)).alloc (.cells #[.int .u32 (ya : Int), .int .u16 (ye : Int), .int .u16 (yp : Int)] 31) = W at *
  clear hW
  go_quiet_grown (first
    | (go_at_call 40; with_reducible exact grew_same (P3.out _))
    | (go_at_call 14; with_reducible exact grew_of (P1.out _))
    | (go_at_call 14; with_reducible exact grew_of (P2.out _)))
  go_wp2
  go_ret
  exact ⟨rfl, hG.out.trans ⟨_, _, rfl⟩⟩
end Go.Proofs.YtnmnjoleebhhiaaGreatDoor

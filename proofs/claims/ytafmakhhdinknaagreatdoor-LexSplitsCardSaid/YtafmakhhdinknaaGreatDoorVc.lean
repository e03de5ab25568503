/- Contracts of package key's keys: Pack, Unpack, Compare; the closures that hand on a key of a place. -/
import Derived.Test.YtafmakhhdinknaaGreatDoorChecked
import Derived.Test.YtafmakhhdinknaaGreatDoorVab
import Derived.Test.YtafmakhhdinknaaGreatDoorOne
import Derived.WalkKit
import Derived.Lib.Hide
import Derived.BigQuiet
import Derived.Shelf.SlSortCmp.QuietGrown
namespace Go.Proofs.YtafmakhhdinknaaGreatDoor
open Go.RowKit Go.Sort
set_option linter.unusedVariables false
set_option linter.unusedSimpArgs false
/-- Behind w: draws, and blocks laid behind its own. -/
def Grew (w w' : World) : Prop := ∃ q os, w' = grow (w.drewN q) os
theorem Grew.refl (w : World) : Grew w w := ⟨0, #[], by rw [grow_empty]; rfl⟩
theorem Grew.trans {a b c : World} (h : Grew a b) (k : Grew b c) : Grew a c := by
  obtain ⟨q, os, rfl⟩ := h
  obtain ⟨q', os', rfl⟩ := k
  exact ⟨q + q', os ++ os', by show grow (grow ((a.drewN q).drewN q') os) os' = _; rw [grow_grow, World.drewN_drewN]⟩
theorem Grew.one (w : World) (o : Obj) : Grew w (w.alloc o) := ⟨0, #[o], by rw [alloc_eq_grow]; rfl⟩
theorem Grew.alloc {a w : World} (h : Grew a w) (o : Obj) : Grew a (w.alloc o) := h.trans (Grew.one w o)
theorem Grew.drewN {a w : World} (h : Grew a w) (n : Nat) : Grew a (w.drewN n) := h.trans ⟨n, #[], by rw [grow_empty]⟩
theorem Grew.below {w w' : World} (h : Grew w w') : Below w.heap.size w w' := by
  obtain ⟨q, os, rfl⟩ := h
  exact ⟨rfl, rfl, rfl, by simp [grow, World.drewN], fun k hk => by simp [grow, World.drewN, Array.getElem?_append, hk]⟩
theorem Grew.cell {w w' : World} (h : Grew w w') {a : Addr} {v : Value} (hc : w.cell? a = some v) : w'.cell? a = some v := by
  rw [h.below.cell (World.block_lt_of_cell? w a hc)]; exact hc
/-- A callee's contract, met in a world of a region's class. -/
theorem grew_of {P : Program} {f : FuncId} {args : Array Value} {w : World} {n : Nat} {os : Array Obj} {v : Value}
    (h : Calls P f args (grow (w.drewN n) os) fun e w' => e = .returned v ∧ Grew (grow (w.drewN n) os) w') : Calls P f args (grow (w.drewN n) os) fun e w'' => e = .returned v ∧ ∃ p : GrownBy, w'' = grow (w.drewN p.n) p.os :=
  Calls.grown_of h
theorem grew_same {P : Program} {f : FuncId} {args : Array Value} {w : World} {n : Nat} {os : Array Obj} {v : Value}
    (h : Calls P f args (grow (w.drewN n) os) fun e w' => e = .returned v ∧ w' = grow (w.drewN n) os) : Calls P f args (grow (w.drewN n) os) fun e w'' => e = .returned v ∧ ∃ p : GrownBy, w'' = grow (w.drewN p.n) p.os :=
  h.mono fun _ _ ⟨he, hw⟩ => ⟨he, ⟨n, os⟩, hw⟩
theorem or_join16 {x y : Int} (hx : 0 ≤ x) (hx' : x < 281474976710656) (hy : 0 ≤ y) (hy' : y < 65536) : bits .or .u64 (x * 65536) y = x * 65536 + y := by
  obtain ⟨n, rfl⟩ := Int.eq_ofNat_of_zero_le hx
  obtain ⟨m, rfl⟩ := Int.eq_ofNat_of_zero_le hy
  have := u64_or_nat (n * 65536) m (by omega) (by omega)
  rw [show ((n : Int) * 65536) = ((n * 65536 : Nat) : Int) by omega, this, nat_join 16 (n * 65536) m (by omega) (by omega)]
  omega
set_option maxRecDepth 100000 in
theorem pack_k (x : Kt) (w : World) : Calls Tryz.prog 177 #[kv x] w fun e w' => e = .returned (.int .u64 (x.num : Int)) ∧ Grew w w' := by
  have h1 := x.ha; have h2 := x.he; have h3 := x.hp
  have e1 : bits .or .u64 ((x.a : Int) * 4294967296) ((x.e : Int) * 65536) = (x.a : Int) * 4294967296 + (x.e : Int) * 65536 := or_join (by omega) (by omega) (by omega) (by omega)
  have e2 : bits .or .u64 ((x.a : Int) * 4294967296 + (x.e : Int) * 65536) (x.p : Int) = (x.num : Int) := by
    rw [show (x.a : Int) * 4294967296 + (x.e : Int) * 65536 = ((x.a : Int) * 65536 + (x.e : Int)) * 65536 by omega, or_join16 (by omega) (by omega) (by omega) (by omega)]
    unfold Kt.num; omega
  have HG := Lib.hid (Grew.one w (.cells #[.int .u32 (x.a : Int), .int .u16 (x.e : Int), .int .u16 (x.p : Int)] 218))
  unfold kv
  generalize x.num = n at *
  generalize x.a = a at *
  generalize x.e = b at *
  generalize x.p = c at *
  go_enter Tryz.func177, Tryz.ntmps177
  go_wp2
  go_ret
  exact ⟨rfl, HG.out⟩
/-- A number as a key. -/
def Kt.of (n : Nat) : Kt := ⟨n / 4294967296 % 4294967296, n / 65536 % 65536, n % 65536, by omega, by omega, by omega⟩
theorem Kt.num_of {n : Nat} (h : n < 18446744073709551616) : (Kt.of n).num = n := by unfold Kt.num Kt.of; simp only; omega
theorem Kt.of_num (x : Kt) : Kt.of x.num = x := Kt.num_inj (Kt.num_of x.num_lt)
end Go.Proofs.YtafmakhhdinknaaGreatDoor

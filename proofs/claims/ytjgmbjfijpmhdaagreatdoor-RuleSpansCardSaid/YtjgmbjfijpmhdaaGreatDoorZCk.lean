/- Contract of law 6's Name; words for its Make. -/
import Derived.Test.YtjgmbjfijpmhdaaGreatDoorZCj
import Derived.Test.YtjgmbjfijpmhdaaGreatDoorZMtx
import Derived.Test.YtjgmbjfijpmhdaaGreatDoorZOb
import Derived.Test.YtjgmbjfijpmhdaaGreatDoorZOw
import Derived.Deep.Heap
namespace Go.Proofs.YtjgmbjfijpmhdaaGreatDoor
open Go.RowKit
set_option linter.unusedVariables false
set_option linter.unusedSimpArgs false
/-- Four cells that may be written. -/
structure Box4 (w : World) (b : Nat) (c0 c1 c2 c3 : Value) : Prop where
  a0 : w.cell? ⟨b, 0, none⟩ = some c0
  a1 : w.cell? ⟨b, 1, none⟩ = some c1
  a2 : w.cell? ⟨b, 2, none⟩ = some c2
  a3 : w.cell? ⟨b, 3, none⟩ = some c3
  f0 : w.frozen? ⟨b, 0, none⟩ = false
  f1 : w.frozen? ⟨b, 1, none⟩ = false
  f2 : w.frozen? ⟨b, 2, none⟩ = false
  f3 : w.frozen? ⟨b, 3, none⟩ = false
  size : b < w.heap.size
theorem Box4.stay {w w' : World} {b : Nat} {c0 c1 c2 c3 : Value} (h : Box4 w b c0 c1 c2 c3) (hb : Below w.heap.size w w') : Box4 w' b c0 c1 c2 c3 :=
  ⟨(hb.cell (p := ⟨b, 0, none⟩) h.size).trans h.a0, (hb.cell (p := ⟨b, 1, none⟩) h.size).trans h.a1, (hb.cell (p := ⟨b, 2, none⟩) h.size).trans h.a2, (hb.cell (p := ⟨b, 3, none⟩) h.size).trans h.a3,
   (hb.frozen (p := ⟨b, 0, none⟩) h.size).trans h.f0, (hb.frozen (p := ⟨b, 1, none⟩) h.size).trans h.f1, (hb.frozen (p := ⟨b, 2, none⟩) h.size).trans h.f2, (hb.frozen (p := ⟨b, 3, none⟩) h.size).trans h.f3, Nat.lt_of_lt_of_le h.size hb.size⟩
theorem Box4.new (w : World) (c0 c1 c2 c3 : Value) (T : TypeId) : Box4 (w.alloc (.cells #[c0, c1, c2, c3] T)) w.heap.size c0 c1 c2 c3 := by
  refine ⟨box_cell w _ T 0 _ rfl, box_cell w _ T 1 _ rfl, box_cell w _ T 2 _ rfl, box_cell w _ T 3 _ rfl, ?_, ?_, ?_, ?_, ?_⟩ <;> simp
theorem Box4.of {B : Nat} {w0 w : World} (h : Below B w0 w) (c0 c1 c2 c3 : Value) (T : TypeId) : Box4 (w.alloc (.cells #[c0, c1, c2, c3] T)) w.heap.size c0 c1 c2 c3 := Box4.new w c0 c1 c2 c3 T
theorem Box4.set2 {w : World} {b : Nat} {c0 c1 c2 c3 : Value} (h : Box4 w b c0 c1 c2 c3) (u : Value) : Box4 (w.setCell ⟨b, 2, none⟩ u) b c0 c1 u c3 := by
  obtain ⟨h0, h1, h2, h3, f0, f1, f2, f3, h4⟩ := h
  exact ⟨by go_simp, by go_simp, by go_simp, by go_simp, by go_simp, by go_simp, by go_simp, by go_simp, by go_simp⟩
theorem Box4.set3 {w : World} {b : Nat} {c0 c1 c2 c3 : Value} (h : Box4 w b c0 c1 c2 c3) (u : Value) : Box4 (w.setCell ⟨b, 3, none⟩ u) b c0 c1 c2 u := by
  obtain ⟨h0, h1, h2, h3, f0, f1, f2, f3, h4⟩ := h
  exact ⟨by go_simp, by go_simp, by go_simp, by go_simp, by go_simp, by go_simp, by go_simp, by go_simp, by go_simp⟩
theorem Box4.drew {w : World} {b : Nat} {c0 c1 c2 c3 : Value} (h : Box4 w b c0 c1 c2 c3) : Box4 w.drew b c0 c1 c2 c3 := ⟨h.a0, h.a1, h.a2, h.a3, h.f0, h.f1, h.f2, h.f3, h.size⟩
theorem owns_set_other {w : World} {base : Nat} {e : TypeId} {size : Nat} {v : Value} {n : Nat} {xs : List Value} (h : w.ownsRow base e size v n xs) (a : Addr) (u : Value) (hne : v.ownBlock ≠ some a.block) : (w.setCell a u).ownsRow base e size v n xs :=
  h.kept (grownBy_set w a u) (.inr hne)
theorem load_u8 (w : World) (b o : Nat) (y : Int) (h : w.cell? ⟨b, o, none⟩ = some (.int .u8 y)) : (Instr.loadAt 5 (.pointer (some ⟨b, o, none⟩))).run Tryz.prog w = .ok (.int .u8 y) w := by
  go_simp
theorem store_A {w : World} {b : Nat} {c0 c1 c2 c3 : Value} (h : Box4 w b c0 c1 c2 c3) (d e : Int) (s : ByteArray) (k : Int) : (Instr.storeAt 82 (.pointer (some ⟨b, 0, none⟩)) (.agg #[.int .u32 d, .string s, .int .u8 k, .int .u32 e])).run Tryz.prog w =
    .ok () ((((w.setCell ⟨b, 0, none⟩ (.int .u32 d)).setCell ⟨b, 1, none⟩ (.string s)).setCell ⟨b, 2, none⟩ (.int .u8 k)).setCell ⟨b, 3, none⟩ (.int .u32 e)) := by
  obtain ⟨h0, h1, h2, h3, f0, f1, f2, f3, h4⟩ := h
  go_simp
theorem Box4.sets {w : World} {b : Nat} {c0 c1 c2 c3 : Value} (h : Box4 w b c0 c1 c2 c3) (d0 d1 d2 d3 : Value) : Box4 ((((w.setCell ⟨b, 0, none⟩ d0).setCell ⟨b, 1, none⟩ d1).setCell ⟨b, 2, none⟩ d2).setCell ⟨b, 3, none⟩ d3) b d0 d1 d2 d3 := by
  obtain ⟨h0, h1, h2, h3, f0, f1, f2, f3, h4⟩ := h
  exact ⟨by go_simp, by go_simp, by go_simp, by go_simp, by go_simp, by go_simp, by go_simp, by go_simp, by go_simp⟩
theorem below_sets {B b : Nat} {w0 w : World} (h : Below B w0 w) (hb : B ≤ b) (d0 d1 d2 d3 : Value) : Below B w0 ((((w.setCell ⟨b, 0, none⟩ d0).setCell ⟨b, 1, none⟩ d1).setCell ⟨b, 2, none⟩ d2).setCell ⟨b, 3, none⟩ d3) :=
  (((h.setCell hb _).setCell hb _).setCell hb _).setCell hb _
theorem opw_newA {ops : Array Oper} {Q : Exit → Act → World → Prop} {i : Nat} {K : Act → World → Prop} {a : Act} {w : World} (dst : Option Tmp) (ho : opWants ops a i (.alloc 82) dst)
    (hk : K (a.put dst (.pointer (some ⟨w.heap.size, 0, none⟩))) (w.alloc (.cells #[.int .u32 0, .string ⟨#[]⟩, .int .u8 0, .int .u32 0] 82))) : wpOp Tryz.prog ops Q i K a w := by
  refine opw_any ho (fun o h1 h2 => ?_)
  subst h2
  unfold Oper.wp execOp
  simp only [h1]
  go_simp
  exact hk
theorem stI_step {l : List Qt} {i : Nat} {x : Qt} (h : l[i]? = some x) : (stI l (i + 1)).1 = (stI l i).1 ++ [newA (stI l i).1 (stI l i).2 x] ∧ (stI l (i + 1)).2 = (stI l i).2 + 1 + x.code % 4 := by
  simp [stI, h]
theorem info35 : (Tryz.prog.info? 82).map (fun i => (i.zero, i.size, i.bytes)) = some (some (.agg #[.int .u32 0, .string ⟨#[]⟩, .int .u8 0, .int .u32 0]), 4, 32) := by kernel_rfl
end Go.Proofs.YtjgmbjfijpmhdaaGreatDoor

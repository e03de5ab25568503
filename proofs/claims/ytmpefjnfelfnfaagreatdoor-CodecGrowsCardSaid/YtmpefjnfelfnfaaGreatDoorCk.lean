/- Contract of law 6's Name; words for its Make. -/
import Derived.Test.YtmpefjnfelfnfaaGreatDoorCj
import Derived.Test.YtmpefjnfelfnfaaGreatDoorOb
import Derived.Deep.Heap
namespace Go.Proofs.YtmpefjnfelfnfaaGreatDoor
open Go.RowKit
set_option linter.unusedVariables false
set_option linter.unusedSimpArgs false
set_option maxRecDepth 100000 in
theorem lname_c (n : Nat) (w : World) : Calls Tryz.prog 93 #[.int .u8 (n : Int)] w fun e w' => e = .returned (.string (nm5 (n % 5))) ∧ Below w.heap.size w w' := by
  have h0 : (0 : Int) ≤ (n : Int) := by omega
  rcases (by omega : n % 5 = 0 ∨ n % 5 = 1 ∨ n % 5 = 2 ∨ n % 5 = 3 ∨ n % 5 = 4) with h | h | h | h | h
  · have e : (n : Int) % 5 = 0 := by omega
    rw [h]
    clear h
    simp only [nm5]
    go_enter Tryz.func93, Tryz.ntmps93
    go_wp2
    go_ret
    exact ⟨rfl, (Below.refl _ _).alloc (Nat.le_refl _) _⟩
  · have e : (n : Int) % 5 = 1 := by omega
    rw [h]
    clear h
    simp only [nm5]
    go_enter Tryz.func93, Tryz.ntmps93
    go_wp2
    go_ret
    exact ⟨rfl, (Below.refl _ _).alloc (Nat.le_refl _) _⟩
  · have e : (n : Int) % 5 = 2 := by omega
    rw [h]
    clear h
    simp only [nm5]
    go_enter Tryz.func93, Tryz.ntmps93
    go_wp2
    go_ret
    exact ⟨rfl, (Below.refl _ _).alloc (Nat.le_refl _) _⟩
  · have e : (n : Int) % 5 = 3 := by omega
    rw [h]
    clear h
    simp only [nm5]
    go_enter Tryz.func93, Tryz.ntmps93
    go_wp2
    go_ret
    exact ⟨rfl, (Below.refl _ _).alloc (Nat.le_refl _) _⟩
  · have e : (n : Int) % 5 = 4 := by omega
    rw [h]
    clear h
    simp only [nm5]
    go_enter Tryz.func93, Tryz.ntmps93
    go_wp2
    go_ret
    exact ⟨rfl, (Below.refl _ _).alloc (Nat.le_refl _) _⟩
/-- Four cells that may be written. -/
structure Box4 (w : World) (b : Nat) (c0 c1 c2 c3 : Value) : Prop where
  a0 : w.cell? ⟨b, 0, none⟩ = some c0
  a1 : w.cell? ⟨b, 1, none⟩ = some c1
  a2 : w.cell? ⟨b, 2, none⟩ = some c2
  a3 : w.cell? ⟨b, 3, none⟩ = some c3
  f0 : w.frozen? ⟨b, 0, none⟩ = false
  f1 : w.frozen? ⟨b, 1, none⟩ = false
  f2 : w.frozen? ⟨b, 2, none⟩ = false
  f3 : w.frozen? ⟨b, 3, none⟩ = false
  size : b < w.heap.size
theorem Box4.stay {w w' : World} {b : Nat} {c0 c1 c2 c3 : Value} (h : Box4 w b c0 c1 c2 c3) (hb : Below w.heap.size w w') : Box4 w' b c0 c1 c2 c3 :=
  ⟨(hb.cell (p := ⟨b, 0, none⟩) h.size).trans h.a0, (hb.cell (p := ⟨b, 1, none⟩) h.size).trans h.a1, (hb.cell (p := ⟨b, 2, none⟩) h.size).trans h.a2, (hb.cell (p := ⟨b, 3, none⟩) h.size).trans h.a3,
   (hb.frozen (p := ⟨b, 0, none⟩) h.size).trans h.f0, (hb.frozen (p := ⟨b, 1, none⟩) h.size).trans h.f1, (hb.frozen (p := ⟨b, 2, none⟩) h.size).trans h.f2, (hb.frozen (p := ⟨b, 3, none⟩) h.size).trans h.f3, Nat.lt_of_lt_of_le h.size hb.size⟩
theorem Box4.new (w : World) (c0 c1 c2 c3 : Value) (T : TypeId) : Box4 (w.alloc (.cells #[c0, c1, c2, c3] T)) w.heap.size c0 c1 c2 c3 := by
  refine ⟨box_cell w _ T 0 _ rfl, box_cell w _ T 1 _ rfl, box_cell w _ T 2 _ rfl, box_cell w _ T 3 _ rfl, ?_, ?_, ?_, ?_, ?_⟩ <;> simp
theorem Box4.of {B : Nat} {w0 w : World} (h : Below B w0 w) (c0 c1 c2 c3 : Value) (T : TypeId) : Box4 (w.alloc (.cells #[c0, c1, c2, c3] T)) w.heap.size c0 c1 c2 c3 := Box4.new w c0 c1 c2 c3 T
theorem Box4.set2 {w : World} {b : Nat} {c0 c1 c2 c3 : Value} (h : Box4 w b c0 c1 c2 c3) (u : Value) : Box4 (w.setCell ⟨b, 2, none⟩ u) b c0 c1 u c3 := by
  obtain ⟨h0, h1, h2, h3, f0, f1, f2, f3, h4⟩ := h
  exact ⟨by go_simp, by go_simp, by go_simp, by go_simp, by go_simp, by go_simp, by go_simp, by go_simp, by go_simp⟩
theorem Box4.set3 {w : World} {b : Nat} {c0 c1 c2 c3 : Value} (h : Box4 w b c0 c1 c2 c3) (u : Value) : Box4 (w.setCell ⟨b, 3, none⟩ u) b c0 c1 c2 u := by
  obtain ⟨h0, h1, h2, h3, f0, f1, f2, f3, h4⟩ := h
  exact ⟨by go_simp, by go_simp, by go_simp, by go_simp, by go_simp, by go_simp, by go_simp, by go_simp, by go_simp⟩
theorem Box4.drew {w : World} {b : Nat} {c0 c1 c2 c3 : Value} (h : Box4 w b c0 c1 c2 c3) : Box4 w.drew b c0 c1 c2 c3 := ⟨h.a0, h.a1, h.a2, h.a3, h.f0, h.f1, h.f2, h.f3, h.size⟩
theorem grownBy_set (w : World) (a : Addr) (u : Value) : w.grownBy (w.setCell a u) (some a.block) :=
  ⟨rfl, rfl, rfl, by simp, fun k hk hne => by
    have h : k ≠ a.block := fun e => hne (by rw [e])
    simp only [World.setCell, Array.getElem?_modify]
    rw [if_neg (fun e => h e.symm)]⟩
theorem owns_set_other {w : World} {base : Nat} {e : TypeId} {size : Nat} {v : Value} {n : Nat} {xs : List Value} (h : w.ownsRow base e size v n xs) (a : Addr) (u : Value) (hne : v.ownBlock ≠ some a.block) : (w.setCell a u).ownsRow base e size v n xs :=
  h.kept (grownBy_set w a u) (.inr hne)
theorem load_u8 (w : World) (b o : Nat) (y : Int) (h : w.cell? ⟨b, o, none⟩ = some (.int .u8 y)) : (Instr.loadAt 5 (.pointer (some ⟨b, o, none⟩))).run Tryz.prog w = .ok (.int .u8 y) w := by
  go_simp
theorem store_A {w : World} {b : Nat} {c0 c1 c2 c3 : Value} (h : Box4 w b c0 c1 c2 c3) (d e : Int) (s : ByteArray) (k : Int) : (Instr.storeAt 76 (.pointer (some ⟨b, 0, none⟩)) (.agg #[.int .u32 d, .string s, .int .u8 k, .int .u32 e])).run Tryz.prog w =
    .ok () ((((w.setCell ⟨b, 0, none⟩ (.int .u32 d)).setCell ⟨b, 1, none⟩ (.string s)).setCell ⟨b, 2, none⟩ (.int .u8 k)).setCell ⟨b, 3, none⟩ (.int .u32 e)) := by
  obtain ⟨h0, h1, h2, h3, f0, f1, f2, f3, h4⟩ := h
  go_simp
theorem Box4.sets {w : World} {b : Nat} {c0 c1 c2 c3 : Value} (h : Box4 w b c0 c1 c2 c3) (d0 d1 d2 d3 : Value) : Box4 ((((w.setCell ⟨b, 0, none⟩ d0).setCell ⟨b, 1, none⟩ d1).setCell ⟨b, 2, none⟩ d2).setCell ⟨b, 3, none⟩ d3) b d0 d1 d2 d3 := by
  obtain ⟨h0, h1, h2, h3, f0, f1, f2, f3, h4⟩ := h
  exact ⟨by go_simp, by go_simp, by go_simp, by go_simp, by go_simp, by go_simp, by go_simp, by go_simp, by go_simp⟩
theorem below_sets {B b : Nat} {w0 w : World} (h : Below B w0 w) (hb : B ≤ b) (d0 d1 d2 d3 : Value) : Below B w0 ((((w.setCell ⟨b, 0, none⟩ d0).setCell ⟨b, 1, none⟩ d1).setCell ⟨b, 2, none⟩ d2).setCell ⟨b, 3, none⟩ d3) :=
  (((h.setCell hb _).setCell hb _).setCell hb _).setCell hb _
theorem opw_newA {ops : Array Oper} {Q : Exit → Act → World → Prop} {i : Nat} {K : Act → World → Prop} {a : Act} {w : World} (dst : Option Tmp) (ho : opWants ops a i (.alloc 76) dst)
    (hk : K (a.put dst (.pointer (some ⟨w.heap.size, 0, none⟩))) (w.alloc (.cells #[.int .u32 0, .string ⟨#[]⟩, .int .u8 0, .int .u32 0] 76))) : wpOp Tryz.prog ops Q i K a w := by
  refine opw_any ho (fun o h1 h2 => ?_)
  subst h2
  unfold Oper.wp execOp
  simp only [h1]
  go_simp
  exact hk
theorem stI_len (l : List Qt) : ∀ i, i ≤ l.length → (stI l i).1.length = i
  | 0, _ => rfl
  | i + 1, hi => by
    have h := stI_len l i (by omega)
    have e : l[i]? = some (l[i]'(by omega)) := List.getElem?_eq_getElem (by omega)
    simp only [stI, e, List.length_append, List.length_cons, List.length_nil]
    omega
theorem stI_step {l : List Qt} {i : Nat} {x : Qt} (h : l[i]? = some x) : (stI l (i + 1)).1 = (stI l i).1 ++ [newA (stI l i).1 (stI l i).2 x] ∧ (stI l (i + 1)).2 = (stI l i).2 + 1 + x.code % 4 := by
  simp [stI, h]
theorem info35 : (Tryz.prog.info? 76).map (fun i => (i.zero, i.size, i.bytes)) = some (some (.agg #[.int .u32 0, .string ⟨#[]⟩, .int .u8 0, .int .u32 0]), 4, 32) := by kernel_rfl
end Go.Proofs.YtmpefjnfelfnfaaGreatDoor

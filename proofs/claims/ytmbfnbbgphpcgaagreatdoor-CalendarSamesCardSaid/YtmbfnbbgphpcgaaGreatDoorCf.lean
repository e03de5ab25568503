/- Contracts of Get, of law 6's get. -/
import Derived.Test.YtmbfnbbgphpcgaaGreatDoorCe
namespace Go.Proofs.YtmbfnbbgphpcgaaGreatDoor
open Go.RowKit
set_option linter.unusedVariables false
set_option linter.unusedSimpArgs false
/-- The cells of a box behind a call. -/
theorem box4 {w w1 : World} {c0 c1 c2 c3 : Value} {T : TypeId} (hb : Below (w.alloc (.cells #[c0, c1, c2, c3] T)).heap.size (w.alloc (.cells #[c0, c1, c2, c3] T)) w1) :
    (w1.cell? ⟨w.heap.size, 0, none⟩ = some c0 ∧ w1.cell? ⟨w.heap.size, 1, none⟩ = some c1 ∧ w1.cell? ⟨w.heap.size, 2, none⟩ = some c2 ∧ w1.cell? ⟨w.heap.size, 3, none⟩ = some c3) ∧
    (w1.frozen? ⟨w.heap.size, 0, none⟩ = false ∧ w1.frozen? ⟨w.heap.size, 1, none⟩ = false ∧ w1.frozen? ⟨w.heap.size, 2, none⟩ = false ∧ w1.frozen? ⟨w.heap.size, 3, none⟩ = false) := by
  have hs : w.heap.size < (w.alloc (.cells #[c0, c1, c2, c3] T)).heap.size := by simp
  refine ⟨⟨?_, ?_, ?_, ?_⟩, ?_, ?_, ?_, ?_⟩
  · rw [hb.cell (p := ⟨w.heap.size, 0, none⟩) hs]; exact box_cell w _ T 0 _ rfl
  · rw [hb.cell (p := ⟨w.heap.size, 1, none⟩) hs]; exact box_cell w _ T 1 _ rfl
  · rw [hb.cell (p := ⟨w.heap.size, 2, none⟩) hs]; exact box_cell w _ T 2 _ rfl
  · rw [hb.cell (p := ⟨w.heap.size, 3, none⟩) hs]; exact box_cell w _ T 3 _ rfl
  · rw [hb.frozen (p := ⟨w.heap.size, 0, none⟩) hs]; exact World.frozen?_alloc_new _ _ _ _
  · rw [hb.frozen (p := ⟨w.heap.size, 1, none⟩) hs]; exact World.frozen?_alloc_new _ _ _ _
  · rw [hb.frozen (p := ⟨w.heap.size, 2, none⟩) hs]; exact World.frozen?_alloc_new _ _ _ _
  · rw [hb.frozen (p := ⟨w.heap.size, 3, none⟩) hs]; exact World.frozen?_alloc_new _ _ _ _
theorem below_out {w w1 : World} {o : Obj} (hb : Below (w.alloc o).heap.size (w.alloc o) w1) : Below w.heap.size w w1 :=
  ((Below.refl w.heap.size w).alloc (Nat.le_refl _) o).trans (hb.mono (by simp))
/-- An account, or none: as a value. -/
def gv : Option Ac → Value
  | none => .agg #[.int .u32 0, .string ⟨#[]⟩, .int .u8 0, .int .u32 0]
  | some a => cv a
set_option maxRecDepth 100000 in
theorem get_none (v : Value) (c : List Ac) (n : Nat) (w : World) (hR : Recs cc 4 w v c) (hr : RiseA c) (hl : c.length ≤ 1000) (h : getA c n = none) :
    Calls Tryz.prog 51 #[v, .int .u32 (n : Int)] w fun e w' => e = .returned (.tuple #[.agg #[.int .u32 0, .string ⟨#[]⟩, .int .u8 0, .int .u32 0], .bool false]) ∧ Below w.heap.size w w' := by
  have hB := (Below.refl w.heap.size w).alloc (Nat.le_refl _) (.cells #[.int .u32 0, .string ⟨#[]⟩, .int .u8 0, .int .u32 0] 68)
  have K := find_c v c n _ (hR.stay hB) hr hl
  have e1 : (getA c n).isSome = false := by rw [h]; rfl
  rw [e1] at K
  generalize belowA c n = B at K
  have HK := Lib.hid K
  have HB := Lib.hid hB
  clear K e1 h hR hr hl hB
  go_enter Tryz.func51, Tryz.ntmps51
  go_wp2_with (go_at_call 58; refine HK.out.mono ?_; rintro e w1 ⟨rfl, hb1⟩; obtain ⟨⟨p0, p1, p2, p3⟩, f0, f1, f2, f3⟩ := box4 hb1; have HB1 := Lib.hid (below_out hb1); clear hb1)
  exact bodyPost_ret (v := .tuple #[.agg #[.int .u32 0, .string ⟨#[]⟩, .int .u8 0, .int .u32 0], .bool false]) (by simp [results, Tryz.results51, go_sem, p0, p1, p2, p3]) rfl ⟨rfl, (((HB1.out.setCell (Nat.le_refl _) _).setCell (Nat.le_refl _) _).setCell (Nat.le_refl _) _).setCell (Nat.le_refl _) _⟩
set_option maxRecDepth 100000 in
theorem get_some (v : Value) (c : List Ac) (n : Nat) (a : Ac) (w : World) (hR : Recs cc 4 w v c) (hr : RiseA c) (hl : c.length ≤ 1000) (h : getA c n = some a) :
    Calls Tryz.prog 51 #[v, .int .u32 (n : Int)] w fun e w' => e = .returned (.tuple #[cv a, .bool true]) ∧ Below w.heap.size w w' := by
  have hB := (Below.refl w.heap.size w).alloc (Nat.le_refl _) (.cells #[.int .u32 0, .string ⟨#[]⟩, .int .u8 0, .int .u32 0] 68)
  have hR1 := hR.stay hB
  have K := find_c v c n _ hR1 hr hl
  have e1 : (getA c n).isSome = true := by rw [h]; rfl
  have ha := (out_parts hr h).1
  have hlt := (List.getElem?_eq_some_iff.1 ha).1
  rw [e1] at K
  generalize belowA c n = B at K ha hlt
  obtain ⟨r, cap, rfl, _⟩ := hR.form
  obtain ⟨g, off, rfl, hg, hc⟩ := hR1.at ha
  obtain ⟨c0, c1, c2, c3⟩ := Recs.cells4 (c := c) hc
  have HK := Lib.hid K
  have HB := Lib.hid hB
  clear K e1 h hR hR1 hr hB hc ha
  unfold cv
  go_enter Tryz.func51, Tryz.ntmps51
  go_wp2_with (go_at_call 58; refine HK.out.mono ?_; rintro e w1 ⟨rfl, hb1⟩; have d0 := (hb1.cell (p := ⟨g, off + B * 4, none⟩) hg).trans c0; have d1 := (hb1.cell (p := ⟨g, off + B * 4 + 1, none⟩) hg).trans c1; have d2 := (hb1.cell (p := ⟨g, off + B * 4 + 2, none⟩) hg).trans c2; have d3 := (hb1.cell (p := ⟨g, off + B * 4 + 3, none⟩) hg).trans c3; obtain ⟨⟨p0, p1, p2, p3⟩, f0, f1, f2, f3⟩ := box4 hb1; have HB1 := Lib.hid (below_out hb1); clear hb1)
  exact bodyPost_ret (v := .tuple #[.agg #[.int .u32 (a.code : Int), .string a.name, .int .u8 (a.kind : Int), .int .u32 (a.par : Int)], .bool true]) (by simp [results, Tryz.results51, go_sem, p0, p1, p2, p3]) rfl ⟨rfl, (((HB1.out.setCell (Nat.le_refl _) _).setCell (Nat.le_refl _) _).setCell (Nat.le_refl _) _).setCell (Nat.le_refl _) _⟩
end Go.Proofs.YtmbfnbbgphpcgaaGreatDoor

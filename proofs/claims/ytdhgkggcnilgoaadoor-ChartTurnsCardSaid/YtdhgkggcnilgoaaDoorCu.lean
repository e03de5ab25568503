/- Words for law ChartTurns: three rows that grow side by side, a box; what the law's loop makes. -/
import Derived.Test.YtdhgkggcnilgoaaDoorCl
import Derived.Test.YtdhgkggcnilgoaaDoorCr
import Derived.Maps.AppendAt
namespace Go.Proofs.YtdhgkggcnilgoaaDoor
open Go.RowKit
set_option linter.unusedVariables false
set_option linter.unusedSimpArgs false
/-- One turn of the law's 'with': its row, whether the new one is in. -/
def wst (n : Nat) (a : Ac) (s : List Ac × Bool) (y : Ac) : List Ac × Bool :=
  let s1 := if n ≤ y.code ∧ s.2 = false then (s.1 ++ [a], true) else s
  if y.code ≠ n then (s1.1 ++ [y], s1.2) else s1
def wat (n : Nat) (a : Ac) (c : List Ac) (k : Nat) : List Ac × Bool := (c.take k).foldl (wst n a) ([], false)
theorem wat_step {n : Nat} {a : Ac} {c : List Ac} {k : Nat} {y : Ac} (h : c[k]? = some y) : wat n a c (k + 1) = wst n a (wat n a c k) y := by
  obtain ⟨hk, e⟩ := List.getElem?_eq_some_iff.1 h
  unfold wat
  rw [List.take_succ_eq_append_getElem hk, List.foldl_append, e]; rfl
theorem wst_true {n : Nat} {a : Ac} : ∀ (r : List Ac) (l : List Ac), r.foldl (wst n a) (l, true) = (l ++ outA r n, true)
  | [], l => by simp [outA]
  | y :: r, l => by
    rw [List.foldl_cons]
    by_cases h : y.code = n
    · have e : wst n a (l, true) y = (l, true) := by unfold wst; simp [h]
      have e2 : outA (y :: r) n = outA r n := by unfold outA; rw [List.filter_cons_of_neg (by simp [h])]
      rw [e, wst_true r l, e2]
    · have e : wst n a (l, true) y = (l ++ [y], true) := by unfold wst; simp [h]
      have e2 : outA (y :: r) n = y :: outA r n := by unfold outA; rw [List.filter_cons_of_pos (by simpa using h)]
      rw [e, wst_true r _, e2]; simp
theorem wst_false {n : Nat} {a : Ac} (ha : a.code = n) : ∀ (r : List Ac) (l : List Ac), RiseA r → (if (r.foldl (wst n a) (l, false)).2 = true then (r.foldl (wst n a) (l, false)).1 else (r.foldl (wst n a) (l, false)).1 ++ [a]) = l ++ withA r a
  | [], l, _ => by simp [withA]
  | y :: r, l, hr => by
    obtain ⟨h1, h2⟩ := List.pairwise_cons.1 hr
    rw [List.foldl_cons]
    by_cases h : y.code < n
    · have e : wst n a (l, false) y = (l ++ [y], false) := by
        have h3 : ¬ n ≤ y.code := by omega
        have h4 : ¬ y.code = n := by omega
        simp [wst, h3, h4]
      have e2 : withA (y :: r) a = y :: withA r a := by
        unfold withA; rw [List.filter_cons_of_pos (by simp; omega), List.filter_cons_of_neg (by simp; omega)]; rfl
      rw [e, wst_false ha r _ h2, e2]; simp
    · have hn : r.filter (fun b => decide (b.code < a.code)) = [] := by rw [List.filter_eq_nil_iff]; intro b hb; have := h1 b hb; simp; omega
      have hg : r.filter (fun b => decide (a.code < b.code)) = r := by rw [List.filter_eq_self]; intro b hb; have := h1 b hb; simp; omega
      have ho : outA r n = r := by unfold outA; rw [List.filter_eq_self]; intro b hb; have := h1 b hb; simp; omega
      by_cases he : y.code = n
      · have e : wst n a (l, false) y = (l ++ [a], true) := by
          simp [wst, he]
        have e2 : withA (y :: r) a = a :: r := by
          unfold withA; rw [List.filter_cons_of_neg (by simp; omega), List.filter_cons_of_neg (by simp; omega), hn, hg]; rfl
        rw [e, wst_true r _, e2, ho]; simp
      · have e : wst n a (l, false) y = (l ++ [a] ++ [y], true) := by
          have h3 : n ≤ y.code := by omega
          simp [wst, h3, he]
        have e2 : withA (y :: r) a = a :: y :: r := by
          unfold withA; rw [List.filter_cons_of_neg (by simp; omega), List.filter_cons_of_pos (by simp; omega), hn, hg]; rfl
        rw [e, wst_true r _, e2, ho]; simp
theorem wat_all {n : Nat} {a : Ac} {c : List Ac} (ha : a.code = n) (hr : RiseA c) : (if (wat n a c c.length).2 = true then (wat n a c c.length).1 else (wat n a c c.length).1 ++ [a]) = withA c a := by
  have := wst_false (n := n) ha c [] hr
  unfold wat
  rw [List.take_length]
  simpa using this
theorem out_step {c : List Ac} {k n : Nat} {y : Ac} (h : c[k]? = some y) : outA (c.take (k + 1)) n = if y.code = n then outA (c.take k) n else outA (c.take k) n ++ [y] := by
  obtain ⟨hk, e⟩ := List.getElem?_eq_some_iff.1 h
  unfold outA
  rw [List.take_succ_eq_append_getElem hk, List.filter_append, e]
  by_cases hp : y.code = n
  · rw [if_pos hp, List.filter_cons_of_neg (by simpa using hp)]; simp
  · rw [if_neg hp, List.filter_cons_of_pos (by simpa using hp)]; simp
theorem move_step {c : List Ac} {k n t : Nat} (ht : t < 4294967296) {y : Ac} (h : c[k]? = some y) : moveA (c.take (k + 1)) n t ht = moveA (c.take k) n t ht ++ [if y.par = n then y.to t ht else y] := by
  obtain ⟨hk, e⟩ := List.getElem?_eq_some_iff.1 h
  unfold moveA
  rw [List.take_succ_eq_append_getElem hk, List.map_append, e]; rfl
def AptO (u v : Value) : Prop := (u.ownBlock = none ∨ u.ownBlock ≠ v.ownBlock) ∧ (v.ownBlock = none ∨ v.ownBlock ≠ u.ownBlock)
theorem AptO.symm {u v : Value} (h : AptO u v) : AptO v u := ⟨h.2, h.1⟩
theorem AptO.step {u u' v : Value} {N : Nat} (h : AptO u v) (hat : u'.ownBlock = u.ownBlock ∨ u'.ownBlock = some N) (hv : ∀ k, v.ownBlock = some k → k < N) : AptO u' v := by
  rcases hat with e | e
  · unfold AptO; rw [e]; exact h
  · unfold AptO
    rw [e]
    have hne : some N ≠ v.ownBlock := fun e' => by have := hv N e'.symm; omega
    exact ⟨.inr hne, .inr (fun e' => hne e'.symm)⟩
/-- Three rows that a call owns, apart; a box beside them; all below a block as it was. -/
structure Rnd (W : World) (T : TypeId) (w : World) (v1 v2 v3 : Value) (l1 l2 l3 : List Ac) (Y : Nat) (y : Ac) : Prop where
  o1 : w.ownsRow W.heap.size T 4 v1 l1.length (l1.flatMap cc)
  o2 : w.ownsRow W.heap.size T 4 v2 l2.length (l2.flatMap cc)
  o3 : w.ownsRow W.heap.size T 4 v3 l3.length (l3.flatMap cc)
  a12 : AptO v1 v2
  a13 : AptO v1 v3
  a23 : AptO v2 v3
  n1 : v1.ownBlock ≠ some Y
  n2 : v2.ownBlock ≠ some Y
  n3 : v3.ownBlock ≠ some Y
  box : Box4 w Y (.int .u32 (y.code : Int)) (.string y.name) (.int .u8 (y.kind : Int)) (.int .u32 (y.par : Int))
  below : Below W.heap.size W w
theorem Rnd.sw12 {W : World} {T : TypeId} {w : World} {v1 v2 v3 : Value} {l1 l2 l3 : List Ac} {Y : Nat} {y : Ac} (h : Rnd W T w v1 v2 v3 l1 l2 l3 Y y) : Rnd W T w v2 v1 v3 l2 l1 l3 Y y := ⟨h.o2, h.o1, h.o3, h.a12.symm, h.a23, h.a13, h.n2, h.n1, h.n3, h.box, h.below⟩
theorem Rnd.sw13 {W : World} {T : TypeId} {w : World} {v1 v2 v3 : Value} {l1 l2 l3 : List Ac} {Y : Nat} {y : Ac} (h : Rnd W T w v1 v2 v3 l1 l2 l3 Y y) : Rnd W T w v3 v2 v1 l3 l2 l1 Y y := ⟨h.o3, h.o2, h.o1, h.a23.symm, h.a13.symm, h.a12.symm, h.n3, h.n2, h.n1, h.box, h.below⟩
theorem Rnd.push1 {W : World} {T : TypeId} {w w3 : World} {v1 v2 v3 v1' : Value} {l1 l2 l3 : List Ac} {Y : Nat} {y x : Ac} {o : Obj} (h : Rnd W T w v1 v2 v3 l1 l2 l3 Y y)
    (ho : w3.ownsRow W.heap.size T 4 v1' (l1.length + 1) (l1.flatMap cc ++ cc x)) (hg : (w.alloc o).grownBy w3 v1.ownBlock) (hat : v1'.ownBlock = v1.ownBlock ∨ v1'.ownBlock = some (w.alloc o).heap.size) : Rnd W T w3 v1' v2 v3 (l1 ++ [x]) l2 l3 Y y := by
  have hs : (w.alloc o).heap.size = w.heap.size + 1 := by simp
  have hbox : ∀ {a : Addr} {u : Value}, w.cell? a = some u → some a.block ≠ v1.ownBlock → w3.cell? a = some u := fun {a u} hu hne => hg.cell (by rw [World.cell?_alloc_lt _ _ _ (World.block_lt_of_cell? w a hu)]; exact hu) hne
  have hY : some Y ≠ v1.ownBlock := fun e => h.n1 e.symm
  have hfr : ∀ j, w3.frozen? ⟨Y, j, none⟩ = w.frozen? ⟨Y, j, none⟩ := fun j => by
    have e1 := World.frozen?_of_block (w := w.alloc o) (w' := w3) (a := ⟨Y, j, none⟩) (hg.block Y (by have := h.box.size; omega) hY)
    rw [e1]
    exact ((Below.refl w.heap.size w).alloc (Nat.le_refl _) o).frozen (p := ⟨Y, j, none⟩) h.box.size
  refine ⟨by rw [flat_snoc]; simpa using ho, (h.o2.alloc o).kept hg h.a12.2, (h.o3.alloc o).kept hg h.a13.2, h.a12.step hat (fun k hk => by have := (h.o2.lt k hk).2; omega), h.a13.step hat (fun k hk => by have := (h.o3.lt k hk).2; omega), h.a23, ?_, h.n2, h.n3, ?_, ?_⟩
  · rcases hat with e | e
    · rw [e]; exact h.n1
    · rw [e]; intro e'; have := Option.some.inj e'; have := h.box.size; omega
  · exact ⟨hbox h.box.a0 hY, hbox h.box.a1 hY, hbox h.box.a2 hY, hbox h.box.a3 hY, (hfr 0).trans h.box.f0, (hfr 1).trans h.box.f1, (hfr 2).trans h.box.f2, (hfr 3).trans h.box.f3, Nat.lt_of_lt_of_le h.box.size (by have := hg.size; omega)⟩
  · exact (h.below.alloc h.below.size o).grown hg (by have := h.below.size; omega) (fun k hk => (h.o1.lt k hk).1)
theorem Rnd.setPar {W : World} {T : TypeId} {w : World} {v1 v2 v3 : Value} {l1 l2 l3 : List Ac} {Y : Nat} {y : Ac} (h : Rnd W T w v1 v2 v3 l1 l2 l3 Y y) (t : Nat) (ht : t < 4294967296) (hY : W.heap.size ≤ Y) : Rnd W T (w.setCell ⟨Y, 3, none⟩ (.int .u32 (t : Int))) v1 v2 v3 l1 l2 l3 Y (y.to t ht) :=
  ⟨owns_set_other h.o1 _ _ h.n1, owns_set_other h.o2 _ _ h.n2, owns_set_other h.o3 _ _ h.n3, h.a12, h.a13, h.a23, h.n1, h.n2, h.n3, h.box.set3 _, h.below.setCell hY _⟩
/-- At a round's head: the three rows alone. -/
structure Tri (W : World) (T : TypeId) (w : World) (v1 v2 v3 : Value) (l1 l2 l3 : List Ac) : Prop where
  o1 : w.ownsRow W.heap.size T 4 v1 l1.length (l1.flatMap cc)
  o2 : w.ownsRow W.heap.size T 4 v2 l2.length (l2.flatMap cc)
  o3 : w.ownsRow W.heap.size T 4 v3 l3.length (l3.flatMap cc)
  a12 : AptO v1 v2
  a13 : AptO v1 v3
  a23 : AptO v2 v3
  below : Below W.heap.size W w
theorem Rnd.tri {W : World} {T : TypeId} {w : World} {v1 v2 v3 : Value} {l1 l2 l3 : List Ac} {Y : Nat} {y : Ac} (h : Rnd W T w v1 v2 v3 l1 l2 l3 Y y) : Tri W T w v1 v2 v3 l1 l2 l3 := ⟨h.o1, h.o2, h.o3, h.a12, h.a13, h.a23, h.below⟩
theorem Tri.rnd {W : World} {T T' : TypeId} {w : World} {v1 v2 v3 : Value} {l1 l2 l3 : List Ac} (h : Tri W T w v1 v2 v3 l1 l2 l3) (y : Ac) : Rnd W T (w.alloc (.cells #[.int .u32 (y.code : Int), .string y.name, .int .u8 (y.kind : Int), .int .u32 (y.par : Int)] T')) v1 v2 v3 l1 l2 l3 w.heap.size y :=
  ⟨h.o1.alloc _, h.o2.alloc _, h.o3.alloc _, h.a12, h.a13, h.a23, fun e => by have := (h.o1.lt _ e).2; omega, fun e => by have := (h.o2.lt _ e).2; omega, fun e => by have := (h.o3.lt _ e).2; omega, Box4.new w _ _ _ _ _, h.below.alloc h.below.size _⟩
end Go.Proofs.YtdhgkggcnilgoaaDoor

/- A whole array stored inside a statement whose order is open. -/
import Derived.Test.YthgkfgjdlpjnmaaZb
import Derived.Deep.MidRow
import Derived.Deep.RegionHeld3
import Derived.Deep.DeepCutAuto
namespace Go.Proofs.Ythgkfgjdlpjnmaa
open Go.RowKit
set_option linter.unusedVariables false
set_option linter.unusedSimpArgs false
/-- The cells of an array, as a list. -/
@[irreducible] def cellsL (f : Nat → Int) : List Value := (arr f).toList
theorem cellsL_arr (f : Nat → Int) : (cellsL f).toArray = arr f := by unfold cellsL; simp
theorem cellsL_len (f : Nat → Int) : (cellsL f).length = 128 := by unfold cellsL; rw [Array.length_toList, arr_size]
theorem cellsL_get {f : Nat → Int} {j : Nat} (h : j < 128) : (cellsL f)[j]? = some (.int .i64 (f j)) := by
  unfold cellsL; rw [Array.getElem?_toList]; exact arr_get h
theorem cellsL_one (f : Nat → Int) : ∀ v ∈ cellsL f, v.oneCell' = true := by
  have h := Array.all_eq_true_iff_forall_mem.1 (arr_one f)
  intro v hv
  unfold cellsL at hv
  exact h v (Array.mem_toList_iff.1 hv)
theorem cellsL_info (f : Nat → Int) : (Try.prog.info? 28).map (·.size) = some (cellsL f).length := by rw [cellsL_len]; exact infoArr0
theorem there_new (w : World) (f : Nat → Int) : (w.alloc (.cells (arr f) 28)).there w.heap.size 0 128 := fun j hj => by
  rw [Nat.zero_add, (IsArr.new w f).cell hj]; exact ⟨rfl, (IsArr.new w f).frozen j⟩
theorem there_new1 (w : World) (o : Obj) (f : Nat → Int) : ((w.alloc o).alloc (.cells (arr f) 28)).there (w.heap.size + 1) 0 128 := by
  have := there_new (w.alloc o) f
  rwa [World.size_alloc] at this
theorem there_newd (w : World) (f : Nat → Int) : (w.drew.alloc (.cells (arr f) 28)).there w.heap.size 0 128 := there_new w.drew f
theorem there_newd1 (w : World) (o : Obj) (f : Nat → Int) : ((w.drew.alloc o).alloc (.cells (arr f) 28)).there (w.heap.size + 1) 0 128 := there_new1 w.drew o f
theorem there_below {w w' : World} (hb : Below w.heap.size w w') (g n : Nat) (h : w.there g 0 n) : w'.there g 0 n := fun j hj => by
  obtain ⟨h1, h2⟩ := h j hj
  obtain ⟨u, hu⟩ := Option.isSome_iff_exists.1 h1
  have hlt := World.block_lt_of_cell? w _ hu
  rw [hb.cell hlt, hb.frozen hlt]; exact ⟨h1, h2⟩
theorem none_setCell (w : World) (b o : Nat) (v : Value) (h : w.cell? ⟨b, o, none⟩ = none) : (w.setCell ⟨b, o, none⟩ v).cell? ⟨b, o, none⟩ = none := by
  simp only [World.cell?, World.setCell, Array.getElem?_modify] at h ⊢
  rcases hb : w.heap[b]? with _ | ob
  · simp [hb]
  · rw [hb] at h
    cases ob <;> simp_all
theorem none_setCells (b : Nat) : ∀ (vs : List Value) (o : Nat) (w : World) (x : Addr), w.cell? x = none → (w.setCells b o vs).cell? x = none
  | [], _, _, _, h => h
  | v :: r, o, w, x, h => by
    rw [World.setCells]
    refine none_setCells b r (o + 1) _ x ?_
    by_cases e : (⟨b, o, none⟩ : Addr) = x
    · subst e; exact none_setCell w b o v h
    · rw [World.cell?_setCell_other _ _ _ _ e, h]
theorem kept1 {V w' : World} {f : Nat → Int} {B : Nat} (hb : Below B (V.alloc (.cells (arr f) 28)) w') (hB : B = (V.alloc (.cells (arr f) 28)).heap.size) : w'.there V.heap.size 0 128 := by
  subst hB; exact there_below hb _ _ (there_new V f)
theorem kept1d {V w' : World} {f : Nat → Int} {B : Nat} (hb : Below B (V.drew.alloc (.cells (arr f) 28)) w') (hB : B = (V.drew.alloc (.cells (arr f) 28)).heap.size) : w'.there V.heap.size 0 128 := by
  subst hB; exact there_below hb _ _ (there_newd V f)
theorem kept2 {V w' : World} {f g : Nat → Int} {B : Nat} (hb : Below B ((V.alloc (.cells (arr f) 28)).alloc (.cells (arr g) 28)) w') (hB : B = ((V.alloc (.cells (arr f) 28)).alloc (.cells (arr g) 28)).heap.size) : w'.there V.heap.size 0 128 ∧ w'.there (V.heap.size + 1) 0 128 := by
  subst hB; exact ⟨there_below hb _ _ (World.there_alloc (there_new V f) _), there_below hb _ _ (there_new1 V _ g)⟩
theorem kept2d {V w' : World} {f g : Nat → Int} {B : Nat} (hb : Below B ((V.drew.alloc (.cells (arr f) 28)).alloc (.cells (arr g) 28)) w') (hB : B = ((V.drew.alloc (.cells (arr f) 28)).alloc (.cells (arr g) 28)).heap.size) : w'.there V.heap.size 0 128 ∧ w'.there (V.heap.size + 1) 0 128 := by
  subst hB; exact ⟨there_below hb _ _ (World.there_alloc (there_newd V f) _), there_below hb _ _ (there_newd1 V _ g)⟩
theorem there_setCells_eq (w : World) (g b n : Nat) (vs : List Value) : (w.setCells b 0 vs).there g 0 n = w.there g 0 n := by
  refine propext ⟨fun h j hj => ?_, fun h => World.there_setCells h _ _ _⟩
  obtain ⟨h1, h2⟩ := h j hj
  rw [World.frozen?_setCells] at h2
  refine ⟨?_, h2⟩
  rcases hc : w.cell? ⟨g, 0 + j, none⟩ with _ | v
  · rw [none_setCells b vs 0 w _ hc] at h1; exact h1
  · rfl
theorem setCells_other (b : Nat) : ∀ (vs : List Value) (o : Nat) (w : World) (k : Nat), k ≠ b → (w.setCells b o vs).heap[k]? = w.heap[k]?
  | [], _, _, _, _ => rfl
  | v :: r, o, w, k, h => by
    rw [World.setCells, setCells_other b r (o + 1) _ k h, heap_setCell_other w ⟨b, o, none⟩ k v h]
theorem setCells_size (b : Nat) : ∀ (vs : List Value) (o : Nat) (w : World), (w.setCells b o vs).heap.size = w.heap.size
  | [], _, _ => rfl
  | v :: r, o, w => by rw [World.setCells, setCells_size b r (o + 1)]; simp
theorem below_setCells {B : Nat} {a : World} (b : Nat) (hb : B ≤ b) : ∀ (vs : List Value) (o : Nat) (w : World), Below B a w → Below B a (w.setCells b o vs)
  | [], _, _, h => h
  | v :: r, o, w, h => by rw [World.setCells]; exact below_setCells b hb r (o + 1) _ (h.setCell hb _)
/-- Cells of a block are those of f from place o on. -/
theorem setCells_arr (b : Nat) (f : Nat → Int) : ∀ (vs : List Value) (o : Nat) (w : World) (g : Nat → Int), (∀ (j : Nat) (v : Value), vs[j]? = some v → v = Value.int .i64 (f (o + j))) → IsArr w b g →
    IsArr (w.setCells b o vs) b (fun j => if o ≤ j ∧ j < o + vs.length then f j else g j)
  | [], o, w, g, _, h => h.congr fun j _ => by rw [if_neg (by simp)]
  | v :: r, o, w, g, hv, h => by
    have e : v = .int .i64 (f o) := by simpa using hv 0 v rfl
    subst e
    rw [World.setCells]
    have ih := setCells_arr b f r (o + 1) _ _ (fun j u hu => by have := hv (j + 1) u (by simpa using hu); rw [this, show o + (j + 1) = o + 1 + j by omega]) (h.set o (f o))
    refine ih.congr fun j _ => ?_
    simp only [List.length_cons]
    by_cases h1 : o + 1 ≤ j ∧ j < o + 1 + r.length
    · rw [if_pos h1, if_pos (by omega)]
    · rw [if_neg h1]
      by_cases h2 : j = o
      · subst h2; rw [if_pos rfl, if_pos (by omega)]
      · rw [if_neg h2, if_neg (by omega)]
theorem arr_of_there {w : World} {b : Nat} {g : Nat → Int} (h : IsArr w b g) (f : Nat → Int) : IsArr (w.setCells b 0 (cellsL f)) b f := by
  have := setCells_arr b f (cellsL f) 0 w g (fun j v hv => by
    have hj : j < 128 := by rw [← cellsL_len f]; exact (List.getElem?_eq_some_iff.1 hv).1
    rw [cellsL_get hj] at hv; simpa using hv.symm) h
  refine this.congr fun j hj => ?_
  rw [if_pos (by rw [cellsL_len]; omega)]
theorem IsArr.setCellsOther {w : World} {b c : Nat} {f : Nat → Int} (h : IsArr w b f) (hne : b ≠ c) (o : Nat) (vs : List Value) : IsArr (w.setCells c o vs) b f := by
  unfold IsArr; rw [setCells_other c vs o w b hne]; exact h
theorem lbits_list (v : Int) (w : World) :
    Calls Try.prog 15 #[.agg #[.int .i64 (hiW v), .int .u64 (loW v)]] w fun e w' => e = .returned (.agg (cellsL (bitZ v)).toArray) ∧ Below w.heap.size w w' := by
  rw [cellsL_arr]; exact lbits_any v w
theorem keepA {w0 w : World} {A B : Nat} {p q p' q' : Addr} {u v u' v' : Value} (h : w.cell? p = some u ∧ w.cell? q = some v ∧ w.cell? p' = some u' ∧ w.cell? q' = some v' ∧ B < w.heap.size ∧ Below A w0 w) (o : Obj) (hA : A ≤ B) (hp : p.block ≤ B) (hq : q.block ≤ B) (hp' : p'.block ≤ B) (hq' : q'.block ≤ B) :
    (w.alloc o).cell? p = some u ∧ (w.alloc o).cell? q = some v ∧ (w.alloc o).cell? p' = some u' ∧ (w.alloc o).cell? q' = some v' ∧ B < (w.alloc o).heap.size ∧ Below A w0 (w.alloc o) :=
  keep4 h ((Below.refl _ _).alloc (Nat.le_refl _) _) hA hp hq hp' hq'
theorem keepS {w0 w : World} {A B : Nat} {p q p' q' : Addr} {u v u' v' : Value} (h : w.cell? p = some u ∧ w.cell? q = some v ∧ w.cell? p' = some u' ∧ w.cell? q' = some v' ∧ B < w.heap.size ∧ Below A w0 w) (b : Nat) (cs : List Value) (hb : B < b) (hA : A ≤ B) (hp : p.block ≤ B) (hq : q.block ≤ B) (hp' : p'.block ≤ B) (hq' : q'.block ≤ B) :
    (w.setCells b 0 cs).cell? p = some u ∧ (w.setCells b 0 cs).cell? q = some v ∧ (w.setCells b 0 cs).cell? p' = some u' ∧ (w.setCells b 0 cs).cell? q' = some v' ∧ B < (w.setCells b 0 cs).heap.size ∧ Below A w0 (w.setCells b 0 cs) := by
  have k : ∀ x : Addr, x.block ≤ B → (w.setCells b 0 cs).cell? x = w.cell? x := fun x hx => World.cell?_of_block (setCells_other b cs 0 w x.block (by omega))
  obtain ⟨h1, h2, h3, h4, h5, h6⟩ := h
  exact ⟨(k p hp).trans h1, (k q hq).trans h2, (k p' hp').trans h3, (k q' hq').trans h4, by rw [setCells_size]; exact h5, below_setCells b (by omega) cs 0 w h6⟩
end Go.Proofs.Ythgkfgjdlpjnmaa

/- Arguments that hold keys: a key, a pair of keys by value; slices of records whose cells are numbers. -/
import Derived.Test.YtnmnjoleebhhiaaGreatDoorLall
import Derived.Test.YtnmnjoleebhhiaaGreatDoorVf
import Derived.Deep.Slices
namespace Go.Proofs.YtnmnjoleebhhiaaGreatDoor
open Go.ChangeShapes Go.WideShapes Go.ChangeAt Go.RowKit Go.Joins
set_option linter.unusedVariables false
set_option linter.unusedSimpArgs false
section
variable {H : Type} {enc : TypeId × Value → H}
theorem okWide_array' {P : Program} {w : World} {r : Reach} {base n : Nat} {t e : TypeId} {v : Value} (ht : P.underlying t = some (.array n e)) (h : Value.okWide P w r base t v) : ∃ cs, v = .agg cs ∧ cs.size = P.cellsOf t := by
  simp only [Value.okWide, ht] at h
  obtain ⟨cs, h1, h2, _⟩ := h
  exact ⟨cs, h1, h2⟩
set_option maxRecDepth 100000 in
theorem key_cells {W : World} {base fuel : Nat} {sp : Nat → Bool} {held : Bool} {cs : List Value} {x : DataW H × List MemPlace} (h : DataW.trod enc Tryz.prog W base sp held fuel 31 cs = some x) : ∃ k : Kt, cs = kc k := by
  have c1 : Tryz.prog.cellsOf 31 = 3 := by kernel_rfl
  have c2 : Tryz.prog.cellsOf 28 = 1 := by kernel_rfl
  have c3 : Tryz.prog.cellsOf 29 = 1 := by kernel_rfl
  obtain ⟨xs, n, _, _, hl, hxl, hf⟩ := DataW.trod_struct Tryz.underlying31 h
  rw [c1] at hl
  match cs, hl with
  | [v0, v1, v2], _ =>
    match xs, hxl with
    | [y0, y1, y2], _ =>
      have h0 := hf 0 _ rfl
      have h1 := hf 1 _ rfl
      have h2 := hf 2 _ rfl
      simp [c2, c3] at h0 h1 h2
      obtain ⟨a, ea, _, wa⟩ := DataW.trod_int Tryz.underlying28 h0
      obtain ⟨b, eb, _, wb⟩ := DataW.trod_int Tryz.underlying29 h1
      obtain ⟨c, ec, _, wc⟩ := DataW.trod_int Tryz.underlying29 h2
      cases ea
      cases eb
      cases ec
      have ba : 0 ≤ a ∧ a < 4294967296 := by simp [Lit.wf, IntKind.min, IntKind.max, IntKind.bits, IntKind.signed] at wa; omega
      have bb : 0 ≤ b ∧ b < 65536 := by simp [Lit.wf, IntKind.min, IntKind.max, IntKind.bits, IntKind.signed] at wb; omega
      have bc : 0 ≤ c ∧ c < 65536 := by simp [Lit.wf, IntKind.min, IntKind.max, IntKind.bits, IntKind.signed] at wc; omega
      refine ⟨⟨a.toNat, b.toNat, c.toNat, by omega, by omega, by omega⟩, ?_⟩
      unfold kc
      simp only [Int.toNat_of_nonneg ba.1, Int.toNat_of_nonneg bb.1, Int.toNat_of_nonneg bc.1]
set_option maxRecDepth 100000 in
theorem pair_cells {W : World} {base fuel : Nat} {sp : Nat → Bool} {held : Bool} {cs : List Value} {x : DataW H × List MemPlace} (h : DataW.trod enc Tryz.prog W base sp held fuel 47 cs = some x) : ∃ k : Kt × Kt, cs = pc k := by
  have c1 : Tryz.prog.cellsOf 31 = 3 := by kernel_rfl
  have c2 : Tryz.prog.cellsOf 47 = 6 := by kernel_rfl
  obtain ⟨xs, n, _, _, hl, hxl, hf⟩ := DataW.trod_array Tryz.underlying47 h
  rw [c2] at hl
  match cs, hl with
  | [v0, v1, v2, v3, v4, v5], _ =>
    match xs, hxl with
    | [y0, y1], _ =>
      have h0 := hf 0 (by omega)
      have h1 := hf 1 (by omega)
      simp [c1] at h0 h1
      obtain ⟨k, ek⟩ := key_cells h0
      obtain ⟨l, el⟩ := key_cells h1
      unfold kc at ek el
      cases ek
      cases el
      exact ⟨(k, l), rfl⟩
set_option maxRecDepth 100000 in
theorem key_open {W : World} {r : Reach} {b0 base : Nat} {sp : Nat → Bool} {held : Bool} {v : Value} {d : DataW H} {p : List MemPlace} (hv : Value.okWide Tryz.prog W r b0 31 v) (h : DataW.Trod enc Tryz.prog W base sp held 31 v d p) : ∃ k : Kt, v = kv k := by
  obtain ⟨cs, rfl, _⟩ := okWide_struct Tryz.underlying31 hv
  obtain ⟨fuel, hf⟩ := h
  obtain ⟨k, hk⟩ := key_cells hf
  refine ⟨k, ?_⟩
  have : cs.toList = kc k := hk
  unfold kv
  congr 1
  apply Array.ext'
  rw [this]; rfl
set_option maxRecDepth 100000 in
theorem pair_open {W : World} {r : Reach} {b0 base : Nat} {sp : Nat → Bool} {held : Bool} {v : Value} {d : DataW H} {p : List MemPlace} (hv : Value.okWide Tryz.prog W r b0 47 v) (h : DataW.Trod enc Tryz.prog W base sp held 47 v d p) : ∃ k : Kt × Kt, v = pv k := by
  obtain ⟨cs, rfl, _⟩ := okWide_array' Tryz.underlying47 hv
  obtain ⟨fuel, hf⟩ := h
  obtain ⟨k, hk⟩ := pair_cells hf
  refine ⟨k, ?_⟩
  have : cs.toList = pc k := hk
  unfold pv
  congr 1
  apply Array.ext'
  rw [this]; rfl
/-- A slice of records that came in. -/
theorem recs_open {P : Program} {α : Type} {en : α → List Value} {k : Nat} {t e : TypeId} (hk : ∀ x, (en x).length = k) (hk0 : 0 < k) (ht : P.underlying t = some (.slice e)) (hC : P.cellsOf e = k) {W : World} {r : Reach} {base b : Nat} {held : Bool} {v : Value} {d : DataW H} {p : List MemPlace}
    (hv : Value.okWide P W r base t v) (h : DataW.Trod enc P W b (fun _ => true) held t v d p) (hrd : ∀ {fuel : Nat} {cs : List Value} {x : DataW H × List MemPlace}, DataW.trod enc P W b (fun _ => true) held fuel e cs = some x → ∃ z : α, cs = en z) : ∃ zs : List α, Recs en k W v zs := by
  obtain ⟨a0, len, cap, rfl⟩ := okWide_slice ht hv
  obtain ⟨fuel, hf⟩ := h
  rcases Go.Deep.open_slice ht hf with ⟨hcs, hx⟩ | ⟨a, len', cap', m, n, D, Pl, hcs, _, hl, hm, hmm, hx, hi⟩
  · simp [Value.cells] at hcs
    obtain ⟨rfl, rfl, rfl⟩ := hcs
    exact ⟨[], .inl ⟨_, _, rfl, rfl⟩⟩
  · simp [Value.cells] at hcs
    obtain ⟨rfl, rfl, rfl⟩ := hcs
    simp only [if_true] at hmm
    subst hmm
    by_cases h0 : len = 0
    · subst h0
      exact ⟨[], .inl ⟨_, _, rfl, rfl⟩⟩
    · have hall : ∀ i : Fin len, ∃ z : α, ∀ j u, (en z)[j]? = some u → W.cell? (a.add (i.val * k + j)) = some u := by
        intro i
        obtain ⟨cs', hc, ht'⟩ := hi i.val (by have := i.isLt; omega)
        obtain ⟨z, rfl⟩ := hrd ht'
        rw [hC] at hc
        obtain ⟨_, hcl, hat⟩ := World.cells?_some hc
        refine ⟨z, fun j u hu => ?_⟩
        have hj : j < k := by have := (List.getElem?_eq_some_iff.1 hu).1; rwa [hk] at this
        rw [← Go.Deep.add_add, hat j hj, hu]
      obtain ⟨f, hfz⟩ := Classical.axiomOfChoice hall
      have hc0 : ∃ u, W.cell? a = some u := by
        have hlen : 0 < (en (f ⟨0, by omega⟩)).length := by rw [hk]; exact hk0
        have := hfz ⟨0, by omega⟩ 0 _ (List.getElem?_eq_getElem hlen)
        have e0 : a.add (0 * k + 0) = a := by unfold Addr.add; simp
        rw [e0] at this
        exact ⟨_, this⟩
      obtain ⟨u0, hu0⟩ := hc0
      have hs := spot_none hu0
      have hab := World.block_lt_of_cell? W _ hu0
      obtain ⟨ab, ao, sp⟩ := a
      cases hs
      refine ⟨List.ofFn f, .inr ⟨ab, ao, m, by rw [List.length_ofFn], hab, by rw [List.length_ofFn]; unfold maxLen at hm; omega, by rw [List.length_ofFn]; exact hl, fun i x hx j u hu => ?_⟩⟩
      have hil : i < len := by have := (List.getElem?_eq_some_iff.1 hx).1; simpa using this
      have hx' : x = f ⟨i, hil⟩ := by
        rw [List.getElem?_eq_getElem (by simpa using hil)] at hx
        simpa using hx.symm
      subst hx'
      have := hfz ⟨i, hil⟩ j u hu
      have e1 : (⟨ab, ao, none⟩ : Addr).add (i * k + j) = ⟨ab, ao + i * k + j, none⟩ := by
        unfold Addr.add
        split
        · rename_i h; simp [h, Nat.add_assoc]
        · simp [Nat.add_assoc]
      rw [e1] at this
      exact this
end
end Go.Proofs.YtnmnjoleebhhiaaGreatDoor

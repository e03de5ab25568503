/- Arguments: a slice of records, by the cells it was read from. -/
import Derived.Test.YtffhnedladiaoaaGreatDoorZGxy
import Derived.Test.YtffhnedladiaoaaGreatDoorZLall
import Derived.Test.YtffhnedladiaoaaGreatDoorZMtx
namespace Go.Proofs.YtffhnedladiaoaaGreatDoor
open Go.ChangeShapes Go.WideShapes Go.ChangeAt Go.RowKit Go.Joins
set_option linter.unusedVariables false
set_option linter.unusedSimpArgs false
section
variable {H : Type} {enc : TypeId × Value → H}
/-- A slice of records, by the cells it was read from; what holds of each of them. -/
theorem recs_trod {P : Program} {α : Type} {en : α → List Value} {k : Nat} {t e : TypeId} {Q : α → Prop} (hk : ∀ x, (en x).length = k) (hk0 : 0 < k) (ht : P.underlying t = some (.slice e)) (hC : P.cellsOf e = k) {W : World} {b fuel : Nat} {held : Bool} {cs : List Value} {x : DataW H × List MemPlace}
    (h : DataW.trod enc P W b (fun _ => true) held fuel t cs = some x) (hrd : ∀ {fuel : Nat} {cs : List Value} {x : DataW H × List MemPlace}, DataW.trod enc P W b (fun _ => true) held fuel e cs = some x → ∃ z : α, cs = en z ∧ Q z) : ∃ (v : Value) (zs : List α), cs = [v] ∧ Recs en k W v zs ∧ ∀ z ∈ zs, Q z := by
  rcases Go.Deep.open_slice ht h with ⟨hcs, hx⟩ | ⟨a, len, cap, m, n, D, Pl, hcs, _, hl, hm, hmm, hx, hi⟩
  · exact ⟨_, [], hcs, .inl ⟨_, _, rfl, rfl⟩, fun z hz => by cases hz⟩
  · simp only [if_true] at hmm
    subst hmm
    by_cases h0 : len = 0
    · subst h0
      exact ⟨_, [], hcs, .inl ⟨_, _, rfl, rfl⟩, fun z hz => by cases hz⟩
    · have hall : ∀ i : Fin len, ∃ z : α, (∀ j u, (en z)[j]? = some u → W.cell? (a.add (i.val * k + j)) = some u) ∧ Q z := by
        intro i
        obtain ⟨cs', hc, ht'⟩ := hi i.val (by have := i.isLt; omega)
        obtain ⟨z, rfl, hq⟩ := hrd ht'
        rw [hC] at hc
        obtain ⟨_, hcl, hat⟩ := World.cells?_some hc
        refine ⟨z, fun j u hu => ?_, hq⟩
        have hj : j < k := by have := (List.getElem?_eq_some_iff.1 hu).1; rwa [hk] at this
        rw [← Go.Deep.add_add, hat j hj, hu]
      obtain ⟨f, hfz⟩ := Classical.axiomOfChoice hall
      have hc0 : ∃ u, W.cell? a = some u := by
        have hlen : 0 < (en (f ⟨0, by omega⟩)).length := by rw [hk]; exact hk0
        have := (hfz ⟨0, by omega⟩).1 0 _ (List.getElem?_eq_getElem hlen)
        have e0 : a.add (0 * k + 0) = a := by unfold Addr.add; simp
        rw [e0] at this
        exact ⟨_, this⟩
      obtain ⟨u0, hu0⟩ := hc0
      have hs := spot_none hu0
      have hab := World.block_lt_of_cell? W _ hu0
      obtain ⟨ab, ao, sp⟩ := a
      cases hs
      have hofn : (⟨ab, ao, none⟩ : Addr) = ⟨ab, ao, none⟩ := rfl
      refine ⟨.slice (some ⟨ab, ao, none⟩) (List.ofFn f).length m, List.ofFn f, by rw [hcs, List.length_ofFn], .inr ⟨ab, ao, m, rfl, hab, by rw [List.length_ofFn]; unfold maxLen at hm; omega, by rw [List.length_ofFn]; exact hl, fun i x hx j u hu => ?_⟩, fun z hz => ?_⟩
      · have hil : i < len := by have := (List.getElem?_eq_some_iff.1 hx).1; simpa using this
        have hx' : x = f ⟨i, hil⟩ := by
          rw [List.getElem?_eq_getElem (by simpa using hil)] at hx
          simpa using hx.symm
        subst hx'
        have := (hfz ⟨i, hil⟩).1 j u hu
        have e1 : (⟨ab, ao, none⟩ : Addr).add (i * k + j) = ⟨ab, ao + i * k + j, none⟩ := by
          unfold Addr.add
          split
          · rename_i h; simp [h, Nat.add_assoc]
          · simp [Nat.add_assoc]
        rw [e1] at this
        exact this
      · obtain ⟨i, rfl⟩ := List.mem_ofFn.1 hz
        exact (hfz i).2
end
end Go.Proofs.YtffhnedladiaoaaGreatDoor
/- Arguments of law 13: slices of ops by small numbers. -/
namespace Go.Proofs.YtffhnedladiaoaaGreatDoor
open Go.ChangeShapes Go.WideShapes Go.ChangeAt Go.RowKit Go.Joins
set_option linter.unusedVariables false
set_option linter.unusedSimpArgs false
theorem u32_natO {a : Int} (h : (Lit.int .u32 a).wf = true) : ∃ n : Nat, a = (n : Int) ∧ n < 4294967296 := by
  have b : 0 ≤ a ∧ a < 4294967296 := by simp [Lit.wf, IntKind.min, IntKind.max, IntKind.bits, IntKind.signed] at h; omega
  exact ⟨a.toNat, by omega, by omega⟩
theorem i16_inO {a : Int} (h : (Lit.int .i16 a).wf = true) : -32768 ≤ a ∧ a ≤ 32767 := by
  simp [Lit.wf, IntKind.min, IntKind.max, IntKind.bits, IntKind.signed] at h; omega
section
variable {H : Type} {enc : TypeId × Value → H}
set_option maxRecDepth 100000 in
theorem ps_cells {W : World} {base fuel : Nat} {sp : Nat → Bool} {held : Bool} {cs : List Value} {x : DataW H × List MemPlace} (h : DataW.trod enc Tryz.prog W base sp held fuel 62 cs = some x) : ∃ q : Nat × Nat, cs = psc q ∧ q.1 < 256 ∧ q.2 < 4294967296 := by
  have c1 : Tryz.prog.cellsOf 62 = 2 := by kernel_rfl
  have c2 : Tryz.prog.cellsOf 5 = 1 := by kernel_rfl
  have c4 : Tryz.prog.cellsOf 31 = 1 := by kernel_rfl
  obtain ⟨xs, n, _, _, hl, hxl, hf⟩ := DataW.trod_struct Tryz.underlying62 h
  rw [c1] at hl
  match cs, hl with
  | [v0, v1], _ =>
    match xs, hxl with
    | [y0, y1], _ =>
      have h0 := hf 0 _ rfl
      have h1 := hf 1 _ rfl
      simp [c2, c4] at h0 h1
      obtain ⟨a, ea, _, wa⟩ := DataW.trod_int Tryz.underlying5 h0
      obtain ⟨b, eb, _, wb⟩ := DataW.trod_int Tryz.underlying31 h1
      cases ea
      cases eb
      obtain ⟨a, rfl, ba⟩ := u8_nat' wa
      obtain ⟨b, rfl, bb⟩ := u32_natO wb
      exact ⟨(a, b), rfl, ba, bb⟩
set_option maxRecDepth 100000 in
theorem on_cells {W : World} {base fuel : Nat} {held : Bool} {cs : List Value} {x : DataW H × List MemPlace} (h : DataW.trod enc Tryz.prog W base (fun _ => true) held fuel 29 cs = some x) : ∃ q : Oi, cs = onc q ∧ OnM W q := by
  have c1 : Tryz.prog.cellsOf 29 = 7 := by kernel_rfl
  have c2 : Tryz.prog.cellsOf 5 = 1 := by kernel_rfl
  have c3 : Tryz.prog.cellsOf 25 = 1 := by kernel_rfl
  have c4 : Tryz.prog.cellsOf 26 = 1 := by kernel_rfl
  have c5 : Tryz.prog.cellsOf 27 = 1 := by kernel_rfl
  obtain ⟨xs, n, _, _, hl, hxl, hf⟩ := DataW.trod_struct Tryz.underlying29 h
  rw [c1] at hl
  match cs, hl with
  | [v0, v1, v2, v3, v4, v5, v6], _ =>
    match xs, hxl with
    | [y0, y1, y2, y3, y4, y5, y6], _ =>
      have h0 := hf 0 _ rfl
      have h1 := hf 1 _ rfl
      have h2 := hf 2 _ rfl
      have h3 := hf 3 _ rfl
      have h4 := hf 4 _ rfl
      have h5 := hf 5 _ rfl
      have h6 := hf 6 _ rfl
      simp [c2, c3, c4, c5] at h0 h1 h2 h3 h4 h5 h6
      obtain ⟨a, ea, _, wa⟩ := DataW.trod_int Tryz.underlying5 h0
      obtain ⟨b, eb, _, wb⟩ := DataW.trod_int Tryz.underlying5 h1
      obtain ⟨c, ec, _, wc⟩ := DataW.trod_int Tryz.underlying5 h2
      obtain ⟨d, ed, _, wd⟩ := DataW.trod_int Tryz.underlying5 h3
      obtain ⟨vp, zp, ep, hP, qp⟩ := recs_trod (Q := fun q : Nat × Nat => q.1 < 256 ∧ q.2 < 4294967296) psc_len (by omega) Tryz.underlying25 (by kernel_rfl) h4 (fun {fuel cs x} hc => ps_cells hc)
      obtain ⟨f, ef, _, wf⟩ := DataW.trod_int Tryz.underlying26 h5
      obtain ⟨vl, zl, el, hL, _⟩ := recs_trod (Q := fun _ => True) u8c_len (by omega) Tryz.underlying27 (by kernel_rfl) h6 (fun {fuel cs x} hc => by
        obtain ⟨n, e, _, wn⟩ := DataW.trod_int Tryz.underlying5 hc
        obtain ⟨m, rfl, _⟩ := u8_nat' wn
        exact ⟨m, e, trivial⟩)
      cases ea
      cases eb
      cases ec
      cases ed
      cases ep
      cases ef
      cases el
      obtain ⟨a, rfl, ba⟩ := u8_nat' wa
      obtain ⟨b, rfl, bb⟩ := u8_nat' wb
      obtain ⟨c, rfl, bc⟩ := u8_nat' wc
      obtain ⟨d, rfl, bd⟩ := u8_nat' wd
      exact ⟨⟨⟨a, b, c, d, zp, f, zl⟩, v4, v6⟩, rfl, ⟨hP, hL, ⟨ba, bb, bc, bd, qp, i16_inO wf⟩⟩⟩
set_option maxRecDepth 100000 in
theorem os_open {W : World} {r : Reach} {base b : Nat} {held : Bool} {v : Value} {d : DataW H} {p : List MemPlace} (hv : Value.okWide Tryz.prog W r base 22 v) (h : DataW.Trod enc Tryz.prog W b (fun _ => true) held 22 v d p) : ∃ qs : List Oi, SRow W v qs := by
  obtain ⟨zs, hz⟩ := recs_open (α := { q : Oi // OnM W q }) (en := fun z => onc z.1) (k := 7) (fun _ => rfl) (by omega) Tryz.underlying22 (by kernel_rfl) hv h (fun {fuel cs x} hc => by
    obtain ⟨q, e, hq⟩ := on_cells hc
    exact ⟨⟨q, hq⟩, e⟩)
  refine ⟨zs.map Subtype.val, Recs.mapped (f := Subtype.val) (en := onc) hz, fun x hx => ?_⟩
  obtain ⟨z, _, rfl⟩ := List.mem_map.1 hx
  exact z.2
end
end Go.Proofs.YtffhnedladiaoaaGreatDoor

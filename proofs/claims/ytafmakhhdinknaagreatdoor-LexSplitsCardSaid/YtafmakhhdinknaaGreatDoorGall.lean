/- Arguments of law 7: slices of numbers of 16 bits. -/
import Derived.Test.YtafmakhhdinknaaGreatDoorNall
import Derived.Test.YtafmakhhdinknaaGreatDoorBb
import Derived.Deep.Slices
import Derived.Test.YtafmakhhdinknaaGreatDoorJall
import Derived.Test.YtafmakhhdinknaaGreatDoorIall
import Derived.Test.YtafmakhhdinknaaGreatDoorChecked
import Derived.Test.YtafmakhhdinknaaGreatDoorLh
import Derived.Test.YtafmakhhdinknaaGreatDoorLawb
namespace Go.Proofs.YtafmakhhdinknaaGreatDoor
open Go.ChangeShapes Go.WideShapes Go.ChangeAt Go.RowKit Go.Joins
set_option linter.unusedVariables false
set_option linter.unusedSimpArgs false
theorem u16_nat {a : Int} (h : (Lit.int .u16 a).wf = true) : ∃ n : Nat, a = (n : Int) ∧ n < 65536 := by
  have b : 0 ≤ a ∧ a < 65536 := by simp [Lit.wf, IntKind.min, IntKind.max, IntKind.bits, IntKind.signed] at h; omega
  exact ⟨a.toNat, by omega, by omega⟩
theorem u8_nat' {a : Int} (h : (Lit.int .u8 a).wf = true) : ∃ n : Nat, a = (n : Int) ∧ n < 256 := by
  have b : 0 ≤ a ∧ a < 256 := by simp [Lit.wf, IntKind.min, IntKind.max, IntKind.bits, IntKind.signed] at h; omega
  exact ⟨a.toNat, by omega, by omega⟩
theorem Recs.mapped {α β : Type} {f : α → β} {en : β → List Value} {k : Nat} {w : World} {v : Value} {zs : List α} (h : Recs (fun z => en (f z)) k w v zs) : Recs en k w v (zs.map f) := by
  rcases h with ⟨r, cap, h1, rfl⟩ | ⟨g, off, cap, h1, h2, h3, h4, h5⟩
  · exact .inl ⟨r, cap, h1, rfl⟩
  · refine .inr ⟨g, off, cap, by rw [List.length_map]; exact h1, h2, by rw [List.length_map]; exact h3, by rw [List.length_map]; exact h4, fun i x hx j u hu => ?_⟩
    rw [List.getElem?_map] at hx
    cases hz : zs[i]? with
    | none => rw [hz] at hx; cases hx
    | some z =>
      rw [hz] at hx
      cases hx
      exact h5 i z hz j u hu
section
variable {H : Type} {enc : TypeId × Value → H} {P : Program}
/-- A slice of plain integers that came in, of whatever kind. -/
theorem small_open {k : IntKind} {t e : TypeId} {p : Int → Prop} (ht : P.underlying t = some (.slice e)) (he : P.underlying e = some (.int k)) (hC : P.cellsOf e = 1) (hp : ∀ a, (Lit.int k a).wf = true → p a) {W : World} {r : Reach} {base b : Nat} {held : Bool} {v : Value} {d : DataW H} {pl : List MemPlace}
    (hv : Value.okWide P W r base t v) (h : DataW.Trod enc P W b (fun _ => true) held t v d pl) : ∃ zs : List Int, Recs (fun z : Int => [.int k z]) 1 W v zs ∧ ∀ x ∈ zs, p x := by
  obtain ⟨zs, hz⟩ := recs_open (α := { z : Int // p z }) (en := fun z => [.int k z.1]) (fun _ => rfl) Nat.one_pos ht hC hv h (fun {fuel cs x} hc => by
    obtain ⟨a, ea, _, wa⟩ := DataW.trod_int he hc
    exact ⟨⟨a, hp a wa⟩, ea⟩)
  refine ⟨zs.map Subtype.val, Recs.mapped (f := Subtype.val) (en := fun z : Int => [.int k z]) hz, fun x hx => ?_⟩
  obtain ⟨z, _, rfl⟩ := List.mem_map.1 hx
  exact z.2
/-- The same, of numbers that are not below nought. -/
theorem nat_open {k : IntKind} {t e : TypeId} {m : Nat} (ht : P.underlying t = some (.slice e)) (he : P.underlying e = some (.int k)) (hC : P.cellsOf e = 1) (hp : ∀ a, (Lit.int k a).wf = true → ∃ n : Nat, a = (n : Int) ∧ n < m) {W : World} {r : Reach} {base b : Nat} {held : Bool} {v : Value} {d : DataW H} {pl : List MemPlace}
    (hv : Value.okWide P W r base t v) (h : DataW.Trod enc P W b (fun _ => true) held t v d pl) : ∃ zs : List Nat, Recs (fun z : Nat => [.int k (z : Int)]) 1 W v zs ∧ ∀ x ∈ zs, x < m := by
  obtain ⟨zs, hz⟩ := recs_open (α := { z : Nat // z < m }) (en := fun z => [.int k (z.1 : Int)]) (fun _ => rfl) Nat.one_pos ht hC hv h (fun {fuel cs x} hc => by
    obtain ⟨a, ea, _, wa⟩ := DataW.trod_int he hc
    obtain ⟨n, rfl, hn⟩ := hp a wa
    exact ⟨⟨n, hn⟩, ea⟩)
  refine ⟨zs.map Subtype.val, Recs.mapped (f := Subtype.val) (en := fun z : Nat => [.int k (z : Int)]) hz, fun x hx => ?_⟩
  obtain ⟨z, _, rfl⟩ := List.mem_map.1 hx
  exact z.2
theorem u16s_open {t e : TypeId} (ht : P.underlying t = some (.slice e)) (he : P.underlying e = some (.int .u16)) (hC : P.cellsOf e = 1) {W : World} {r : Reach} {base b : Nat} {held : Bool} {v : Value} {d : DataW H} {pl : List MemPlace}
    (hv : Value.okWide P W r base t v) (h : DataW.Trod enc P W b (fun _ => true) held t v d pl) : ∃ zs : List Nat, Recs uc 1 W v zs ∧ ∀ x ∈ zs, x < 65536 :=
  nat_open ht he hC (fun _ h => u16_nat h) hv h
end
end Go.Proofs.YtafmakhhdinknaaGreatDoor
/- Arguments of law 8: slices of small numbers, slices of days. -/
namespace Go.Proofs.YtafmakhhdinknaaGreatDoor
open Go.ChangeShapes Go.WideShapes Go.ChangeAt Go.RowKit Go.Joins
set_option linter.unusedVariables false
set_option linter.unusedSimpArgs false
theorem i16_in {a : Int} (h : (Lit.int .i16 a).wf = true) : -32768 ≤ a ∧ a ≤ 32767 := by
  simp [Lit.wf, IntKind.min, IntKind.max, IntKind.bits, IntKind.signed] at h; omega
theorem i32_in {a : Int} (h : (Lit.int .i32 a).wf = true) : I32 a := by
  unfold I32
  simp [Lit.wf, IntKind.min, IntKind.max, IntKind.bits, IntKind.signed] at h; omega
theorem i64_in {a : Int} (h : (Lit.int .i64 a).wf = true) : -9223372036854775808 ≤ a ∧ a ≤ 9223372036854775807 := by
  simp [Lit.wf, IntKind.min, IntKind.max, IntKind.bits, IntKind.signed] at h; omega
section
variable {H : Type} {enc : TypeId × Value → H} {P : Program}
theorem u8s_open {t e : TypeId} (ht : P.underlying t = some (.slice e)) (he : P.underlying e = some (.int .u8)) (hC : P.cellsOf e = 1) {W : World} {r : Reach} {base b : Nat} {held : Bool} {v : Value} {d : DataW H} {pl : List MemPlace}
    (hv : Value.okWide P W r base t v) (h : DataW.Trod enc P W b (fun _ => true) held t v d pl) : ∃ zs : List Nat, Recs u8c 1 W v zs ∧ ∀ x ∈ zs, x < 256 :=
  nat_open ht he hC (fun _ h => u8_nat' h) hv h
theorem i32s_open {t e : TypeId} (ht : P.underlying t = some (.slice e)) (he : P.underlying e = some (.int .i32)) (hC : P.cellsOf e = 1) {W : World} {r : Reach} {base b : Nat} {held : Bool} {v : Value} {d : DataW H} {pl : List MemPlace}
    (hv : Value.okWide P W r base t v) (h : DataW.Trod enc P W b (fun _ => true) held t v d pl) : ∃ zs : List Int, Recs dcl 1 W v zs ∧ ∀ x ∈ zs, I32 x :=
  small_open ht he hC (fun _ h => i32_in h) hv h
end
end Go.Proofs.YtafmakhhdinknaaGreatDoor
/- Arguments of law 9: slices of lines. -/
namespace Go.Proofs.YtafmakhhdinknaaGreatDoor
open Go.ChangeShapes Go.WideShapes Go.ChangeAt Go.RowKit Go.Joins
set_option linter.unusedVariables false
set_option linter.unusedSimpArgs false
theorem u32_nat' {a : Int} (h : (Lit.int .u32 a).wf = true) : ∃ n : Nat, a = (n : Int) ∧ n < 4294967296 := by
  have b : 0 ≤ a ∧ a < 4294967296 := by simp [Lit.wf, IntKind.min, IntKind.max, IntKind.bits, IntKind.signed] at h; omega
  exact ⟨a.toNat, by omega, by omega⟩
section
variable {H : Type} {enc : TypeId × Value → H}
set_option maxRecDepth 100000 in
theorem ln_cells {W : World} {base fuel : Nat} {sp : Nat → Bool} {held : Bool} {cs : List Value} {x : DataW H × List MemPlace} (h : DataW.trod enc Tryz.prog W base sp held fuel 116 cs = some x) : ∃ q : Ln, cs = lc q := by
  have c1 : Tryz.prog.cellsOf 116 = 4 := by kernel_rfl
  have c2 : Tryz.prog.cellsOf 74 = 1 := by kernel_rfl
  have c3 : Tryz.prog.cellsOf 87 = 1 := by kernel_rfl
  have c4 : Tryz.prog.cellsOf 2 = 1 := by kernel_rfl
  obtain ⟨xs, n, _, _, hl, hxl, hf⟩ := DataW.trod_struct Tryz.underlying116 h
  rw [c1] at hl
  match cs, hl with
  | [v0, v1, v2, v3], _ =>
    match xs, hxl with
    | [y0, y1, y2, y3], _ =>
      have h0 := hf 0 _ rfl
      have h1 := hf 1 _ rfl
      have h2 := hf 2 _ rfl
      have h3 := hf 3 _ rfl
      simp [c2, c3, c4] at h0 h1 h2 h3
      obtain ⟨a, ea, _, wa⟩ := DataW.trod_int Tryz.underlying74 h0
      obtain ⟨b, eb, _, wb⟩ := DataW.trod_int Tryz.underlying87 h1
      obtain ⟨c, ec, _, wc⟩ := DataW.trod_int Tryz.underlying87 h2
      obtain ⟨d, ed, _, wd⟩ := DataW.trod_int Tryz.underlying2 h3
      cases ea
      cases eb
      cases ec
      cases ed
      obtain ⟨a, rfl, ba⟩ := u32_nat' wa
      obtain ⟨b, rfl, bb⟩ := u16_nat wb
      obtain ⟨c, rfl, bc⟩ := u16_nat wc
      exact ⟨⟨a, ⟨b, bb⟩, c, d, ba, bc, i64_in wd⟩, rfl⟩
set_option maxRecDepth 100000 in
theorem lines_open {W : World} {r : Reach} {b0 base : Nat} {held : Bool} {v : Value} {d : DataW H} {p : List MemPlace} (hv : Value.okWide Tryz.prog W r b0 92 v) (h : DataW.Trod enc Tryz.prog W base (fun _ => true) held 92 v d p) : ∃ zs : List Ln, Recs lc 4 W v zs :=
  recs_open lc_len (by omega) Tryz.underlying92 (by kernel_rfl) hv h ln_cells
end
end Go.Proofs.YtafmakhhdinknaaGreatDoor
/- Arguments of law 10: a book by small numbers (journals with their lines), a line, a small line. -/
namespace Go.Proofs.YtafmakhhdinknaaGreatDoor
open Go.ChangeShapes Go.WideShapes Go.ChangeAt Go.RowKit Go.Joins
set_option linter.unusedVariables false
set_option linter.unusedSimpArgs false
section
variable {H : Type} {enc : TypeId × Value → H}
/-- A slice of records, by the cells it was read from; what holds of each of them. -/
theorem recs_trod {P : Program} {α : Type} {en : α → List Value} {k : Nat} {t e : TypeId} {Q : α → Prop} (hk : ∀ x, (en x).length = k) (hk0 : 0 < k) (ht : P.underlying t = some (.slice e)) (hC : P.cellsOf e = k) {W : World} {b fuel : Nat} {held : Bool} {cs : List Value} {x : DataW H × List MemPlace}
    (h : DataW.trod enc P W b (fun _ => true) held fuel t cs = some x) (hrd : ∀ {fuel : Nat} {cs : List Value} {x : DataW H × List MemPlace}, DataW.trod enc P W b (fun _ => true) held fuel e cs = some x → ∃ z : α, cs = en z ∧ Q z) : ∃ (v : Value) (zs : List α), cs = [v] ∧ Recs en k W v zs ∧ ∀ z ∈ zs, Q z := by
  rcases Go.Deep.open_slice ht h with ⟨hcs, hx⟩ | ⟨a, len, cap, m, n, D, Pl, hcs, _, hl, hm, hmm, hx, hi⟩
  · exact ⟨_, [], hcs, .inl ⟨_, _, rfl, rfl⟩, fun z hz => by cases hz⟩
  · simp only [if_true] at hmm
    subst hmm
    by_cases h0 : len = 0
    · subst h0
      exact ⟨_, [], hcs, .inl ⟨_, _, rfl, rfl⟩, fun z hz => by cases hz⟩
    · have hall : ∀ i : Fin len, ∃ z : α, (∀ j u, (en z)[j]? = some u → W.cell? (a.add (i.val * k + j)) = some u) ∧ Q z := by
        intro i
        obtain ⟨cs', hc, ht'⟩ := hi i.val (by have := i.isLt; omega)
        obtain ⟨z, rfl, hq⟩ := hrd ht'
        rw [hC] at hc
        obtain ⟨_, hcl, hat⟩ := World.cells?_some hc
        refine ⟨z, fun j u hu => ?_, hq⟩
        have hj : j < k := by have := (List.getElem?_eq_some_iff.1 hu).1; rwa [hk] at this
        rw [← Go.Deep.add_add, hat j hj, hu]
      obtain ⟨f, hfz⟩ := Classical.axiomOfChoice hall
      have hc0 : ∃ u, W.cell? a = some u := by
        have hlen : 0 < (en (f ⟨0, by omega⟩)).length := by rw [hk]; exact hk0
        have := (hfz ⟨0, by omega⟩).1 0 _ (List.getElem?_eq_getElem hlen)
        have e0 : a.add (0 * k + 0) = a := by unfold Addr.add; simp
        rw [e0] at this
        exact ⟨_, this⟩
      obtain ⟨u0, hu0⟩ := hc0
      have hs := spot_none hu0
      have hab := World.block_lt_of_cell? W _ hu0
      obtain ⟨ab, ao, sp⟩ := a
      cases hs
      have hofn : (⟨ab, ao, none⟩ : Addr) = ⟨ab, ao, none⟩ := rfl
      refine ⟨.slice (some ⟨ab, ao, none⟩) (List.ofFn f).length m, List.ofFn f, by rw [hcs, List.length_ofFn], .inr ⟨ab, ao, m, rfl, hab, by rw [List.length_ofFn]; unfold maxLen at hm; omega, by rw [List.length_ofFn]; exact hl, fun i x hx j u hu => ?_⟩, fun z hz => ?_⟩
      · have hil : i < len := by have := (List.getElem?_eq_some_iff.1 hx).1; simpa using this
        have hx' : x = f ⟨i, hil⟩ := by
          rw [List.getElem?_eq_getElem (by simpa using hil)] at hx
          simpa using hx.symm
        subst hx'
        have := (hfz ⟨i, hil⟩).1 j u hu
        have e1 : (⟨ab, ao, none⟩ : Addr).add (i * k + j) = ⟨ab, ao + i * k + j, none⟩ := by
          unfold Addr.add
          split
          · rename_i h; simp [h, Nat.add_assoc]
          · simp [Nat.add_assoc]
        rw [e1] at this
        exact this
      · obtain ⟨i, rfl⟩ := List.mem_ofFn.1 hz
        exact (hfz i).2
set_option maxRecDepth 100000 in
theorem sm_cells {W : World} {base fuel : Nat} {sp : Nat → Bool} {held : Bool} {cs : List Value} {x : DataW H × List MemPlace} (h : DataW.trod enc Tryz.prog W base sp held fuel 138 cs = some x) : ∃ q : Sm, cs = smc q := by
  have c1 : Tryz.prog.cellsOf 138 = 4 := by kernel_rfl
  have c2 : Tryz.prog.cellsOf 5 = 1 := by kernel_rfl
  have c4 : Tryz.prog.cellsOf 2 = 1 := by kernel_rfl
  obtain ⟨xs, n, _, _, hl, hxl, hf⟩ := DataW.trod_struct Tryz.underlying138 h
  rw [c1] at hl
  match cs, hl with
  | [v0, v1, v2, v3], _ =>
    match xs, hxl with
    | [y0, y1, y2, y3], _ =>
      have h0 := hf 0 _ rfl
      have h1 := hf 1 _ rfl
      have h2 := hf 2 _ rfl
      have h3 := hf 3 _ rfl
      simp [c2, c4] at h0 h1 h2 h3
      obtain ⟨a, ea, _, wa⟩ := DataW.trod_int Tryz.underlying5 h0
      obtain ⟨b, eb, _, wb⟩ := DataW.trod_int Tryz.underlying5 h1
      obtain ⟨c, ec, _, wc⟩ := DataW.trod_int Tryz.underlying5 h2
      obtain ⟨d, ed, _, wd⟩ := DataW.trod_int Tryz.underlying2 h3
      cases ea
      cases eb
      cases ec
      cases ed
      obtain ⟨a, rfl, ba⟩ := u8_nat wa
      obtain ⟨b, rfl, bb⟩ := u8_nat wb
      obtain ⟨c, rfl, bc⟩ := u8_nat wc
      exact ⟨⟨a, b, c, d, ba, bb, bc, i64_in wd⟩, rfl⟩
set_option maxRecDepth 100000 in
theorem jn_cells {W : World} {base fuel : Nat} {held : Bool} {cs : List Value} {x : DataW H × List MemPlace} (h : DataW.trod enc Tryz.prog W base (fun _ => true) held fuel 121 cs = some x) : ∃ q : Jp, cs = jnc q ∧ Recs smc 4 W q.2 q.1.lines := by
  have c1 : Tryz.prog.cellsOf 121 = 2 := by kernel_rfl
  have c2 : Tryz.prog.cellsOf 5 = 1 := by kernel_rfl
  have c3 : Tryz.prog.cellsOf 119 = 1 := by kernel_rfl
  obtain ⟨xs, n, _, _, hl, hxl, hf⟩ := DataW.trod_struct Tryz.underlying121 h
  rw [c1] at hl
  match cs, hl with
  | [v0, v1], _ =>
    match xs, hxl with
    | [y0, y1], _ =>
      have h0 := hf 0 _ rfl
      have h1 := hf 1 _ rfl
      simp [c2, c3] at h0 h1
      obtain ⟨a, ea, _, wa⟩ := DataW.trod_int Tryz.underlying5 h0
      obtain ⟨v, zs, ev, hR, _⟩ := recs_trod (Q := fun _ => True) smc_len (by omega) Tryz.underlying119 (by kernel_rfl) h1 (fun {fuel cs x} hc => by obtain ⟨q, e⟩ := sm_cells hc; exact ⟨q, e, trivial⟩)
      cases ea
      cases ev
      obtain ⟨a, rfl, ba⟩ := u8_nat wa
      exact ⟨(⟨a, zs, ba⟩, v1), rfl, hR⟩
set_option maxRecDepth 100000 in
theorem bk_cells {W : World} {base fuel : Nat} {held : Bool} {cs : List Value} {x : DataW H × List MemPlace} (h : DataW.trod enc Tryz.prog W base (fun _ => true) held fuel 101 cs = some x) :
    ∃ (x : Bk) (vCh vUn vLo vJs : Value) (js : List Jp), cs = [vCh, vUn, .int .i16 x.first, vLo, vJs] ∧ BkM x vCh vUn vLo vJs js W := by
  have c1 : Tryz.prog.cellsOf 101 = 5 := by kernel_rfl
  have c2 : Tryz.prog.cellsOf 97 = 1 := by kernel_rfl
  have c3 : Tryz.prog.cellsOf 61 = 1 := by kernel_rfl
  have c4 : Tryz.prog.cellsOf 98 = 1 := by kernel_rfl
  have c5 : Tryz.prog.cellsOf 45 = 1 := by kernel_rfl
  have c6 : Tryz.prog.cellsOf 99 = 1 := by kernel_rfl
  obtain ⟨xs, n, _, _, hl, hxl, hf⟩ := DataW.trod_struct Tryz.underlying101 h
  rw [c1] at hl
  match cs, hl with
  | [v0, v1, v2, v3, v4], _ =>
    match xs, hxl with
    | [y0, y1, y2, y3, y4], _ =>
      have h0 := hf 0 _ rfl
      have h1 := hf 1 _ rfl
      have h2 := hf 2 _ rfl
      have h3 := hf 3 _ rfl
      have h4 := hf 4 _ rfl
      simp [c2, c3, c4, c5, c6] at h0 h1 h2 h3 h4
      obtain ⟨a, za, ea, ha, _⟩ := recs_trod (Q := fun _ => True) qc_len (by omega) Tryz.underlying97 (by kernel_rfl) h0 (fun {fuel cs x} hc => by obtain ⟨q, e⟩ := qt_cells hc; exact ⟨q, e, trivial⟩)
      obtain ⟨b, zb, eb, hb, _⟩ := recs_trod (Q := fun _ => True) uc_len (by omega) Tryz.underlying61 (by kernel_rfl) h1 (fun {fuel cs x} hc => by
        obtain ⟨n, e, _, wn⟩ := DataW.trod_int Tryz.underlying87 hc
        obtain ⟨m, rfl, _⟩ := u16_nat wn
        exact ⟨m, e, trivial⟩)
      obtain ⟨c, ec, _, wc⟩ := DataW.trod_int Tryz.underlying98 h2
      obtain ⟨d, zd, ed, hd, _⟩ := recs_trod (Q := fun _ => True) u8c_len (by omega) Tryz.underlying45 (by kernel_rfl) h3 (fun {fuel cs x} hc => by
        obtain ⟨n, e, _, wn⟩ := DataW.trod_int Tryz.underlying5 hc
        obtain ⟨m, rfl, _⟩ := u8_nat wn
        exact ⟨m, e, trivial⟩)
      obtain ⟨e, ze, ee, he, hq⟩ := recs_trod (Q := fun q : Jp => Recs smc 4 W q.2 q.1.lines) jnc_len (by omega) Tryz.underlying99 (by kernel_rfl) h4 (fun {fuel cs x} hc => jn_cells hc)
      cases ea
      cases eb
      cases ec
      cases ed
      cases ee
      exact ⟨⟨za, zb, c, zd, ze.map (·.1), i16_in wc⟩, v0, v1, v3, v4, ze, rfl, ⟨ha, hb, hd, he, hq, rfl⟩⟩
set_option maxRecDepth 100000 in
/-- A book by small numbers. -/
theorem bk_open {W : World} {r : Reach} {b0 base : Nat} {held : Bool} {v : Value} {d : DataW H} {p : List MemPlace} (hv : Value.okWide Tryz.prog W r b0 101 v) (h : DataW.Trod enc Tryz.prog W base (fun _ => true) held 101 v d p) :
    ∃ (x : Bk) (vCh vUn vLo vJs : Value) (js : List Jp), v = bV vCh vUn x.first vLo vJs ∧ BkM x vCh vUn vLo vJs js W := by
  obtain ⟨cs, rfl, _⟩ := okWide_struct Tryz.underlying101 hv
  obtain ⟨fuel, hf⟩ := h
  obtain ⟨x, a, b, c, d, js, hk, hM⟩ := bk_cells hf
  refine ⟨x, a, b, c, d, js, ?_, hM⟩
  have : cs.toList = _ := hk
  unfold bV
  congr 1
  apply Array.ext'
  rw [this]
set_option maxRecDepth 100000 in
theorem ln_open {W : World} {r : Reach} {b0 base : Nat} {sp : Nat → Bool} {held : Bool} {v : Value} {d : DataW H} {p : List MemPlace} (hv : Value.okWide Tryz.prog W r b0 116 v) (h : DataW.Trod enc Tryz.prog W base sp held 116 v d p) : ∃ l : Ln, v = lnV l := by
  obtain ⟨cs, rfl, _⟩ := okWide_struct Tryz.underlying116 hv
  obtain ⟨fuel, hf⟩ := h
  obtain ⟨k, hk⟩ := ln_cells hf
  refine ⟨k, ?_⟩
  have : cs.toList = lc k := hk
  unfold lnV
  congr 1
  apply Array.ext'
  rw [this]; rfl
set_option maxRecDepth 100000 in
theorem sm_open {W : World} {r : Reach} {b0 base : Nat} {sp : Nat → Bool} {held : Bool} {v : Value} {d : DataW H} {p : List MemPlace} (hv : Value.okWide Tryz.prog W r b0 138 v) (h : DataW.Trod enc Tryz.prog W base sp held 138 v d p) : ∃ l : Sm, v = smV l := by
  obtain ⟨cs, rfl, _⟩ := okWide_struct Tryz.underlying138 hv
  obtain ⟨fuel, hf⟩ := h
  obtain ⟨k, hk⟩ := sm_cells hf
  refine ⟨k, ?_⟩
  have : cs.toList = smc k := hk
  unfold smV
  congr 1
  apply Array.ext'
  rw [this]; rfl
end
end Go.Proofs.YtafmakhhdinknaaGreatDoor

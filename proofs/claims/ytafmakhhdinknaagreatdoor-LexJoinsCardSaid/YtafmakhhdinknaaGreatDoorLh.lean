/- Arguments of law 6: slices of four small numbers, slices of accounts, an account. -/
import Derived.Test.YtafmakhhdinknaaGreatDoorBb
import Derived.Test.YtafmakhhdinknaaGreatDoorCall
import Derived.Test.YtafmakhhdinknaaGreatDoorChecked
import Derived.Deep.Slices
namespace Go.Proofs.YtafmakhhdinknaaGreatDoor
open Go.ChangeShapes Go.WideShapes Go.ChangeAt Go.RowKit Go.Joins
set_option linter.unusedVariables false
set_option linter.unusedSimpArgs false
theorem u8_nat {a : Int} (h : (Lit.int .u8 a).wf = true) : ∃ n : Nat, a = (n : Int) ∧ n < 256 := by
  have b : 0 ≤ a ∧ a < 256 := by simp [Lit.wf, IntKind.min, IntKind.max, IntKind.bits, IntKind.signed] at h; omega
  exact ⟨a.toNat, by omega, by omega⟩
theorem u32_nat {a : Int} (h : (Lit.int .u32 a).wf = true) : ∃ n : Nat, a = (n : Int) ∧ n < 4294967296 := by
  have b : 0 ≤ a ∧ a < 4294967296 := by simp [Lit.wf, IntKind.min, IntKind.max, IntKind.bits, IntKind.signed] at h; omega
  exact ⟨a.toNat, by omega, by omega⟩
section
variable {H : Type} {enc : TypeId × Value → H}
set_option maxRecDepth 100000 in
theorem qt_cells {W : World} {base fuel : Nat} {sp : Nat → Bool} {held : Bool} {cs : List Value} {x : DataW H × List MemPlace} (h : DataW.trod enc Tryz.prog W base sp held fuel 152 cs = some x) : ∃ q : Qt, cs = qc q := by
  have c1 : Tryz.prog.cellsOf 152 = 4 := by kernel_rfl
  have c2 : Tryz.prog.cellsOf 5 = 1 := by kernel_rfl
  obtain ⟨xs, n, _, _, hl, hxl, hf⟩ := DataW.trod_struct Tryz.underlying152 h
  rw [c1] at hl
  match cs, hl with
  | [v0, v1, v2, v3], _ =>
    match xs, hxl with
    | [y0, y1, y2, y3], _ =>
      have h0 := hf 0 _ rfl
      have h1 := hf 1 _ rfl
      have h2 := hf 2 _ rfl
      have h3 := hf 3 _ rfl
      simp [c2] at h0 h1 h2 h3
      obtain ⟨a, ea, _, wa⟩ := DataW.trod_int Tryz.underlying5 h0
      obtain ⟨b, eb, _, wb⟩ := DataW.trod_int Tryz.underlying5 h1
      obtain ⟨c, ec, _, wc⟩ := DataW.trod_int Tryz.underlying5 h2
      obtain ⟨d, ed, _, wd⟩ := DataW.trod_int Tryz.underlying5 h3
      cases ea
      cases eb
      cases ec
      cases ed
      obtain ⟨a, rfl, ba⟩ := u8_nat wa
      obtain ⟨b, rfl, bb⟩ := u8_nat wb
      obtain ⟨c, rfl, bc⟩ := u8_nat wc
      obtain ⟨d, rfl, bd⟩ := u8_nat wd
      exact ⟨⟨a, b, c, d, ba, bb, bc, bd⟩, rfl⟩
set_option maxRecDepth 100000 in
theorem qts_open {W : World} {r : Reach} {b0 base : Nat} {held : Bool} {v : Value} {d : DataW H} {p : List MemPlace} (hv : Value.okWide Tryz.prog W r b0 97 v) (h : DataW.Trod enc Tryz.prog W base (fun _ => true) held 97 v d p) : ∃ zs : List Qt, Recs qc 4 W v zs :=
  recs_open qc_len (by omega) Tryz.underlying97 (by kernel_rfl) hv h qt_cells
set_option maxRecDepth 100000 in
theorem ac_cells {W : World} {base fuel : Nat} {sp : Nat → Bool} {held : Bool} {cs : List Value} {x : DataW H × List MemPlace} (h : DataW.trod enc Tryz.prog W base sp held fuel 84 cs = some x) : ∃ q : Ac, cs = cc q := by
  have c1 : Tryz.prog.cellsOf 84 = 4 := by kernel_rfl
  have c2 : Tryz.prog.cellsOf 74 = 1 := by kernel_rfl
  have c3 : Tryz.prog.cellsOf 9 = 1 := by kernel_rfl
  have c4 : Tryz.prog.cellsOf 82 = 1 := by kernel_rfl
  obtain ⟨xs, n, _, _, hl, hxl, hf⟩ := DataW.trod_struct Tryz.underlying84 h
  rw [c1] at hl
  match cs, hl with
  | [v0, v1, v2, v3], _ =>
    match xs, hxl with
    | [y0, y1, y2, y3], _ =>
      have h0 := hf 0 _ rfl
      have h1 := hf 1 _ rfl
      have h2 := hf 2 _ rfl
      have h3 := hf 3 _ rfl
      simp [c2, c3, c4] at h0 h1 h2 h3
      obtain ⟨a, ea, _, wa⟩ := DataW.trod_int Tryz.underlying74 h0
      obtain ⟨s, es, _, ws⟩ := DataW.trod_string Tryz.underlying9 h1
      obtain ⟨c, ec, _, wc⟩ := DataW.trod_int Tryz.underlying82 h2
      obtain ⟨d, ed, _, wd⟩ := DataW.trod_int Tryz.underlying74 h3
      cases ea
      cases es
      cases ec
      cases ed
      obtain ⟨a, rfl, ba⟩ := u32_nat wa
      obtain ⟨c, rfl, bc⟩ := u8_nat wc
      obtain ⟨d, rfl, bd⟩ := u32_nat wd
      exact ⟨⟨a, s, c, d, ba, bc, bd, by unfold maxLen at ws; omega⟩, rfl⟩
set_option maxRecDepth 100000 in
theorem acs_open {W : World} {r : Reach} {b0 base : Nat} {held : Bool} {v : Value} {d : DataW H} {p : List MemPlace} (hv : Value.okWide Tryz.prog W r b0 59 v) (h : DataW.Trod enc Tryz.prog W base (fun _ => true) held 59 v d p) : ∃ zs : List Ac, Recs cc 4 W v zs :=
  recs_open cc_len (by omega) Tryz.underlying59 (by kernel_rfl) hv h ac_cells
set_option maxRecDepth 100000 in
theorem acct_open {W : World} {r : Reach} {b0 base : Nat} {sp : Nat → Bool} {held : Bool} {v : Value} {d : DataW H} {p : List MemPlace} (hv : Value.okWide Tryz.prog W r b0 84 v) (h : DataW.Trod enc Tryz.prog W base sp held 84 v d p) : ∃ k : Ac, v = cv k := by
  obtain ⟨cs, rfl, _⟩ := okWide_struct Tryz.underlying84 hv
  obtain ⟨fuel, hf⟩ := h
  obtain ⟨k, hk⟩ := ac_cells hf
  refine ⟨k, ?_⟩
  have : cs.toList = cc k := hk
  unfold cv
  congr 1
  apply Array.ext'
  rw [this]; rfl
end
end Go.Proofs.YtafmakhhdinknaaGreatDoor

/- Maps by keys and by pairs of keys, at the program's types; '==' between keys, between pairs of keys. -/
import Derived.Test.YtnmnjoleebhhiaaGreatDoorVe
import Derived.Test.YtnmnjoleebhhiaaGreatDoorOne
namespace Go.Proofs.YtnmnjoleebhhiaaGreatDoor
open Go.RowKit Go.Sort
set_option linter.unusedVariables false
set_option linter.unusedSimpArgs false
theorem wf_u32 {n : Nat} (h : n < 4294967296) : (Lit.int .u32 (n : Int)).wf = true := by
  simp [Lit.wf, IntKind.min, IntKind.max, IntKind.bits, IntKind.signed]; omega
theorem wf_u16 {n : Nat} (h : n < 65536) : (Lit.int .u16 (n : Int)).wf = true := by
  simp [Lit.wf, IntKind.min, IntKind.max, IntKind.bits, IntKind.signed]; omega
theorem lits_k (d : Nat) (x : Kt) : Tryz.prog.keyLits (d + 2) 31 (kc x) = some [.int .u32 (x.a : Int), .int .u16 (x.e : Int), .int .u16 (x.p : Int)] := by
  have h1 := x.ha; have h2 := x.he; have h3 := x.hp
  have w1 := wf_u32 h1
  have w2 := wf_u16 h2
  have w3 := wf_u16 h3
  have c1 : Tryz.prog.cellsOf 31 = 3 := by kernel_rfl
  have c2 : Tryz.prog.cellsOf 28 = 1 := by kernel_rfl
  have c3 : Tryz.prog.cellsOf 29 = 1 := by kernel_rfl
  unfold kc
  simp [Program.keyLits, Tryz.underlying31, Tryz.underlying28, Tryz.underlying29, w1, w2, w3, c1, c2, c3]
theorem lits_p (d : Nat) (x : Kt × Kt) : Tryz.prog.keyLits (d + 3) 47 (pc x) = some [.int .u32 (x.1.a : Int), .int .u16 (x.1.e : Int), .int .u16 (x.1.p : Int), .int .u32 (x.2.a : Int), .int .u16 (x.2.e : Int), .int .u16 (x.2.p : Int)] := by
  have c1 : Tryz.prog.cellsOf 31 = 3 := by kernel_rfl
  have c2 : Tryz.prog.cellsOf 47 = 6 := by kernel_rfl
  have l1 := lits_k d x.1
  have l2 := lits_k d x.2
  unfold kc at l1 l2
  have e : Tryz.prog.keyLits (d + 3) 47 (pc x) = (if (pc x).length = Tryz.prog.cellsOf 47 then ((List.range 2).mapM fun i => Tryz.prog.keyLits (d + 2) 31 (((pc x).drop (i * Tryz.prog.cellsOf 31)).take (Tryz.prog.cellsOf 31))).map List.flatten else none) := by
    conv => lhs; unfold Program.keyLits
    simp only [Tryz.underlying47]
  have hl : (pc x).length = 6 := rfl
  rw [e, c1, c2, if_pos hl]
  unfold pc
  simp [List.range, List.range.loop, l1, l2]
theorem big_types : ∃ d, Tryz.prog.types.size + 1 = d + 3 := by
  have h : decide (2 ≤ Tryz.prog.types.size) = true := by kernel_rfl
  have := of_decide_eq_true h
  exact ⟨Tryz.prog.types.size - 2, by omega⟩
theorem key_k (x : Kt) : ∃ q, keyOf Tryz.prog 31 (kv x) = some q := by
  obtain ⟨d, hd⟩ := big_types
  have hk : Tryz.prog.keyType 31 = true := by kernel_rfl
  have c1 : Tryz.prog.cellsOf 31 = 3 := by kernel_rfl
  have hf : (kv x).formed Tryz.prog 31 = true := by unfold kv; simp [Value.formed, Tryz.underlying31, c1]
  have hl := lits_k (d + 1) x
  refine ⟨.string (keyBytes [.int .u32 (x.a : Int), .int .u16 (x.e : Int), .int .u16 (x.p : Int)]), ?_⟩
  unfold keyOf
  simp only [Tryz.underlying31, hk, hf, Bool.and_self, if_true, hd]
  rw [show (kv x).cells.toList = kc x from rfl, show d + 3 = d + 1 + 2 from rfl, hl]
  rfl
theorem key_p (x : Kt × Kt) : ∃ q, keyOf Tryz.prog 47 (pv x) = some q := by
  obtain ⟨d, hd⟩ := big_types
  have hk : Tryz.prog.keyType 47 = true := by kernel_rfl
  have c1 : Tryz.prog.cellsOf 47 = 6 := by kernel_rfl
  have hf : (pv x).formed Tryz.prog 47 = true := by unfold pv; simp [Value.formed, Tryz.underlying47, c1]
  have hl := lits_p d x
  refine ⟨.string (keyBytes [.int .u32 (x.1.a : Int), .int .u16 (x.1.e : Int), .int .u16 (x.1.p : Int), .int .u32 (x.2.a : Int), .int .u16 (x.2.e : Int), .int .u16 (x.2.p : Int)]), ?_⟩
  unfold keyOf
  simp only [Tryz.underlying47, hk, hf, Bool.and_self, if_true, hd]
  rw [show (pv x).cells.toList = pc x from rfl, hl]
  rfl
theorem law_k : WideMaps.KeyLaw Tryz.prog 31 := deep_law (m := 4) (by omega) (by kernel_rfl) (by kernel_rfl) (by rw [Tryz.underlying31])
theorem law_p : WideMaps.KeyLaw Tryz.prog 47 := deep_law (m := 4) (by omega) (by kernel_rfl) (by kernel_rfl) (by rw [Tryz.underlying47])
/-- '==' between keys, between pairs of keys. -/
theorem eql_k (x y : Kt) (w : World) : (Op.equal 31 (kv x) (kv y)).run Tryz.prog w = .ok (decide (x = y)) w := by
  obtain ⟨q, hq⟩ := key_k x
  obtain ⟨q', hq'⟩ := key_k y
  obtain ⟨r, hr, hi⟩ := run_equal_deep w (m := 4) (by omega) (k := 31) (by kernel_rfl) (by rw [Tryz.underlying31]) hq hq'
  suffices hd : r = decide (x = y) by rw [hr, hd]
  by_cases h : x = y
  · subst h
    rw [hq] at hq'
    have hr1 : r = true := hi.2 (Option.some.inj hq')
    rw [hr1]
    exact (decide_eq_true (p := x = x) rfl).symm
  · have hd := decide_eq_false h
    cases r with
    | false => exact hd.symm
    | true =>
      exfalso
      have e := hi.1 rfl
      subst e
      exact h (kv_inj _ _ (law_k.inj hq hq'))
theorem eql_p (x y : Kt × Kt) (w : World) : (Op.equal 47 (pv x) (pv y)).run Tryz.prog w = .ok (decide (x = y)) w := by
  obtain ⟨q, hq⟩ := key_p x
  obtain ⟨q', hq'⟩ := key_p y
  obtain ⟨r, hr, hi⟩ := run_equal_deep w (m := 4) (by omega) (k := 47) (by kernel_rfl) (by rw [Tryz.underlying47]) hq hq'
  suffices hd : r = decide (x = y) by rw [hr, hd]
  by_cases h : x = y
  · subst h
    rw [hq] at hq'
    have hr1 : r = true := hi.2 (Option.some.inj hq')
    rw [hr1]
    exact (decide_eq_true (p := x = x) rfl).symm
  · have hd := decide_eq_false h
    cases r with
    | false => exact hd.symm
    | true =>
      exfalso
      have e := hi.1 rfl
      subst e
      exact h (pv_inj _ _ (law_p.inj hq hq'))
/-- A sum of 128 bits as a value. -/
def wv (n : Int) : Value := .agg #[.int .i64 (hiW n), .int .u64 (loW n)]
theorem hi0 : hiW 0 = 0 := by unfold hiW; rw [i64w]; decide
theorem lo0 : loW 0 = 0 := by unfold loW; decide
theorem zero_w (w : World) : (zeroValue 42).run Tryz.prog w = .ok (wv 0) w := by
  unfold wv; rw [hi0, lo0]; kernel_rfl
theorem zero_i (w : World) : (zeroValue 3).run Tryz.prog w = .ok (.int .i64 0) w := by kernel_rfl
theorem map_k : MapT Tryz.prog 24 31 42 kv wv 0 := ⟨law_k, Tryz.underlying24, key_k, kv_inj, zero_w⟩
theorem map_s : MapT Tryz.prog 25 31 42 kv wv 0 := ⟨law_k, Tryz.underlying25, key_k, kv_inj, zero_w⟩
theorem map_p : MapT Tryz.prog 26 47 3 pv (Value.int .i64) 0 := ⟨law_p, Tryz.underlying26, key_p, pv_inj, zero_i⟩
theorem map_l : MapT Tryz.prog 27 47 3 pv (Value.int .i64) 0 := ⟨law_p, Tryz.underlying27, key_p, pv_inj, zero_i⟩
end Go.Proofs.YtnmnjoleebhhiaaGreatDoor

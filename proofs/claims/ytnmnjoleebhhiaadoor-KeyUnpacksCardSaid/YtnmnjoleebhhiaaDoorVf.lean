/- Maps by keys and by pairs of keys, at the program's types; '==' between keys, between pairs of keys. -/
import Derived.Test.YtnmnjoleebhhiaaDoorVe
import Derived.Test.YtnmnjoleebhhiaaDoorOne
namespace Go.Proofs.YtnmnjoleebhhiaaDoor
open Go.RowKit Go.Sort
set_option linter.unusedVariables false
set_option linter.unusedSimpArgs false
theorem wf_u32 {n : Nat} (h : n < 4294967296) : (Lit.int .u32 (n : Int)).wf = true := by
  simp [Lit.wf, IntKind.min, IntKind.max, IntKind.bits, IntKind.signed]; omega
theorem wf_u16 {n : Nat} (h : n < 65536) : (Lit.int .u16 (n : Int)).wf = true := by
  simp [Lit.wf, IntKind.min, IntKind.max, IntKind.bits, IntKind.signed]; omega
theorem lits_k (d : Nat) (x : Kt) : Tryd.prog.keyLits (d + 2) 25 (kc x) = some [.int .u32 (x.a : Int), .int .u16 (x.e : Int), .int .u16 (x.p : Int)] := by
  have h1 := x.ha; have h2 := x.he; have h3 := x.hp
  have w1 := wf_u32 h1
  have w2 := wf_u16 h2
  have w3 := wf_u16 h3
  have c1 : Tryd.prog.cellsOf 25 = 3 := by kernel_rfl
  have c2 : Tryd.prog.cellsOf 22 = 1 := by kernel_rfl
  have c3 : Tryd.prog.cellsOf 23 = 1 := by kernel_rfl
  unfold kc
  simp [Program.keyLits, Tryd.underlying25, Tryd.underlying22, Tryd.underlying23, w1, w2, w3, c1, c2, c3]
theorem lits_p (d : Nat) (x : Kt × Kt) : Tryd.prog.keyLits (d + 3) 54 (pc x) = some [.int .u32 (x.1.a : Int), .int .u16 (x.1.e : Int), .int .u16 (x.1.p : Int), .int .u32 (x.2.a : Int), .int .u16 (x.2.e : Int), .int .u16 (x.2.p : Int)] := by
  have c1 : Tryd.prog.cellsOf 25 = 3 := by kernel_rfl
  have c2 : Tryd.prog.cellsOf 54 = 6 := by kernel_rfl
  have l1 := lits_k d x.1
  have l2 := lits_k d x.2
  unfold kc at l1 l2
  have e : Tryd.prog.keyLits (d + 3) 54 (pc x) = (if (pc x).length = Tryd.prog.cellsOf 54 then ((List.range 2).mapM fun i => Tryd.prog.keyLits (d + 2) 25 (((pc x).drop (i * Tryd.prog.cellsOf 25)).take (Tryd.prog.cellsOf 25))).map List.flatten else none) := by
    conv => lhs; unfold Program.keyLits
    simp only [Tryd.underlying54]
  have hl : (pc x).length = 6 := rfl
  rw [e, c1, c2, if_pos hl]
  unfold pc
  simp [List.range, List.range.loop, l1, l2]
theorem big_types : ∃ d, Tryd.prog.types.size + 1 = d + 3 := by
  have h : decide (2 ≤ Tryd.prog.types.size) = true := by kernel_rfl
  have := of_decide_eq_true h
  exact ⟨Tryd.prog.types.size - 2, by omega⟩
theorem key_k (x : Kt) : ∃ q, keyOf Tryd.prog 25 (kv x) = some q := by
  obtain ⟨d, hd⟩ := big_types
  have hk : Tryd.prog.keyType 25 = true := by kernel_rfl
  have c1 : Tryd.prog.cellsOf 25 = 3 := by kernel_rfl
  have hf : (kv x).formed Tryd.prog 25 = true := by unfold kv; simp [Value.formed, Tryd.underlying25, c1]
  have hl := lits_k (d + 1) x
  refine ⟨.string (keyBytes [.int .u32 (x.a : Int), .int .u16 (x.e : Int), .int .u16 (x.p : Int)]), ?_⟩
  unfold keyOf
  simp only [Tryd.underlying25, hk, hf, Bool.and_self, if_true, hd]
  rw [show (kv x).cells.toList = kc x from rfl, show d + 3 = d + 1 + 2 from rfl, hl]
  rfl
theorem key_p (x : Kt × Kt) : ∃ q, keyOf Tryd.prog 54 (pv x) = some q := by
  obtain ⟨d, hd⟩ := big_types
  have hk : Tryd.prog.keyType 54 = true := by kernel_rfl
  have c1 : Tryd.prog.cellsOf 54 = 6 := by kernel_rfl
  have hf : (pv x).formed Tryd.prog 54 = true := by unfold pv; simp [Value.formed, Tryd.underlying54, c1]
  have hl := lits_p d x
  refine ⟨.string (keyBytes [.int .u32 (x.1.a : Int), .int .u16 (x.1.e : Int), .int .u16 (x.1.p : Int), .int .u32 (x.2.a : Int), .int .u16 (x.2.e : Int), .int .u16 (x.2.p : Int)]), ?_⟩
  unfold keyOf
  simp only [Tryd.underlying54, hk, hf, Bool.and_self, if_true, hd]
  rw [show (pv x).cells.toList = pc x from rfl, hl]
  rfl
theorem law_k : WideMaps.KeyLaw Tryd.prog 25 := deep_law (m := 4) (by omega) (by kernel_rfl) (by kernel_rfl) (by rw [Tryd.underlying25])
theorem law_p : WideMaps.KeyLaw Tryd.prog 54 := deep_law (m := 4) (by omega) (by kernel_rfl) (by kernel_rfl) (by rw [Tryd.underlying54])
/-- '==' between keys, between pairs of keys. -/
theorem eql_k (x y : Kt) (w : World) : (Op.equal 25 (kv x) (kv y)).run Tryd.prog w = .ok (decide (x = y)) w := by
  obtain ⟨q, hq⟩ := key_k x
  obtain ⟨q', hq'⟩ := key_k y
  obtain ⟨r, hr, hi⟩ := run_equal_deep w (m := 4) (by omega) (k := 25) (by kernel_rfl) (by rw [Tryd.underlying25]) hq hq'
  suffices hd : r = decide (x = y) by rw [hr, hd]
  by_cases h : x = y
  · subst h
    rw [hq] at hq'
    have hr1 : r = true := hi.2 (Option.some.inj hq')
    rw [hr1]
    exact (decide_eq_true (p := x = x) rfl).symm
  · have hd := decide_eq_false h
    cases r with
    | false => exact hd.symm
    | true =>
      exfalso
      have e := hi.1 rfl
      subst e
      exact h (kv_inj _ _ (law_k.inj hq hq'))
theorem eql_p (x y : Kt × Kt) (w : World) : (Op.equal 54 (pv x) (pv y)).run Tryd.prog w = .ok (decide (x = y)) w := by
  obtain ⟨q, hq⟩ := key_p x
  obtain ⟨q', hq'⟩ := key_p y
  obtain ⟨r, hr, hi⟩ := run_equal_deep w (m := 4) (by omega) (k := 54) (by kernel_rfl) (by rw [Tryd.underlying54]) hq hq'
  suffices hd : r = decide (x = y) by rw [hr, hd]
  by_cases h : x = y
  · subst h
    rw [hq] at hq'
    have hr1 : r = true := hi.2 (Option.some.inj hq')
    rw [hr1]
    exact (decide_eq_true (p := x = x) rfl).symm
  · have hd := decide_eq_false h
    cases r with
    | false => exact hd.symm
    | true =>
      exfalso
      have e := hi.1 rfl
      subst e
      exact h (pv_inj _ _ (law_p.inj hq hq'))
/-- A sum of 128 bits as a value. -/
def wv (n : Int) : Value := .agg #[.int .i64 (hiW n), .int .u64 (loW n)]
theorem hi0 : hiW 0 = 0 := by unfold hiW; rw [i64w]; decide
theorem lo0 : loW 0 = 0 := by unfold loW; decide
theorem zero_w (w : World) : (zeroValue 50).run Tryd.prog w = .ok (wv 0) w := by
  unfold wv; rw [hi0, lo0]; kernel_rfl
theorem zero_i (w : World) : (zeroValue 3).run Tryd.prog w = .ok (.int .i64 0) w := by kernel_rfl
theorem map_k : MapT Tryd.prog 35 25 50 kv wv 0 := ⟨law_k, Tryd.underlying35, key_k, kv_inj, zero_w⟩
theorem map_s : MapT Tryd.prog 36 25 50 kv wv 0 := ⟨law_k, Tryd.underlying36, key_k, kv_inj, zero_w⟩
theorem map_p : MapT Tryd.prog 55 54 3 pv (Value.int .i64) 0 := ⟨law_p, Tryd.underlying55, key_p, pv_inj, zero_i⟩
theorem map_l : MapT Tryd.prog 56 54 3 pv (Value.int .i64) 0 := ⟨law_p, Tryd.underlying56, key_p, pv_inj, zero_i⟩
end Go.Proofs.YtnmnjoleebhhiaaDoor

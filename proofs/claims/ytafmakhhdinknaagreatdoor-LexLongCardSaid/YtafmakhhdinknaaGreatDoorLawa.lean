/- Contracts of law 6's Way, deep; of package chart's Kids. -/
import Derived.Test.YtafmakhhdinknaaGreatDoorCall
import Derived.Test.YtafmakhhdinknaaGreatDoorTall
import Derived.Test.YtafmakhhdinknaaGreatDoorChecked
import Derived.Test.YtafmakhhdinknaaGreatDoorOne
import Derived.Below
import Derived.Deep.Heap
import Derived.Test.YtafmakhhdinknaaGreatDoorIall
import Derived.Laws.OwnMore
import Derived.Test.YtafmakhhdinknaaGreatDoorXall
import Derived.StillTailTactics
namespace Go.Proofs.YtafmakhhdinknaaGreatDoor
open Go.RowKit
set_option linter.unusedVariables false
set_option linter.unusedSimpArgs false
set_option maxHeartbeats 2000000 in
set_option maxRecDepth 100000 in
theorem wayl_c (v : Value) (c : List Ac) (n : Nat) (w : World) (hR : Recs cc 4 w v c) :
    Calls Tryz.prog 127 #[v, .int .u32 (n : Int)] w fun e w' => ∃ v', e = .returned v' ∧ Recs nc 1 w' v' (wayF 13 c n) ∧ Below w.heap.size w w' := by
  obtain ⟨i0, hi, hz0, hz1, hz2⟩ := info_parts info32n
  have HR := Lib.hid hR
  obtain ⟨W13, hW13⟩ : ∃ l, wayF 13 c n = l := ⟨_, rfl⟩
  have HW := Lib.hid hW13
  rw [hW13]
  clear hR hW13
  go_enter Tryz.func127, Tryz.ntmps127
  go_wp2
  go_loopg [5, 1] 13 (fun gk s5 s1 wr => ∃ (k m : Nat) (r : Option Addr) (cap : Nat) (ks : List Nat), s5 = .slice r k cap ∧ s1 = .int .u32 (m : Int) ∧ k ≤ 13 ∧ 13 - k ≤ gk ∧ wr.ownsRow w.heap.size 74 1 (.slice r k cap) k (ks.flatMap nc) ∧ Hid (ks.length = k ∧ ks ++ wayF (13 - k) c m = W13) ∧ Below w.heap.size w wr)
  case atStart => exact ⟨0, n, none, 0, [], rfl, rfl, by omega, by omega, World.ownsRow_nil _ _ _ _, Lib.hid ⟨rfl, HW.out⟩, Below.refl _ _⟩
  case round =>
    obtain ⟨k, m, r, cap, ks, rfl, rfl, hk, hgk, hown, HK, hb⟩ := hrel
    by_cases hlt : k < 13
    · have hbs := hb.size
      have hQ := getl_c v c m wr (HR.out.stay hb)
      cases hg : getA c m with
      | none =>
        rw [hg] at hQ
        have HQ : Hid (Calls Tryz.prog 154 #[v, .int .u32 (m : Int)] wr fun e w' => e = .returned (.tuple #[.agg #[.int .u32 0, .string ⟨#[]⟩, .int .u8 0, .int .u32 0], .bool false]) ∧ Below wr.heap.size wr w') := Lib.hid hQ
        have HE : Hid (ks = W13) := Lib.hid (by have := HK.out.2; rwa [wayF_none hg, List.append_nil] at this)
        have HB := Lib.hid hb
        have HO := Lib.hid hown
        clear hg hb hown hQ
        go_wp2_with (go_at_call 154; refine HQ.out.mono ?_; rintro e w1 ⟨rfl, hb1⟩; have HO1 := Lib.hid (owns_stay HO.out hb1); have HB1 := Lib.hid (HB.out.trans (hb1.mono hbs)); have hs1 := hb1.size; clear hb1)
        go_ret
        refine ⟨_, rfl, ?_, HB1.out.alloc (by omega) _⟩
        rw [← HE.out]
        exact recs_of_owns nc_len (HO1.out.alloc _) HK.out.1.symm (by omega)
      | some a =>
        rw [hg] at hQ
        have HQ : Hid (Calls Tryz.prog 154 #[v, .int .u32 (m : Int)] wr fun e w' => e = .returned (.tuple #[.agg #[.int .u32 (a.code : Int), .string a.name, .int .u8 (a.kind : Int), .int .u32 (a.par : Int)], .bool true]) ∧ Below wr.heap.size wr w') := Lib.hid hQ
        have HS : Hid ((ks ++ [m]) ++ wayF (12 - k) c a.par = W13) := Lib.hid (way_step (by have := HK.out.2; rwa [show 13 - k = 12 - k + 1 by omega] at this) hg)
        have HB := Lib.hid hb
        have HO := Lib.hid hown
        have HOL := Lib.hid hown.lt
        clear hg hb hown hQ
        go_wp2_with (first
          | (go_at_call 154; refine HQ.out.mono ?_; rintro e w1 ⟨rfl, hb1⟩; have HO1 := Lib.hid (owns_stay HO.out hb1); have HB1 := Lib.hid (HB.out.trans (hb1.mono hbs)); have hs1 := hb1.size; clear hb1)
          | (at_builtin; refine wpList_append_own _ rfl (.tmp 19) (.tmp 21) 175 rfl w.heap.size 74 i0 (.int .u32 0) 1 4 Tryz.underlying175 hi hz0 hz1 hz2 rfl (by decide) _ k _ rfl ((HO1.out.alloc _).alloc _) ⟨w1.heap.size + 1, 0, none⟩ 1 1 (nc m) rfl rfl (cells_new2 _ _ (nc m) _) (nc_one m) (by unfold maxLen; omega) (by omega) (by simp; omega) ?_; intro v2 w3 hown3 hgrow3 _; have q3 := hgrow3.cell (box_under w1 _ _ _ 3 _ rfl) (fun e => by have := (HOL.out w1.heap.size e.symm).2; omega); have HB3 := Lib.hid (((HB1.out.alloc (by omega) _).alloc (by simp; omega) _).grown hgrow3 (by simp; omega) (fun j hj => (HOL.out j hj).1)); have HO3 := Lib.hid hown3; obtain ⟨r2, cap2, rfl⟩ := owns_form hown3; clear hgrow3 hown3))
        go_roundg (12 - k)
        case measure => omega
        case rel =>
          refine ⟨k + 1, a.par, r2, cap2, ks ++ [m], rfl, rfl, by omega, by omega, by rw [flat_snoc]; exact HO3.out, Lib.hid ⟨by simp; exact HK.out.1, ?_⟩, HB3.out⟩
          rw [show 13 - (k + 1) = 12 - k by omega]; exact HS.out
    · obtain rfl : k = 13 := by omega
      have HE : Hid (ks = W13) := Lib.hid (by have := HK.out.2; simpa [wayF] using this)
      have HB := Lib.hid hb
      have HO := Lib.hid hown
      clear hb hown
      go_wp2
      go_ret
      refine ⟨_, rfl, ?_, HB.out⟩
      rw [← HE.out]
      exact recs_of_owns nc_len HO.out HK.out.1.symm (by omega)
theorem deep_c (v : Value) (c : List Ac) (n : Nat) (w : World) (hR : Recs cc 4 w v c) :
    Calls Tryz.prog 106 #[v, .int .u32 (n : Int)] w fun e w' => e = .returned (.int .i64 ((wayF 13 c n).length : Nat)) ∧ Below w.heap.size w w' := by
  have K1 : Hid (Calls Tryz.prog 127 #[v, .int .u32 (n : Int)] w fun e w' => ∃ r cap, e = .returned (.slice r (wayF 13 c n).length cap) ∧ Below w.heap.size w w') :=
    Lib.hid ((wayl_c v c n w hR).mono fun _ _ ⟨v', h1, h2, h3⟩ => by obtain ⟨r, cap, hv, _⟩ := h2.form; exact ⟨r, cap, by rw [h1, hv], h3⟩)
  clear hR
  generalize (wayF 13 c n).length = l at *
  go_enter Tryz.func106, Tryz.ntmps106
  go_wp2_with (go_at_call 127; refine K1.out.mono ?_; rintro e w1 ⟨r1, cap1, rfl, h2⟩; have HB1 := Lib.hid h2; clear h2)
  go_ret
  exact ⟨rfl, HB1.out⟩
theorem kids_step (c : List Ac) (n k : Nat) {a : Ac} (h : c[k]? = some a) : kidsA (c.take (k + 1)) n = if a.par = n then kidsA (c.take k) n ++ [a.code] else kidsA (c.take k) n := by
  obtain ⟨hk, e⟩ := List.getElem?_eq_some_iff.1 h
  unfold kidsA
  rw [List.take_succ_eq_append_getElem hk, List.filter_append, List.map_append, e]
  by_cases hp : a.par = n
  · rw [if_pos hp, List.filter_cons_of_pos (by simpa using hp)]; simp
  · rw [if_neg hp, List.filter_cons_of_neg (by simpa using hp)]; simp
theorem kids_le (c : List Ac) (n : Nat) : (kidsA c n).length ≤ c.length := by
  unfold kidsA; rw [List.length_map]; exact List.length_filter_le _ _
end Go.Proofs.YtafmakhhdinknaaGreatDoor
/- More laws for a region that draws its order: three that may come next, operations under a guard, a new pair, pairs loaded and stored. -/
namespace Go.Proofs.YtafmakhhdinknaaGreatDoor
open Go.RowKit
set_option linter.unusedVariables false
set_option linter.unusedSimpArgs false
section
variable {P : Program} {md : Region.Mode} {ops : Array Oper} {Q : Exit → Act → World → Prop}
theorem any3 {fuel : Nat} {listed : Array Bool} {a : Act} {w : World} (i j k : Nat) (hr : Region.ready md ops listed = [i, j, k])
    (h : wpOp P ops Q i (wpAny P md ops Q fuel (listed.setIfInBounds i true)) a w)
    (h' : wpOp P ops Q j (wpAny P md ops Q fuel (listed.setIfInBounds j true)) a w)
    (h'' : wpOp P ops Q k (wpAny P md ops Q fuel (listed.setIfInBounds k true)) a w) : wpAny P md ops Q (fuel + 1) listed a w :=
  wpAny_all hr (by simp) (fun l hl => by
    have hl' : l = i ∨ l = j ∨ l = k := by simpa using hl
    rcases hl' with rfl | rfl | rfl
    · exact h
    · exact h'
    · exact h'')
/-- What an operation is, its order and its guard apart; and it is wanted. -/
def opWants (ops : Array Oper) (a : Act) (i : Nat) (op : Op) (dst : Option Tmp) : Prop := (ops[i]?).map (fun o => (Region.wanted o (yielded ops a.tmps), o.op, o.dst)) = some (true, op, dst)
theorem opw_any {i : Nat} {op : Op} {dst : Option Tmp} {K : Act → World → Prop} {a : Act} {w : World} (ho : opWants ops a i op dst)
    (h : ∀ o : Oper, o.op = op → o.dst = dst → o.wp P a w K Q) : wpOp P ops Q i K a w := by
  unfold opWants at ho
  cases hq : ops[i]? with
  | none => rw [hq] at ho; cases ho
  | some o =>
    rw [hq] at ho
    simp only [Option.map_some, Option.some.injEq, Prod.mk.injEq] at ho
    refine wpOp_step hq (fun K' hK => ?_)
    rw [if_pos ho.1]
    exact Oper.wp_mono hK (h o ho.2.1 ho.2.2)
theorem opw_load {i : Nat} {K : Act → World → Prop} {a : Act} {w : World} (ty : TypeId) (x : Operand) (dst : Option Tmp) (ho : opWants ops a i (.load ty x) dst) (p v : Value) (hx : a.eval x = p)
    (hl : (Instr.loadAt ty p).run P w = .ok v w) (hk : K (a.put dst v) w) : wpOp P ops Q i K a w := by
  refine opw_any ho (fun o h1 h2 => ?_)
  subst h2
  unfold Oper.wp execOp
  simp only [h1, hx, Sem.run_bind, hl, Result.andThen_ok]
  exact hk
theorem opw_store {i : Nat} {K : Act → World → Prop} {a : Act} {w w' : World} (ty : TypeId) (x y : Operand) (dst : Option Tmp) (ho : opWants ops a i (.store ty x y) dst) (p v : Value) (hx : a.eval x = p) (hy : a.eval y = v)
    (hl : (Instr.storeAt ty p v).run P w = .ok () w') (hk : K (a.put dst undef) w') : wpOp P ops Q i K a w := by
  refine opw_any ho (fun o h1 h2 => ?_)
  subst h2
  unfold Oper.wp execOp
  simp only [h1, hx, hy, Sem.run_bind, hl, Result.andThen_ok]
  exact hk
theorem opw_call {i : Nat} {K : Act → World → Prop} {a : Act} {w : World} (op : Op) (dst : Option Tmp) (ho : opWants ops a i op dst) (f : FuncId) (args : Array Value)
    (hrun : ∀ o : Oper, o.op = op → (execOp a.eval o).run P w = .ok (.enter f args) w) {R : Ending → World → Prop} (hc : Calls P f args w R)
    (hk : ∀ e w', R e w' → ∃ v, e = .returned v ∧ K (a.put dst v) w') : wpOp P ops Q i K a w := by
  refine opw_any ho (fun o h1 h2 => ?_)
  subst h2
  unfold Oper.wp
  rw [hrun o h1, Oper.upon_enter]
  refine hc.mono fun e w'' hh => ?_
  obtain ⟨v, rfl, hq⟩ := hk e w'' hh
  exact hq
/-- An operation that yields in whatever world is taken first. -/
theorem take_op {i : Nat} {fuel : Nat} {listed : Array Bool} {a : Act} {w : World} (op : Op) (dst : Option Tmp) (v : Value) (ho : opWants ops a i op dst)
    (hs : Region.noSelect ops = true) (hf : Region.free md ops listed i = true) (hr : (Region.ready md ops listed).contains i = true)
    (hQ : ∀ c a w, Q (.panic c) (a.put dst v) w → Q (.panic c) a w) (hy : ∀ o : Oper, o.op = op → ∀ w, (execOp a.eval o).run P w = .ok (.value v) w)
    (h : wpAny P md ops Q fuel (listed.setIfInBounds i true) (a.put dst v) w) : wpAny P md ops Q (fuel + 1) listed a w := by
  unfold opWants at ho
  cases hq : ops[i]? with
  | none => rw [hq] at ho; cases ho
  | some o =>
    rw [hq] at ho
    simp only [Option.map_some, Option.some.injEq, Prod.mk.injEq] at ho
    obtain ⟨h1, h2, rfl⟩ := ho
    exact wpAny_take (v := v) hq hs hf hr hQ (Or.inl ⟨h1, hy o h2⟩) h
end
theorem opw_new {ops : Array Oper} {Q : Exit → Act → World → Prop} {i : Nat} {K : Act → World → Prop} {a : Act} {w : World} (dst : Option Tmp) (ho : opWants ops a i (.alloc 143) dst)
    (hk : K (a.put dst (.pointer (some ⟨w.heap.size, 0, none⟩))) (w.alloc (.cells #[.int .i64 0, .int .u64 0] 143))) : wpOp Tryz.prog ops Q i K a w := by
  refine opw_any ho (fun o h1 h2 => ?_)
  subst h2
  unfold Oper.wp execOp
  simp only [h1]
  go_simp
  exact hk
theorem load_one (w : World) (b o : Nat) (y : Int) (h : w.cell? ⟨b, o, none⟩ = some (.int .i64 y)) : (Instr.loadAt 2 (.pointer (some ⟨b, o, none⟩))).run Tryz.prog w = .ok (.int .i64 y) w := by
  go_simp
/-- A pair of cells that may be written. -/
structure Pair (w : World) (b : Nat) (u v : Value) : Prop where
  hi : w.cell? ⟨b, 0, none⟩ = some u
  lo : w.cell? ⟨b, 1, none⟩ = some v
  fh : w.frozen? ⟨b, 0, none⟩ = false
  fl : w.frozen? ⟨b, 1, none⟩ = false
  size : b < w.heap.size
theorem Pair.stay {w w' : World} {b : Nat} {u v : Value} (h : Pair w b u v) (hb : Below w.heap.size w w') : Pair w' b u v :=
  ⟨(hb.cell (p := ⟨b, 0, none⟩) h.size).trans h.hi, (hb.cell (p := ⟨b, 1, none⟩) h.size).trans h.lo, (hb.frozen (p := ⟨b, 0, none⟩) h.size).trans h.fh, (hb.frozen (p := ⟨b, 1, none⟩) h.size).trans h.fl, Nat.lt_of_lt_of_le h.size hb.size⟩
theorem Pair.drew {w : World} {b : Nat} {u v : Value} (h : Pair w b u v) : Pair w.drew b u v := ⟨h.hi, h.lo, h.fh, h.fl, h.size⟩
theorem Pair.new (w : World) (u v : Value) (t : TypeId) : Pair (w.alloc (.cells #[u, v] t)) w.heap.size u v := by
  refine ⟨?_, ?_, ?_, ?_, ?_⟩ <;> simp
theorem load_pair (w : World) (b : Nat) (x y : Int) (h : Pair w b (.int .i64 x) (.int .u64 y)) : (Instr.loadAt 143 (.pointer (some ⟨b, 0, none⟩))).run Tryz.prog w = .ok (.agg #[.int .i64 x, .int .u64 y]) w := by
  have h1 := h.hi
  have h2 := h.lo
  go_simp
theorem store_pair (w : World) (b : Nat) (x y x' y' : Int) (h : Pair w b (.int .i64 x) (.int .u64 y)) : (Instr.storeAt 143 (.pointer (some ⟨b, 0, none⟩)) (.agg #[.int .i64 x', .int .u64 y'])).run Tryz.prog w =
    .ok () ((w.setCell ⟨b, 0, none⟩ (.int .i64 x')).setCell ⟨b, 1, none⟩ (.int .u64 y')) := by
  have h1 := h.hi
  have h2 := h.lo
  have h3 := h.fh
  have h4 := h.fl
  go_simp
theorem Pair.set {w : World} {b : Nat} {x y : Int} (h : Pair w b (.int .i64 x) (.int .u64 y)) (x' y' : Int) : Pair ((w.setCell ⟨b, 0, none⟩ (.int .i64 x')).setCell ⟨b, 1, none⟩ (.int .u64 y')) b (.int .i64 x') (.int .u64 y') := by
  have h1 := h.hi
  have h2 := h.lo
  have h3 := h.fh
  have h4 := h.fl
  have h5 := h.size
  exact ⟨by go_simp, by go_simp, by go_simp, by go_simp, by go_simp⟩
theorem bel_new {wr w : World} (h : Below wr.heap.size wr w) (o : Obj) : Below wr.heap.size wr (w.alloc o) := h.alloc h.size o
theorem bel_call {wr w w' : World} (h : Below wr.heap.size wr w) (hb : Below w.heap.size w w') : Below wr.heap.size wr w' := h.trans (hb.mono h.size)
theorem bel_set {wr w : World} {b : Nat} (h : Below wr.heap.size wr w) (hb : wr.heap.size ≤ b) (u v : Value) : Below wr.heap.size wr ((w.setCell ⟨b, 0, none⟩ u).setCell ⟨b, 1, none⟩ v) := (h.setCell hb _).setCell hb _
end Go.Proofs.YtafmakhhdinknaaGreatDoor
/- Contract of law 6's Name; words for its Make. -/
namespace Go.Proofs.YtafmakhhdinknaaGreatDoor
open Go.RowKit
set_option linter.unusedVariables false
set_option linter.unusedSimpArgs false
set_option maxRecDepth 100000 in
theorem lname_c (n : Nat) (w : World) : Calls Tryz.prog 105 #[.int .u8 (n : Int)] w fun e w' => e = .returned (.string (nm5 (n % 5))) ∧ Below w.heap.size w w' := by
  have h0 : (0 : Int) ≤ (n : Int) := by omega
  rcases (by omega : n % 5 = 0 ∨ n % 5 = 1 ∨ n % 5 = 2 ∨ n % 5 = 3 ∨ n % 5 = 4) with h | h | h | h | h
  · have e : (n : Int) % 5 = 0 := by omega
    rw [h]
    clear h
    simp only [nm5]
    go_enter Tryz.func105, Tryz.ntmps105
    go_wp2
    go_ret
    exact ⟨rfl, (Below.refl _ _).alloc (Nat.le_refl _) _⟩
  · have e : (n : Int) % 5 = 1 := by omega
    rw [h]
    clear h
    simp only [nm5]
    go_enter Tryz.func105, Tryz.ntmps105
    go_wp2
    go_ret
    exact ⟨rfl, (Below.refl _ _).alloc (Nat.le_refl _) _⟩
  · have e : (n : Int) % 5 = 2 := by omega
    rw [h]
    clear h
    simp only [nm5]
    go_enter Tryz.func105, Tryz.ntmps105
    go_wp2
    go_ret
    exact ⟨rfl, (Below.refl _ _).alloc (Nat.le_refl _) _⟩
  · have e : (n : Int) % 5 = 3 := by omega
    rw [h]
    clear h
    simp only [nm5]
    go_enter Tryz.func105, Tryz.ntmps105
    go_wp2
    go_ret
    exact ⟨rfl, (Below.refl _ _).alloc (Nat.le_refl _) _⟩
  · have e : (n : Int) % 5 = 4 := by omega
    rw [h]
    clear h
    simp only [nm5]
    go_enter Tryz.func105, Tryz.ntmps105
    go_wp2
    go_ret
    exact ⟨rfl, (Below.refl _ _).alloc (Nat.le_refl _) _⟩
/-- Four cells that may be written. -/
structure Box4 (w : World) (b : Nat) (c0 c1 c2 c3 : Value) : Prop where
  a0 : w.cell? ⟨b, 0, none⟩ = some c0
  a1 : w.cell? ⟨b, 1, none⟩ = some c1
  a2 : w.cell? ⟨b, 2, none⟩ = some c2
  a3 : w.cell? ⟨b, 3, none⟩ = some c3
  f0 : w.frozen? ⟨b, 0, none⟩ = false
  f1 : w.frozen? ⟨b, 1, none⟩ = false
  f2 : w.frozen? ⟨b, 2, none⟩ = false
  f3 : w.frozen? ⟨b, 3, none⟩ = false
  size : b < w.heap.size
theorem Box4.stay {w w' : World} {b : Nat} {c0 c1 c2 c3 : Value} (h : Box4 w b c0 c1 c2 c3) (hb : Below w.heap.size w w') : Box4 w' b c0 c1 c2 c3 :=
  ⟨(hb.cell (p := ⟨b, 0, none⟩) h.size).trans h.a0, (hb.cell (p := ⟨b, 1, none⟩) h.size).trans h.a1, (hb.cell (p := ⟨b, 2, none⟩) h.size).trans h.a2, (hb.cell (p := ⟨b, 3, none⟩) h.size).trans h.a3,
   (hb.frozen (p := ⟨b, 0, none⟩) h.size).trans h.f0, (hb.frozen (p := ⟨b, 1, none⟩) h.size).trans h.f1, (hb.frozen (p := ⟨b, 2, none⟩) h.size).trans h.f2, (hb.frozen (p := ⟨b, 3, none⟩) h.size).trans h.f3, Nat.lt_of_lt_of_le h.size hb.size⟩
theorem Box4.new (w : World) (c0 c1 c2 c3 : Value) (T : TypeId) : Box4 (w.alloc (.cells #[c0, c1, c2, c3] T)) w.heap.size c0 c1 c2 c3 := by
  refine ⟨box_cell w _ T 0 _ rfl, box_cell w _ T 1 _ rfl, box_cell w _ T 2 _ rfl, box_cell w _ T 3 _ rfl, ?_, ?_, ?_, ?_, ?_⟩ <;> simp
theorem Box4.of {B : Nat} {w0 w : World} (h : Below B w0 w) (c0 c1 c2 c3 : Value) (T : TypeId) : Box4 (w.alloc (.cells #[c0, c1, c2, c3] T)) w.heap.size c0 c1 c2 c3 := Box4.new w c0 c1 c2 c3 T
theorem Box4.set2 {w : World} {b : Nat} {c0 c1 c2 c3 : Value} (h : Box4 w b c0 c1 c2 c3) (u : Value) : Box4 (w.setCell ⟨b, 2, none⟩ u) b c0 c1 u c3 := by
  obtain ⟨h0, h1, h2, h3, f0, f1, f2, f3, h4⟩ := h
  exact ⟨by go_simp, by go_simp, by go_simp, by go_simp, by go_simp, by go_simp, by go_simp, by go_simp, by go_simp⟩
theorem Box4.set3 {w : World} {b : Nat} {c0 c1 c2 c3 : Value} (h : Box4 w b c0 c1 c2 c3) (u : Value) : Box4 (w.setCell ⟨b, 3, none⟩ u) b c0 c1 c2 u := by
  obtain ⟨h0, h1, h2, h3, f0, f1, f2, f3, h4⟩ := h
  exact ⟨by go_simp, by go_simp, by go_simp, by go_simp, by go_simp, by go_simp, by go_simp, by go_simp, by go_simp⟩
theorem Box4.drew {w : World} {b : Nat} {c0 c1 c2 c3 : Value} (h : Box4 w b c0 c1 c2 c3) : Box4 w.drew b c0 c1 c2 c3 := ⟨h.a0, h.a1, h.a2, h.a3, h.f0, h.f1, h.f2, h.f3, h.size⟩
theorem grownBy_set (w : World) (a : Addr) (u : Value) : w.grownBy (w.setCell a u) (some a.block) :=
  ⟨rfl, rfl, rfl, by simp, fun k hk hne => by
    have h : k ≠ a.block := fun e => hne (by rw [e])
    simp only [World.setCell, Array.getElem?_modify]
    rw [if_neg (fun e => h e.symm)]⟩
theorem owns_set_other {w : World} {base : Nat} {e : TypeId} {size : Nat} {v : Value} {n : Nat} {xs : List Value} (h : w.ownsRow base e size v n xs) (a : Addr) (u : Value) (hne : v.ownBlock ≠ some a.block) : (w.setCell a u).ownsRow base e size v n xs :=
  h.kept (grownBy_set w a u) (.inr hne)
theorem load_u8 (w : World) (b o : Nat) (y : Int) (h : w.cell? ⟨b, o, none⟩ = some (.int .u8 y)) : (Instr.loadAt 5 (.pointer (some ⟨b, o, none⟩))).run Tryz.prog w = .ok (.int .u8 y) w := by
  go_simp
theorem store_A {w : World} {b : Nat} {c0 c1 c2 c3 : Value} (h : Box4 w b c0 c1 c2 c3) (d e : Int) (s : ByteArray) (k : Int) : (Instr.storeAt 84 (.pointer (some ⟨b, 0, none⟩)) (.agg #[.int .u32 d, .string s, .int .u8 k, .int .u32 e])).run Tryz.prog w =
    .ok () ((((w.setCell ⟨b, 0, none⟩ (.int .u32 d)).setCell ⟨b, 1, none⟩ (.string s)).setCell ⟨b, 2, none⟩ (.int .u8 k)).setCell ⟨b, 3, none⟩ (.int .u32 e)) := by
  obtain ⟨h0, h1, h2, h3, f0, f1, f2, f3, h4⟩ := h
  go_simp
theorem Box4.sets {w : World} {b : Nat} {c0 c1 c2 c3 : Value} (h : Box4 w b c0 c1 c2 c3) (d0 d1 d2 d3 : Value) : Box4 ((((w.setCell ⟨b, 0, none⟩ d0).setCell ⟨b, 1, none⟩ d1).setCell ⟨b, 2, none⟩ d2).setCell ⟨b, 3, none⟩ d3) b d0 d1 d2 d3 := by
  obtain ⟨h0, h1, h2, h3, f0, f1, f2, f3, h4⟩ := h
  exact ⟨by go_simp, by go_simp, by go_simp, by go_simp, by go_simp, by go_simp, by go_simp, by go_simp, by go_simp⟩
theorem below_sets {B b : Nat} {w0 w : World} (h : Below B w0 w) (hb : B ≤ b) (d0 d1 d2 d3 : Value) : Below B w0 ((((w.setCell ⟨b, 0, none⟩ d0).setCell ⟨b, 1, none⟩ d1).setCell ⟨b, 2, none⟩ d2).setCell ⟨b, 3, none⟩ d3) :=
  (((h.setCell hb _).setCell hb _).setCell hb _).setCell hb _
theorem opw_newA {ops : Array Oper} {Q : Exit → Act → World → Prop} {i : Nat} {K : Act → World → Prop} {a : Act} {w : World} (dst : Option Tmp) (ho : opWants ops a i (.alloc 84) dst)
    (hk : K (a.put dst (.pointer (some ⟨w.heap.size, 0, none⟩))) (w.alloc (.cells #[.int .u32 0, .string ⟨#[]⟩, .int .u8 0, .int .u32 0] 84))) : wpOp Tryz.prog ops Q i K a w := by
  refine opw_any ho (fun o h1 h2 => ?_)
  subst h2
  unfold Oper.wp execOp
  simp only [h1]
  go_simp
  exact hk
theorem stI_len (l : List Qt) : ∀ i, i ≤ l.length → (stI l i).1.length = i
  | 0, _ => rfl
  | i + 1, hi => by
    have h := stI_len l i (by omega)
    have e : l[i]? = some (l[i]'(by omega)) := List.getElem?_eq_getElem (by omega)
    simp only [stI, e, List.length_append, List.length_cons, List.length_nil]
    omega
theorem stI_step {l : List Qt} {i : Nat} {x : Qt} (h : l[i]? = some x) : (stI l (i + 1)).1 = (stI l i).1 ++ [newA (stI l i).1 (stI l i).2 x] ∧ (stI l (i + 1)).2 = (stI l i).2 + 1 + x.code % 4 := by
  simp [stI, h]
theorem info35 : (Tryz.prog.info? 84).map (fun i => (i.zero, i.size, i.bytes)) = some (some (.agg #[.int .u32 0, .string ⟨#[]⟩, .int .u8 0, .int .u32 0]), 4, 32) := by kernel_rfl
end Go.Proofs.YtafmakhhdinknaaGreatDoor
/- Contract of slices.Clone at lines; the walk of law EntrySums. -/
namespace Go.Proofs.YtafmakhhdinknaaGreatDoor
open Go.RowKit
set_option linter.unusedVariables false
set_option linter.unusedSimpArgs false
theorem infoL : (Tryz.prog.info? 116).map (fun i => (i.zero, i.size, i.bytes)) = some (some (.agg #[.int .u32 0, .int .u16 0, .int .u16 0, .int .i64 0]), 4, 16) := by kernel_rfl
theorem field_hi9 (a b : Value) (w : World) : (Instr.field 143 (.agg #[a, b]) 0).run Tryz.prog w = .ok a w := by kernel_rfl
theorem field_lo9 (a b : Value) (w : World) : (Instr.field 143 (.agg #[a, b]) 1).run Tryz.prog w = .ok b w := by kernel_rfl
/-- A line whose entity is one of a few. -/
def fewE (few : Bool) (m : Nat) (hm : m ≠ 0) (x : Ln) : Ln := if few then { x with ent := ⟨x.ent.n % m, Nat.lt_of_le_of_lt (Nat.mod_le _ _) x.ent.h⟩ } else x
theorem at_splitL {α : Type} {xs : List α} {k : Nat} {x : α} (h : xs[k]? = some x) : ∃ A B, xs = A ++ x :: B ∧ A.length = k := by
  obtain ⟨hk, e⟩ := List.getElem?_eq_some_iff.1 h
  refine ⟨xs.take k, xs.drop (k + 1), ?_, by rw [List.length_take]; omega⟩
  have := (List.take_append_drop k xs).symm
  rwa [List.drop_eq_getElem_cons hk, e] at this
/-- One cell of a row of records turned. -/
theorem flat_setL {α : Type} {enc : α → List Value} {sz : Nat} (hk : ∀ x, (enc x).length = sz) {xs : List α} {k j : Nat} {x y : α} {u : Value} (h : xs[k]? = some x) (hj : j < sz) (hy : enc y = (enc x).set j u) : (xs.flatMap enc).set (k * sz + j) u = (xs.set k y).flatMap enc := by
  obtain ⟨A, B, rfl, hA⟩ := at_splitL h
  have hl : (A.flatMap enc).length = k * sz := by rw [flat_len hk, hA]
  rw [List.flatMap_append, List.flatMap_cons, List.set_append_right _ _ (by omega), hl, show k * sz + j - k * sz = j by omega, List.set_append_left _ _ (by rw [hk]; exact hj), ← hy]
  rw [List.set_append_right _ _ (by omega), hA, Nat.sub_self, List.set_cons_zero, List.flatMap_append, List.flatMap_cons]
theorem curL_at {α : Type} {c : List α} {k : Nat} {a : α} (g : α → α) (h : c[k]? = some a) : ((c.take k).map g ++ c.drop k)[k]? = some a := by
  obtain ⟨hk, e⟩ := List.getElem?_eq_some_iff.1 h
  rw [List.getElem?_append_right (by simp; omega)]
  simp
  rw [Nat.min_eq_left (by omega), Nat.sub_self, Nat.add_zero]
  exact h
theorem curL_step {α : Type} {c : List α} {k : Nat} {a : α} (g : α → α) (h : c[k]? = some a) : (c.take (k + 1)).map g ++ c.drop (k + 1) = ((c.take k).map g ++ c.drop k).set k (g a) := by
  obtain ⟨hk, e⟩ := List.getElem?_eq_some_iff.1 h
  rw [List.take_succ_eq_append_getElem hk, e, List.map_append, List.drop_eq_getElem_cons hk, e, List.set_append_right _ _ (by simp; omega)]
  simp
  rw [Nat.min_eq_left (by omega), Nat.sub_self, List.set_cons_zero]
theorem curL_id {α : Type} {c : List α} {k : Nat} : (c.take k).map id ++ c.drop k = c := by simp
theorem fewE_no (m : Nat) (hm : m ≠ 0) : fewE false m hm = id := by funext x; rfl
theorem fewE_cells (m : Nat) (hm : m ≠ 0) (x : Ln) : lc (fewE true m hm x) = (lc x).set 1 (.int .u16 ((x.ent.n % m : Nat) : Int)) := rfl
end Go.Proofs.YtafmakhhdinknaaGreatDoor
/- Contract of law 10's line. -/
namespace Go.Proofs.YtafmakhhdinknaaGreatDoor
open Go.RowKit
set_option linter.unusedVariables false
set_option linter.unusedSimpArgs false
theorem Box4.alloc {w : World} {b : Nat} {c0 c1 c2 c3 : Value} (h : Box4 w b c0 c1 c2 c3) (o : Obj) : Box4 (w.alloc o) b c0 c1 c2 c3 := h.stay ((Below.refl _ _).alloc (Nat.le_refl _) o)
theorem Box4.other {w : World} {b : Nat} {c0 c1 c2 c3 : Value} (h : Box4 w b c0 c1 c2 c3) (a : Addr) (hne : b ≠ a.block) (u : Value) : Box4 (w.setCell a u) b c0 c1 c2 c3 := by
  have e := Below.heap_setCell w a u b hne
  exact ⟨(World.cell?_of_block (a := ⟨b, 0, none⟩) e).trans h.a0, (World.cell?_of_block (a := ⟨b, 1, none⟩) e).trans h.a1, (World.cell?_of_block (a := ⟨b, 2, none⟩) e).trans h.a2, (World.cell?_of_block (a := ⟨b, 3, none⟩) e).trans h.a3,
    (World.frozen?_of_block (a := ⟨b, 0, none⟩) e).trans h.f0, (World.frozen?_of_block (a := ⟨b, 1, none⟩) e).trans h.f1, (World.frozen?_of_block (a := ⟨b, 2, none⟩) e).trans h.f2, (World.frozen?_of_block (a := ⟨b, 3, none⟩) e).trans h.f3, by simpa using h.size⟩
def smV (x : Sm) : Value := .agg #[.int .u8 (x.acc : Int), .int .u8 (x.ent : Int), .int .u8 (x.ctr : Int), .int .i64 x.amt]
theorem accAt_get {C : List Ac} {i : Nat} {a : Ac} (h : C[i % C.length]? = some a) : accAt C i = a := by
  unfold accAt
  rw [List.getD_eq_getElem?_getD, h]; rfl
theorem entAt_get {U : List Nat} {i n : Nat} (h : U[i % U.length]? = some n) (h6 : ∀ x ∈ U, x < 65536) : (entAt U i).n = n := by
  show U.getD (i % U.length) 0 % 65536 = n
  rw [List.getD_eq_getElem?_getD, h]
  exact Nat.mod_eq_of_lt (h6 n (List.mem_of_getElem? h))
theorem mod_int {i L p : Nat} (h : i % L = p) : (i : Int).tmod (L : Int) = (p : Int) ∧ (i : Int) % (L : Int) = (p : Int) := by
  rw [Int.tmod_eq_emod_of_nonneg (by omega), ← h]
  exact ⟨by omega, by omega⟩
theorem load_L {w : World} {b : Nat} {c0 c1 c2 c3 : Value} (h : Box4 w b c0 c1 c2 c3) (h0 : c0.oneCell' = true) (h1 : c1.oneCell' = true) (h2 : c2.oneCell' = true) (h3 : c3.oneCell' = true) : (Instr.loadAt 116 (.pointer (some ⟨b, 0, none⟩))).run Tryz.prog w = .ok (.agg #[c0, c1, c2, c3]) w := by
  obtain ⟨a0, a1, a2, a3, f0, f1, f2, f3, h4⟩ := h
  go_simp
theorem store_L {w : World} {b : Nat} {c0 c1 c2 c3 : Value} (h : Box4 w b c0 c1 c2 c3) (d e f : Int) (g : Int) : (Instr.storeAt 116 (.pointer (some ⟨b, 0, none⟩)) (.agg #[.int .u32 d, .int .u16 e, .int .u16 f, .int .i64 g])).run Tryz.prog w =
    .ok () ((((w.setCell ⟨b, 0, none⟩ (.int .u32 d)).setCell ⟨b, 1, none⟩ (.int .u16 e)).setCell ⟨b, 2, none⟩ (.int .u16 f)).setCell ⟨b, 3, none⟩ (.int .i64 g)) := by
  obtain ⟨a0, a1, a2, a3, f0, f1, f2, f3, h4⟩ := h
  go_simp
set_option maxHeartbeats 4000000 in
set_option maxRecDepth 100000 in
theorem line_c (f : Fr) (vC vU vS : Value) (x : Sm) (w : World) (hF : FrM f vC vU vS w) (hC : f.C ≠ []) (hU : f.U ≠ []) (h6 : ∀ x ∈ f.U, x < 65536) (hlC : f.C.length ≤ 1000) (hlU : f.U.length ≤ 1000) :
    Calls Tryz.prog 88 #[smV x, frV vC vU vS f.E] w fun e w' => e = .returned (lnV (lnF f.C f.U x)) ∧ Below w.heap.size w w' := by
  obtain ⟨hRC, hRU, _⟩ := hF
  have hC0 : 0 < f.C.length := List.length_pos_iff.2 hC
  have hU0 : 0 < f.U.length := List.length_pos_iff.2 hU
  obtain ⟨p, hp⟩ : ∃ p, x.acc % f.C.length = p := ⟨_, rfl⟩
  obtain ⟨q, hq⟩ : ∃ q, x.ent % f.U.length = q := ⟨_, rfl⟩
  obtain ⟨r, hr⟩ : ∃ r, x.ctr / 2 % f.U.length = r := ⟨_, rfl⟩
  have hpl : p < f.C.length := hp ▸ Nat.mod_lt _ hC0
  have hql : q < f.U.length := hq ▸ Nat.mod_lt _ hU0
  have hrl : r < f.U.length := hr ▸ Nat.mod_lt _ hU0
  obtain ⟨a, ha⟩ : ∃ a, f.C[p]? = some a := ⟨_, List.getElem?_eq_getElem hpl⟩
  obtain ⟨n, hn⟩ : ∃ n, f.U[q]? = some n := ⟨_, List.getElem?_eq_getElem hql⟩
  obtain ⟨m, hm⟩ : ∃ m, f.U[r]? = some m := ⟨_, List.getElem?_eq_getElem hrl⟩
  have hln : lnV (lnF f.C f.U x) = .agg #[.int .u32 (a.code : Int), .int .u16 (n : Int), .int .u16 ((if x.ctr % 2 = 1 then m else 0 : Nat) : Int), .int .i64 x.amt] := by
    have e1 := accAt_get (i := x.acc) (hp.symm ▸ ha)
    have e2 := entAt_get (i := x.ent) (hq.symm ▸ hn) h6
    have e3 := entAt_get (i := x.ctr / 2) (hr.symm ▸ hm) h6
    unfold lnV lnF
    simp only [e1, e2, e3]
  have HLN := Lib.hid hln
  clear hln
  obtain ⟨xa, xe, xc, am, ba, be, bc, bm⟩ := x
  simp only at hp hq hr HLN ⊢
  obtain ⟨p1, p2⟩ := mod_int hp
  obtain ⟨q1, q2⟩ := mod_int hq
  obtain ⟨r1, r2⟩ := mod_int hr
  obtain ⟨rC, capC, rfl, hmC⟩ := hRC.form
  obtain ⟨rU, capU, rfl, hmU⟩ := hRU.form
  obtain ⟨gC, oC, rfl, hgC, hcC⟩ := hRC.at ha
  obtain ⟨gU, oU, rfl, hgU, hcU⟩ := hRU.at hn
  have hcm : w.cell? ⟨gU, oU + r, none⟩ = some (.int .u16 (m : Int)) := by
    obtain ⟨g', o', e, _, h⟩ := hRU.at hm
    cases e
    simpa using h 0 _ rfl
  have c0 : w.cell? ⟨gC, oC + p * 4, none⟩ = some (.int .u32 (a.code : Int)) := hcC 0 _ rfl
  have u0 : w.cell? ⟨gU, oU + q, none⟩ = some (.int .u16 (n : Int)) := by
    have h := hcU 0 (.int .u16 (n : Int)) rfl
    simpa using h
  clear hcC hcU ha hn hm hp hq hr hRC hRU hC hU h6
  obtain ⟨LC, hLC⟩ : ∃ LC, f.C.length = LC := ⟨_, rfl⟩
  obtain ⟨LU, hLU⟩ : ∃ LU, f.U.length = LU := ⟨_, rfl⟩
  obtain ⟨EE, hEE⟩ : ∃ EE, f.E = EE := ⟨_, rfl⟩
  rw [hLC] at hC0 hpl p1 p2 hlC hmC ⊢
  rw [hLU] at hU0 hql hrl q1 q2 r1 r2 hlU hmU ⊢
  obtain ⟨c2, hc2⟩ : ∃ c2, (if xc % 2 = 1 then m else 0 : Nat) = c2 := ⟨_, rfl⟩
  rw [HLN.out, hEE, hc2]
  have HC2 := Lib.hid hc2
  clear HLN hLC hLU hEE hc2
  unfold smV frV
  go_enter Tryz.func88, Tryz.ntmps88
  go_upto_region 1 with fail
  have hb := (((Below.refl w.heap.size w).alloc (Nat.le_refl _) (.cells #[.int .u8 (xa : Int), .int .u8 (xe : Int), .int .u8 (xc : Int), .int .i64 am] 138)).alloc (by simp) (.cells #[.slice (some ⟨gC, oC, none⟩) LC capC, .slice (some ⟨gU, oU, none⟩) LU capU, vS, .int .i32 EE] 64)).alloc (by simp; omega) (.cells #[.int .u32 0, .int .u16 0, .int .u16 0, .int .i64 0] 116)
  have bx := ((Box4.new w (.int .u8 (xa : Int)) (.int .u8 (xe : Int)) (.int .u8 (xc : Int)) (.int .i64 am) 138).alloc (.cells #[.slice (some ⟨gC, oC, none⟩) LC capC, .slice (some ⟨gU, oU, none⟩) LU capU, vS, .int .i32 EE] 64)).alloc (.cells #[.int .u32 0, .int .u16 0, .int .u16 0, .int .i64 0] 116)
  have s1 : (w.alloc (.cells #[.int .u8 (xa : Int), .int .u8 (xe : Int), .int .u8 (xc : Int), .int .i64 am] 138)).heap.size = w.heap.size + 1 := by simp
  generalize w.alloc (.cells #[.int .u8 (xa : Int), .int .u8 (xe : Int), .int .u8 (xc : Int), .int .i64 am] 138) = w1 at hb bx s1 ⊢
  have bf := (Box4.new w1 (.slice (some ⟨gC, oC, none⟩) LC capC) (.slice (some ⟨gU, oU, none⟩) LU capU) vS (.int .i32 EE) 64).alloc (.cells #[.int .u32 0, .int .u16 0, .int .u16 0, .int .i64 0] 116)
  have s2 : (w1.alloc (.cells #[.slice (some ⟨gC, oC, none⟩) LC capC, .slice (some ⟨gU, oU, none⟩) LU capU, vS, .int .i32 EE] 64)).heap.size = w.heap.size + 1 + 1 := by simp; omega
  rw [s1] at bf
  generalize w1.alloc (.cells #[.slice (some ⟨gC, oC, none⟩) LC capC, .slice (some ⟨gU, oU, none⟩) LU capU, vS, .int .i32 EE] 64) = w2 at hb bx bf s2 ⊢
  have br := Box4.new w2 (.int .u32 0) (.int .u16 0) (.int .u16 0) (.int .i64 0) 116
  have s3 : (w2.alloc (.cells #[.int .u32 0, .int .u16 0, .int .u16 0, .int .i64 0] 116)).heap.size = w.heap.size + 3 := by simp; omega
  rw [s2] at br
  generalize w2.alloc (.cells #[.int .u32 0, .int .u16 0, .int .u16 0, .int .i64 0] 116) = W at hb bx bf br s3 ⊢
  have c0' : W.cell? ⟨gC, oC + p * 4, none⟩ = some (.int .u32 (a.code : Int)) := (hb.cell (p := ⟨gC, oC + p * 4, none⟩) hgC).trans c0
  have u0' : W.cell? ⟨gU, oU + q, none⟩ = some (.int .u16 (n : Int)) := (hb.cell (p := ⟨gU, oU + q, none⟩) hgU).trans u0
  have cm' : W.cell? ⟨gU, oU + r, none⟩ = some (.int .u16 (m : Int)) := (hb.cell (p := ⟨gU, oU + r, none⟩) hgU).trans hcm
  clear c0 u0 hcm s1 s2
  have hgC' : gC < W.heap.size := by omega
  have hgU' : gU < W.heap.size := by omega
  have hw1 : w.heap.size < W.heap.size := by omega
  have hw2 : w.heap.size + 1 < W.heap.size := by omega
  have hw3 : w.heap.size + 1 + 1 < W.heap.size := by omega
  have HZ := Lib.hid s3
  have HB := Lib.hid hb
  have BX := Lib.hid bx
  have BF := Lib.hid bf
  have BR := Lib.hid br
  clear s3 hb br
  have z1 : ¬ LC = 0 := by omega
  have z2 : ¬ LU = 0 := by omega
  have y1 : IntKind.i64.wrap (xa : Int) = (xa : Int) := by rw [IntKind.wrap_i64]; omega
  have y2 : IntKind.i64.wrap (xe : Int) = (xe : Int) := by rw [IntKind.wrap_i64]; omega
  have y3 : IntKind.i64.wrap (p : Int) = (p : Int) := by rw [IntKind.wrap_i64]; omega
  have y4 : IntKind.i64.wrap (q : Int) = (q : Int) := by rw [IntKind.wrap_i64]; omega
  have hmix : Tryz.prog.follows .mixedOrders = true := by kernel_rfl
  obtain ⟨l0, l1, l2, l3, _, _, _, _, _⟩ := bx
  obtain ⟨k0, k1, k2, k3, _, _, _, _, _⟩ := bf
  refine wp_region_new 27 26 [] (.pointer (some ⟨W.heap.size, 0, none⟩)) (W.drew.alloc (.cells #[.int .u32 0, .int .u16 0, .int .u16 0, .int .i64 0] 116)) hmix (by decide) (by omega) (by kernel_rfl) (by kernel_rfl) (by kernel_rfl) (by kernel_rfl) ?_
  · simp only [List.take_succ_cons, List.take_zero, List.drop_succ_cons, List.drop_zero]
    repeat (first | (refine two_skip rfl ?_) | (refine two_step rfl rfl (fun K hK => ?_); go_simp; refine hK _ ?_; clear hK K))
    refine two_nil ⟨fun o ho => by cases ho; left; go_simp, ?_⟩
    simp only [dstB, List.getElem?_cons_succ, List.getElem?_cons_zero, Option.bind_some]
    go_upto_region 2 with fail
    have by4 := (Box4.new W (.int .u32 (a.code : Int)) (.int .u16 (n : Int)) (.int .u16 0) (.int .i64 am) 116).drew
    have BX4 := Lib.hid (BX.out.alloc (.cells #[.int .u32 (a.code : Int), .int .u16 (n : Int), .int .u16 0, .int .i64 am] 116)).drew
    have BF4 := Lib.hid (BF.out.alloc (.cells #[.int .u32 (a.code : Int), .int .u16 (n : Int), .int .u16 0, .int .i64 am] 116)).drew
    have BR4 := Lib.hid (BR.out.alloc (.cells #[.int .u32 (a.code : Int), .int .u16 (n : Int), .int .u16 0, .int .i64 am] 116)).drew
    have b4 := (HB.out.alloc (by have := HZ.out; omega) (.cells #[.int .u32 (a.code : Int), .int .u16 (n : Int), .int .u16 0, .int .i64 am] 116)).drew
    have m4 : (W.alloc (.cells #[.int .u32 (a.code : Int), .int .u16 (n : Int), .int .u16 0, .int .i64 am] 116)).drew.cell? ⟨gU, oU + r, none⟩ = some (.int .u16 (m : Int)) := by go_simp
    clear c0' u0' cm' l0 l1 l2 l3 k0 k1 k2 k3 BX BF BR HB
    have hbw : w.heap.size + 1 + 1 ≠ W.heap.size := by omega
    have hbw2 : w.heap.size ≤ W.heap.size := by omega
    generalize (W.alloc (.cells #[.int .u32 (a.code : Int), .int .u16 (n : Int), .int .u16 0, .int .i64 am] 116)).drew = V at *
    generalize W.heap.size = Y at *
    obtain ⟨i0, i1, i2, i3, g0, g1, g2, g3, gs⟩ := by4
    have B4 := Lib.hid b4
    obtain ⟨e0, e1, e2, e3, _, _, _, _, _⟩ := BX4.out
    obtain ⟨o0, o1, o2, o3, o4, o5, o6, o7, _⟩ := BF4.out
    have BY := Lib.hid (show Box4 V Y (.int .u32 (a.code : Int)) (.int .u16 (n : Int)) (.int .u16 0) (.int .i64 am) from ⟨i0, i1, i2, i3, g0, g1, g2, g3, gs⟩)
    by_cases hxc : xc % 2 = 1
    · have d0 : (xc : Int).tmod 2 = 1 := by rw [Int.tmod_eq_emod_of_nonneg (by omega)]; omega
      have d1 : (xc : Int) % 2 = 1 := by omega
      have d2 : (xc : Int).tdiv 2 = ((xc / 2 : Nat) : Int) := by rw [Int.tdiv_eq_ediv_of_nonneg (by omega)]; omega
      obtain ⟨xh, hxh⟩ : ∃ xh, xc / 2 = xh := ⟨_, rfl⟩
      rw [hxh] at d2 r1 r2
      have w1 : IntKind.u8.wrap (xh : Int) = (xh : Int) := by rw [IntKind.wrap_u8]; omega
      have w2 : IntKind.i64.wrap (xh : Int) = (xh : Int) := by rw [IntKind.wrap_i64]; omega
      have w3 : IntKind.i64.wrap (r : Int) = (r : Int) := by rw [IntKind.wrap_i64]; omega
      have hc2 : c2 = m := by rw [← HC2.out, if_pos hxc]
      subst hc2
      have HX := Lib.hid (And.intro hxc hxh)
      clear hxc hxh
      obtain ⟨t0, t1, t2, t3, t4, t5, t6, t7, _⟩ := BR4.out
      go_upto_region 3 with fail
      go_still_tail 13, hmix
      go_wp2_with fail
      have hr := ((BR4.out.other ⟨Y, 2, none⟩ hbw (.int .u16 (c2 : Int))).sets (.int .u32 (a.code : Int)) (.int .u16 (n : Int)) (.int .u16 (c2 : Int)) (.int .i64 am)).drew
      have hbf := (below_sets (B4.out.setCell (p := ⟨Y, 2, none⟩) hbw2 (.int .u16 (c2 : Int))) (b := w.heap.size + 1 + 1) (by omega) (.int .u32 (a.code : Int)) (.int .u16 (n : Int)) (.int .u16 (c2 : Int)) (.int .i64 am)).drew
      obtain ⟨x0, x1, x2, x3, _, _, _, _, _⟩ := hr
      refine bodyPost_ret (v := .agg #[.int .u32 (a.code : Int), .int .u16 (n : Int), .int .u16 (c2 : Int), .int .i64 am]) (by simp [results, Tryz.results88, go_sem, x0, x1, x2, x3]) rfl ?_
      exact ⟨rfl, hbf⟩
    · have d0 : (xc : Int).tmod 2 = 0 := by rw [Int.tmod_eq_emod_of_nonneg (by omega)]; omega
      have d1 : (xc : Int) % 2 = 0 := by omega
      have hc2 : c2 = 0 := by rw [← HC2.out, if_neg hxc]
      subst hc2
      obtain ⟨t0, t1, t2, t3, t4, t5, t6, t7, _⟩ := BR4.out
      clear hxc
      go_wp2_with fail
      have hr := BR4.out.sets (.int .u32 (a.code : Int)) (.int .u16 (n : Int)) (.int .u16 0) (.int .i64 am)
      have hbf := below_sets B4.out (b := w.heap.size + 1 + 1) (by omega) (.int .u32 (a.code : Int)) (.int .u16 (n : Int)) (.int .u16 0) (.int .i64 am)
      obtain ⟨x0, x1, x2, x3, _, _, _, _, _⟩ := hr
      refine bodyPost_ret (v := .agg #[.int .u32 (a.code : Int), .int .u16 (n : Int), .int .u16 0, .int .i64 am]) (by simp [results, Tryz.results88, go_sem, x0, x1, x2, x3]) rfl ?_
      exact ⟨rfl, hbf⟩
end Go.Proofs.YtafmakhhdinknaaGreatDoor
/- Contract of law 10's lines: lines by small numbers, and behind them what makes them sum to nothing. -/
namespace Go.Proofs.YtafmakhhdinknaaGreatDoor
open Go.RowKit
set_option linter.unusedVariables false
set_option linter.unusedSimpArgs false
theorem zero_a (w : World) : (zeroValue 2).run Tryz.prog w = .ok (.int .i64 0) w := by kernel_rfl
theorem map_a : MapT Tryz.prog 136 87 2 ec (Value.int .i64) 0 := ⟨law_e, Tryz.underlying136, ec_key, ec_inj, zero_a⟩
theorem Box4.grown {w w' : World} {b : Nat} {c0 c1 c2 c3 : Value} {row : Option Nat} (h : Box4 w b c0 c1 c2 c3) (hg : w.grownBy w' row) (hne : some b ≠ row) : Box4 w' b c0 c1 c2 c3 := by
  have e := hg.block b h.size hne
  exact ⟨(World.cell?_of_block (a := ⟨b, 0, none⟩) e).trans h.a0, (World.cell?_of_block (a := ⟨b, 1, none⟩) e).trans h.a1, (World.cell?_of_block (a := ⟨b, 2, none⟩) e).trans h.a2, (World.cell?_of_block (a := ⟨b, 3, none⟩) e).trans h.a3,
    (World.frozen?_of_block (a := ⟨b, 0, none⟩) e).trans h.f0, (World.frozen?_of_block (a := ⟨b, 1, none⟩) e).trans h.f1, (World.frozen?_of_block (a := ⟨b, 2, none⟩) e).trans h.f2, (World.frozen?_of_block (a := ⟨b, 3, none⟩) e).trans h.f3, Nat.lt_of_lt_of_le h.size hg.size⟩
theorem Recs.cellsS {w : World} {g off i : Nat} {x : Sm} (h : ∀ j u, (smc x)[j]? = some u → w.cell? ⟨g, off + i * 4 + j, none⟩ = some u) :
    w.cell? ⟨g, off + i * 4, none⟩ = some (.int .u8 (x.acc : Int)) ∧ w.cell? ⟨g, off + i * 4 + 1, none⟩ = some (.int .u8 (x.ent : Int)) ∧ w.cell? ⟨g, off + i * 4 + 2, none⟩ = some (.int .u8 (x.ctr : Int)) ∧ w.cell? ⟨g, off + i * 4 + 3, none⟩ = some (.int .i64 x.amt) :=
  ⟨h 0 _ rfl, h 1 _ rfl, h 2 _ rfl, h 3 _ rfl⟩
theorem lnV_cells (l : Ln) : lnV l = .agg #[.int .u32 (l.acc : Int), .int .u16 (l.ent.n : Int), .int .u16 (l.ctr : Int), .int .i64 l.amt] := rfl
theorem sumE_small {C : List Ac} {U : List Nat} (xs : List Sm) (n : En) (h : xs.length ≤ 8) : -2305843009213693952 ≤ (sumE (xs.map (lnA C U)) n).getD 0 ∧ (sumE (xs.map (lnA C U)) n).getD 0 ≤ 2305843009213693952 := by
  have := sumZ_small 288230376151711744 (by omega) (xs.map (lnA C U)) n (fun x hx => by
    obtain ⟨y, _, rfl⟩ := List.mem_map.1 hx
    have := amtF_in y.amt
    show -288230376151711744 ≤ amtF y.amt ∧ amtF y.amt ≤ 288230376151711744
    omega)
  rw [List.length_map] at this
  unfold sumZ at this
  omega
theorem owns_below {w w' : World} {base : Nat} {e : TypeId} {size : Nat} {v : Value} {n : Nat} {xs : List Value} (h : w.ownsRow base e size v n xs) (hb : Below w.heap.size w w') : w'.ownsRow base e size v n xs :=
  h.kept (row := none) ⟨hb.os, hb.tape, hb.output, hb.size, fun k hk _ => hb.block k hk⟩ (by
    cases hv : v.ownBlock with
    | none => exact .inl rfl
    | some k => exact .inr (by simp))
theorem owns_far {w : World} {base : Nat} {e : TypeId} {size : Nat} {r : Option Addr} {n cap m : Nat} {xs : List Value} (h : w.ownsRow base e size (.slice r n cap) n xs) (hm : m < base ∨ w.heap.size ≤ m) : (Value.slice r n cap).ownBlock ≠ some m := fun e => by
  have := h.lt m e
  omega
set_option maxHeartbeats 4000000 in
set_option maxRecDepth 100000 in
theorem lines_c (f : Fr) (vC vU vS vL : Value) (xs : List Sm) (lt : Int) (w : World) (hF : FrM f vC vU vS w) (hC : f.C ≠ []) (hU : f.U ≠ []) (h6 : ∀ x ∈ f.U, x < 65536) (hlC : f.C.length ≤ 1000) (hlU : f.U.length ≤ 1000) (hR : Recs smc 4 w vL xs) (h8 : xs.length ≤ 8) :
    Calls Tryz.prog 71 #[.agg #[.int .u8 lt, vL], frV vC vU vS f.E] w fun e w' => ∃ v, e = .returned v ∧ w'.ownsRow w.heap.size 116 4 v (linesB f.C f.U xs).length ((linesB f.C f.U xs).flatMap lc) ∧ Below w.heap.size w w' := by
  obtain ⟨i0, hi, hz0, hz1, hz2⟩ := info_parts infoL
  obtain ⟨r0, cap0, rfl, hm⟩ := hR.form
  have HR := Lib.hid hR
  have HF := Lib.hid hF
  obtain ⟨L, hL⟩ : ∃ L, xs.length = L := ⟨_, rfl⟩
  have HL := Lib.hid hL
  rw [hL] at HR hm h8 ⊢
  have KL := Lib.hid (fun (x : Sm) (w' : World) (h : FrM f vC vU vS w') => line_c f vC vU vS x w' h hC hU h6 hlC hlU)
  have H6 := Lib.hid (And.intro hC (And.intro hU h6))
  have hmix : Tryz.prog.follows .mixedOrders = true := by kernel_rfl
  have hmm := @run_makeMap Tryz.prog
  obtain ⟨EE, hEE⟩ : ∃ EE, f.E = EE := ⟨_, rfl⟩
  unfold frV at KL ⊢
  rw [hEE] at KL ⊢
  clear hR hL hF hC hU h6 hEE
  go_enter Tryz.func71, Tryz.ntmps71
  go_upto_region 3 with fail
  have hb := (((Below.refl w.heap.size w).alloc (Nat.le_refl _) (.cells #[.int .u8 lt, .slice r0 L cap0] 121)).alloc (by simp) (.cells #[vC, vU, vS, .int .i32 EE] 64)).alloc (by simp; omega) (.map #[] 0)
  have bj := ((Box2.new w (.int .u8 lt) (.slice r0 L cap0) 121).alloc (.cells #[vC, vU, vS, .int .i32 EE] 64)).alloc (.map #[] 0)
  have s1 : (w.alloc (.cells #[.int .u8 lt, .slice r0 L cap0] 121)).heap.size = w.heap.size + 1 := by simp
  generalize w.alloc (.cells #[.int .u8 lt, .slice r0 L cap0] 121) = w1 at hb bj s1 ⊢
  have bf := (Box4.new w1 vC vU vS (.int .i32 EE) 64).alloc (.map #[] 0)
  have s2 : (w1.alloc (.cells #[vC, vU, vS, .int .i32 EE] 64)).heap.size = w.heap.size + 1 + 1 := by simp; omega
  rw [s1] at bf
  generalize w1.alloc (.cells #[vC, vU, vS, .int .i32 EE] 64) = w2 at hb bj bf s2 ⊢
  have hM0 : MapOf ec (Value.int .i64) w2.heap.size ([] : List (En × Int)) (w2.alloc (.map #[] 0)) := MapOf.made w2
  have s3 : (w2.alloc (.map #[] 0)).heap.size = w.heap.size + 1 + 1 + 1 := by simp; omega
  rw [s2] at hM0
  generalize w2.alloc (.map #[] 0) = W at hb bj bf hM0 s3 ⊢
  obtain ⟨j0, j1, _, _, _⟩ := bj
  have HB0 := Lib.hid hb
  have HF0 := Lib.hid bf
  have HM0 := Lib.hid hM0
  have HS := Lib.hid s3
  clear hb bf hM0 s1 s2 s3 hmm
  go_wp2_with fail
  go_loopw [5, 16] (fun s i wr => ∃ (k : Nat) (M : List (En × Int)) (r : Option Addr) (cap : Nat), i = .int .i64 k ∧ k ≤ L ∧ s = .slice r k cap ∧ Hid (wr.ownsRow (w.heap.size + 1 + 1 + 1) 116 4 (.slice r k cap) k (((xs.take k).map (lnA f.C f.U)).flatMap lc)) ∧ Hid (MapOf ec (Value.int .i64) (w.heap.size + 1 + 1) M wr) ∧ Hid (∀ n, getK M n = sumE ((xs.take k).map (lnA f.C f.U)) n) ∧ Hid (Box4 wr (w.heap.size + 1) vC vU vS (.int .i32 EE)) ∧ Hid (Below w.heap.size w wr) ∧ Hid (w.heap.size + 1 + 1 + 1 ≤ wr.heap.size)) (fun _ i _ => L - (intOf i).toNat)
  case atStart => exact ⟨0, [], none, 0, rfl, Nat.zero_le _, rfl, Lib.hid (World.ownsRow_nil _ _ _ _), HM0, Lib.hid (fun n => rfl), HF0, HB0, Lib.hid (by have := HS.out; omega)⟩
  case round =>
    clear HM0 HF0 HB0 HS j0 j1
    obtain ⟨k, M, r, cap, rfl, hk, rfl, HO, HM, HG, HFB, HB, HZ⟩ := hrel
    rename World => wr
    by_cases hlt : k < L
    · obtain ⟨x, hx⟩ : ∃ x, xs[k]? = some x := ⟨xs[k]'(by have := HL.out; omega), List.getElem?_eq_getElem (by have := HL.out; omega)⟩
      have hBw : Below w.heap.size w wr := HB.out
      obtain ⟨g, off, rfl, hg, hc⟩ := (HR.out.stay hBw).at hx
      obtain ⟨c0, c1, c2, c3⟩ := Recs.cellsS hc
      have HX := Lib.hid hx
      clear hc hx
      obtain ⟨p0, p1, p2, p3, p4, p5, p6, p7, p8⟩ := HFB.out
      have b1 := Box4.new wr (.int .u8 (x.acc : Int)) (.int .u8 (x.ent : Int)) (.int .u8 (x.ctr : Int)) (.int .i64 x.amt) 138
      have HF1 := Lib.hid (HFB.out.alloc (.cells #[.int .u8 (x.acc : Int), .int .u8 (x.ent : Int), .int .u8 (x.ctr : Int), .int .i64 x.amt] 138))
      have HB1 := Lib.hid (HB.out.alloc (by have := HZ.out; omega) (.cells #[.int .u8 (x.acc : Int), .int .u8 (x.ent : Int), .int .u8 (x.ctr : Int), .int .i64 x.amt] 138))
      have HN1 := Lib.hid ((Below.refl wr.heap.size wr).alloc (Nat.le_refl _) (.cells #[.int .u8 (x.acc : Int), .int .u8 (x.ent : Int), .int .u8 (x.ctr : Int), .int .i64 x.amt] 138))
      go_upto_region 6 with fail
      generalize wr.alloc (.cells #[.int .u8 (x.acc : Int), .int .u8 (x.ent : Int), .int .u8 (x.ctr : Int), .int .i64 x.amt] 138) = W1 at *
      obtain ⟨q0, q1, q2, q3, _, _, _, _, _⟩ := b1
      obtain ⟨f0, f1, f2, f3, _, _, _, _, _⟩ := HF1.out
      have K1 := KL.out x W1 (HF.out.stay HB1.out)
      unfold smV at K1
      obtain ⟨l, hl⟩ : ∃ l, lnF f.C f.U x = l := ⟨_, rfl⟩
      rw [hl, lnV_cells] at K1
      have HLN : Hid (l.amt = x.amt ∧ lc (lnA f.C f.U x) = [.int .u32 (l.acc : Int), .int .u16 (l.ent.n : Int), .int .u16 (l.ctr : Int), .int .i64 (amtF x.amt)] ∧ (lnA f.C f.U x).ent = l.ent ∧ (lnA f.C f.U x).amt = amtF x.amt) := Lib.hid (by subst hl; exact ⟨rfl, rfl, rfl, rfl⟩)
      have K1 := Lib.hid K1
      have hlm := l.hm
      clear hl p0 p1 p2 p3 p4 p5 p6 p7 p8
      go_upto_region 7 with (go_at_call 88; refine K1.out.mono ?_; rintro e w2 ⟨rfl, hb2⟩; have HB2 := Lib.hid hb2; clear hb2)
      have BY := Lib.hid (Box4.new w2 (.int .u32 (l.acc : Int)) (.int .u16 (l.ent.n : Int)) (.int .u16 (l.ctr : Int)) (.int .i64 l.amt) 116)
      have HN3 := Lib.hid ((HN1.out.trans (HB2.out.mono HN1.out.size)).alloc (Nat.le_trans HN1.out.size HB2.out.size) (.cells #[.int .u32 (l.acc : Int), .int .u16 (l.ent.n : Int), .int .u16 (l.ctr : Int), .int .i64 l.amt] 116))
      have hYr : wr.heap.size ≤ w2.heap.size := Nat.le_trans HN1.out.size HB2.out.size
      generalize w2.alloc (.cells #[.int .u32 (l.acc : Int), .int .u16 (l.ent.n : Int), .int .u16 (l.ctr : Int), .int .i64 l.amt] 116) = W3 at *
      generalize w2.heap.size = Y at *
      clear q0 q1 q2 q3 f0 f1 f2 f3
      obtain ⟨y0, y1, y2, y3, y4, y5, y6, y7, y8⟩ := BY.out
      have hla := HLN.out.1
      rw [hla] at y3
      obtain ⟨am, ham⟩ : ∃ am, x.amt = am := ⟨_, rfl⟩
      obtain ⟨a2, ha2⟩ : ∃ a2, amtF am = a2 := ⟨_, rfl⟩
      have HAM := Lib.hid (And.intro ham ha2)
      rw [ham] at y3
      obtain ⟨s, hs⟩ : ∃ s, (getK M l.ent).getD 0 = s := ⟨_, rfl⟩
      have hsb : -2305843009213693952 ≤ s ∧ s ≤ 2305843009213693952 := by rw [← hs, HG.out]; exact sumE_small _ _ (by rw [List.length_take]; omega)
      have ha2b : -288230376151711744 < a2 ∧ a2 < 288230376151711744 := by rw [← ha2]; exact (amtF_in am).2
      have hwr : IntKind.i64.wrap (s + a2) = s + a2 := by rw [IntKind.wrap_i64]; omega
      have HS := Lib.hid hs
      have HO3 := Lib.hid (owns_below HO.out HN3.out)
      have HM3 := Lib.hid (HM.out.below HN3.out HM.out.lt)
      have HF3 := Lib.hid (HFB.out.stay HN3.out)
      have HB3 := Lib.hid (HB.out.trans (HN3.out.mono HB.out.size))
      have hZ := HZ.out
      have hfarY := owns_far HO.out (m := Y) (.inr hYr)
      have HZ3 := Lib.hid (Nat.le_trans hZ HN3.out.size)
      have HOF := Lib.hid hfarY
      clear ham hs hfarY hsb hla
      by_cases h0 : am.tmod 288230376151711744 = 0
      case pos =>
        have e2 : a2 = 1 := by rw [← ha2]; unfold amtF; rw [if_pos h0]
        have w0 : IntKind.i64.wrap (am.tmod 288230376151711744) = 0 := by rw [h0]; rfl
        clear ha2 ha2b
        subst e2
        go_upto_region 10 with fail
        have BY4 : Box4 ((W3.setCell ⟨Y, 3, none⟩ (.int .i64 0)).setCell ⟨Y, 3, none⟩ (.int .i64 1)) Y (.int .u32 (l.acc : Int)) (.int .u16 (l.ent.n : Int)) (.int .u16 (l.ctr : Int)) (.int .i64 1) := ((Box4.set3 ⟨y0, y1, y2, y3, y4, y5, y6, y7, y8⟩ _).set3 _)
        have G4 : W3.grownBy ((W3.setCell ⟨Y, 3, none⟩ (.int .i64 0)).setCell ⟨Y, 3, none⟩ (.int .i64 1)) (some Y) := (grownBy_set W3 ⟨Y, 3, none⟩ _).trans (grownBy_set _ ⟨Y, 3, none⟩ _)
        have HF4 := Lib.hid (HF3.out.grown G4 (by intro h; have := Option.some.inj h; have := hZ; omega))
        have HO4 := Lib.hid (HO3.out.kept G4 (.inr HOF.out))
        have HM4 := Lib.hid (HM3.out.same (G4.block (w.heap.size + 1 + 1) HM3.out.lt (by intro h; have := Option.some.inj h; omega)))
        have HB4 := Lib.hid (HB3.out.grown G4 HB3.out.size (fun j hj => by cases hj; omega))
        have HZ4 := Lib.hid (Nat.le_trans HZ3.out G4.size)
        have HY4 := Lib.hid BY4
        clear G4 y0 y1 y2 y3 y4 y5 y6 y7 y8 HF3 HO3 HM3 HB3 HZ3 BY
        generalize ((W3.setCell ⟨Y, 3, none⟩ (.int .i64 0)).setCell ⟨Y, 3, none⟩ (.int .i64 1)) = W4 at *
        obtain ⟨y0, y1, y2, y3, y4, y5, y6, y7, y8⟩ := BY4
        go_wp2_with (at_builtin; refine wpList_append_own_at _ rfl (.tmp 31) (.tmp 33) 92 rfl (w.heap.size + 1 + 1 + 1) 116 i0 _ 4 16 Tryz.underlying92 hi hz0 hz1 hz2 rfl (by decide) _ k _ rfl (HO4.out.alloc _) ⟨_, 0, none⟩ 1 1 [.int .u32 (l.acc : Int), .int .u16 (l.ent.n : Int), .int .u16 (l.ctr : Int), .int .i64 1] rfl rfl (cells_new _ [.int .u32 (l.acc : Int), .int .u16 (l.ent.n : Int), .int .u16 (l.ctr : Int), .int .i64 1] _) (fun v hv => by simp at hv; rcases hv with rfl | rfl | rfl | rfl <;> rfl) (by unfold maxLen; omega) (by omega) (by simp; have := HZ4.out; omega) ?_; intro v5 w5 hown5 hgrow5 _ hat5; have hs4 : (W4.alloc (.cells #[.int .u32 (l.acc : Int), .int .u16 (l.ent.n : Int), .int .u16 (l.ctr : Int), .int .i64 1] 116)).heap.size = W4.heap.size + 1 := by simp
                     have HM5 := Lib.hid ((HM4.out.below ((Below.refl W4.heap.size W4).alloc (Nat.le_refl _) (.cells #[.int .u32 (l.acc : Int), .int .u16 (l.ent.n : Int), .int .u16 (l.ctr : Int), .int .i64 1] 116)) HM4.out.lt).same (hgrow5.block (w.heap.size + 1 + 1) (by have := HM4.out.lt; omega) (fun h => owns_far HO4.out (m := w.heap.size + 1 + 1) (.inl (by omega)) h.symm)))
                     have HF5 := Lib.hid ((HF4.out.alloc (.cells #[.int .u32 (l.acc : Int), .int .u16 (l.ent.n : Int), .int .u16 (l.ctr : Int), .int .i64 1] 116)).grown hgrow5 (fun h => owns_far HO4.out (m := w.heap.size + 1) (.inl (by omega)) h.symm))
                     have HB5 := Lib.hid ((HB4.out.alloc (by have := HZ4.out; omega) (.cells #[.int .u32 (l.acc : Int), .int .u16 (l.ent.n : Int), .int .u16 (l.ctr : Int), .int .i64 1] 116)).grown hgrow5 (by have := HZ4.out; omega) (fun j hj => by have := HO4.out.lt j hj; omega))
                     have HZ5 := Lib.hid (Nat.le_trans (by have := HZ4.out; omega : w.heap.size + 1 + 1 + 1 ≤ (W4.alloc (.cells #[.int .u32 (l.acc : Int), .int .u16 (l.ent.n : Int), .int .u16 (l.ctr : Int), .int .i64 1] 116)).heap.size) hgrow5.size)
                     have hy5 := (HY4.out.alloc (.cells #[.int .u32 (l.acc : Int), .int .u16 (l.ent.n : Int), .int .u16 (l.ctr : Int), .int .i64 1] 116)).grown hgrow5 (fun h => HOF.out h.symm)
                     have HO5 := Lib.hid hown5
                     obtain ⟨r5, cap5, rfl⟩ := owns_form hown5
                     have HFM := Lib.hid (owns_far hown5 (m := w.heap.size + 1 + 1) (.inl (by omega)))
                     have hlk := HM5.out.look map_a l.ent false
                     simp only [Bool.false_eq_true, if_false] at hlk
                     rw [HS.out] at hlk
                     obtain ⟨w6, hrun, hM6, hg6, hs6⟩ := HM5.out.store map_a l.ent (s + 1)
                     unfold ec at hlk hrun
                     have HM6 := Lib.hid hM6
                     have HG6 := Lib.hid hg6
                     obtain ⟨u0, u1, u2, u3, _, _, _, _, _⟩ := hy5
                     clear hgrow5 hown5 hat5 hM6 hg6 hs6 hs4)
        go_roundw
        case rel =>
          have hst := sumE_step (ls := xs.map (lnA f.C f.U)) (k := k) (x := lnA f.C f.U x) (by rw [List.getElem?_map, HX.out]; rfl)
          have hcl : lc (lnA f.C f.U x) = [.int .u32 (l.acc : Int), .int .u16 (l.ent.n : Int), .int .u16 (l.ctr : Int), .int .i64 1] := by rw [HLN.out.2.1, HAM.out.1, HAM.out.2]
          have hae : (lnA f.C f.U x).amt = 1 := by rw [HLN.out.2.2.2, HAM.out.1, HAM.out.2]
          refine ⟨k + 1, putK M l.ent (s + 1), r5, cap5, by go_num, by omega, rfl, Lib.hid ?_, HM6, Lib.hid (fun n => ?_), Lib.hid (HF5.out.grown HG6.out (by intro h; have := Option.some.inj h; omega)), Lib.hid (HB5.out.grown HG6.out HB5.out.size (fun j hj => by cases hj; omega)), Lib.hid (Nat.le_trans HZ5.out HG6.out.size)⟩
          · have e : ((xs.take (k + 1)).map (lnA f.C f.U)).flatMap lc = ((xs.take k).map (lnA f.C f.U)).flatMap lc ++ [.int .u32 (l.acc : Int), .int .u16 (l.ent.n : Int), .int .u16 (l.ctr : Int), .int .i64 1] := by
              rw [List.take_add_one, HX.out, ← hcl]
              simp
            rw [e]
            exact HO5.out.kept HG6.out (.inr HFM.out)
          · rw [List.map_take, hst, HLN.out.2.2.1, hae, getK_putK, ← List.map_take, ← HG.out]
            by_cases h : l.ent = n
            · subst h; rw [HS.out]
            · rw [if_neg h, if_neg h]
        case measure => simp [intOf]; omega
      case neg =>
        have e2 : am.tmod 288230376151711744 = a2 := by rw [← ha2]; unfold amtF; rw [if_neg h0]
        have e3 : ¬ a2 = 0 := by rw [← e2]; exact h0
        have w0 : IntKind.i64.wrap a2 = a2 := by rw [IntKind.wrap_i64]; omega
        clear ha2 ha2b h0
        go_upto_region 10 with fail
        have BY4 : Box4 (W3.setCell ⟨Y, 3, none⟩ (.int .i64 a2)) Y (.int .u32 (l.acc : Int)) (.int .u16 (l.ent.n : Int)) (.int .u16 (l.ctr : Int)) (.int .i64 a2) := Box4.set3 ⟨y0, y1, y2, y3, y4, y5, y6, y7, y8⟩ _
        have G4 : W3.grownBy (W3.setCell ⟨Y, 3, none⟩ (.int .i64 a2)) (some Y) := grownBy_set W3 ⟨Y, 3, none⟩ _
        have HF4 := Lib.hid (HF3.out.grown G4 (by intro h; have := Option.some.inj h; have := hZ; omega))
        have HO4 := Lib.hid (HO3.out.kept G4 (.inr HOF.out))
        have HM4 := Lib.hid (HM3.out.same (G4.block (w.heap.size + 1 + 1) HM3.out.lt (by intro h; have := Option.some.inj h; omega)))
        have HB4 := Lib.hid (HB3.out.grown G4 HB3.out.size (fun j hj => by cases hj; omega))
        have HZ4 := Lib.hid (Nat.le_trans HZ3.out G4.size)
        have HY4 := Lib.hid BY4
        clear G4 y0 y1 y2 y3 y4 y5 y6 y7 y8 HF3 HO3 HM3 HB3 HZ3 BY
        generalize (W3.setCell ⟨Y, 3, none⟩ (.int .i64 a2)) = W4 at *
        obtain ⟨y0, y1, y2, y3, y4, y5, y6, y7, y8⟩ := BY4
        go_wp2_with (at_builtin; refine wpList_append_own_at _ rfl (.tmp 31) (.tmp 33) 92 rfl (w.heap.size + 1 + 1 + 1) 116 i0 _ 4 16 Tryz.underlying92 hi hz0 hz1 hz2 rfl (by decide) _ k _ rfl (HO4.out.alloc _) ⟨_, 0, none⟩ 1 1 [.int .u32 (l.acc : Int), .int .u16 (l.ent.n : Int), .int .u16 (l.ctr : Int), .int .i64 a2] rfl rfl (cells_new _ [.int .u32 (l.acc : Int), .int .u16 (l.ent.n : Int), .int .u16 (l.ctr : Int), .int .i64 a2] _) (fun v hv => by simp at hv; rcases hv with rfl | rfl | rfl | rfl <;> rfl) (by unfold maxLen; omega) (by omega) (by simp; have := HZ4.out; omega) ?_; intro v5 w5 hown5 hgrow5 _ hat5; have hs4 : (W4.alloc (.cells #[.int .u32 (l.acc : Int), .int .u16 (l.ent.n : Int), .int .u16 (l.ctr : Int), .int .i64 a2] 116)).heap.size = W4.heap.size + 1 := by simp
                     have HM5 := Lib.hid ((HM4.out.below ((Below.refl W4.heap.size W4).alloc (Nat.le_refl _) (.cells #[.int .u32 (l.acc : Int), .int .u16 (l.ent.n : Int), .int .u16 (l.ctr : Int), .int .i64 a2] 116)) HM4.out.lt).same (hgrow5.block (w.heap.size + 1 + 1) (by have := HM4.out.lt; omega) (fun h => owns_far HO4.out (m := w.heap.size + 1 + 1) (.inl (by omega)) h.symm)))
                     have HF5 := Lib.hid ((HF4.out.alloc (.cells #[.int .u32 (l.acc : Int), .int .u16 (l.ent.n : Int), .int .u16 (l.ctr : Int), .int .i64 a2] 116)).grown hgrow5 (fun h => owns_far HO4.out (m := w.heap.size + 1) (.inl (by omega)) h.symm))
                     have HB5 := Lib.hid ((HB4.out.alloc (by have := HZ4.out; omega) (.cells #[.int .u32 (l.acc : Int), .int .u16 (l.ent.n : Int), .int .u16 (l.ctr : Int), .int .i64 a2] 116)).grown hgrow5 (by have := HZ4.out; omega) (fun j hj => by have := HO4.out.lt j hj; omega))
                     have HZ5 := Lib.hid (Nat.le_trans (by have := HZ4.out; omega : w.heap.size + 1 + 1 + 1 ≤ (W4.alloc (.cells #[.int .u32 (l.acc : Int), .int .u16 (l.ent.n : Int), .int .u16 (l.ctr : Int), .int .i64 a2] 116)).heap.size) hgrow5.size)
                     have hy5 := (HY4.out.alloc (.cells #[.int .u32 (l.acc : Int), .int .u16 (l.ent.n : Int), .int .u16 (l.ctr : Int), .int .i64 a2] 116)).grown hgrow5 (fun h => HOF.out h.symm)
                     have HO5 := Lib.hid hown5
                     obtain ⟨r5, cap5, rfl⟩ := owns_form hown5
                     have HFM := Lib.hid (owns_far hown5 (m := w.heap.size + 1 + 1) (.inl (by omega)))
                     have hlk := HM5.out.look map_a l.ent false
                     simp only [Bool.false_eq_true, if_false] at hlk
                     rw [HS.out] at hlk
                     obtain ⟨w6, hrun, hM6, hg6, hs6⟩ := HM5.out.store map_a l.ent (s + a2)
                     unfold ec at hlk hrun
                     have HM6 := Lib.hid hM6
                     have HG6 := Lib.hid hg6
                     obtain ⟨u0, u1, u2, u3, _, _, _, _, _⟩ := hy5
                     clear hgrow5 hown5 hat5 hM6 hg6 hs6 hs4)
        go_roundw
        case rel =>
          have hst := sumE_step (ls := xs.map (lnA f.C f.U)) (k := k) (x := lnA f.C f.U x) (by rw [List.getElem?_map, HX.out]; rfl)
          have hcl : lc (lnA f.C f.U x) = [.int .u32 (l.acc : Int), .int .u16 (l.ent.n : Int), .int .u16 (l.ctr : Int), .int .i64 a2] := by rw [HLN.out.2.1, HAM.out.1, HAM.out.2]
          have hae : (lnA f.C f.U x).amt = a2 := by rw [HLN.out.2.2.2, HAM.out.1, HAM.out.2]
          refine ⟨k + 1, putK M l.ent (s + a2), r5, cap5, by go_num, by omega, rfl, Lib.hid ?_, HM6, Lib.hid (fun n => ?_), Lib.hid (HF5.out.grown HG6.out (by intro h; have := Option.some.inj h; omega)), Lib.hid (HB5.out.grown HG6.out HB5.out.size (fun j hj => by cases hj; omega)), Lib.hid (Nat.le_trans HZ5.out HG6.out.size)⟩
          · have e : ((xs.take (k + 1)).map (lnA f.C f.U)).flatMap lc = ((xs.take k).map (lnA f.C f.U)).flatMap lc ++ [.int .u32 (l.acc : Int), .int .u16 (l.ent.n : Int), .int .u16 (l.ctr : Int), .int .i64 a2] := by
              rw [List.take_add_one, HX.out, ← hcl]
              simp
            rw [e]
            exact HO5.out.kept HG6.out (.inr HFM.out)
          · rw [List.map_take, hst, HLN.out.2.2.1, hae, getK_putK, ← List.map_take, ← HG.out]
            by_cases h : l.ent = n
            · subst h; rw [HS.out]
            · rw [if_neg h, if_neg h]
        case measure => simp [intOf]; omega
    · obtain rfl : k = L := by omega
      obtain ⟨p0, p1, p2, p3, p4, p5, p6, p7, p8⟩ := HFB.out
      have hO := HO.out
      have hG := HG.out
      rw [List.take_of_length_le (by rw [HL.out]; exact Nat.le_refl _)] at hO
      rw [List.take_of_length_le (by rw [HL.out]; exact Nat.le_refl _)] at hG
      obtain ⟨X, hX⟩ : ∃ X, xs.map (lnA f.C f.U) = X := ⟨_, rfl⟩
      have hsm : ∀ n, -2305843009213693952 ≤ sumZ X n ∧ sumZ X n ≤ 2305843009213693952 := fun n => by rw [← hX]; exact sumE_small xs n (by rw [HL.out]; exact h8)
      rw [hX] at hO hG
      have hXl : X.length = k := by rw [← hX, List.length_map, HL.out]
      have hlb : linesB f.C f.U xs = X ++ padsF f.C f.U (sumZ X) f.U.length := by unfold linesB; rw [hX]
      have HLB := Lib.hid hlb
      have HSM := Lib.hid hsm
      have HGZ : Hid (∀ n, (getK M n).getD 0 = sumZ X n) := Lib.hid (fun n => by rw [hG]; rfl)
      have HXL := Lib.hid hXl
      have HO1 := Lib.hid hO
      obtain ⟨rU, capU, hvU, hmU⟩ := HF.out.u.form
      obtain ⟨LU, hLU⟩ : ∃ LU, f.U.length = LU := ⟨_, rfl⟩
      rw [hLU] at hvU hmU hlU
      have HLU := Lib.hid hLU
      subst hvU
      obtain ⟨rC, capC, hvC, hmC⟩ := HF.out.c.form
      obtain ⟨LC, hLC⟩ : ∃ LC, f.C.length = LC := ⟨_, rfl⟩
      rw [hLC] at hvC hmC hlC
      have HLC := Lib.hid hLC
      have hC0 : 0 < LC := by rw [← hLC]; exact List.length_pos_iff.2 H6.out.1
      subst hvC
      clear hLC hO hG hX hsm hXl hlb hLU HO HG
      go_wp2_with fail
      clear p0 p1 p2 p3 p4 p5 p6 p7 p8
      go_loopw [5, 46] (fun s i wq => ∃ (q m : Nat) (r' : Option Addr) (cap' : Nat), i = .int .i64 q ∧ q ≤ LU ∧ s = .slice r' m cap' ∧ m ≤ 8 + q ∧ Hid (m = (X ++ padsF f.C f.U (sumZ X) q).length) ∧ Hid (wq.ownsRow (w.heap.size + 1 + 1 + 1) 116 4 (.slice r' m cap') m ((X ++ padsF f.C f.U (sumZ X) q).flatMap lc)) ∧ Hid (MapOf ec (Value.int .i64) (w.heap.size + 1 + 1) M wq) ∧ Hid (Box4 wq (w.heap.size + 1) (.slice rC LC capC) (.slice rU LU capU) vS (.int .i32 EE)) ∧ Hid (Below w.heap.size w wq) ∧ Hid (w.heap.size + 1 + 1 + 1 ≤ wq.heap.size)) (fun _ i _ => LU - (intOf i).toNat)
      case atStart => exact ⟨0, k, r, cap, rfl, Nat.zero_le _, rfl, by omega, Lib.hid (by rw [List.length_append, HXL.out]; rfl), Lib.hid (by have := HO1.out; simpa [padsF] using this), HM, HFB, HB, HZ⟩
      case round =>
        clear HO1 HM HFB HB HZ
        obtain ⟨q, m, r', cap', rfl, hq, rfl, hm8, HML, HO, HM, HFB, HB, HZ⟩ := hrel
        rename World => wq
        by_cases hlt : q < LU
        · obtain ⟨n, hn⟩ : ∃ n, f.U[q]? = some n := ⟨f.U[q]'(by have := HLU.out; omega), List.getElem?_eq_getElem (by have := HLU.out; omega)⟩
          obtain ⟨en, hen⟩ : ∃ en, entAt f.U q = en := ⟨_, rfl⟩
          have henn : en.n = n := by rw [← hen]; exact entAt_lt H6.out.2.2 hn
          obtain ⟨gU, oU, rfl, hgU, hcU⟩ := (HF.out.stay HB.out).u.at hn
          have u0 := hcU 0 (.int .u16 (n : Int)) rfl
          simp only [Nat.mul_one, Nat.add_zero] at u0
          rw [← henn] at u0
          obtain ⟨s, hs⟩ : ∃ s, (getK M en).getD 0 = s := ⟨_, rfl⟩
          have hsz : sumZ X en = s := by rw [← HGZ.out, hs]
          have hsb := HSM.out en
          rw [hsz] at hsb
          clear hn hcU
          by_cases h0 : s = 0
          · have hp : padAt f.C f.U (sumZ X) q = [] := by unfold padAt; rw [dif_neg (fun h => h.1 (by rw [hen, hsz]; exact h0))]
            have hlk := HM.out.look map_a en false
            simp only [Bool.false_eq_true, if_false] at hlk
            rw [hs, h0] at hlk
            unfold ec at hlk
            have HP := Lib.hid hp
            clear hp hen henn hs hsz hsb h0
            go_wp2
            go_roundw
            case rel => exact ⟨q + 1, m, r', cap', by go_num, by omega, rfl, by omega, Lib.hid (by rw [padsF_step, HP.out, List.append_nil]; exact HML.out), Lib.hid (by rw [padsF_step, HP.out, List.append_nil]; exact HO.out), HM, HFB, HB, HZ⟩
            case measure => simp [intOf]; omega
          · obtain ⟨p, hp⟩ : ∃ p, q % LC = p := ⟨_, rfl⟩
            have hpl : p < LC := hp ▸ Nat.mod_lt _ hC0
            obtain ⟨a, ha⟩ : ∃ a, f.C[p]? = some a := ⟨f.C[p]'(by have := HLC.out; omega), List.getElem?_eq_getElem (by have := HLC.out; omega)⟩
            have hacc : accAt f.C q = a := accAt_get (by rw [HLC.out, hp]; exact ha)
            obtain ⟨y, hy, hyc⟩ : ∃ y, padAt f.C f.U (sumZ X) q = [y] ∧ lc y = [.int .u32 (a.code : Int), .int .u16 (en.n : Int), .int .u16 0, .int .i64 (-s)] := by
              refine ⟨⟨(accAt f.C q).code, entAt f.U q, 0, -sumZ X (entAt f.U q), (accAt f.C q).hc, by omega, by rw [hen, hsz]; omega⟩, ?_, ?_⟩
              · unfold padAt
                rw [dif_pos ⟨by rw [hen, hsz]; exact h0, by rw [hen, hsz]; omega, by rw [hen, hsz]; omega⟩]
              · unfold lc
                simp only [hacc, hen, hsz]
                rfl
            have HY := Lib.hid (And.intro hy hyc)
            obtain ⟨gC, oC, rfl, hgC, hcC⟩ := (HF.out.stay HB.out).c.at ha
            have c0 : wq.cell? ⟨gC, oC + p * 4, none⟩ = some (.int .u32 (a.code : Int)) := hcC 0 _ rfl
            obtain ⟨p1, p2⟩ := mod_int hp
            have z1 : ¬ LC = 0 := by omega
            have y1 : IntKind.i64.wrap (q : Int) = (q : Int) := by rw [IntKind.wrap_i64]; omega
            have y3 : IntKind.i64.wrap (p : Int) = (p : Int) := by rw [IntKind.wrap_i64]; omega
            have y4 : IntKind.i64.wrap (-s) = -s := by rw [IntKind.wrap_i64]; omega
            have hlk := HM.out.look map_a en false
            simp only [Bool.false_eq_true, if_false] at hlk
            rw [hs] at hlk
            have hlk2 := (HM.out.same (w' := wq.drew) rfl).look map_a en false
            simp only [Bool.false_eq_true, if_false] at hlk2
            rw [hs] at hlk2
            unfold ec at hlk hlk2
            obtain ⟨k0, k1, k2, k3, _, _, _, _, _⟩ := HFB.out
            have HSE := Lib.hid hs
            clear hen henn hs hsz hsb hp ha hacc hy hyc hcC
            go_upto_region 17 with fail
            have k0' : wq.drew.cell? ⟨w.heap.size + 1, 0, none⟩ = some (.slice (some ⟨gC, oC, none⟩) LC capC) := k0
            have hlk3 := (HM.out.below ((Below.refl wq.heap.size wq).alloc (Nat.le_refl _) (.cells #[.int .u32 (a.code : Int), .int .u16 (en.n : Int), .int .u16 0, .int .i64 (-s)] 116)).drew HM.out.lt).look map_a en false
            simp only [Bool.false_eq_true, if_false] at hlk3
            rw [HSE.out] at hlk3
            unfold ec at hlk3
            have hb1 : w.heap.size + 1 < wq.heap.size := by have := HZ.out; omega
            have hb2 : gC < wq.heap.size := by have := HB.out.size; omega
            refine wp_region_new 18 17 [] (.slice (some ⟨wq.heap.size, 0, none⟩) 1 1) (wq.drew.alloc (.cells #[.int .u32 (a.code : Int), .int .u16 (en.n : Int), .int .u16 0, .int .i64 (-s)] 116)) hmix (by decide) (by omega) (by kernel_rfl) (by kernel_rfl) (by kernel_rfl) (by kernel_rfl) ?_
            simp only [List.take_succ_cons, List.take_zero, List.drop_succ_cons, List.drop_zero]
            repeat (first | (refine two_skip rfl ?_) | (refine two_step rfl rfl (fun K hK => ?_); go_simp; refine hK _ ?_; clear hK K))
            refine two_nil ⟨fun o ho => by cases ho; left; go_simp, ?_⟩
            simp only [dstB, List.getElem?_cons_succ, List.getElem?_cons_zero, Option.bind_some]
            have HOd := Lib.hid (owns_below HO.out (w' := wq.drew) (Below.refl _ _).drew)
            have HMd := Lib.hid (HM.out.same (w' := wq.drew) rfl)
            have HFd := Lib.hid HFB.out.drew
            have HBd := Lib.hid HB.out.drew
            have HZd : Hid (w.heap.size + 1 + 1 + 1 ≤ wq.drew.heap.size) := HZ
            clear c0 u0 hlk hlk2 hlk3 k0 k0' k1 k2 k3 HO HM HFB HB HZ hb1 hb2
            go_wp2_with (at_builtin; refine wpList_append_own_at _ rfl (.tmp 55) (.tmp 72) 92 rfl (w.heap.size + 1 + 1 + 1) 116 i0 _ 4 16 Tryz.underlying92 hi hz0 hz1 hz2 rfl (by decide) _ m _ rfl (HOd.out.alloc _) ⟨_, 0, none⟩ 1 1 [.int .u32 (a.code : Int), .int .u16 (en.n : Int), .int .u16 0, .int .i64 (-s)] rfl rfl (cells_new _ [.int .u32 (a.code : Int), .int .u16 (en.n : Int), .int .u16 0, .int .i64 (-s)] _) (fun v hv => by simp at hv; rcases hv with rfl | rfl | rfl | rfl <;> rfl) (by unfold maxLen; omega) (by omega) (by simp; have := HZd.out; omega) ?_; intro v5 w5 hown5 hgrow5 _ hat5; have hs4 : (wq.drew.alloc (.cells #[.int .u32 (a.code : Int), .int .u16 (en.n : Int), .int .u16 0, .int .i64 (-s)] 116)).heap.size = wq.drew.heap.size + 1 := by simp
                         have HM5 := Lib.hid ((HMd.out.below ((Below.refl wq.drew.heap.size wq.drew).alloc (Nat.le_refl _) (.cells #[.int .u32 (a.code : Int), .int .u16 (en.n : Int), .int .u16 0, .int .i64 (-s)] 116)) HMd.out.lt).same (hgrow5.block (w.heap.size + 1 + 1) (by have := HMd.out.lt; omega) (fun h => owns_far HOd.out (m := w.heap.size + 1 + 1) (.inl (by omega)) h.symm)))
                         have HF5 := Lib.hid ((HFd.out.alloc (.cells #[.int .u32 (a.code : Int), .int .u16 (en.n : Int), .int .u16 0, .int .i64 (-s)] 116)).grown hgrow5 (fun h => owns_far HOd.out (m := w.heap.size + 1) (.inl (by omega)) h.symm))
                         have HB5 := Lib.hid ((HBd.out.alloc (by have := HZd.out; omega) (.cells #[.int .u32 (a.code : Int), .int .u16 (en.n : Int), .int .u16 0, .int .i64 (-s)] 116)).grown hgrow5 (by have := HZd.out; omega) (fun j hj => by have := HOd.out.lt j hj; omega))
                         have HZ5 := Lib.hid (Nat.le_trans (by have := HZd.out; omega : w.heap.size + 1 + 1 + 1 ≤ (wq.drew.alloc (.cells #[.int .u32 (a.code : Int), .int .u16 (en.n : Int), .int .u16 0, .int .i64 (-s)] 116)).heap.size) hgrow5.size)
                         have HO5 := Lib.hid hown5
                         obtain ⟨r5, cap5, rfl⟩ := owns_form hown5
                         clear hgrow5 hown5 hat5 hs4)
            go_roundw
            case rel =>
              refine ⟨q + 1, m + 1, r5, cap5, by go_num, by omega, rfl, by omega, Lib.hid ?_, Lib.hid ?_, HM5, HF5, HB5, HZ5⟩
              · rw [padsF_step, HY.out.1, ← List.append_assoc, List.length_append, ← HML.out]; rfl
              · rw [padsF_step, HY.out.1, ← List.append_assoc, List.flatMap_append, List.flatMap_cons, List.flatMap_nil, List.append_nil, HY.out.2]
                exact HO5.out
            case measure => simp [intOf]; omega
        · obtain rfl : q = LU := by omega
          go_wp2
          go_ret
          refine ⟨_, rfl, ?_, HB.out⟩
          have h1 := HO.out
          rw [HLB.out, HLU.out, ← HML.out]
          refine ⟨h1.1, ?_⟩
          rcases h1.2 with h | ⟨g1, c1, cur, e1, e2, e3⟩
          · exact .inl h
          · exact .inr ⟨g1, c1, cur, e1, by omega, e3⟩
end Go.Proofs.YtafmakhhdinknaaGreatDoor

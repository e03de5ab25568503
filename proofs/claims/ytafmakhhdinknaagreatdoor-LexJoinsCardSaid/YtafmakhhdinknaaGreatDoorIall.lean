/- Lines in plain words; maps by entities. -/
import Derived.Test.YtafmakhhdinknaaGreatDoorVab
import Derived.Test.YtafmakhhdinknaaGreatDoorBa
import Derived.Test.YtafmakhhdinknaaGreatDoorYab
import Derived.Test.YtafmakhhdinknaaGreatDoorJall
import Derived.Test.YtafmakhhdinknaaGreatDoorTall
import Derived.WalkSpells
import Derived.Lib.SliceRun
import Derived.Laws.StructEq
import Derived.Test.YtafmakhhdinknaaGreatDoorKall
namespace Go.Proofs.YtafmakhhdinknaaGreatDoor
open Go.RowKit
set_option linter.unusedVariables false
set_option linter.unusedSimpArgs false
/-- An entity's number. -/
structure En where
  n : Nat
  h : n < 65536
deriving DecidableEq
structure Ln where
  acc : Nat
  ent : En
  ctr : Nat
  amt : Int
  ha : acc < 4294967296
  hc : ctr < 65536
  hm : -9223372036854775808 ≤ amt ∧ amt ≤ 9223372036854775807
deriving DecidableEq
def lc (x : Ln) : List Value := [.int .u32 (x.acc : Int), .int .u16 (x.ent.n : Int), .int .u16 (x.ctr : Int), .int .i64 x.amt]
theorem lc_len (x : Ln) : (lc x).length = 4 := rfl
theorem lc_one (x : Ln) : ∀ v ∈ lc x, v.oneCell' = true := fun v hv => by simp [lc] at hv; rcases hv with rfl | rfl | rfl | rfl <;> rfl
def ep (x : Ln) : En × Int := (x.ent, x.amt)
/-- What an entity's lines sum to, if it has any. -/
def sumE (ls : List Ln) (n : En) : Option Int := sumK (ls.map ep) n
theorem sumE_step {ls : List Ln} {k : Nat} {x : Ln} (h : ls[k]? = some x) (n : En) : sumE (ls.take (k + 1)) n = if x.ent = n then some ((sumE (ls.take k) n).getD 0 + x.amt) else sumE (ls.take k) n := by
  obtain ⟨hk, e⟩ := List.getElem?_eq_some_iff.1 h
  unfold sumE
  rw [List.take_succ_eq_append_getElem hk, List.map_append, e]
  exact sumK_snoc _ (ep x) n
/-- Is there a sum that isn't nought? -/
def badE (ls : List Ln) : Prop := ∃ n s, sumE ls n = some s ∧ s % 340282366920938463463374607431768211456 ≠ 0
def ec (n : En) : Value := .int .u16 (n.n : Int)
theorem ec_inj (x y : En) (h : ec x = ec y) : x = y := by
  unfold ec at h
  injection h with _ h
  obtain ⟨a, ha⟩ := x
  obtain ⟨b, hb⟩ := y
  have h' : (a : Int) = (b : Int) := h
  have : a = b := by omega
  subst this; rfl
theorem ec_key (x : En) : ∃ q, keyOf Tryz.prog 87 (ec x) = some q := by
  refine ⟨.int .u16 (x.n : Int), ?_⟩
  have hw : (Lit.int .u16 (x.n : Int)).wf = true := by
    have := x.h
    exact WalkArith.wf_u16 (by omega)
  simp [keyOf, mapKey, Tryz.underlying87, ec, hw]
theorem law_e : Maps.Keyed Tryz.prog 87 := Maps.int_keyed Tryz.underlying87
/-- A sum as bits. -/
def bv (v : Int) : Value := .agg (arr (bitZ v))
theorem bitZ_zero : arr (bitZ 0) = arr (fun _ => 0) := arr_congr fun j _ => by
  unfold bitZ
  simp
def wv9 (n : Int) : Value := .agg #[.int .i64 (hiW n), .int .u64 (loW n)]
theorem hi9 : hiW 0 = 0 := by unfold hiW; rw [i64w]; decide
theorem lo9 : loW 0 = 0 := by unfold loW; decide
theorem zero_w9 (w : World) : (zeroValue 143).run Tryz.prog w = .ok (wv9 0) w := by
  unfold wv9; rw [hi9, lo9]; kernel_rfl
theorem map_w : MapT Tryz.prog 124 87 143 ec wv9 0 := ⟨law_e, Tryz.underlying124, ec_key, ec_inj, zero_w9⟩
end Go.Proofs.YtafmakhhdinknaaGreatDoor
/- Contract of law 9's sums. -/
namespace Go.Proofs.YtafmakhhdinknaaGreatDoor
open Go.RowKit
set_option linter.unusedVariables false
set_option linter.unusedSimpArgs false
theorem Recs.cellsL {w : World} {g off i : Nat} {x : Ln} (h : ∀ j u, (lc x)[j]? = some u → w.cell? ⟨g, off + i * 4 + j, none⟩ = some u) :
    w.cell? ⟨g, off + i * 4, none⟩ = some (.int .u32 (x.acc : Int)) ∧ w.cell? ⟨g, off + i * 4 + 1, none⟩ = some (.int .u16 (x.ent.n : Int)) ∧ w.cell? ⟨g, off + i * 4 + 2, none⟩ = some (.int .u16 (x.ctr : Int)) ∧ w.cell? ⟨g, off + i * 4 + 3, none⟩ = some (.int .i64 x.amt) :=
  ⟨h 0 _ rfl, h 1 _ rfl, h 2 _ rfl, h 3 _ rfl⟩
end Go.Proofs.YtafmakhhdinknaaGreatDoor
/- All that the laws ask of package entry; law 9's Awake. -/
namespace Go.Proofs.YtafmakhhdinknaaGreatDoor
open Go.RowKit
set_option linter.unusedVariables false
set_option linter.unusedSimpArgs false
/-- Is there an entity whose sum isn't nought? -/
def badB (ls : List Ln) : Bool := ls.any (fun x => decide ((sumE ls x.ent).getD 0 % 340282366920938463463374607431768211456 ≠ 0))
/-- What is wrong with a journal. -/
def chkJ (d : Int) (ls : List Ln) : Int :=
  if d < -719162 ∨ 2932896 < d then 13 else if ls.length < 1 ∨ 60 < ls.length then 2 else if (ls.any fun x => decide (x.amt = 0 ∨ x.amt = -9223372036854775808)) = true then 5 else if badB ls = true then 14 else 0
/-- A map of sums as a call may answer it: nil, or a block. -/
def MapV (v : Value) (M : List (En × Int)) (w : World) : Prop := (v = .map none ∧ M = []) ∨ ∃ b, v = .map (some b) ∧ MapOf ec wv9 b M w
theorem MapV.look {v : Value} {M : List (En × Int)} {w : World} (h : MapV v M w) (x : En) : (Instr.lookup 124 v (ec x) false).run Tryz.prog w = .ok (wv9 ((getK M x).getD 0)) w := by
  rcases h with ⟨rfl, rfl⟩ | ⟨b, rfl, h⟩
  · exact map_w.look_nil x w
  · have := h.look map_w x false
    simpa using this
theorem MapV.len {v : Value} {M : List (En × Int)} {w : World} (h : MapV v M w) (ty : TypeId) : (Builtin.len_ #[124] ty #[v]).run Tryz.prog w = .ok (goInt M.length) w := by
  rcases h with ⟨rfl, rfl⟩ | ⟨b, rfl, h⟩
  · simp [Builtin.len_, run_underlying (Tryz.underlying124)]
  · exact h.len map_w ty
theorem MapV.stay {v : Value} {M : List (En × Int)} {w w' : World} (h : MapV v M w) (hb : Below w.heap.size w w') : MapV v M w' := by
  rcases h with h | ⟨b, rfl, h⟩
  · exact .inl h
  · exact .inr ⟨b, rfl, h.below hb h.lt⟩
theorem MapV.nodup {v : Value} {M : List (En × Int)} {w : World} (h : MapV v M w) : (M.map Prod.fst).Nodup := by
  rcases h with ⟨_, rfl⟩ | ⟨b, rfl, h⟩
  · exact List.nodup_nil
  · exact h.nodup
/-- Two maps that answer the same have as many entries. -/
theorem same_len {M N : List (En × Int)} (hM : (M.map Prod.fst).Nodup) (hN : (N.map Prod.fst).Nodup) (h : ∀ n, (getK M n).isSome = (getK N n).isSome) : M.length = N.length := by
  have hp : (M.map Prod.fst).Perm (N.map Prod.fst) := (List.perm_ext_iff_of_nodup hM hN).2 fun x => by rw [mem_keys, mem_keys, h x]
  have := hp.length_eq
  simpa using this
/-- All that the laws ask of entry. -/
structure EntryC (I : World → Prop) : Prop where
  sums : ∀ (v : Value) (d : Int) (ls : List Ln) (w : World), Recs lc 4 w v ls → ls.length ≤ 100 → Calls Tryz.prog 77 #[.agg #[.int .i32 d, v]] w fun e w' => ∃ m M, e = .returned m ∧ MapV m M w' ∧ (∀ n, getK M n = sumE ls n) ∧ Below w.heap.size w w'
  check : ∀ (v : Value) (d : Int) (ls : List Ln) (w : World), I w → Recs lc 4 w v ls → ls.length ≤ 100 → I32 d → Calls Tryz.prog 76 #[.agg #[.int .i32 d, v]] w fun e w' => e = .returned (.int .i64 (chkJ d ls)) ∧ Below w.heap.size w w'
def exE : En := ⟨1, by omega⟩
def exL : List Ln := [⟨1, exE, 0, 100, by omega, by omega, by omega⟩, ⟨2, exE, 0, -100, by omega, by omega, by omega⟩]
theorem ex_chk : chkJ 0 exL = 0 := by decide
theorem ex_sum (n : En) : (sumE exL n).isSome = (getK [(exE, (0 : Int))] n).isSome := by
  unfold sumE exL
  rw [Bool.eq_iff_iff, sumK_some, ← mem_keys]
  simp [ep]
set_option maxHeartbeats 2000000 in
set_option maxRecDepth 100000 in
theorem awake9_any {I : World → Prop} (C : AllotC) (D : DayC I) (K : KeyC I) (U : UnitC) (LC : CalC I) (EC : EntryC I) (w : World) (hI : I w) :
    Calls Tryz.prog 56 #[] w fun e w' => e = .returned (.bool true) ∧ Below w.heap.size w w' := by
  have hs1 : (w.alloc (.cells #[.int .u32 1, .int .u16 1, .int .u16 0, .int .i64 100, .int .u32 2, .int .u16 1, .int .u16 0, .int .i64 (-100)] 116)).heap.size = w.heap.size + 1 := by simp
  have hb0 := ((Below.refl w.heap.size w).alloc (Nat.le_refl _) (.cells #[.int .u32 1, .int .u16 1, .int .u16 0, .int .i64 100, .int .u32 2, .int .u16 1, .int .u16 0, .int .i64 (-100)] 116)).alloc (by omega) (.cells #[.int .i32 0, .slice (some ⟨w.heap.size, 0, none⟩) 2 2] 94)
  have hR := (recs_lit lc_len exL #[.int .u32 1, .int .u16 1, .int .u16 0, .int .i64 100, .int .u32 2, .int .u16 1, .int .u16 0, .int .i64 (-100)] 116 2 rfl (by omega) rfl w).stay ((Below.refl _ _).alloc (Nat.le_refl _) (.cells #[.int .i32 0, .slice (some ⟨w.heap.size, 0, none⟩) 2 2] 94))
  have hbx := Box2.new (w.alloc (.cells #[.int .u32 1, .int .u16 1, .int .u16 0, .int .i64 100, .int .u32 2, .int .u16 1, .int .u16 0, .int .i64 (-100)] 116)) (.int .i32 0) (.slice (some ⟨w.heap.size, 0, none⟩) 2 2) 94
  have HB0 := Lib.hid hb0
  have HR := Lib.hid hR
  have HBX := Lib.hid hbx
  have HI := Lib.hid (fun (w' : World) (h : Below w.heap.size w w') => D.stay hI h)
  have K1 : Hid (∀ (V : Value) (w' : World), I w' → Recs lc 4 w' V exL → Calls Tryz.prog 76 #[.agg #[.int .i32 0, V]] w' fun e w'' => e = .returned (.int .i64 0) ∧ Below w'.heap.size w' w'') := Lib.hid (fun V w' hi h => by
    have := EC.check V 0 exL w' hi h (by show 2 ≤ 100; omega) (by unfold I32; omega)
    rwa [ex_chk] at this)
  have K2 : Hid (∀ (V : Value) (w' : World), Recs lc 4 w' V exL → Calls Tryz.prog 77 #[.agg #[.int .i32 0, V]] w' fun e w'' => ∃ m M, e = .returned m ∧ MapV m M w'' ∧ M.length = 1 ∧ Below w'.heap.size w' w'') := Lib.hid (fun V w' h => (EC.sums V 0 exL w' h (by show 2 ≤ 100; omega)).mono fun e w'' ⟨m, M, h1, h2, h3, h4⟩ => ⟨m, M, h1, h2, same_len (N := [(exE, 0)]) h2.nodup (by simp) (fun n => by rw [h3, ex_sum]), h4⟩)
  have K3 := Lib.hid (fun (w' : World) (h : Below w.heap.size w w') => awake8_any C D K U LC w' (D.stay hI h))
  clear hR hbx hs1 hb0 C D K U LC EC hI
  go_enter Tryz.func56, Tryz.ntmps56
  go_upto_region 2 with fail
  have hsz : (w.alloc (.cells #[.int .u32 1, .int .u16 1, .int .u16 0, .int .i64 100, .int .u32 2, .int .u16 1, .int .u16 0, .int .i64 (-100)] 116)).heap.size = w.heap.size + 1 := by simp
  rw [hsz] at HBX
  generalize (w.alloc (.cells #[.int .u32 1, .int .u16 1, .int .u16 0, .int .i64 100, .int .u32 2, .int .u16 1, .int .u16 0, .int .i64 (-100)] 116)).alloc (.cells #[.int .i32 0, .slice (some ⟨w.heap.size, 0, none⟩) 2 2] 94) = W at HB0 HR HBX ⊢
  obtain ⟨p0, p1, _, _, _⟩ := HBX.out
  go_wp2_with (first
    | (go_at_call 78; refine (K3.out _ HB2.out).mono ?_; rintro e w3 ⟨rfl, h⟩; have HB3 := Lib.hid (HB2.out.trans (h.mono HB2.out.size)); clear h)
    | (go_at_call 77; refine (K2.out _ _ (HR.out.stay HD1.out)).mono ?_; rintro e w2 ⟨m, M, rfl, hm, hl, h⟩; have hlen := hm.len; rw [hl] at hlen; have HB2 := Lib.hid (HB1.out.trans (h.mono HB1.out.size)); clear h hm)
    | (go_at_call 76; refine (K1.out _ _ (HI.out _ HB0.out) HR.out).mono ?_; rintro e w1 ⟨rfl, h⟩; have HD1 := Lib.hid h; have HB1 := Lib.hid (HB0.out.trans (h.mono HB0.out.size)); obtain ⟨q0, q1, _, _, _⟩ := HBX.out.stay h; clear h))
  go_ret
  exact ⟨by simp, HB3.out⟩
end Go.Proofs.YtafmakhhdinknaaGreatDoor
/- == of lines; a sum that isn't nought is among a map's. -/
namespace Go.Proofs.YtafmakhhdinknaaGreatDoor
open Go.RowKit
set_option linter.unusedVariables false
set_option linter.unusedSimpArgs false
theorem sumE_mem {M : List (En × Int)} {ls : List Ln} (hn : (M.map Prod.fst).Nodup) (h : ∀ n, getK M n = sumE ls n) {p : En × Int} (hp : p ∈ M) : sumE ls p.1 = some p.2 := by
  rw [← h]; exact getK_of_mem hn hp
theorem badB_of {M : List (En × Int)} {ls : List Ln} (hn : (M.map Prod.fst).Nodup) (h : ∀ n, getK M n = sumE ls n) {p : En × Int} (hp : p ∈ M) (hb : p.2 % 340282366920938463463374607431768211456 ≠ 0) : badB ls = true := by
  have hs := sumE_mem hn h hp
  have hm : p.1 ∈ (ls.map ep).map Prod.fst := sumK_some.1 (by rw [show sumK (ls.map ep) p.1 = some p.2 from hs]; rfl)
  rw [List.map_map] at hm
  obtain ⟨x, hx, e⟩ := List.mem_map.1 hm
  unfold badB
  refine List.any_eq_true.2 ⟨x, hx, decide_eq_true ?_⟩
  rw [show x.ent = p.1 from e, hs]
  exact hb
theorem badB_not {M : List (En × Int)} {ls : List Ln} (h : ∀ n, getK M n = sumE ls n) (hz : ∀ q ∈ M, q.2 % 340282366920938463463374607431768211456 = 0) : badB ls = false := by
  unfold badB
  rw [List.any_eq_false]
  intro x hx
  have hs : (sumE ls x.ent).isSome = true := sumK_some.2 (by rw [List.map_map]; exact List.mem_map.2 ⟨x, hx, rfl⟩)
  obtain ⟨s, hs⟩ := Option.isSome_iff_exists.1 hs
  have hm := getK_mem (by rw [h]; exact hs : getK M x.ent = some s)
  have := hz _ hm
  rw [hs]
  simpa using this
set_option maxRecDepth 100000 in
theorem equalIn_l (x y : Ln) (w : World) : (Op.equalIn Op.maxDepth 116 (.agg #[.int .u32 (x.acc : Int), .int .u16 (x.ent.n : Int), .int .u16 (x.ctr : Int), .int .i64 x.amt]) (.agg #[.int .u32 (y.acc : Int), .int .u16 (y.ent.n : Int), .int .u16 (y.ctr : Int), .int .i64 y.amt])).run Tryz.prog w = .ok (decide (x = y)) w := by
  have hp : Tryz.prog.stoodInHeld 116 = false := by kernel_rfl
  have ht := Tryz.underlying116
  have hf : Tryz.prog.underlying 116 = some (.struct (Tryz.prog.fieldsOf 116)) := by kernel_rfl
  rw [show Op.maxDepth = 9999 + 1 from rfl, run_equalIn_agg w 9999 _ _ _ hf hp]
  have he : (Tryz.prog.fieldsOf 116) = (match Tryz.prog.underlying 116 with | some (.struct fs) => fs | _ => #[]) := rfl
  rw [he, ht]
  have hd : decide (x = y) = (((x.acc : Int) == (y.acc : Int)) && (((x.ent.n : Int) == (y.ent.n : Int)) && (((x.ctr : Int) == (y.ctr : Int)) && (x.amt == y.amt)))) := by
    rw [Bool.eq_iff_iff]
    simp only [decide_eq_true_eq, Bool.and_eq_true, beq_iff_eq]
    constructor
    · rintro rfl; exact ⟨rfl, rfl, rfl, rfl⟩
    · rintro ⟨h1, h2, h3, h4⟩
      obtain ⟨a, ⟨e, he⟩, c, m, _, _, _⟩ := x
      obtain ⟨a', ⟨e', he'⟩, c', m', _, _, _⟩ := y
      simp only at h1 h2 h3 h4
      have g1 : a = a' := by omega
      have g2 : e = e' := by omega
      have g3 : c = c' := by omega
      subst g1 g2 g3 h4
      rfl
  rw [hd]
  generalize (x.acc : Int) = a1
  generalize (x.ent.n : Int) = a2
  generalize (x.ctr : Int) = a3
  generalize x.amt = a4
  generalize (y.acc : Int) = b1
  generalize (y.ent.n : Int) = b2
  generalize (y.ctr : Int) = b3
  generalize y.amt = b4
  clear hd he hf hp ht
  cases h1 : (a1 == b1) <;> cases h2 : (a2 == b2) <;> cases h3 : (a3 == b3) <;> cases h4 : (a4 == b4) <;> simp [Op.eqFields, go_sem, Tryz.underlying74, Tryz.underlying87, Tryz.underlying2, h1, h2, h3, h4]
theorem eql_l (x y : Ln) (w : World) : (binOp .eql 116 (.agg #[.int .u32 (x.acc : Int), .int .u16 (x.ent.n : Int), .int .u16 (x.ctr : Int), .int .i64 x.amt]) (.agg #[.int .u32 (y.acc : Int), .int .u16 (y.ent.n : Int), .int .u16 (y.ctr : Int), .int .i64 y.amt])).run Tryz.prog w = .ok (.bool (decide (x = y))) w := by
  simp [binOp, Op.equal, equalIn_l x y w]
theorem neq_l (x y : Ln) (w : World) : (binOp .neq 116 (.agg #[.int .u32 (x.acc : Int), .int .u16 (x.ent.n : Int), .int .u16 (x.ctr : Int), .int .i64 x.amt]) (.agg #[.int .u32 (y.acc : Int), .int .u16 (y.ent.n : Int), .int .u16 (y.ctr : Int), .int .i64 y.amt])).run Tryz.prog w = .ok (.bool (!decide (x = y))) w := by
  simp [binOp, Op.equal, equalIn_l x y w]
end Go.Proofs.YtafmakhhdinknaaGreatDoor
/- Contract of slices.Equal at lines; a wide sum that isn't nought. -/
namespace Go.Proofs.YtafmakhhdinknaaGreatDoor
open Go.RowKit
set_option linter.unusedVariables false
set_option linter.unusedSimpArgs false
theorem take_stepL {xs ys : List Ln} {j : Nat} {x y : Ln} (h : xs.take j = ys.take j) (hx : xs[j]? = some x) (hy : ys[j]? = some y) (e : x = y) : xs.take (j + 1) = ys.take (j + 1) := by
  rw [List.take_add_one, List.take_add_one, h, hx, hy, e]
set_option maxRecDepth 100000 in
theorem neq_wz (s : Int) (w : World) : (binOp .neq 143 (.agg #[.int .i64 (hiW s), .int .u64 (loW s)]) (.agg #[.int .i64 0, .int .u64 0])).run Tryz.prog w = .ok (.bool (!decide (s % 340282366920938463463374607431768211456 = 0))) w := by
  have hp : Tryz.prog.stoodInHeld 143 = false := by kernel_rfl
  have ht := Tryz.underlying143
  have hf : Tryz.prog.underlying 143 = some (.struct (Tryz.prog.fieldsOf 143)) := by kernel_rfl
  have hd : decide (s % 340282366920938463463374607431768211456 = 0) = ((hiW s == 0) && (loW s == 0)) := by
    rw [Bool.eq_iff_iff]
    simp only [decide_eq_true_eq, Bool.and_eq_true, beq_iff_eq]
    have h := same_of (a := s) (b := 0)
    rw [hi9, lo9, Int.zero_emod] at h
    exact h.symm
  rw [hd, run_neq_struct, show (10000 : Nat) = 9999 + 1 from rfl, run_equalIn_agg w 9999 _ _ _ hf hp]
  have he : (Tryz.prog.fieldsOf 143) = (match Tryz.prog.underlying 143 with | some (.struct fs) => fs | _ => #[]) := rfl
  rw [he, ht]
  clear hd he hf hp ht
  generalize hiW s = a
  generalize loW s = b
  cases h1 : (a == 0) <;> cases h2 : (b == 0) <;> simp [Op.eqFields, go_sem, Tryz.underlying2, Tryz.underlying77, h1, h2]
theorem below_drewQ (B : Nat) (w : World) (q : Nat) : Below B w (w.drewN q) := ⟨rfl, rfl, rfl, Nat.le_refl _, fun _ _ => rfl⟩
end Go.Proofs.YtafmakhhdinknaaGreatDoor
/- Contract of a journal's Sums. -/
namespace Go.Proofs.YtafmakhhdinknaaGreatDoor
open Go.RowKit
set_option linter.unusedVariables false
set_option linter.unusedSimpArgs false
set_option maxHeartbeats 4000000 in
set_option maxRecDepth 100000 in
theorem sums_e (v : Value) (d : Int) (ls : List Ln) (w : World) (hR : Recs lc 4 w v ls) :
    Calls Tryz.prog 77 #[.agg #[.int .i32 d, v]] w fun e w' => ∃ b M, e = .returned (.map (some b)) ∧ MapOf ec wv9 b M w' ∧ (∀ n, getK M n = sumE ls n) ∧ w.heap.size ≤ b ∧ Below w.heap.size w w' := by
  obtain ⟨r0, cap0, rfl, hm⟩ := hR.form
  obtain ⟨L, hL⟩ : ∃ L, ls.length = L := ⟨_, rfl⟩
  have HL := Lib.hid hL
  rw [hL] at hR hm ⊢
  have HBX := Lib.hid (Box2.new w (.int .i32 d) (.slice r0 L cap0) 94)
  have HB0 := Lib.hid ((Below.refl w.heap.size w).alloc (Nat.le_refl _) (.cells #[.int .i32 d, .slice r0 L cap0] 94))
  have HR := Lib.hid (hR.stay HB0.out)
  clear hR hL
  have hmix : Tryz.prog.follows .mixedOrders = true := by kernel_rfl
  have hmm := @run_makeMap Tryz.prog
  go_enter Tryz.func77, Tryz.ntmps77
  go_upto_region 1 with fail
  generalize w.alloc (.cells #[.int .i32 d, .slice r0 L cap0] 94) = W at HBX HB0 HR ⊢
  obtain ⟨p0, p1, _, _, hsz⟩ := HBX.out
  go_wp2_with fail
  clear hmm
  go_loopw [10] (fun i wr => ∃ k : Nat, k ≤ L ∧ i = .int .i64 k ∧ ∃ M : List (En × Int), Hid (MapOf ec wv9 W.heap.size M wr) ∧ Hid (∀ n, getK M n = sumE (ls.take k) n) ∧ M.length ≤ k ∧ Hid (Below W.heap.size W wr)) (fun i _ => L - (RowKit.intOf i).toNat)
  case atStart => exact ⟨0, Nat.zero_le _, rfl, [], Lib.hid (MapOf.made W), Lib.hid (fun n => rfl), by simp, Lib.hid ((Below.refl _ _).alloc (Nat.le_refl _) _)⟩
  case round =>
    clear p0 p1
    obtain ⟨k, hk, rfl, M, HM, HS, hMl, HB⟩ := hrel
    rename World => wr
    by_cases hlt : k < L
    · obtain ⟨x, hx⟩ : ∃ x, ls[k]? = some x := ⟨ls[k]'(by have := HL.out; omega), List.getElem?_eq_getElem (by have := HL.out; omega)⟩
      obtain ⟨g, off, rfl, hg, hc⟩ := (HR.out.stay HB.out).at hx
      obtain ⟨c0, c1, c2, c3⟩ := Recs.cellsL hc
      have HST := Lib.hid (fun n => sumE_step hx n)
      clear hc hx
      have hxm := x.hm
      have hwf : (Lit.int .i64 x.amt).wf = true := WalkArith.wf_i64 (by omega)
      have b1 := box_cell wr #[.int .u32 (x.acc : Int), .int .u16 (x.ent.n : Int), .int .u16 (x.ctr : Int), .int .i64 x.amt] 116 1 _ rfl
      have b3 := box_cell wr #[.int .u32 (x.acc : Int), .int .u16 (x.ent.n : Int), .int .u16 (x.ctr : Int), .int .i64 x.amt] 116 3 _ rfl
      have hM1 := HM.out.below ((Below.refl wr.heap.size wr).alloc (Nat.le_refl _) (.cells #[.int .u32 (x.acc : Int), .int .u16 (x.ent.n : Int), .int .u16 (x.ctr : Int), .int .i64 x.amt] 116)) HM.out.lt
      have HBW := Lib.hid (HB.out.alloc HB.out.size (.cells #[.int .u32 (x.acc : Int), .int .u16 (x.ent.n : Int), .int .u16 (x.ctr : Int), .int .i64 x.amt] 116))
      have HM1 := Lib.hid hM1
      clear hM1
      go_upto_region 5 with fail
      generalize wr.alloc (.cells #[.int .u32 (x.acc : Int), .int .u16 (x.ent.n : Int), .int .u16 (x.ctr : Int), .int .i64 x.amt] 116) = V at b1 b3 HBW HM1 ⊢
      obtain ⟨s, hs⟩ : ∃ s, (getK M x.ent).getD 0 = s := ⟨_, rfl⟩
      have hlk := fun d os => (HM1.out.below (below_regrown _ d os) HM1.out.lt).look map_w x.ent false
      simp only [Bool.false_eq_true, if_false] at hlk
      rw [hs] at hlk
      unfold wv9 ec at hlk
      have d1 := fun d os => cell_regrown b1 d os
      have d3 := fun d os => cell_regrown b3 d os
      have K1 := Lib.hid (fun w => of_any x.amt w hwf)
      have K2 := Lib.hid (fun w => add_any s x.amt w)
      have HU := Lib.hid (fun (w' : World) (h : MapOf ec wv9 W.heap.size M w') => h.store map_w x.ent (s + x.amt))
      clear c0 c1 c2 c3 b1 b3 hwf
      refine wp_tail_below 11 hmix (by kernel_rfl) ?_
      simp only [List.take_succ_cons, List.take_zero, List.drop_succ_cons, List.drop_zero]
      repeat (quiet_step ((first
        | (go_at_call 94; with_reducible exact Calls.regrown_of (K1.out _))
        | (go_at_call 93; with_reducible exact Calls.regrown_of (K2.out _)))))
      refine wpQuiet_nil ?_
      intro w3 hw3
      have hb3 : Below V.heap.size V w3 := by obtain ⟨q, rfl⟩ := hw3; exact below_regrown _ _ _
      obtain ⟨w4, hrun, hM4, hg4, hs4⟩ := HU.out w3 (HM1.out.below hb3 HM1.out.lt)
      unfold wv9 ec at hrun
      have HM4 := Lib.hid hM4
      have HG4 := Lib.hid hg4
      have HB3 := Lib.hid hb3
      have HSX := Lib.hid hs
      clear hM4 hg4 hb3 hw3 hlk hs4 d1 d3 hs
      go_wp2_with fail
      go_roundw
      case rel =>
        refine ⟨k + 1, by omega, by go_num, putK M x.ent (s + x.amt), HM4, Lib.hid (fun n => ?_), Nat.le_trans (length_putK _ _ _) (by omega), Lib.hid ?_⟩
        · rw [HST.out, getK_putK, HS.out]
          have := HSX.out
          rw [HS.out] at this
          by_cases h : x.ent = n
          · subst h
            rw [if_pos rfl, if_pos rfl, this]
          · rw [if_neg h, if_neg h]
        · exact (HBW.out.trans (HB3.out.mono HBW.out.size)).grown HG4.out (Nat.le_trans HBW.out.size HB3.out.size) (fun j hj => by cases hj; omega)
      case measure => simp [RowKit.intOf]; omega
    · obtain rfl : k = L := by omega
      go_wp2
      go_ret
      exact ⟨_, M, rfl, HM.out, fun n => by rw [HS.out, List.take_of_length_le (by rw [HL.out]; exact Nat.le_refl _)], HB0.out.size, HB0.out.trans (HB.out.mono HB0.out.size)⟩
end Go.Proofs.YtafmakhhdinknaaGreatDoor
/- Contract of a journal's Check. -/
namespace Go.Proofs.YtafmakhhdinknaaGreatDoor
open Go.RowKit
set_option linter.unusedVariables false
set_option linter.unusedSimpArgs false
set_option maxHeartbeats 8000000 in
set_option maxRecDepth 100000 in
theorem check_e (v : Value) (d : Int) (ls : List Ln) (w : World) (hI : InI w) (hR : Recs lc 4 w v ls) (hl : ls.length ≤ 100) (hd : I32 d) :
    Calls Tryz.prog 76 #[.agg #[.int .i32 d, v]] w fun e w' => e = .returned (.int .i64 (chkJ d ls)) ∧ Below w.heap.size w w' := by
  obtain ⟨r, cap, rfl, _⟩ := hR.form
  obtain ⟨L, hL⟩ : ∃ L, ls.length = L := ⟨_, rfl⟩
  have HL := Lib.hid hL
  rw [hL] at hR hl ⊢
  have HBX := Lib.hid (Box2.new w (.int .i32 d) (.slice r L cap) 94)
  have HB0 := Lib.hid ((Below.refl w.heap.size w).alloc (Nat.le_refl _) (.cells #[.int .i32 d, .slice r L cap] 94))
  have HR := Lib.hid (hR.stay HB0.out)
  have HI := hI.stay HB0.out
  have HCJ := Lib.hid (show chkJ d ls = if d < -719162 ∨ 2932896 < d then 13 else if L < 1 ∨ 60 < L then 2 else if (ls.any fun x => decide (x.amt = 0 ∨ x.amt = -9223372036854775808)) = true then 5 else if badB ls = true then 14 else 0 by unfold chkJ; rw [hL])
  obtain ⟨res, hres⟩ : ∃ a, chkJ d ls = a := ⟨_, rfl⟩
  rw [hres] at HCJ ⊢
  clear hR hL hres hI
  by_cases hday : -719162 ≤ d ∧ d ≤ 2932896
  · obtain ⟨y, m, dd, hRD, hnum⟩ := num_some hday.1 hday.2
    have KD := Lib.hid (dayC.date_yes y m dd _ HI hRD)
    have hy : (y == 0) = false := by have := hRD.1; simp; omega
    have hr := HCJ.out
    rw [if_neg (by omega)] at hr
    have HRS := Lib.hid hr
    rw [hnum] at KD
    clear hr hRD hnum HI HCJ hday hd
    go_enter Tryz.func76, Tryz.ntmps76
    go_upto_region 1 with fail
    generalize w.alloc (.cells #[.int .i32 d, .slice r L cap] 94) = W at HBX HB0 HR KD ⊢
    obtain ⟨p0, p1, _, _, _⟩ := HBX.out
    go_upto_region 4 with (go_at_call 83; refine KD.out.mono ?_; rintro e w1 ⟨rfl, h1⟩; have HBX1 := Lib.hid (HBX.out.stay h1); have HR1 := Lib.hid (HR.out.stay h1); have HB1 := Lib.hid (HB0.out.trans (h1.mono HB0.out.size)); clear h1)
    clear p0 p1 KD HBX HB0 HR
    rename World => V
    obtain ⟨p0, p1, _, _, _⟩ := HBX1.out
    by_cases hL1 : L < 1
    · have hr := HRS.out
      obtain rfl : L = 0 := by omega
      rw [if_pos (.inl hL1)] at hr
      subst hr
      go_wp2_with fail
      go_ret
      exact ⟨rfl, HB1.out⟩
    · have t1 : ¬ (L : Int) < 1 := by omega
      by_cases hL6 : 60 < L
      · have t2 : (60 : Int) < (L : Int) := by omega
        have hr := HRS.out
        rw [if_pos (.inr hL6)] at hr
        subst hr
        go_wp2_with fail
        go_ret
        exact ⟨rfl, HB1.out⟩
      · have t2 : ¬ (60 : Int) < (L : Int) := by omega
        have hr := HRS.out
        rw [if_neg (by omega)] at hr
        have HRU := Lib.hid hr
        clear hr
        go_wp2_with fail
        go_loopw [32] (fun i wr => ∃ k : Nat, i = .int .i64 k ∧ k ≤ L ∧ Hid (∀ j x, j < k → ls[j]? = some x → ¬ (x.amt = 0 ∨ x.amt = -9223372036854775808)) ∧ Hid (Below V.heap.size V wr)) (fun i _ => L - (RowKit.intOf i).toNat)
        case atStart => exact ⟨0, rfl, Nat.zero_le _, Lib.hid (fun j x h => by omega), Lib.hid (Below.refl _ _)⟩
        case round =>
          clear p0 p1
          obtain ⟨k, rfl, hk, HA, HB⟩ := hrel
          rename World => wr
          obtain ⟨p0, p1, _, _, _⟩ := HBX1.out.stay HB.out
          by_cases hlt : k < L
          · obtain ⟨x, hx⟩ : ∃ x, ls[k]? = some x := ⟨ls[k]'(by have := HL.out; omega), List.getElem?_eq_getElem (by have := HL.out; omega)⟩
            obtain ⟨g, off, rfl, hg, hc⟩ := (HR1.out.stay HB.out).at hx
            obtain ⟨c0, c1, c2, c3⟩ := Recs.cellsL hc
            have HX := Lib.hid hx
            have HBW := Lib.hid (HB.out.alloc HB.out.size (.cells #[.int .u32 (x.acc : Int), .int .u16 (x.ent.n : Int), .int .u16 (x.ctr : Int), .int .i64 x.amt] 116))
            clear hc hx
            by_cases ha : x.amt = 0
            · have hr := HRU.out
              rw [if_pos (List.any_eq_true.2 ⟨x, List.mem_of_getElem? HX.out, decide_eq_true (.inl ha)⟩)] at hr
              subst hr
              have a1 : (x.amt == 0) = true := by simp [ha]
              clear ha
              go_wp2_with fail
              go_ret
              exact ⟨rfl, HB1.out.trans (HBW.out.mono HB1.out.size)⟩
            · have a1 : (x.amt == 0) = false := by simp [ha]
              by_cases hb : x.amt = -9223372036854775808
              · have hr := HRU.out
                rw [if_pos (List.any_eq_true.2 ⟨x, List.mem_of_getElem? HX.out, decide_eq_true (.inr hb)⟩)] at hr
                subst hr
                have a2 : (x.amt == -9223372036854775808) = true := by simp [hb]
                clear ha hb
                go_wp2_with fail
                go_ret
                exact ⟨rfl, HB1.out.trans (HBW.out.mono HB1.out.size)⟩
              · have a2 : (x.amt == -9223372036854775808) = false := by simp [hb]
                have HN := Lib.hid (show ¬ (x.amt = 0 ∨ x.amt = -9223372036854775808) from fun h => h.elim ha hb)
                clear ha hb
                go_wp2_with fail
                go_roundw
                case rel =>
                  refine ⟨k + 1, by go_num, by omega, Lib.hid (fun j y hj hy => ?_), HBW⟩
                  by_cases e : j = k
                  · subst e
                    rw [HX.out] at hy
                    cases hy
                    exact HN.out
                  · exact HA.out j y (by omega) hy
                case measure => simp [RowKit.intOf]; omega
          · obtain rfl : k = L := by omega
            have hr := HRU.out
            rw [if_neg (by
              rw [List.any_eq_true]
              rintro ⟨x, hx, h⟩
              obtain ⟨j, hj, e⟩ := List.getElem_of_mem hx
              exact HA.out j x (by rw [← HL.out]; exact hj) (by rw [List.getElem?_eq_getElem hj, e]) (of_decide_eq_true h))] at hr
            have HRT := Lib.hid hr
            have KS := Lib.hid (sums_e _ d ls wr (HR1.out.stay HB.out))
            clear hr HA HRU
            go_wp2_with (first
              | (at_range; refine wpList_range_of _ map_w rfl _ rfl b5 M5 rfl HM5.out ?_; intro w6 hR6 hb6 hs6; have HB6 := Lib.hid hb6)
              | (go_at_call 77; refine KS.out.mono ?_; rintro e w5 ⟨b5, M5, rfl, hM, hs, hb0, hb⟩; have HM5 := Lib.hid hM; have HS5 := Lib.hid hs; have HB5 := Lib.hid hb; clear hM hs hb))
            have HBW := Lib.hid (HB1.out.trans ((HB.out.trans (HB5.out.mono HB.out.size)).mono HB1.out.size))
            have HND := Lib.hid HM5.out.nodup
            have HR6 := Lib.hid hR6
            clear hR6 hb6 hs6 HM5 KS p0 p1
            obtain ⟨rr, hrr⟩ : ∃ r, w5.heap.size = r := ⟨_, rfl⟩
            have HRE := Lib.hid hrr
            rw [hrr] at HR6 ⊢
            clear hrr
            simp only [Act.put, List.getElem_toArray, List.getElem_cons_zero, List.getElem_cons_succ, List.setIfInBounds_toArray, List.set_cons_zero, List.set_cons_succ]
            go_loopw [48] (fun _ wr => ∃ left : List (En × Int), Hid (RangeOf ec wv9 b5 rr M5 left wr) ∧ Hid (∀ q ∈ left, q ∈ M5) ∧ Hid (∀ q ∈ M5, q ∈ left ∨ q.2 % 340282366920938463463374607431768211456 = 0) ∧ Hid (Below w5.heap.size w5 wr)) (fun _ wr => wr.rangeLeft b5 rr)
            case atStart => exact ⟨M5, HR6, Lib.hid (fun q h => h), Lib.hid (fun q h => .inl h), HB6⟩
            case round =>
              clear HR6 HB6
              obtain ⟨left, HRO, HLM, HZ, HBr⟩ := hrel
              rename World => wq
              go_wp2_with (at_next; refine wpList_next_of _ map_w rfl _ rfl b5 rr M5 left rfl HRO.out ?_ ?_)
              · intro hleft
                subst hleft
                have hr := HRT.out
                rw [badB_not HS5.out (fun q hq => (HZ.out q hq).resolve_left (by simp)), if_neg (by simp)] at hr
                subst hr
                go_wp2_with fail
                go_ret
                exact ⟨rfl, HBW.out.trans (HBr.out.mono HBW.out.size)⟩
              · intro A qe qs B w7 hleft hR7 hg7 hs7 hen
                have hqM := HLM.out (qe, qs) (by rw [hleft]; simp)
                have hB7 : Below w5.heap.size w5 w7 := HBr.out.grown hg7 HBr.out.size (fun j hj => by cases hj; have := HRE.out; omega)
                have HB7 := Lib.hid hB7
                have HR7 := Lib.hid hR7
                have HLQ := Lib.hid hleft
                have HQM := Lib.hid hqM
                unfold wv9 ec at hen ⊢
                have hne := fun w => neq_wz qs w
                have HD7 := Lib.hid ((Below.refl w7.heap.size w7).alloc (Nat.le_refl _) (.cells #[.int .i64 (hiW qs), .int .u64 (loW qs)] 143))
                clear hqM hB7 hR7 hleft hs7 hg7
                by_cases hz : qs % 340282366920938463463374607431768211456 = 0
                · rw [decide_eq_true hz] at hne
                  have HZ1 := Lib.hid hz
                  clear hz
                  go_wp2_with fail
                  go_roundw
                  case rel =>
                    refine ⟨A ++ B, Lib.hid (HR7.out.same (HD7.out.block b5 HR7.out.owns.lt) (HD7.out.block rr HR7.out.lt)), Lib.hid (fun q hq => HLM.out q (by rw [HLQ.out]; rcases List.mem_append.1 hq with h | h <;> simp [h])), Lib.hid (fun q hq => ?_), Lib.hid (HB7.out.trans (HD7.out.mono HB7.out.size))⟩
                    rcases HZ.out q hq with h | h
                    · rw [HLQ.out] at h
                      rcases List.mem_append.1 h with h | h
                      · exact .inl (List.mem_append.2 (.inl h))
                      · rcases List.mem_cons.1 h with h | h
                        · subst h; exact .inr HZ1.out
                        · exact .inl (List.mem_append.2 (.inr h))
                    · exact .inr h
                  case measure =>
                    have h9 := HR7.out.same (HD7.out.block b5 HR7.out.owns.lt) (HD7.out.block rr HR7.out.lt)
                    rw [h9.left_eq, HRO.out.left_eq, HLQ.out]
                    simp
                · rw [decide_eq_false hz] at hne
                  have hr := HRT.out
                  rw [badB_of HND.out HS5.out HQM.out hz, if_pos rfl] at hr
                  subst hr
                  clear hz
                  go_wp2_with fail
                  go_ret
                  exact ⟨rfl, HBW.out.trans ((HB7.out.trans (HD7.out.mono HB7.out.size)).mono HBW.out.size)⟩
  · have KD := Lib.hid (dayC.date_no d _ HI (i32_wf (by unfold I32 at hd; omega)) hday)
    have hr := HCJ.out
    rw [if_pos (by omega)] at hr
    subst hr
    clear hd hday HI HCJ
    go_enter Tryz.func76, Tryz.ntmps76
    go_upto_region 1 with fail
    generalize w.alloc (.cells #[.int .i32 d, .slice r L cap] 94) = W at HBX HB0 HR KD ⊢
    obtain ⟨p0, p1, _, _, _⟩ := HBX.out
    go_wp2_with (go_at_call 83; refine KD.out.mono ?_; rintro e w1 ⟨rfl, h1⟩; have HB1 := Lib.hid (HB0.out.trans (h1.mono HB0.out.size)); clear h1)
    go_ret
    exact ⟨rfl, HB1.out⟩
end Go.Proofs.YtafmakhhdinknaaGreatDoor
/- What the laws ask of entry, of the landed entry. -/
namespace Go.Proofs.YtafmakhhdinknaaGreatDoor
open Go.RowKit
set_option linter.unusedVariables false
set_option linter.unusedSimpArgs false
theorem entryC : EntryC InI where
  sums v d ls w hR hl := (sums_e v d ls w hR).mono fun e w' ⟨b, M, h1, h2, h3, h4, h5⟩ => ⟨_, M, h1, .inr ⟨b, rfl, h2⟩, h3, h5⟩
  check v d ls w hI hR hl hd := check_e v d ls w hI hR hl hd
end Go.Proofs.YtafmakhhdinknaaGreatDoor

/- The walk of the law WideOrders. -/
import Derived.Test.YthgkfgjdlpjnmaaWf
import Derived.Test.YthgkfgjdlpjnmaaZe
import Derived.Test.YthgkfgjdlpjnmaaMf
import Derived.Deep.QuietTactic
import Derived.BigQuiet
namespace Go.Proofs.Ythgkfgjdlpjnmaa
open Go.RowKit
set_option linter.unusedVariables false
set_option linter.unusedSimpArgs false
theorem cmp_part {a b v : Int} (h : (v = 0 ∧ ordU a = ordU b) ∨ (v = 1 ∧ ordU b < ordU a) ∨ (v = -1 ∧ ordU a < ordU b)) :
    cmpV (hiW a) (loW a) (hiW b) (loW b) = v ∧ cmpV (hiW b) (loW b) (hiW a) (loW a) = -v := by
  rw [ordU_halves, ordU_halves] at h
  have b1 := wf_bd_u64 (wf_lo a)
  have b2 := wf_bd_u64 (wf_lo b)
  unfold cmpV
  generalize hiW a = x at *
  generalize loW a = y at *
  generalize hiW b = x' at *
  generalize loW b = y' at *
  constructor <;> (repeat' split) <;> omega
/-- The cells of block X are the numbers f, and may be written. -/
def HasCells (w : World) (X : Nat) (f : Nat → Int) : Prop := ∀ j, j < 128 → w.cell? ⟨X, j, none⟩ = some (.int .i64 (f j)) ∧ w.frozen? ⟨X, j, none⟩ = false
theorem two_cells {w : World} {X Y : Nat} (f g : Nat → Int) (hX : w.there X 0 128) (hY : w.there Y 0 128) (hne : X ≠ Y) :
    HasCells ((w.setCells X 0 (cellsL f)).setCells Y 0 (cellsL g)) X f ∧ HasCells ((w.setCells X 0 (cellsL f)).setCells Y 0 (cellsL g)) Y g := by
  have hX' : w.there X 0 (cellsL f).length := by rw [cellsL_len]; exact hX
  have hY' : (w.setCells X 0 (cellsL f)).there Y 0 (cellsL g).length := by rw [cellsL_len, there_setCells_eq]; exact hY
  have r1 := World.rangeAt_setCells_same w X 0 (cellsL f) hX'
  have r2 := World.rangeAt_setCells_apart r1 Y 0 (cellsL g) (.inl hne)
  have r3 := World.rangeAt_setCells_same _ Y 0 (cellsL g) hY'
  refine ⟨fun j hj => ⟨?_, ?_⟩, fun j hj => ⟨?_, ?_⟩⟩
  · have := r2 j _ (cellsL_get hj); rwa [Nat.zero_add] at this
  · rw [World.frozen?_setCells, World.frozen?_setCells]; have := (hX j hj).2; rwa [Nat.zero_add] at this
  · have := r3 j _ (cellsL_get hj); rwa [Nat.zero_add] at this
  · rw [World.frozen?_setCells, World.frozen?_setCells]; have := (hY j hj).2; rwa [Nat.zero_add] at this
theorem HasCells.setOther {w : World} {X : Nat} {f : Nat → Int} (h : HasCells w X f) (a : Addr) (hne : X ≠ a.block) (v : Value) : HasCells (w.setCell a v) X f := fun j hj => by
  obtain ⟨h1, h2⟩ := h j hj
  exact ⟨(World.cell?_of_block (w := w) (heap_setCell_other w a X v hne)).trans h1, (World.frozen?_of_block (w := w) (heap_setCell_other w a X v hne)).trans h2⟩
theorem HasCells.setTop {w : World} {X : Nat} {a : Int} (h : HasCells w X (bitZ a)) : HasCells (w.setCell ⟨X, 127, none⟩ (.int .i64 (1 - bitZ a 127))) X (topTurned a) := fun j hj => by
  obtain ⟨h1, h2⟩ := h j hj
  have hfr : (w.setCell ⟨X, 127, none⟩ (.int .i64 (1 - bitZ a 127))).frozen? ⟨X, j, none⟩ = w.frozen? ⟨X, j, none⟩ := by simp
  refine ⟨?_, hfr.trans h2⟩
  unfold topTurned
  by_cases e : j = 127
  · subst e; rw [if_pos rfl, World.cell?_setCell_same _ _ _ h1]
  · rw [if_neg e, World.cell?_setCell_other _ _ _ _ (fun h => e (by injection h with _ h2; exact h2.symm))]; exact h1
theorem HasCells.same {w w' : World} {X : Nat} {f : Nat → Int} (h : HasCells w X f) (hh : w'.heap = w.heap) : HasCells w' X f := fun j hj => by
  obtain ⟨h1, h2⟩ := h j hj
  exact ⟨(World.cell?_of_block (w := w) (by rw [hh])).trans h1, (World.frozen?_of_block (w := w) (by rw [hh])).trans h2⟩
/-- Two blocks of their own are the arrays f and g; the two wide numbers lie where they lay. -/
def TwoArrs (w0 : World) (u v u' v' : Value) (f g : Nat → Int) (x y : Value) (w : World) : Prop :=
  ∃ X Y, x = .pointer (some ⟨X, 0, none⟩) ∧ y = .pointer (some ⟨Y, 0, none⟩) ∧ X ≠ Y ∧ w0.heap.size + 1 < X ∧ w0.heap.size + 1 < Y ∧ HasCells w X f ∧ HasCells w Y g ∧
    (w.cell? ⟨w0.heap.size, 0, none⟩ = some u ∧ w.cell? ⟨w0.heap.size, 1, none⟩ = some v ∧ w.cell? ⟨w0.heap.size + 1, 0, none⟩ = some u' ∧ w.cell? ⟨w0.heap.size + 1, 1, none⟩ = some v' ∧ w0.heap.size + 1 < w.heap.size ∧ Below w0.heap.size w0 w)
theorem keepC {w0 w : World} {A B : Nat} {p q p' q' : Addr} {u v u' v' : Value} (h : w.cell? p = some u ∧ w.cell? q = some v ∧ w.cell? p' = some u' ∧ w.cell? q' = some v' ∧ B < w.heap.size ∧ Below A w0 w) (a : Addr) (x : Value) (hb : B < a.block) (hA : A ≤ B) (hp : p.block ≤ B) (hq : q.block ≤ B) (hp' : p'.block ≤ B) (hq' : q'.block ≤ B) :
    (w.setCell a x).cell? p = some u ∧ (w.setCell a x).cell? q = some v ∧ (w.setCell a x).cell? p' = some u' ∧ (w.setCell a x).cell? q' = some v' ∧ B < (w.setCell a x).heap.size ∧ Below A w0 (w.setCell a x) := by
  have k : ∀ y : Addr, y.block ≤ B → (w.setCell a x).cell? y = w.cell? y := fun y hy => World.cell?_of_block (heap_setCell_other w a y.block x (by omega))
  obtain ⟨h1, h2, h3, h4, h5, h6⟩ := h
  exact ⟨(k p hp).trans h1, (k q hq).trans h2, (k p' hp').trans h3, (k q' hq').trans h4, by simpa using h5, h6.setCell (by omega) _⟩
theorem keepN {w0 w : World} {A B : Nat} {p q p' q' : Addr} {u v u' v' : Value} (h : w.cell? p = some u ∧ w.cell? q = some v ∧ w.cell? p' = some u' ∧ w.cell? q' = some v' ∧ B < w.heap.size ∧ Below A w0 w) (n : Nat) :
    (w.drewN n).cell? p = some u ∧ (w.drewN n).cell? q = some v ∧ (w.drewN n).cell? p' = some u' ∧ (w.drewN n).cell? q' = some v' ∧ B < (w.drewN n).heap.size ∧ Below A w0 (w.drewN n) :=
  ⟨h.1, h.2.1, h.2.2.1, h.2.2.2.1, h.2.2.2.2.1, below_drewN h.2.2.2.2.2 n⟩
theorem keepD {w0 w : World} {A B : Nat} {p q p' q' : Addr} {u v u' v' : Value} (h : w.cell? p = some u ∧ w.cell? q = some v ∧ w.cell? p' = some u' ∧ w.cell? q' = some v' ∧ B < w.heap.size ∧ Below A w0 w) :
    w.drew.cell? p = some u ∧ w.drew.cell? q = some v ∧ w.drew.cell? p' = some u' ∧ w.drew.cell? q' = some v' ∧ B < w.drew.heap.size ∧ Below A w0 w.drew :=
  ⟨h.1, h.2.1, h.2.2.1, h.2.2.2.1, h.2.2.2.2.1, h.2.2.2.2.2.drew⟩
theorem parted_out {a b v : Int} (h : Parted (ordU a) (ordU b) v 0) : cmpV (hiW a) (loW a) (hiW b) (loW b) = v ∧ cmpV (hiW b) (loW b) (hiW a) (loW a) = -v := by
  refine cmp_part ?_
  unfold Parted at h
  rw [Int.pow_zero, Int.ediv_one, Int.ediv_one] at h
  exact h
theorem parted_off {a b v : Int} {k : Nat} (h : Parted (ordU a) (ordU b) v k) (hv : ¬ v = 0) : cmpV (hiW a) (loW a) (hiW b) (loW b) = v ∧ cmpV (hiW b) (loW b) (hiW a) (loW a) = -v := by
  refine cmp_part ?_
  rcases h with ⟨h, _⟩ | h | h
  · exact absurd h hv
  · exact .inr (.inl h)
  · exact .inr (.inr h)
theorem sizes5 {m n : Nat} (h : m + 1 < n) : m < n ∧ m < n + 1 ∧ m < n + 1 + 1 ∧ m + 1 < n + 1 ∧ m + 1 < n + 1 + 1 := by omega
set_option maxRecDepth 100000 in
set_option maxHeartbeats 16000000 in
theorem wideorders_own (a b : Int) (w : World) :
    Calls Try.prog 6 #[.agg #[.int .i64 (hiW a), .int .u64 (loW a)], .agg #[.int .i64 (hiW b), .int .u64 (loW b)], .bool false] w fun e w' => e = .returned (.bool true) ∧ Below w.heap.size w w' := by
  have hza := zeroArr
  go_enter Try.func6, Try.ntmps6
  go_wp2_with (first
    | (go_at_call 11; refine (awake_any _).mono ?_; rintro e w1 ⟨rfl, hb1⟩; obtain ⟨hc1, hf1⟩ := bcell hb1; have hz : w.heap.size + 1 < w1.heap.size := by (have := hb1.size; simp at this; omega)))
  have zz := sizes5 hz
  have hS0 : w1.cell? ⟨w.heap.size, 0, none⟩ = some (.int .i64 (hiW a)) ∧ w1.cell? ⟨w.heap.size, 1, none⟩ = some (.int .u64 (loW a)) ∧ w1.cell? ⟨w.heap.size + 1, 0, none⟩ = some (.int .i64 (hiW b)) ∧ w1.cell? ⟨w.heap.size + 1, 1, none⟩ = some (.int .u64 (loW b)) ∧ w.heap.size + 1 < w1.heap.size ∧ Below w.heap.size w w1 := by
    refine ⟨by go_simp, by go_simp, by go_simp, by go_simp, hz, ?_⟩
    exact (((Below.refl _ _).alloc (Nat.le_refl _) _).alloc (by simp) _).trans (hb1.mono (by simp; omega))
  clear hc1 hf1 hb1 zz
  go_cut [8, 9] (fun x y wr => TwoArrs w (.int .i64 (hiW a)) (.int .u64 (loW a)) (.int .i64 (hiW b)) (.int .u64 (loW b)) (bitZ a) (bitZ b) x y wr)
  case first =>
    have HTA : ∀ (W : World) (o : Obj) (g n : Nat), W.there g 0 n → (W.alloc o).there g 0 n := fun W o g n h => World.there_alloc h o
    have HTN : ∀ (W : World) (f : Nat → Int), (W.alloc (.cells (arr f) 28)).there W.heap.size 0 128 := there_new
    have HTM : ∀ (W : World) (o : Obj) (f : Nat → Int), ((W.alloc o).alloc (.cells (arr f) 28)).there (W.heap.size + 1) 0 128 := there_new1
    have HTD : ∀ (W : World) (f : Nat → Int), (W.drew.alloc (.cells (arr f) 28)).there W.heap.size 0 128 := there_newd
    have HTE : ∀ (W : World) (o : Obj) (f : Nat → Int), ((W.drew.alloc o).alloc (.cells (arr f) 28)).there (W.heap.size + 1) 0 128 := there_newd1
    have HTS : ∀ (W : World) (g b n : Nat) (vs : List Value), (W.setCells b 0 vs).there g 0 n = W.there g 0 n := there_setCells_eq
    have HL : ∀ f : Nat → Int, (cellsL f).length = 128 := cellsL_len
    have h1a := cellsL_one (bitZ a)
    have h1b := cellsL_one (bitZ b)
    have hia := cellsL_info (bitZ a)
    have hib := cellsL_info (bitZ b)
    go_region_held3 (fun w' => w'.cell? ⟨w.heap.size, 0, none⟩ = some (.int .i64 (hiW a)) ∧ w'.cell? ⟨w.heap.size, 1, none⟩ = some (.int .u64 (loW a)) ∧ w'.cell? ⟨w.heap.size + 1, 0, none⟩ = some (.int .i64 (hiW b)) ∧ w'.cell? ⟨w.heap.size + 1, 1, none⟩ = some (.int .u64 (loW b)) ∧ w.heap.size + 1 < w'.heap.size ∧ Below w.heap.size w w')
      (first | assumption | exact ⟨hS0.1, hS0.2.1, hS0.2.2.1, hS0.2.2.2.1, hS0.2.2.2.2.1, hS0.2.2.2.2.2.drew⟩ | (refine keepA (by assumption) _ ?_ ?_ ?_ ?_ ?_ <;> simp) | (refine keepS (by assumption) _ _ ?_ ?_ ?_ ?_ ?_ ?_ <;> first | omega | (simp; done) | (simp only [heap_drew, World.size_alloc]; omega)))
      (first | (go_at_call 15; refine (lbits_list _ _).mono ?_; rintro e w2 ⟨rfl, hb2⟩; have hS2 := keep4 (by assumption) hb2 (by simp) (by simp) (by simp) (by simp) (by simp); have hz2 := hS2.2.2.2.2.1; have hy2 := hb2.size; have hh2 := there_below hb2; try (first | have hk2 := kept2d hb2 rfl | have hk2 := kept2 hb2 rfl | have hk2 := kept1d hb2 rfl | have hk2 := kept1 hb2 rfl)))
    all_goals
      go_wp2_with fail
      go_meet
      clear hza
      refine ⟨_, _, rfl, rfl, ?hn, ?hx, ?hy, (two_cells (bitZ a) (bitZ b) ?tx ?ty ?hn).1, (two_cells (bitZ a) (bitZ b) ?tx ?ty ?hn).2, (by assumption)⟩
      case hn => first | omega | (simp only [heap_drew, World.size_alloc] at *; omega)
      case hx => first | omega | (simp only [heap_drew, World.size_alloc] at *; omega)
      case hy => first | omega | (simp only [heap_drew, World.size_alloc] at *; omega)
      case tx => first | assumption | (simp only [*]; done)
      case ty => first | assumption | (simp only [*]; done)
  case rest =>
    obtain ⟨X, Y, rfl, rfl, hne, hX, hY, cX, cY, hS⟩ := hcut
    go_wp2_with fail
    go_cut [21] (fun _ wr => HasCells wr X (topTurned a) ∧ HasCells wr Y (topTurned b) ∧ (wr.cell? ⟨w.heap.size, 0, none⟩ = some (.int .i64 (hiW a)) ∧ wr.cell? ⟨w.heap.size, 1, none⟩ = some (.int .u64 (loW a)) ∧ wr.cell? ⟨w.heap.size + 1, 0, none⟩ = some (.int .i64 (hiW b)) ∧ wr.cell? ⟨w.heap.size + 1, 1, none⟩ = some (.int .u64 (loW b)) ∧ w.heap.size + 1 < wr.heap.size ∧ Below w.heap.size w wr))
    case first =>
      obtain ⟨x1, x2⟩ := cX 127 (by omega)
      obtain ⟨y1, y2⟩ := cY 127 (by omega)
      have bx := bit_01 a 127
      have by' := bit_01 b 127
      have nx : X = Y ↔ False := ⟨hne, False.elim⟩
      have ny : Y = X ↔ False := ⟨fun h => hne h.symm, False.elim⟩
      have HCX := Lib.hid cX
      have HCY := Lib.hid cY
      have sx : IntKind.i64.wrap (1 - bitZ a 127) = 1 - bitZ a 127 := by rw [i64w]; omega
      have sy : IntKind.i64.wrap (1 - bitZ b 127) = 1 - bitZ b 127 := by rw [i64w]; omega
      clear cX cY
      go_region_with (fail)
      all_goals
        go_wp2_with fail
        go_meet
      all_goals exact ⟨((HCX.out.setTop).setOther _ hne _).same rfl, ((HCY.out.setOther _ (fun h => hne h.symm) _).setTop).same rfl, keepD (keepC (keepC hS _ _ hX (by omega) (by simp) (by simp) (by simp) (by simp)) _ _ hY (by omega) (by simp) (by simp) (by simp) (by simp))⟩
    case rest =>
      clear cX cY hS hza
      obtain ⟨cX, cY, hS⟩ := hcut
      go_wp2_with fail
      go_loopw [7, 10] (fun v i wr => ∃ (k : Nat) (x : Int), k ≤ 128 ∧ i = .int .i64 ((k : Int) - 1) ∧ v = .int .i64 x ∧ Parted (ordU a) (ordU b) x k ∧ HasCells wr X (topTurned a) ∧ HasCells wr Y (topTurned b) ∧ (wr.cell? ⟨w.heap.size, 0, none⟩ = some (.int .i64 (hiW a)) ∧ wr.cell? ⟨w.heap.size, 1, none⟩ = some (.int .u64 (loW a)) ∧ wr.cell? ⟨w.heap.size + 1, 0, none⟩ = some (.int .i64 (hiW b)) ∧ wr.cell? ⟨w.heap.size + 1, 1, none⟩ = some (.int .u64 (loW b)) ∧ w.heap.size + 1 < wr.heap.size ∧ Below w.heap.size w wr)) (fun _ i _ => (intOf i + 1).toNat)
      case atStart => exact ⟨128, 0, by omega, rfl, rfl, parted_start _ _ (ordU_bd a) (ordU_bd b), cX, cY, hS⟩
      case round =>
        clear cX cY hS
        obtain ⟨k, x, hk, rfl, rfl, hp, dX, dY, hs⟩ := hrel
        have hbd := parted_bd hp
        by_cases hz : k = 0
        · subst hz
          obtain ⟨e1, e2⟩ := parted_out hp
          clear hp dX dY
          go_wp2_with (go_at_call 25; refine (cmp_any _ _ _ _ _).mono ?_; rintro e w2 ⟨rfl, hb2⟩; have hs := keep4 hs hb2 (by simp) (by simp) (by simp) (by simp) (by simp))
          go_ret
          exact ⟨rfl, hs.2.2.2.2.2⟩
        · obtain ⟨j, rfl⟩ : ∃ j, k = j + 1 := ⟨k - 1, by omega⟩
          have e : ((j + 1 : Nat) : Int) - 1 = (j : Int) := by omega
          rw [e]
          by_cases hx : x = 0
          · subst hx
            have hj : j < 128 := by omega
            obtain ⟨x1, x2⟩ := dX j hj
            obtain ⟨y1, y2⟩ := dY j hj
            rw [topTurned_bit a j hj] at x1
            rw [topTurned_bit b j hj] at y1
            have b1 := bit_01 (ordU a) j
            have b2 := bit_01 (ordU b) j
            have s1 : IntKind.i64.wrap (bitZ (ordU a) j - bitZ (ordU b) j) = bitZ (ordU a) j - bitZ (ordU b) j := by rw [i64w]; omega
            have DX := Lib.hid dX
            have DY := Lib.hid dY
            have HP := Lib.hid hp
            have HS := Lib.hid hs
            clear dX dY hp hs e
            go_wp2_with fail
            go_quiet (fail)
            go_wp2
            go_roundw
            case rel => exact ⟨j, _, by omega, rfl, rfl, parted_step HP.out, DX.out.same rfl, DY.out.same rfl, keepN HS.out _⟩
            case measure => simp [intOf]
          · have hne0 : (x == 0) = false := beq_eq_false_iff_ne.2 hx
            obtain ⟨e1, e2⟩ := parted_off hp hx
            clear hp dX dY e hx
            go_wp2_with (go_at_call 25; refine (cmp_any _ _ _ _ _).mono ?_; rintro e w2 ⟨rfl, hb2⟩; have hs := keep4 hs hb2 (by simp) (by simp) (by simp) (by simp) (by simp))
            go_ret
            exact ⟨rfl, hs.2.2.2.2.2⟩
set_option maxRecDepth 100000 in
set_option maxHeartbeats 16000000 in
theorem wideorders_same (a b h : Int) (w : World) (hh : hiW b = hiW a) :
    Calls Try.prog 6 #[.agg #[.int .i64 (hiW a), .int .u64 (loW a)], .agg #[.int .i64 h, .int .u64 (loW b)], .bool true] w fun e w' => e = .returned (.bool true) ∧ Below w.heap.size w w' := by
  have hza := zeroArr
  go_enter Try.func6, Try.ntmps6
  go_wp2_with (first
    | (go_at_call 11; refine (awake_any _).mono ?_; rintro e w1 ⟨rfl, hb1⟩; obtain ⟨hc1, hf1⟩ := bcell hb1; have hz : w.heap.size + 1 < w1.heap.size := (by have := hb1.size; simp at this; omega); have zz := sizes5 hz))
  have hS0 : (w1.setCell ⟨w.heap.size + 1, 0, none⟩ (.int .i64 (hiW a))).cell? ⟨w.heap.size, 0, none⟩ = some (.int .i64 (hiW a)) ∧ (w1.setCell ⟨w.heap.size + 1, 0, none⟩ (.int .i64 (hiW a))).cell? ⟨w.heap.size, 1, none⟩ = some (.int .u64 (loW a)) ∧ (w1.setCell ⟨w.heap.size + 1, 0, none⟩ (.int .i64 (hiW a))).cell? ⟨w.heap.size + 1, 0, none⟩ = some (.int .i64 (hiW b)) ∧ (w1.setCell ⟨w.heap.size + 1, 0, none⟩ (.int .i64 (hiW a))).cell? ⟨w.heap.size + 1, 1, none⟩ = some (.int .u64 (loW b)) ∧ w.heap.size + 1 < (w1.setCell ⟨w.heap.size + 1, 0, none⟩ (.int .i64 (hiW a))).heap.size ∧ Below w.heap.size w (w1.setCell ⟨w.heap.size + 1, 0, none⟩ (.int .i64 (hiW a))) := by
    rw [hh]
    refine ⟨by go_simp, by go_simp, by go_simp, by go_simp, by simpa using hz, ?_⟩
    exact ((((Below.refl _ _).alloc (Nat.le_refl _) _).alloc (by simp) _).trans (hb1.mono (by simp; omega))).setCell (by simp) _
  generalize w1.setCell ⟨w.heap.size + 1, 0, none⟩ (.int .i64 (hiW a)) = w3 at *
  have hz3 := hS0.2.2.2.2.1
  clear hc1 hf1 hb1 zz hz hh
  go_cut [8, 9] (fun x y wr => TwoArrs w (.int .i64 (hiW a)) (.int .u64 (loW a)) (.int .i64 (hiW b)) (.int .u64 (loW b)) (bitZ a) (bitZ b) x y wr)
  case first =>
    have HTA : ∀ (W : World) (o : Obj) (g n : Nat), W.there g 0 n → (W.alloc o).there g 0 n := fun W o g n h => World.there_alloc h o
    have HTN : ∀ (W : World) (f : Nat → Int), (W.alloc (.cells (arr f) 28)).there W.heap.size 0 128 := there_new
    have HTM : ∀ (W : World) (o : Obj) (f : Nat → Int), ((W.alloc o).alloc (.cells (arr f) 28)).there (W.heap.size + 1) 0 128 := there_new1
    have HTD : ∀ (W : World) (f : Nat → Int), (W.drew.alloc (.cells (arr f) 28)).there W.heap.size 0 128 := there_newd
    have HTE : ∀ (W : World) (o : Obj) (f : Nat → Int), ((W.drew.alloc o).alloc (.cells (arr f) 28)).there (W.heap.size + 1) 0 128 := there_newd1
    have HTS : ∀ (W : World) (g b n : Nat) (vs : List Value), (W.setCells b 0 vs).there g 0 n = W.there g 0 n := there_setCells_eq
    have HL : ∀ f : Nat → Int, (cellsL f).length = 128 := cellsL_len
    have h1a := cellsL_one (bitZ a)
    have h1b := cellsL_one (bitZ b)
    have hia := cellsL_info (bitZ a)
    have hib := cellsL_info (bitZ b)
    go_region_held3 (fun w' => w'.cell? ⟨w.heap.size, 0, none⟩ = some (.int .i64 (hiW a)) ∧ w'.cell? ⟨w.heap.size, 1, none⟩ = some (.int .u64 (loW a)) ∧ w'.cell? ⟨w.heap.size + 1, 0, none⟩ = some (.int .i64 (hiW b)) ∧ w'.cell? ⟨w.heap.size + 1, 1, none⟩ = some (.int .u64 (loW b)) ∧ w.heap.size + 1 < w'.heap.size ∧ Below w.heap.size w w')
      (first | assumption | exact ⟨hS0.1, hS0.2.1, hS0.2.2.1, hS0.2.2.2.1, hS0.2.2.2.2.1, hS0.2.2.2.2.2.drew⟩ | (refine keepA (by assumption) _ ?_ ?_ ?_ ?_ ?_ <;> simp) | (refine keepS (by assumption) _ _ ?_ ?_ ?_ ?_ ?_ ?_ <;> first | omega | (simp; done) | (simp only [heap_drew, World.size_alloc]; omega)))
      (first | (go_at_call 15; refine (lbits_list _ _).mono ?_; rintro e w2 ⟨rfl, hb2⟩; have hS2 := keep4 (by assumption) hb2 (by simp) (by simp) (by simp) (by simp) (by simp); have hz2 := hS2.2.2.2.2.1; have hy2 := hb2.size; have hh2 := there_below hb2; try (first | have hk2 := kept2d hb2 rfl | have hk2 := kept2 hb2 rfl | have hk2 := kept1d hb2 rfl | have hk2 := kept1 hb2 rfl)))
    all_goals
      go_wp2_with fail
      go_meet
      clear hza
      refine ⟨_, _, rfl, rfl, ?hn, ?hx, ?hy, (two_cells (bitZ a) (bitZ b) ?tx ?ty ?hn).1, (two_cells (bitZ a) (bitZ b) ?tx ?ty ?hn).2, (by assumption)⟩
      case hn => first | omega | (simp only [heap_drew, World.size_alloc] at *; omega)
      case hx => first | omega | (simp only [heap_drew, World.size_alloc] at *; omega)
      case hy => first | omega | (simp only [heap_drew, World.size_alloc] at *; omega)
      case tx => first | assumption | (simp only [*]; done)
      case ty => first | assumption | (simp only [*]; done)
  case rest =>
    obtain ⟨X, Y, rfl, rfl, hne, hX, hY, cX, cY, hS⟩ := hcut
    go_wp2_with fail
    go_cut [21] (fun _ wr => HasCells wr X (topTurned a) ∧ HasCells wr Y (topTurned b) ∧ (wr.cell? ⟨w.heap.size, 0, none⟩ = some (.int .i64 (hiW a)) ∧ wr.cell? ⟨w.heap.size, 1, none⟩ = some (.int .u64 (loW a)) ∧ wr.cell? ⟨w.heap.size + 1, 0, none⟩ = some (.int .i64 (hiW b)) ∧ wr.cell? ⟨w.heap.size + 1, 1, none⟩ = some (.int .u64 (loW b)) ∧ w.heap.size + 1 < wr.heap.size ∧ Below w.heap.size w wr))
    case first =>
      obtain ⟨x1, x2⟩ := cX 127 (by omega)
      obtain ⟨y1, y2⟩ := cY 127 (by omega)
      have bx := bit_01 a 127
      have by' := bit_01 b 127
      have nx : X = Y ↔ False := ⟨hne, False.elim⟩
      have ny : Y = X ↔ False := ⟨fun h => hne h.symm, False.elim⟩
      have HCX := Lib.hid cX
      have HCY := Lib.hid cY
      have sx : IntKind.i64.wrap (1 - bitZ a 127) = 1 - bitZ a 127 := by rw [i64w]; omega
      have sy : IntKind.i64.wrap (1 - bitZ b 127) = 1 - bitZ b 127 := by rw [i64w]; omega
      clear cX cY
      go_region_with (fail)
      all_goals
        go_wp2_with fail
        go_meet
      all_goals exact ⟨((HCX.out.setTop).setOther _ hne _).same rfl, ((HCY.out.setOther _ (fun h => hne h.symm) _).setTop).same rfl, keepD (keepC (keepC hS _ _ hX (by omega) (by simp) (by simp) (by simp) (by simp)) _ _ hY (by omega) (by simp) (by simp) (by simp) (by simp))⟩
    case rest =>
      clear cX cY hS hza
      obtain ⟨cX, cY, hS⟩ := hcut
      go_wp2_with fail
      go_loopw [7, 10] (fun v i wr => ∃ (k : Nat) (x : Int), k ≤ 128 ∧ i = .int .i64 ((k : Int) - 1) ∧ v = .int .i64 x ∧ Parted (ordU a) (ordU b) x k ∧ HasCells wr X (topTurned a) ∧ HasCells wr Y (topTurned b) ∧ (wr.cell? ⟨w.heap.size, 0, none⟩ = some (.int .i64 (hiW a)) ∧ wr.cell? ⟨w.heap.size, 1, none⟩ = some (.int .u64 (loW a)) ∧ wr.cell? ⟨w.heap.size + 1, 0, none⟩ = some (.int .i64 (hiW b)) ∧ wr.cell? ⟨w.heap.size + 1, 1, none⟩ = some (.int .u64 (loW b)) ∧ w.heap.size + 1 < wr.heap.size ∧ Below w.heap.size w wr)) (fun _ i _ => (intOf i + 1).toNat)
      case atStart => exact ⟨128, 0, by omega, rfl, rfl, parted_start _ _ (ordU_bd a) (ordU_bd b), cX, cY, hS⟩
      case round =>
        clear cX cY hS
        obtain ⟨k, x, hk, rfl, rfl, hp, dX, dY, hs⟩ := hrel
        have hbd := parted_bd hp
        by_cases hz : k = 0
        · subst hz
          obtain ⟨e1, e2⟩ := parted_out hp
          clear hp dX dY
          go_wp2_with (go_at_call 25; refine (cmp_any _ _ _ _ _).mono ?_; rintro e w2 ⟨rfl, hb2⟩; have hs := keep4 hs hb2 (by simp) (by simp) (by simp) (by simp) (by simp))
          go_ret
          exact ⟨rfl, hs.2.2.2.2.2⟩
        · obtain ⟨j, rfl⟩ : ∃ j, k = j + 1 := ⟨k - 1, by omega⟩
          have e : ((j + 1 : Nat) : Int) - 1 = (j : Int) := by omega
          rw [e]
          by_cases hx : x = 0
          · subst hx
            have hj : j < 128 := by omega
            obtain ⟨x1, x2⟩ := dX j hj
            obtain ⟨y1, y2⟩ := dY j hj
            rw [topTurned_bit a j hj] at x1
            rw [topTurned_bit b j hj] at y1
            have b1 := bit_01 (ordU a) j
            have b2 := bit_01 (ordU b) j
            have s1 : IntKind.i64.wrap (bitZ (ordU a) j - bitZ (ordU b) j) = bitZ (ordU a) j - bitZ (ordU b) j := by rw [i64w]; omega
            have DX := Lib.hid dX
            have DY := Lib.hid dY
            have HP := Lib.hid hp
            have HS := Lib.hid hs
            clear dX dY hp hs e
            go_wp2_with fail
            go_quiet (fail)
            go_wp2
            go_roundw
            case rel => exact ⟨j, _, by omega, rfl, rfl, parted_step HP.out, DX.out.same rfl, DY.out.same rfl, keepN HS.out _⟩
            case measure => simp [intOf]
          · have hne0 : (x == 0) = false := beq_eq_false_iff_ne.2 hx
            obtain ⟨e1, e2⟩ := parted_off hp hx
            clear hp dX dY e hx
            go_wp2_with (go_at_call 25; refine (cmp_any _ _ _ _ _).mono ?_; rintro e w2 ⟨rfl, hb2⟩; have hs := keep4 hs hb2 (by simp) (by simp) (by simp) (by simp) (by simp))
            go_ret
            exact ⟨rfl, hs.2.2.2.2.2⟩
theorem wideorders_any (h l h' l' : Int) (same : Bool) (w : World) (w0 : (Lit.int .i64 h).wf = true) (w1 : (Lit.int .u64 l).wf = true) (w2 : (Lit.int .i64 h').wf = true) (w3 : (Lit.int .u64 l').wf = true) :
    Calls Try.prog 6 #[.agg #[.int .i64 h, .int .u64 l], .agg #[.int .i64 h', .int .u64 l'], .bool same] w fun e w' => e = .returned (.bool true) ∧ Below w.heap.size w w' := by
  obtain ⟨a, rfl, rfl⟩ := halves_of w0 w1
  cases same
  · obtain ⟨b, rfl, rfl⟩ := halves_of w2 w3
    exact wideorders_own a b w
  · obtain ⟨b, e1, rfl⟩ := halves_of w0 w3
    exact wideorders_same a b h' w e1.symm
end Go.Proofs.Ythgkfgjdlpjnmaa

/- Calendars in plain words: what law 8 makes, in which period a day is, what may be. -/
import Derived.WalkKit
import Derived.Test.YtjgmbjfijpmhdaaGreatDoorZBa
import Derived.Test.YtjgmbjfijpmhdaaGreatDoorChecked
import Derived.Lib.Hide
import Derived.BigQuiet
import Derived.LoopTactic
import Derived.Outline
import Derived.OwnWalk
import Derived.Maps.AppendAt
import Derived.Laws.OwnMore
import Derived.Deep.Heap
import Derived.Deep.DeepCutAuto
import Derived.Test.YtjgmbjfijpmhdaaGreatDoorZNall
import Derived.Lib.SliceRun
import Derived.Lib.Walk
import Derived.Deep.QuietTactic
import Derived.Lib.AppendZerosOnto
import Derived.Deep.Upon
import Derived.Test.YtjgmbjfijpmhdaaGreatDoorZKall
namespace Go.Proofs.YtjgmbjfijpmhdaaGreatDoor
open Go.RowKit
set_option linter.unusedVariables false
set_option linter.unusedSimpArgs false
/-- A day's cell. -/
def dcl (n : Int) : List Value := [.int .i32 n]
theorem dcl_len (n : Int) : (dcl n).length = 1 := rfl
theorem dcl_one (n : Int) : ∀ v ∈ dcl n, v.oneCell' = true := fun v hv => by simp [dcl] at hv; subst hv; rfl
def RiseD (l : List Int) : Prop := l.Pairwise (fun a b => a < b)
/-- The starts that law 8 makes of a first day and how long periods are; the last one's start. -/
def rowD : Int → List Nat → List Int
  | d, [] => [d]
  | d, n :: r => d :: rowD (d + (1 + (n % 40 : Nat))) r
def lastD : Int → List Nat → Int
  | d, [] => d
  | d, n :: r => lastD (d + (1 + (n % 40 : Nat))) r
theorem rowD_snoc : ∀ (d : Int) (l : List Nat) (n : Nat), rowD d (l ++ [n]) = rowD d l ++ [lastD d l + (1 + (n % 40 : Nat))]
  | d, [], n => rfl
  | d, m :: r, n => by rw [List.cons_append, rowD, rowD_snoc, rowD, lastD]; rfl
theorem lastD_snoc : ∀ (d : Int) (l : List Nat) (n : Nat), lastD d (l ++ [n]) = lastD d l + (1 + (n % 40 : Nat))
  | d, [], n => rfl
  | d, m :: r, n => by rw [List.cons_append, lastD, lastD_snoc, lastD]
theorem rowD_len : ∀ (d : Int) (l : List Nat), (rowD d l).length = l.length + 1
  | d, [] => rfl
  | d, n :: r => by rw [rowD, List.length_cons, rowD_len, List.length_cons]
theorem lastD_le : ∀ (d : Int) (l : List Nat), d ≤ lastD d l ∧ lastD d l ≤ d + 40 * l.length
  | d, [] => by simp [lastD]
  | d, n :: r => by
    have := lastD_le (d + (1 + (n % 40 : Nat))) r
    have h : n % 40 < 40 := Nat.mod_lt _ (by omega)
    rw [lastD, List.length_cons]
    omega
theorem rowD_mem : ∀ (d : Int) (l : List Nat), ∀ x ∈ rowD d l, d ≤ x ∧ x ≤ lastD d l
  | d, [], x, h => by simp [rowD] at h; subst h; simp [lastD]
  | d, n :: r, x, h => by
    rw [rowD] at h
    have h1 := lastD_le (d + (1 + (n % 40 : Nat))) r
    rw [lastD]
    rcases List.mem_cons.1 h with rfl | h
    · omega
    · have := rowD_mem _ _ x h
      omega
theorem rowD_rise : ∀ (d : Int) (l : List Nat), RiseD (rowD d l)
  | d, [] => List.Pairwise.cons (fun b hb => by cases hb) List.Pairwise.nil
  | d, n :: r => by
    rw [rowD]
    refine List.Pairwise.cons (fun b hb => ?_) (rowD_rise _ r)
    have := rowD_mem _ _ b hb
    omega
theorem rowD_head (d : Int) (l : List Nat) : (rowD d l)[0]? = some d := by cases l <;> rfl
/-- Law 8's calendar: its starts, its end. -/
def mkS (d : Int) (l : List Nat) : List Int := rowD d (l.take 12)
def mkE (d : Int) (l : List Nat) : Int := lastD d (l.take 12) + 31
theorem mkS_len (d : Int) (l : List Nat) : (mkS d l).length = min 12 l.length + 1 := by unfold mkS; rw [rowD_len, List.length_take]
theorem mkS_rise (d : Int) (l : List Nat) : RiseD (mkS d l) := rowD_rise _ _
theorem mkS_mem {d : Int} {l : List Nat} {x : Int} (h : x ∈ mkS d l) : d ≤ x ∧ x < mkE d l ∧ x ≤ d + 480 := by
  have h1 := rowD_mem _ _ x h
  have h2 := lastD_le d (l.take 12)
  have h3 : (l.take 12).length ≤ 12 := by rw [List.length_take]; omega
  unfold mkE
  omega
theorem mkE_le (d : Int) (l : List Nat) : d + 31 ≤ mkE d l ∧ mkE d l ≤ d + 511 := by
  have h2 := lastD_le d (l.take 12)
  have h3 : (l.take 12).length ≤ 12 := by rw [List.length_take]; omega
  unfold mkE
  omega
theorem mkS_head (d : Int) (l : List Nat) : (mkS d l)[0]? = some d := rowD_head _ _
/-- How many starts are no later than a day; in which period it is. -/
def cntD (S : List Int) (d : Int) : Nat := (S.filter (fun s => decide (s ≤ d))).length
def perI (S : List Int) (E d : Int) : Int := if d < E ∧ 0 < cntD S d then (cntD S d : Int) - 1 else -1
theorem cnt_cons (a : Int) (r : List Int) (d : Int) : cntD (a :: r) d = (if a ≤ d then 1 else 0) + cntD r d := by
  unfold cntD
  by_cases h : a ≤ d
  · rw [List.filter_cons_of_pos (by simpa using h), List.length_cons, if_pos h]; omega
  · rw [List.filter_cons_of_neg (by simpa using h), if_neg h]; omega
theorem cnt_zero {S : List Int} {d : Int} (h : ∀ x ∈ S, d < x) : cntD S d = 0 := by
  unfold cntD
  rw [List.filter_eq_nil_iff.2 (by intro a ha; have := h a ha; simp; omega)]; rfl
/-- Of rising starts those no later than a day are the first ones. -/
theorem cnt_iff : ∀ {S : List Int} {d : Int}, RiseD S → ∀ {i : Nat} {s : Int}, S[i]? = some s → (s ≤ d ↔ i < cntD S d)
  | [], d, _, i, s, h => by simp at h
  | a :: r, d, hr, 0, s, h => by
    simp only [List.getElem?_cons_zero, Option.some.injEq] at h
    subst h
    rw [cnt_cons]
    by_cases h : a ≤ d
    · rw [if_pos h]; exact ⟨fun _ => by omega, fun _ => h⟩
    · rw [if_neg h, cnt_zero fun x hx => by have := (List.pairwise_cons.1 hr).1 x hx; omega]
      exact ⟨fun g => absurd g h, fun g => by omega⟩
  | a :: r, d, hr, i + 1, s, h => by
    simp only [List.getElem?_cons_succ] at h
    obtain ⟨h1, h2⟩ := List.pairwise_cons.1 hr
    have ih := cnt_iff (d := d) h2 h
    have hlt := h1 s (List.mem_of_getElem? h)
    rw [cnt_cons]
    by_cases g : a ≤ d
    · rw [if_pos g, ih]; omega
    · rw [if_neg g, cnt_zero fun x hx => by have := h1 x hx; omega]
      exact ⟨fun e => by omega, fun e => by omega⟩
/-- What is wrong with days behind one; with a calendar. -/
def chkD1 : Option Int → List Int → Int
  | _, [] => 0
  | p, a :: r => if a < -719162 ∨ 2932896 < a then 13 else if (∃ b, p = some b ∧ a ≤ b) then 6 else chkD1 (some a) r
def chkD (S : List Int) (E : Int) : Int := if S.length < 1 ∨ 60 < S.length then 2 else chkD1 none (S ++ [E])
theorem chkD1_ok : ∀ {l : List Int} {p : Option Int}, RiseD l → (∀ x ∈ l, -719162 ≤ x ∧ x ≤ 2932896 ∧ ∀ b, p = some b → b < x) → chkD1 p l = 0
  | [], _, _, _ => rfl
  | a :: r, p, hr, ha => by
    obtain ⟨h1, h2⟩ := List.pairwise_cons.1 hr
    have h3 := ha a (List.mem_cons_self ..)
    unfold chkD1
    rw [if_neg (by omega), if_neg (by rintro ⟨b, e, h⟩; have := h3.2.2 b e; omega)]
    refine chkD1_ok h2 fun x hx => ?_
    have := ha x (List.mem_cons_of_mem _ hx)
    exact ⟨this.1, this.2.1, fun b e => by cases e; exact h1 x hx⟩
theorem chkD_ok {S : List Int} {E : Int} (h0 : 1 ≤ S.length) (h6 : S.length ≤ 60) (hr : RiseD S) (hE : ∀ x ∈ S, -719162 ≤ x ∧ x < E) (hE2 : E ≤ 2932896) : chkD S E = 0 := by
  unfold chkD
  rw [if_neg (by omega)]
  refine chkD1_ok (List.pairwise_append.2 ⟨hr, by simp, fun a ha b hb => ?_⟩) fun x hx => ?_
  · simp at hb; subst hb; exact (hE a ha).2
  · rcases List.mem_append.1 hx with h | h
    · have := hE x h; exact ⟨this.1, by omega, fun b e => by cases e⟩
    · simp at h
      subst h
      obtain ⟨y, hy⟩ : ∃ y, y ∈ S := ⟨S[0]'(by omega), List.getElem_mem _⟩
      have := hE y hy
      exact ⟨by omega, by omega, fun b e => by cases e⟩
theorem mk_ok (d : Int) (l : List Nat) (h : -719162 ≤ d) (h2 : d ≤ 2900000) : chkD (mkS d l) (mkE d l) = 0 := by
  have h3 := mkE_le d l
  refine chkD_ok (by rw [mkS_len]; omega) (by rw [mkS_len]; omega) (mkS_rise d l) (fun x hx => ?_) (by omega)
  have := mkS_mem hx
  omega
end Go.Proofs.YtjgmbjfijpmhdaaGreatDoor
/- Contract of law 8's Make: a calendar in the making, in a variable of two cells. -/
namespace Go.Proofs.YtjgmbjfijpmhdaaGreatDoor
open Go.RowKit
set_option linter.unusedVariables false
set_option linter.unusedSimpArgs false
/-- A small number's cell. -/
def u8c (n : Nat) : List Value := [.int .u8 (n : Int)]
theorem u8c_len (n : Nat) : (u8c n).length = 1 := rfl
/-- Two cells that may be written. -/
structure Box2 (w : World) (b : Nat) (c0 c1 : Value) : Prop where
  a0 : w.cell? ⟨b, 0, none⟩ = some c0
  a1 : w.cell? ⟨b, 1, none⟩ = some c1
  f0 : w.frozen? ⟨b, 0, none⟩ = false
  f1 : w.frozen? ⟨b, 1, none⟩ = false
  size : b < w.heap.size
theorem Box2.stay {w w' : World} {b : Nat} {c0 c1 : Value} (h : Box2 w b c0 c1) (hb : Below w.heap.size w w') : Box2 w' b c0 c1 :=
  ⟨(hb.cell (p := ⟨b, 0, none⟩) h.size).trans h.a0, (hb.cell (p := ⟨b, 1, none⟩) h.size).trans h.a1, (hb.frozen (p := ⟨b, 0, none⟩) h.size).trans h.f0, (hb.frozen (p := ⟨b, 1, none⟩) h.size).trans h.f1, Nat.lt_of_lt_of_le h.size hb.size⟩
theorem Box2.new (w : World) (c0 c1 : Value) (T : TypeId) : Box2 (w.alloc (.cells #[c0, c1] T)) w.heap.size c0 c1 := by
  refine ⟨box_cell w _ T 0 _ rfl, box_cell w _ T 1 _ rfl, ?_, ?_, ?_⟩ <;> simp
theorem Box2.alloc {w : World} {b : Nat} {c0 c1 : Value} (h : Box2 w b c0 c1) (o : Obj) : Box2 (w.alloc o) b c0 c1 := h.stay ((Below.refl _ _).alloc (Nat.le_refl _) o)
theorem Box2.set0 {w : World} {b : Nat} {c0 c1 : Value} (h : Box2 w b c0 c1) (u : Value) : Box2 (w.setCell ⟨b, 0, none⟩ u) b u c1 := by
  obtain ⟨h0, h1, f0, f1, h4⟩ := h
  exact ⟨by go_simp, by go_simp, by go_simp, by go_simp, by go_simp⟩
theorem Box2.set1 {w : World} {b : Nat} {c0 c1 : Value} (h : Box2 w b c0 c1) (u : Value) : Box2 (w.setCell ⟨b, 1, none⟩ u) b c0 u := by
  obtain ⟨h0, h1, f0, f1, h4⟩ := h
  exact ⟨by go_simp, by go_simp, by go_simp, by go_simp, by go_simp⟩
theorem Box2.grown {w w' : World} {b : Nat} {c0 c1 : Value} {row : Option Nat} (h : Box2 w b c0 c1) (hg : w.grownBy w' row) (hne : some b ≠ row) : Box2 w' b c0 c1 := by
  have hb := hg.block b h.size hne
  exact ⟨(World.cell?_of_block (a := ⟨b, 0, none⟩) hb).trans h.a0, (World.cell?_of_block (a := ⟨b, 1, none⟩) hb).trans h.a1, (World.frozen?_of_block (a := ⟨b, 0, none⟩) hb).trans h.f0, (World.frozen?_of_block (a := ⟨b, 1, none⟩) hb).trans h.f1, Nat.lt_of_lt_of_le h.size hg.size⟩
theorem Box2.other {w : World} {b : Nat} {c0 c1 : Value} (h : Box2 w b c0 c1) (a : Addr) (hne : b ≠ a.block) (u : Value) : Box2 (w.setCell a u) b c0 c1 :=
  h.grown (row := some a.block) ⟨rfl, rfl, rfl, by simp, fun k _ hk => Below.heap_setCell w a u k (fun e => hk (by rw [e]))⟩ (fun e => hne (Option.some.inj e))
theorem owns_set_far {w : World} {base : Nat} {e : TypeId} {size : Nat} {v : Value} {n : Nat} {xs : List Value} (h : w.ownsRow base e size v n xs) (a : Addr) (u : Value) (hne : v.ownBlock ≠ some a.block) : (w.setCell a u).ownsRow base e size v n xs :=
  h.kept (row := some a.block) ⟨rfl, rfl, rfl, by simp, fun k _ hk => Below.heap_setCell w a u k (fun e => hk (by rw [e]))⟩ (.inr hne)
theorem infoD : (Tryz.prog.info? 37).map (fun i => (i.zero, i.size, i.bytes)) = some (some (.int .i32 0), 1, 4) := by kernel_rfl
set_option maxHeartbeats 2000000 in
set_option maxRecDepth 100000 in
theorem makeC_c (v : Value) (l : List Nat) (d : Int) (hd : -32768 ≤ d ∧ d ≤ 32767) (w : World) (hR : Recs u8c 1 w v l) :
    Calls Tryz.prog 31 #[.int .i16 d, v] w fun e w' => ∃ v', e = .returned (.agg #[v', .int .i32 (mkE d l)]) ∧ w'.ownsRow w.heap.size 37 1 v' (mkS d l).length ((mkS d l).flatMap dcl) ∧ Below w.heap.size w w' := by
  obtain ⟨i0, hi, hz0, hz1, hz2⟩ := info_parts infoD
  obtain ⟨r0, cap0, rfl, hm⟩ := hR.form
  have HR := Lib.hid hR
  obtain ⟨L, hL⟩ : ∃ L, l.length = L := ⟨_, rfl⟩
  have HL := Lib.hid hL
  rw [hL] at HR hm ⊢
  clear hR hL
  have w1 : IntKind.i32.wrap d = d := by rw [IntKind.wrap_i32]; omega
  go_enter Tryz.func31, Tryz.ntmps31
  go_upto_region 3 with fail
  have hsA : (w.alloc (.cells #[.slice none 0 0, .int .i32 0] 39)).heap.size = w.heap.size + 1 := by simp
  have hsB : ((w.alloc (.cells #[.slice none 0 0, .int .i32 0] 39)).alloc (.cells #[.int .i32 d] 37)).heap.size = w.heap.size + 1 + 1 := by simp
  have b1 := ((Box2.new w (.slice none 0 0) (.int .i32 0) 39).alloc (.cells #[.int .i32 d] 37)).alloc (.cells #[.slice (some ⟨w.heap.size + 1, 0, none⟩) 1 1, .int .i32 0] 39)
  have b2 := Box2.new ((w.alloc (.cells #[.slice none 0 0, .int .i32 0] 39)).alloc (.cells #[.int .i32 d] 37)) (.slice (some ⟨w.heap.size + 1, 0, none⟩) 1 1) (.int .i32 0) 39
  have b3 := (World.ownsRow_lit (base := w.heap.size) (e := 37) (size := 1) (w.alloc (.cells #[.slice none 0 0, .int .i32 0] 39)) #[.int .i32 d] 1 (by simp) (by unfold maxLen; omega) rfl).alloc (.cells #[.slice (some ⟨w.heap.size + 1, 0, none⟩) 1 1, .int .i32 0] 39)
  have b4 : Below w.heap.size w (((w.alloc (.cells #[.slice none 0 0, .int .i32 0] 39)).alloc (.cells #[.int .i32 d] 37)).alloc (.cells #[.slice (some ⟨w.heap.size + 1, 0, none⟩) 1 1, .int .i32 0] 39)) := (((Below.refl _ _).alloc (Nat.le_refl _) _).alloc (by simp) _).alloc (by simp; omega) _
  rw [hsB] at b2
  rw [hsA] at b3
  have hb1 : w.heap.size + 1 ≠ w.heap.size := by omega
  have hb2 : w.heap.size + 1 ≠ w.heap.size + 1 + 1 := by omega
  have hb3 : w.heap.size ≤ w.heap.size + 1 + 1 := by omega
  have hb4 : w.heap.size + 1 + 1 ≠ w.heap.size := by omega
  generalize hX : w.heap.size + 1 + 1 = X at b2 b3 b4 hb1 hb2 hb3 hb4 ⊢
  generalize hY : w.heap.size + 1 = Y at b1 b2 b3 b4 hb1 hb2 hb3 hb4 ⊢
  generalize ((w.alloc (.cells #[.slice none 0 0, .int .i32 0] 39)).alloc (.cells #[.int .i32 d] 37)).alloc (.cells #[.slice (some ⟨Y, 0, none⟩) 1 1, .int .i32 0] 39) = W at b1 b2 b3 b4 ⊢
  have HB1 := Lib.hid b1
  have HB2 := Lib.hid b2
  have HB3 := Lib.hid b3
  have HB4 := Lib.hid b4
  have HXR := Lib.hid (And.intro hb1 (And.intro hb2 (And.intro hb3 hb4)))
  clear b1 b2 b3 b4 hb1 hb2 hb3 hb4 hsA hsB hX hY
  go_wp2_with fail
  go_loopw [5, 16] (fun s5 i wr => ∃ (k m : Nat) (r : Option Addr) (cap : Nat) (E : Int) (S : List Int), s5 = .int .i32 E ∧ i = .int .i64 k ∧ k ≤ L ∧ k ≤ 12 ∧ m ≤ 13 ∧ Hid (m = k + 1) ∧ (-32768 ≤ E ∧ E ≤ 32767 + 40 * k) ∧ Hid (wr.ownsRow w.heap.size 37 1 (.slice r m cap) m (S.flatMap dcl)) ∧ Hid ((Value.slice r m cap).ownBlock ≠ some X) ∧ Hid ((Value.slice r m cap).ownBlock ≠ some w.heap.size) ∧ Hid (Box2 wr X (.slice r m cap) (.int .i32 0)) ∧ Hid (Box2 wr w.heap.size (.slice none 0 0) (.int .i32 0)) ∧ Hid (E = lastD d (l.take k) ∧ S = rowD d (l.take k)) ∧ Hid (Below w.heap.size w wr)) (fun _ i _ => L - (RowKit.intOf i).toNat)
  case atStart => exact ⟨0, 1, some ⟨Y, 0, none⟩, 1, d, [d], rfl, rfl, Nat.zero_le _, Nat.zero_le _, by omega, Lib.hid rfl, by omega, Lib.hid (show W.ownsRow _ _ _ _ _ _ from HB3.out), Lib.hid (fun e => HXR.out.2.1 (Option.some.inj e)), Lib.hid (fun e => HXR.out.1 (Option.some.inj e)), HB2, HB1, Lib.hid ⟨rfl, rfl⟩, HB4⟩
  case round =>
    clear HB1 HB2 HB3 HB4
    obtain ⟨k, m, r, cap, E, S, rfl, rfl, hk, hk12, hm13, Hm, hE, HO, HN1, HN2, HX1, HR1, HC, HB⟩ := hrel
    rename World => wr
    have hbs := HB.out.size
    obtain ⟨x0, x1, y0, y1, hXs⟩ := HX1.out
    obtain ⟨z0, z1, zf0, zf1, zs⟩ := HR1.out
    have hn1 := HXR.out.2.2.2
    have hn2 := hn1.symm
    by_cases hlt : k < L
    · obtain ⟨x, hx⟩ : ∃ x, l[k]? = some x := ⟨l[k]'(by have := HL.out; omega), List.getElem?_eq_getElem (by have := HL.out; omega)⟩
      obtain ⟨g, off, rfl, hg, hc⟩ := (HR.out.stay HB.out).at hx
      have c0 := hc 0 _ rfl
      simp only [Nat.mul_one, Nat.add_zero] at c0
      by_cases h12 : k = 12
      · have HE : Hid (E = lastD d (l.take 12) ∧ S = mkS d l ∧ S.length = m) := Lib.hid ⟨by rw [HC.out.1, h12], by rw [HC.out.2, h12]; rfl, by rw [HC.out.2, rowD_len, List.length_take, HL.out]; have := Hm.out; omega⟩
        have d1 : ((k : Int) == 12) = true := by simp; omega
        have d2 : (k == 12) = true := by simp; omega
        obtain ⟨F, hF⟩ : ∃ F, E + 31 = F := ⟨_, rfl⟩
        have e3 : IntKind.i32.wrap F = F := by rw [IntKind.wrap_i32]; omega
        have HF := Lib.hid hF
        clear hx hc h12
        go_wp2_with fail
        have hBf := ((HR1.out.other ⟨X, 1, none⟩ hn2 (.int .i32 F)).set0 (.slice r m cap)).set1 (.int .i32 F)
        have hof := owns_set_far (owns_set_far (owns_set_far HO.out ⟨X, 1, none⟩ (.int .i32 F) HN1.out) ⟨w.heap.size, 0, none⟩ (.slice r m cap) HN2.out) ⟨w.heap.size, 1, none⟩ (.int .i32 F) HN2.out
        have hbf := ((HB.out.setCell (p := ⟨X, 1, none⟩) HXR.out.2.2.1 (.int .i32 F)).setCell (p := ⟨w.heap.size, 0, none⟩) (Nat.le_refl _) (.slice r m cap)).setCell (p := ⟨w.heap.size, 1, none⟩) (Nat.le_refl _) (.int .i32 F)
        generalize ((wr.setCell ⟨X, 1, none⟩ (.int .i32 F)).setCell ⟨w.heap.size, 0, none⟩ (.slice r m cap)).setCell ⟨w.heap.size, 1, none⟩ (.int .i32 F) = wf at *
        obtain ⟨q0, q1, _, _, _⟩ := hBf
        refine bodyPost_ret (v := .agg #[.slice r m cap, .int .i32 F]) (by simp [results, Tryz.results31, go_sem, q0, q1]) rfl ?_
        obtain ⟨h1, h2, h3⟩ := HE.out
        refine ⟨.slice r m cap, by unfold mkE; rw [← h1, HF.out], ?_, hbf⟩
        rw [← h2, h3]
        exact hof
      · obtain ⟨y, hy⟩ : ∃ y, x % 40 = y := ⟨_, rfl⟩
        have hy40 : y < 40 := by rw [← hy]; exact Nat.mod_lt _ (by omega)
        obtain ⟨F, hF⟩ : ∃ F, E + (1 + (y : Int)) = F := ⟨_, rfl⟩
        have d1 : ((k : Int) == 12) = false := by simp; omega
        have d2 : (k == 12) = false := by simp; omega
        have e1 : (x : Int).tmod 40 = (y : Int) := by rw [Int.tmod_eq_emod_of_nonneg (by omega)]; omega
        have e2 : (x : Int) % 40 = (y : Int) := by omega
        have e3 : IntKind.i32.wrap F = F := by rw [IntKind.wrap_i32]; omega
        have e4 : IntKind.i32.wrap (y : Int) = (y : Int) := by rw [IntKind.wrap_i32]; omega
        have e5 : IntKind.i32.wrap (1 + (y : Int)) = 1 + (y : Int) := by rw [IntKind.wrap_i32]; omega
        have HF := Lib.hid (And.intro hx (And.intro hy hF))
        have hk11 : k + 1 ≤ 12 := by omega
        clear hx hc h12 hy
        have HOL := Lib.hid HO.out.lt
        go_wp2_with (at_builtin; refine wpList_append_own_at _ rfl (.tmp 30) (.tmp 32) 36 rfl w.heap.size 37 i0 (.int .i32 0) 1 4 Tryz.underlying36 hi hz0 hz1 hz2 rfl (by decide) _ m _ rfl (HO.out.alloc _) ⟨_, 0, none⟩ 1 1 (dcl F) rfl rfl (cells_new _ (dcl F) _) (dcl_one F) (by unfold maxLen; omega) (by omega) (by simp; omega) ?_; intro v2 w3 hown3 hgrow3 _ hat3; have HB3 := Lib.hid ((HB.out.alloc hbs _).grown hgrow3 (by simp; omega) (fun j hj => (HOL.out j hj).1)); have HO3 := Lib.hid hown3; have HX3 := Lib.hid ((HX1.out.alloc _).grown hgrow3 (fun e => HN1.out e.symm)); have HR3 := Lib.hid ((HR1.out.alloc _).grown hgrow3 (fun e => HN2.out e.symm)); obtain ⟨r2, cap2, rfl⟩ := owns_form hown3; obtain ⟨p0, p1, p2, p3, p4⟩ := HX3.out; have HAT := Lib.hid hat3; clear hgrow3 hown3 hat3)
        go_roundw
        case rel =>
          have hl := (List.getElem?_eq_some_iff.1 HF.out.1).1
          have hx4 := HXR.out.2.2.1
          have hX8 : X < wr.heap.size := hXs
          have hz8 : w.heap.size < wr.heap.size := zs
          have hsz : (wr.alloc (.cells #[.int .i32 F] 37)).heap.size = wr.heap.size + 1 := by simp
          have ne1 : (Value.slice r2 (m + 1) cap2).ownBlock ≠ some X := fun e => by
            rcases HAT.out with h | h
            · exact HN1.out (h.symm.trans e)
            · rw [h] at e; have := Option.some.inj e; omega
          have ne2 : (Value.slice r2 (m + 1) cap2).ownBlock ≠ some w.heap.size := fun e => by
            rcases HAT.out with h | h
            · exact HN2.out (h.symm.trans e)
            · rw [h] at e; have := Option.some.inj e; omega
          have et := List.take_succ_eq_append_getElem hl
          have ex : l[k] = x := by have := HF.out.1; rw [List.getElem?_eq_getElem hl] at this; exact Option.some.inj this
          refine ⟨k + 1, m + 1, r2, cap2, F, S ++ [F], rfl, by go_num, by omega, by omega, by have := Hm.out; omega, Lib.hid (by rw [Hm.out]), by have := HF.out.2.2; omega, Lib.hid (owns_set_far (by rw [flat_snoc]; exact HO3.out) _ _ ne1), Lib.hid ne1, Lib.hid ne2, Lib.hid (HX3.out.set0 _), Lib.hid (HR3.out.other ⟨X, 0, none⟩ hn2 _), Lib.hid ⟨?_, ?_⟩, Lib.hid (HB3.out.setCell hx4 _)⟩
          · rw [et, ex, lastD_snoc, ← HC.out.1, HF.out.2.1, HF.out.2.2]
          · rw [et, ex, rowD_snoc, ← HC.out.1, ← HC.out.2, HF.out.2.1, HF.out.2.2]
        case measure => simp [RowKit.intOf]; omega
    · obtain rfl : k = L := by omega
      have HE : Hid (E = lastD d (l.take 12) ∧ S = mkS d l ∧ S.length = m) := Lib.hid ⟨by rw [HC.out.1, List.take_of_length_le (by rw [HL.out]; exact Nat.le_refl _), List.take_of_length_le (by rw [HL.out]; exact hk12)], by rw [HC.out.2, mkS, List.take_of_length_le (by rw [HL.out]; exact Nat.le_refl _), List.take_of_length_le (by rw [HL.out]; exact hk12)], by rw [HC.out.2, rowD_len, List.length_take, HL.out]; have := Hm.out; omega⟩
      obtain ⟨F, hF⟩ : ∃ F, E + 31 = F := ⟨_, rfl⟩
      have e3 : IntKind.i32.wrap F = F := by rw [IntKind.wrap_i32]; omega
      have HF := Lib.hid hF
      go_wp2_with fail
      have hBf := ((HR1.out.other ⟨X, 1, none⟩ hn2 (.int .i32 F)).set0 (.slice r m cap)).set1 (.int .i32 F)
      have hof := owns_set_far (owns_set_far (owns_set_far HO.out ⟨X, 1, none⟩ (.int .i32 F) HN1.out) ⟨w.heap.size, 0, none⟩ (.slice r m cap) HN2.out) ⟨w.heap.size, 1, none⟩ (.int .i32 F) HN2.out
      have hbf := ((HB.out.setCell (p := ⟨X, 1, none⟩) HXR.out.2.2.1 (.int .i32 F)).setCell (p := ⟨w.heap.size, 0, none⟩) (Nat.le_refl _) (.slice r m cap)).setCell (p := ⟨w.heap.size, 1, none⟩) (Nat.le_refl _) (.int .i32 F)
      generalize ((wr.setCell ⟨X, 1, none⟩ (.int .i32 F)).setCell ⟨w.heap.size, 0, none⟩ (.slice r m cap)).setCell ⟨w.heap.size, 1, none⟩ (.int .i32 F) = wf at *
      obtain ⟨q0, q1, _, _, _⟩ := hBf
      refine bodyPost_ret (v := .agg #[.slice r m cap, .int .i32 F]) (by simp [results, Tryz.results31, go_sem, q0, q1]) rfl ?_
      obtain ⟨h1, h2, h3⟩ := HE.out
      refine ⟨.slice r m cap, by unfold mkE; rw [← h1, HF.out], ?_, hbf⟩
      rw [← h2, h3]
      exact hof
end Go.Proofs.YtjgmbjfijpmhdaaGreatDoor
/- All that the laws ask of package calendar; law 8's Period, Awake. -/
namespace Go.Proofs.YtjgmbjfijpmhdaaGreatDoor
open Go.RowKit
set_option linter.unusedVariables false
set_option linter.unusedSimpArgs false
def I32 (n : Int) : Prop := -2147483648 ≤ n ∧ n ≤ 2147483647
/-- All that the laws ask of calendar. -/
structure CalC (I : World → Prop) : Prop where
  check : ∀ (v : Value) (S : List Int) (E : Int) (w : World), I w → Recs dcl 1 w v S → S.length ≤ 100 → (∀ x ∈ S, I32 x) → I32 E → Calls Tryz.prog 41 #[.agg #[v, .int .i32 E]] w fun e w' => e = .returned (.int .i64 (chkD S E)) ∧ Below w.heap.size w w'
  len : ∀ (v : Value) (S : List Int) (E : Int) (w : World), Recs dcl 1 w v S → S.length ≤ 100 → Calls Tryz.prog 70 #[.agg #[v, .int .i32 E]] w fun e w' => e = .returned (.int .i64 (S.length : Nat)) ∧ Below w.heap.size w w'
  period : ∀ (v : Value) (S : List Int) (E d : Int) (w : World), I w → Recs dcl 1 w v S → RiseD S → 1 ≤ S.length → S.length ≤ 60 → (∀ x ∈ S, I32 x ∧ x < E) → I32 E → I32 d → Calls Tryz.prog 60 #[.agg #[v, .int .i32 E], .int .i32 d] w fun e w' => e = .returned (.tuple #[.int .i64 (max (perI S E d) 0), .bool (decide (0 ≤ perI S E d))]) ∧ Below w.heap.size w w'
  same : ∀ (v v' : Value) (S S' : List Int) (E E' : Int) (w : World), Recs dcl 1 w v S → Recs dcl 1 w v' S' → S.length ≤ 100 → S'.length ≤ 100 → Calls Tryz.prog 25 #[.agg #[v, .int .i32 E], .agg #[v', .int .i32 E']] w fun e w' => e = .returned (.bool (decide (S = S' ∧ E = E'))) ∧ Below w.heap.size w w'
theorem mkS_range {d : Int} {l : List Nat} (h : -32768 ≤ d ∧ d ≤ 32767) : ∀ x ∈ mkS d l, I32 x ∧ x < mkE d l := fun x hx => by
  have h1 := mkS_mem hx
  unfold I32
  omega
theorem mkE_range {d : Int} {l : List Nat} (h : -32768 ≤ d ∧ d ≤ 32767) : I32 (mkE d l) := by
  have h1 := mkE_le d l
  unfold I32
  omega
theorem mkS_lens (d : Int) (l : List Nat) : 1 ≤ (mkS d l).length ∧ (mkS d l).length ≤ 13 := by rw [mkS_len]; omega
/-- A made calendar's period. -/
theorem CalC.made {I : World → Prop} (K : CalC I) {d0 : Int} {l : List Nat} (hd : -32768 ≤ d0 ∧ d0 ≤ 32767) (v : Value) (d : Int) (w : World) (hI : I w) (hR : Recs dcl 1 w v (mkS d0 l)) (h : I32 d) :
    Calls Tryz.prog 60 #[.agg #[v, .int .i32 (mkE d0 l)], .int .i32 d] w fun e w' => e = .returned (.tuple #[.int .i64 (max (perI (mkS d0 l) (mkE d0 l) d) 0), .bool (decide (0 ≤ perI (mkS d0 l) (mkE d0 l) d))]) ∧ Below w.heap.size w w' :=
  K.period v _ _ d w hI hR (mkS_rise _ _) (mkS_lens _ _).1 (by have := (mkS_lens d0 l).2; omega) (mkS_range hd) (mkE_range hd) h
end Go.Proofs.YtjgmbjfijpmhdaaGreatDoor
/- Contract of the library's search by halving at days. -/
namespace Go.Proofs.YtjgmbjfijpmhdaaGreatDoor
open Go.RowKit
set_option linter.unusedVariables false
set_option linter.unusedSimpArgs false
end Go.Proofs.YtjgmbjfijpmhdaaGreatDoor
/- Days compared: slices.Equal at days, package calendar's Same. -/
namespace Go.Proofs.YtjgmbjfijpmhdaaGreatDoor
open Go.RowKit
set_option linter.unusedVariables false
set_option linter.unusedSimpArgs false
end Go.Proofs.YtjgmbjfijpmhdaaGreatDoor
/- Contracts of the library's Equal, Grow, Concat at days; which number is a day. -/
namespace Go.Proofs.YtjgmbjfijpmhdaaGreatDoor
open Go.RowKit
set_option linter.unusedVariables false
set_option linter.unusedSimpArgs false
end Go.Proofs.YtjgmbjfijpmhdaaGreatDoor
/- Contract of the library's Concat of two slices of days. -/
namespace Go.Proofs.YtjgmbjfijpmhdaaGreatDoor
open Go.RowKit
set_option linter.unusedVariables false
set_option linter.unusedSimpArgs false
end Go.Proofs.YtjgmbjfijpmhdaaGreatDoor
/- What the laws ask of calendar, of the landed calendar. -/
namespace Go.Proofs.YtjgmbjfijpmhdaaGreatDoor
open Go.RowKit
set_option linter.unusedVariables false
set_option linter.unusedSimpArgs false
end Go.Proofs.YtjgmbjfijpmhdaaGreatDoor

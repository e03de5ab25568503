/- Package parse: tokens and their reader in memory; what a reader's call answers. -/
import Derived.Test.YtffhnedladiaoaaGreatDoorZPsa
import Derived.Test.YtffhnedladiaoaaGreatDoorZLxd
import Derived.Test.YtffhnedladiaoaaGreatDoorZLxx
import Derived.Test.YtffhnedladiaoaaGreatDoorZMt1
import Derived.Test.YtffhnedladiaoaaGreatDoorZCall
import Derived.WalkLawsBesides
import Derived.Deep.QuietTactic
import Derived.BigQuiet
namespace Go.Proofs.YtffhnedladiaoaaGreatDoor
open Go.RowKit Go.Lib
set_option linter.unusedVariables false
set_option linter.unusedSimpArgs false
theorem field_tk0 (a b c d e : Value) (w : World) : (Instr.field 90 (.agg #[a, b, c, d, e]) 0).run Tryz.prog w = .ok a w := by kernel_rfl
theorem field_tk1 (a b c d e : Value) (w : World) : (Instr.field 90 (.agg #[a, b, c, d, e]) 1).run Tryz.prog w = .ok b w := by kernel_rfl
theorem field_tk2 (a b c d e : Value) (w : World) : (Instr.field 90 (.agg #[a, b, c, d, e]) 2).run Tryz.prog w = .ok c w := by kernel_rfl
theorem field_tk3 (a b c d e : Value) (w : World) : (Instr.field 90 (.agg #[a, b, c, d, e]) 3).run Tryz.prog w = .ok d w := by kernel_rfl
theorem field_tk4 (a b c d e : Value) (w : World) : (Instr.field 90 (.agg #[a, b, c, d, e]) 4).run Tryz.prog w = .ok e w := by kernel_rfl
/-- A row's last token is the end. -/
def EndsL (l : List Tk) : Prop := ∃ ts t, l = ts ++ [t] ∧ t.kind = 0
theorem EndsL.form {l : List Tk} (h : EndsL l) : ∃ t r, l = t :: r := by
  obtain ⟨ts, t, rfl, _⟩ := h
  cases ts with
  | nil => exact ⟨_, _, rfl⟩
  | cons x xs => exact ⟨_, _, rfl⟩
theorem EndsL.tail {t : Tk} {r : List Tk} (h : EndsL (t :: r)) (hk : t.kind ≠ 0) : EndsL r := by
  obtain ⟨ts, u, h1, h2⟩ := h
  cases ts with
  | nil => cases h1; exact absurd h2 hk
  | cons x xs => cases h1; exact ⟨xs, u, rfl, h2⟩
theorem spl_ends : ∀ (f i : Nat) (s : List UInt8) (ts : List Tk), spl f i s = .ok ts → EndsL ts ∧ ts.length ≤ f + 1
  | 0, i, s, ts, h => by cases h; exact ⟨⟨[], _, rfl, rfl⟩, by simp⟩
  | f + 1, i, [], ts, h => by cases h; exact ⟨⟨[], _, rfl, rfl⟩, by simp⟩
  | f + 1, i, c :: r, ts, h => by
    rw [spl_cons] at h
    split at h
    · obtain ⟨h1, h2⟩ := spl_ends f _ _ _ h; exact ⟨h1, by omega⟩
    · split at h
      · obtain ⟨h1, h2⟩ := spl_ends f _ _ _ h; exact ⟨h1, by omega⟩
      · split at h
        · cases h
        · split at h
          · cases h
          · rename_i us hu
            cases h
            obtain ⟨⟨a, b, h1, h2⟩, h3⟩ := spl_ends f _ _ _ hu
            exact ⟨⟨_ :: a, b, by rw [h1]; rfl, h2⟩, by simp; omega⟩
theorem oneF_err {s : List UInt8} {c : Int} (h : oneF s = .error c) : c ≠ 0 := by
  unfold oneF at h
  split at h
  · cases h
  · split at h
    · split at h
      · split at h
        · cases h; decide
        · cases h
      · split at h
        · cases h; decide
        · cases h
    · split at h
      · cases h; decide
      · split at h
        · cases h
        · split at h
          · split at h
            · cases h
            · cases h; decide
          · cases h; decide
theorem spl_err : ∀ (f i : Nat) (s : List UInt8) (e : Nat × Int), spl f i s = .error e → e.2 ≠ 0
  | 0, i, s, e, h => by cases h
  | f + 1, i, [], e, h => by cases h
  | f + 1, i, c :: r, e, h => by
    rw [spl_cons] at h
    split at h
    · exact spl_err f _ _ _ h
    · split at h
      · exact spl_err f _ _ _ h
      · split at h
        · rename_i h1; cases h; exact oneF_err h1
        · split at h
          · rename_i h1; cases h; exact spl_err f _ _ _ h1
          · cases h
theorem splT_ends {s : List UInt8} (h : (splT s).2.2 = 0) : EndsL (splT s).1 ∧ (splT s).1.length ≤ s.length + 2 := by
  unfold splT at h ⊢
  split
  · rename_i h1; rw [if_pos h1] at h; cases h
  · rename_i h1
    rw [if_neg h1] at h
    unfold splitF at h ⊢
    cases hs : spl (s.length + 1) 0 s with
    | error e => rw [hs] at h; simp only at h; exact absurd h (spl_err _ _ _ _ hs)
    | ok ts => exact spl_ends _ _ _ _ hs
/-- Tokens in a block of their own, below block B. -/
structure TokB (B : Nat) (w : World) (b off cap : Nat) (l : List Tk) : Prop where
  lt : b < B
  recs : Recs tkc 5 w (.slice (some ⟨b, off, none⟩) l.length cap) l
  cap : l.length ≤ cap
  few : l.length ≤ 1000000
  ends : EndsL l
theorem recs_keepB {α : Type} {enc : α → List Value} {k : Nat} {B b off cap n : Nat} {w w' : World} {l : List α} (h : Recs enc k w (.slice (some ⟨b, off, none⟩) n cap) l) (hb : b < B) (hB : B ≤ w.heap.size) (hw : Below B w w') : Recs enc k w' (.slice (some ⟨b, off, none⟩) n cap) l := by
  rcases h with h | ⟨g, off', cap', h1, h2, h3, h4, h5⟩
  · exact .inl h
  · cases h1
    refine .inr ⟨b, off, cap, rfl, Nat.lt_of_lt_of_le hb (Nat.le_trans hB hw.size), h3, h4, fun i x hx j u hu => ?_⟩
    have e := h5 i x hx j u hu
    unfold World.cell? at e ⊢
    rw [hw.block b hb]
    exact e
theorem recs_keepG {α : Type} {enc : α → List Value} {k : Nat} {b off cap n g : Nat} {w w' : World} {l : List α} (h : Recs enc k w (.slice (some ⟨b, off, none⟩) n cap) l) (hw : w.grownBy w' (some g)) (hne : b ≠ g) : Recs enc k w' (.slice (some ⟨b, off, none⟩) n cap) l := by
  rcases h with h | ⟨g', off', cap', h1, h2, h3, h4, h5⟩
  · exact .inl h
  · cases h1
    refine .inr ⟨b, off, cap, rfl, Nat.lt_of_lt_of_le h2 hw.size, h3, h4, fun i x hx j u hu => ?_⟩
    have e := h5 i x hx j u hu
    unfold World.cell? at e ⊢
    rw [hw.block b h2 (fun e => hne (Option.some.inj e))]
    exact e
theorem TokB.stay {B : Nat} {w w' : World} {b off cap : Nat} {l : List Tk} (h : TokB B w b off cap l) (hB : B ≤ w.heap.size) (hw : Below B w w') : TokB B w' b off cap l :=
  ⟨h.lt, recs_keepB h.recs h.lt hB hw, h.cap, h.few, h.ends⟩
theorem TokB.grown {B g : Nat} {w w' : World} {b off cap : Nat} {l : List Tk} (h : TokB B w b off cap l) (hw : w.grownBy w' (some g)) (hne : b ≠ g) : TokB B w' b off cap l :=
  ⟨h.lt, recs_keepG h.recs hw hne, h.cap, h.few, h.ends⟩
theorem tok_drop {w : World} {b off n cap : Nat} {t : Tk} {r : List Tk} (h : Recs tkc 5 w (.slice (some ⟨b, off, none⟩) n cap) (t :: r)) (hb : b < w.heap.size) (hn : n = r.length + 1) (hc : n ≤ cap) (hm : n ≤ 1000000) : Recs tkc 5 w (.slice (some ⟨b, off + 5, none⟩) r.length (cap - 1)) r := by
  refine .inr ⟨b, off + 5, cap - 1, rfl, hb, by omega, by omega, fun j x hx l u hu => ?_⟩
  have hx' : (t :: r)[j + 1]? = some x := by rw [List.getElem?_cons_succ]; exact hx
  obtain ⟨g', off', e, _, hcc⟩ := h.at hx'
  cases e
  have := hcc l u hu
  rw [show off + 5 + j * 5 + l = off + (j + 1) * 5 + l by omega]
  exact this
theorem TokB.tail {B : Nat} {w : World} {b off cap : Nat} {t : Tk} {r : List Tk} (h : TokB B w b off cap (t :: r)) (hB : B ≤ w.heap.size) (hk : t.kind ≠ 0) : TokB B w b (off + 5) (cap - 1) r := by
  have h2 := h.cap
  have h3 := h.few
  simp only [List.length_cons] at h2 h3
  exact ⟨h.lt, tok_drop h.recs (Nat.lt_of_lt_of_le h.lt hB) (by simp) (by simpa using h.cap) (by simpa using h.few), by omega, by omega, h.ends.tail hk⟩
/-- The developers' reader in memory. -/
structure PR (B : Nat) (w : World) (g : Nat) (l : List Tk) : Prop where
  lt : g < B
  top : B ≤ w.heap.size
  box : ∃ b off cap, b ≠ g ∧ HBox w g [.slice (some ⟨b, off, none⟩) l.length cap] 72 ∧ TokB B w b off cap l
theorem PR.stay {B : Nat} {w w' : World} {g : Nat} {l : List Tk} (h : PR B w g l) (hw : Below B w w') : PR B w' g l := by
  obtain ⟨b, off, cap, h1, h2, h3⟩ := h.box
  exact ⟨h.lt, Nat.le_trans h.top hw.size, b, off, cap, h1, (hw.block g h.lt).trans h2, h3.stay h.top hw⟩
theorem PR.ends {B : Nat} {w : World} {g : Nat} {l : List Tk} (h : PR B w g l) : EndsL l := by
  obtain ⟨b, off, cap, h1, h2, h3⟩ := h.box
  exact h3.ends
theorem grown_selfG (w : World) (row : Option Nat) : w.grownBy w row := ⟨rfl, rfl, rfl, Nat.le_refl _, fun _ _ _ => rfl⟩
theorem grown_below' {w w' : World} (h : Below w.heap.size w w') (row : Option Nat) : w.grownBy w' row := ⟨h.os, h.tape, h.output, h.size, fun k hk _ => h.block k hk⟩
theorem grown_trans' {w w' w'' : World} {row : Option Nat} (h : w.grownBy w' row) (k : w'.grownBy w'' row) : w.grownBy w'' row :=
  ⟨k.os.trans h.os, k.tape.trans h.tape, k.output.trans h.output, Nat.le_trans h.size k.size, fun i hi hr => (k.block i (Nat.lt_of_lt_of_le hi h.size) hr).trans (h.block i hi hr)⟩
theorem grown_set (w : World) (g i : Nat) (u : Value) : w.grownBy (w.setCell ⟨g, i, none⟩ u) (some g) :=
  ⟨rfl, rfl, rfl, by simp, fun k _ hk => heap_setCell_other w ⟨g, i, none⟩ k u (fun e => hk (by simp [e]))⟩
theorem grown_up {w w' w'' : World} {row : Option Nat} {X : Nat} (h : w.grownBy w' row) (k : w'.grownBy w'' (some X)) (hX : w.heap.size ≤ X) : w.grownBy w'' row :=
  ⟨k.os.trans h.os, k.tape.trans h.tape, k.output.trans h.output, Nat.le_trans h.size k.size, fun i hi hr => (k.block i (Nat.lt_of_lt_of_le hi h.size) (fun e => by have := Option.some.inj e; omega)).trans (h.block i hi hr)⟩
theorem slice_tok (b off n cap : Nat) (hn : 1 ≤ n) (hc : 1 < cap) (w : World) :
    (Instr.slice 66 (.slice (some ⟨b, off, none⟩) n cap) (some (.int .i64 1)) none none).run Tryz.prog w = .ok (.slice (some ⟨b, off + 5, none⟩) (n - 1) (cap - 1)) w := by
  have hu : Tryz.prog.underlying 66 = some (.slice (Tryz.prog.elem 66)) := by kernel_rfl
  have hs : (sizeOf (Tryz.prog.elem 66)).run Tryz.prog w = .ok 5 w := by kernel_rfl
  rw [run_slice_l w 66 (some ⟨b, off, none⟩) n cap hu .i64 1 (by omega) (by omega), hs]
  simp only [Result.andThen_ok, sliced]
  rw [if_neg (by omega)]
  rfl
/-- What a reader panics with. -/
def faultE (p : Nat) (c : Int) : Ending := .panicked [{ v := .iface 70 (.agg #[.int .i64 (p : Int), .int .i64 c]), recovered := false }]
/-- What a reader's call answers: a value, and what is left, or it panics. -/
def GotR {α : Type} (B g : Nat) (w : World) (V : α → Value → World → Prop) (x : Except (Nat × Int) (α × List Tk)) (e : Ending) (w' : World) : Prop :=
  w.grownBy w' (some g) ∧ match x with
  | .ok a => ∃ v, e = .returned v ∧ V a.1 v w' ∧ PR B w' g a.2
  | .error p => e = faultE p.1 p.2
end Go.Proofs.YtffhnedladiaoaaGreatDoor
/- A token's cells; what readers read of a token. -/
namespace Go.Proofs.YtffhnedladiaoaaGreatDoor
open Go.RowKit Go.Lib
set_option linter.unusedVariables false
set_option linter.unusedSimpArgs false
theorem tok_cells {w : World} {b off n cap : Nat} {t : Tk} {r : List Tk} (h : Recs tkc 5 w (.slice (some ⟨b, off, none⟩) n cap) (t :: r)) :
    w.cell? ⟨b, off, none⟩ = some (.int .i64 (t.kind : Int)) ∧ w.cell? ⟨b, off + 1, none⟩ = some (.string ⟨t.text.toArray⟩) ∧ w.cell? ⟨b, off + 2, none⟩ = some (.int .i64 t.num) ∧ w.cell? ⟨b, off + 3, none⟩ = some (.int .i32 t.day) ∧ w.cell? ⟨b, off + 4, none⟩ = some (.int .i64 (t.at_ : Int)) := by
  obtain ⟨g, o, e, _, hc⟩ := h.at (i := 0) (x := t) rfl
  cases e
  have c0 := hc 0 _ rfl
  have c1 := hc 1 _ rfl
  have c2 := hc 2 _ rfl
  have c3 := hc 3 _ rfl
  have c4 := hc 4 _ rfl
  simp only [Nat.zero_mul, Nat.add_zero] at c0 c1 c2 c3 c4
  exact ⟨c0, c1, c2, c3, c4⟩
theorem need_yes {k : Nat} {t : Tk} {r : List Tk} (h : t.kind = k) : needT k [] (t :: r) = .ok (t, r) := by
  unfold needT
  simp [isT, h]
theorem need_no {k : Nat} {t : Tk} {r : List Tk} (h : t.kind ≠ k) : needT k [] (t :: r) = .error (t.at_, 1) := by
  unfold needT
  simp [isT, h]
theorem isT_cons (k : Nat) {s : List UInt8} (hs : s ≠ []) (t : Tk) (r : List Tk) : isT k s (t :: r) = (t.kind == k && t.text == s) := by
  have : (s == []) = false := by simp [hs]
  simp [isT, this]
theorem isT_any (k : Nat) (t : Tk) (r : List Tk) : isT k [] (t :: r) = (t.kind == k) := by simp [isT]
theorem numR_ok {a b : Int} {t : Tk} {r : List Tk} (h2 : t.kind = 2) (ha : ¬ t.num < a) (hb : ¬ b < t.num) : numR a b (t :: r) = .ok (t.num.toNat, r) := by
  unfold numR; simp only; rw [if_pos h2, if_neg (by omega)]
theorem numR_range {a b : Int} {t : Tk} {r : List Tk} (h2 : t.kind = 2) (h : t.num < a ∨ b < t.num) : numR a b (t :: r) = .error (t.at_, 5) := by
  unfold numR; simp only; rw [if_pos h2, if_pos h]
theorem numR_form {a b : Int} {t : Tk} {r : List Tk} (h2 : t.kind ≠ 2) : numR a b (t :: r) = .error (t.at_, 1) := by
  unfold numR; simp only; rw [if_neg h2]
theorem numR_in {a b : Int} {l r : List Tk} {n : Nat} (ha : 0 ≤ a) (h : numR a b l = .ok (n, r)) : a ≤ (n : Int) ∧ (n : Int) ≤ b := by
  cases l with
  | nil => cases h
  | cons t l =>
    unfold numR at h
    simp only at h
    split at h
    · split at h
      · cases h
      · cases h; omega
    · cases h
end Go.Proofs.YtffhnedladiaoaaGreatDoor
/- Package parse: the reader's next, fail, take. -/
namespace Go.Proofs.YtffhnedladiaoaaGreatDoor
open Go.RowKit Go.Lib
set_option linter.unusedVariables false
set_option linter.unusedSimpArgs false
set_option maxHeartbeats 1000000 in
set_option maxRecDepth 100000 in
theorem next_p {B : Nat} {w : World} {g : Nat} {t : Tk} {r : List Tk} (h : PR B w g (t :: r)) :
    Calls Tryz.prog 55 #[.pointer (some ⟨g, 0, none⟩)] w fun e w' => e = .returned (tokV t) ∧ Below w.heap.size w w' := by
  obtain ⟨b, off, cap, h1, h2, h3⟩ := h.box
  obtain ⟨c0, c1, c2, c3, c4⟩ := tok_cells h3.recs
  have hcap := h3.cap
  have hfew := h3.few
  have x0 := h2.cell (j := 0) rfl
  have hg := h2.size
  have hb : b < w.heap.size := Nat.lt_of_lt_of_le h3.lt h.top
  simp only [List.length_cons] at x0 hcap hfew
  unfold tokV
  obtain ⟨n, hn⟩ : ∃ n, r.length = n := ⟨_, rfl⟩
  rw [hn] at x0 hcap hfew
  have HB := (Below.refl w.heap.size w).alloc (Nat.le_refl _) (.cells #[.int .i64 (t.kind : Int), .string ⟨t.text.toArray⟩, .int .i64 t.num, .int .i32 t.day, .int .i64 (t.at_ : Int)] 90)
  clear h h1 h2 h3 hn
  go_enter Tryz.func55, Tryz.ntmps55
  go_wp2
  refine bodyPost_ret (v := .agg #[.int .i64 (t.kind : Int), .string ⟨t.text.toArray⟩, .int .i64 t.num, .int .i32 t.day, .int .i64 (t.at_ : Int)]) (by simp [results, Tryz.results55, go_sem]) rfl ⟨rfl, HB⟩
set_option maxHeartbeats 1000000 in
set_option maxRecDepth 100000 in
theorem fail_p {B : Nat} {w : World} {g : Nat} {t : Tk} {r : List Tk} (h : PR B w g (t :: r)) (c : Int) :
    Calls Tryz.prog 56 #[.pointer (some ⟨g, 0, none⟩), .int .i64 c] w fun e w' => e = faultE t.at_ c ∧ Below w.heap.size w w' := by
  have K := Lib.hid (next_p h)
  unfold tokV at K
  unfold faultE
  have f4 := fun (a b c d e : Value) (w : World) => field_tk4 a b c d e w
  clear h
  go_enter Tryz.func56, Tryz.ntmps56
  go_wp2_with (go_at_call 55; refine K.out.mono ?_; rintro e w2 ⟨rfl, h2⟩; have HB2 := Lib.hid h2; clear h2)
  exact ⟨rfl, rfl, HB2.out⟩
set_option maxHeartbeats 2000000 in
set_option maxRecDepth 100000 in
theorem take_p {B : Nat} {w : World} {g : Nat} {l : List Tk} (h : PR B w g l) {k : Nat} (hk : k ≠ 0) :
    Calls Tryz.prog 89 #[.pointer (some ⟨g, 0, none⟩), .int .i64 (k : Int)] w fun e w' => GotR B g w (fun t v _ => v = tokV t) (needT k [] l) e w' := by
  obtain ⟨t, r, rfl⟩ := h.ends.form
  have KN := Lib.hid (fun w' (hb : Below w.heap.size w w') => next_p (h.stay (hb.mono h.top)))
  have KF := Lib.hid (fun w' (hb : Below w.heap.size w w') => fail_p (h.stay (hb.mono h.top)) 1)
  unfold tokV at KN
  unfold tokV
  have HH := Lib.hid h
  obtain ⟨R, hR⟩ : ∃ R, needT k [] (t :: r) = R := ⟨_, rfl⟩
  rw [hR]
  have HRR := Lib.hid hR
  clear hR
  have b1 := (Below.refl w.heap.size w).alloc (Nat.le_refl _) (.cells #[.int .i64 0, .string ⟨#[]⟩, .int .i64 0, .int .i32 0, .int .i64 0] 90)
  have r1 := HBox.new w [.int .i64 0, .string ⟨#[]⟩, .int .i64 0, .int .i32 0, .int .i64 0] 90
  change HBox (w.alloc (.cells #[.int .i64 0, .string ⟨#[]⟩, .int .i64 0, .int .i32 0, .int .i64 0] 90)) _ _ _ at r1
  clear h
  go_enter Tryz.func89, Tryz.ntmps89
  go_upto_region 1 with fail
  generalize w.alloc (.cells #[.int .i64 0, .string ⟨#[]⟩, .int .i64 0, .int .i32 0, .int .i64 0] 90) = W1 at *
  have HB1 := Lib.hid b1
  have HR1 := Lib.hid r1
  clear b1 r1
  go_upto_region 2 with (go_at_call 55; refine (KN.out _ HB1.out).mono ?_; rintro e w2 ⟨rfl, h2⟩; have HR2 := Lib.hid (HR1.out.stay h2); have HB2 := Lib.hid (HB1.out.trans (h2.mono HB1.out.size)); clear h2)
  have b3 := HB2.out.alloc HB2.out.size (.cells #[.int .i64 (t.kind : Int), .string ⟨t.text.toArray⟩, .int .i64 t.num, .int .i32 t.day, .int .i64 (t.at_ : Int)] 90)
  have r3 := HR2.out.alloc (.cells #[.int .i64 (t.kind : Int), .string ⟨t.text.toArray⟩, .int .i64 t.num, .int .i32 t.day, .int .i64 (t.at_ : Int)] 90)
  have q3 := HBox.new w2 [.int .i64 (t.kind : Int), .string ⟨t.text.toArray⟩, .int .i64 t.num, .int .i32 t.day, .int .i64 (t.at_ : Int)] 90
  change HBox (w2.alloc (.cells #[.int .i64 (t.kind : Int), .string ⟨t.text.toArray⟩, .int .i64 t.num, .int .i32 t.day, .int .i64 (t.at_ : Int)] 90)) _ _ _ at q3
  have hX : w.heap.size < w2.heap.size := HR2.out.size
  generalize w2.alloc (.cells #[.int .i64 (t.kind : Int), .string ⟨t.text.toArray⟩, .int .i64 t.num, .int .i32 t.day, .int .i64 (t.at_ : Int)] 90) = W3 at *
  have HB3 := Lib.hid b3
  have HR3 := Lib.hid r3
  have HQ3 := Lib.hid q3
  clear b3 r3 q3 HB2 HR2 HB1 HR1 KN
  obtain ⟨X, hXe⟩ : ∃ X, w.heap.size = X := ⟨_, rfl⟩
  have HX := Lib.hid hXe
  rw [hXe] at hX ⊢
  have HR4 : Hid (HBox W3 X _ _) := Lib.hid (hXe ▸ HR3.out)
  generalize w2.heap.size = Y at *
  clear HR3 hXe
  have a0 := HQ3.out.cell (j := 0) rfl
  have a1 := HQ3.out.cell (j := 1) rfl
  have a2 := HQ3.out.cell (j := 2) rfl
  have a3 := HQ3.out.cell (j := 3) rfl
  have a4 := HQ3.out.cell (j := 4) rfl
  by_cases hkk : t.kind = k
  · have hne : ((t.kind : Int) != (k : Int)) = false := by simp [hkk]
    have hRv := HRR.out
    rw [need_yes hkk] at hRv
    clear HRR
    subst hRv
    subst hkk
    have P3 := HH.out.stay (HB3.out.mono HH.out.top)
    obtain ⟨b, off, cap, p1, p2, p3⟩ := P3.box
    have hr := p3.ends.tail hk
    obtain ⟨t', r', rfl⟩ := hr.form
    have x0 := p2.cell (j := 0) rfl
    have xf := p2.frozen 0
    have hcap := p3.cap
    simp only [List.length_cons] at x0 hcap
    have hs := fun w => slice_tok b off (r'.length + 1 + 1) cap (by omega) (by omega) w
    have e1 : r'.length + 1 + 1 - 1 = r'.length + 1 := by omega
    rw [e1] at hs
    have hgX : g ≠ X := by have := HH.out.lt; have := HH.out.top; have := HX.out; omega
    have HG4 := Lib.hid (p2.set 0 (.slice (some ⟨b, off + 5, none⟩) (r'.length + 1) (cap - 1)))
    have HW4 := Lib.hid (grown_trans' (grown_below' HB3.out (some g)) (grown_set W3 g 0 (.slice (some ⟨b, off + 5, none⟩) (r'.length + 1) (cap - 1))))
    have HT4 := Lib.hid ((p3.tail (Nat.le_trans HH.out.top HB3.out.size) hk).grown (grown_set W3 g 0 (.slice (some ⟨b, off + 5, none⟩) (r'.length + 1) (cap - 1))) p1)
    have HX4 := Lib.hid (HR4.out.grown (grown_set W3 g 0 (.slice (some ⟨b, off + 5, none⟩) (r'.length + 1) (cap - 1))) (fun e => hgX (Option.some.inj e).symm))
    have HQ4 := Lib.hid (HQ3.out.grown (grown_set W3 g 0 (.slice (some ⟨b, off + 5, none⟩) (r'.length + 1) (cap - 1))) (fun e => by have := Option.some.inj e; have := HH.out.lt; have := HH.out.top; have := HX.out; omega))
    clear p2 p3 hr
    go_upto_region 5 with fail
    have hs5 := HQ4.out.size
    generalize W3.setCell ⟨g, 0, none⟩ (.slice (some ⟨b, off + 5, none⟩) (r'.length + 1) (cap - 1)) = W4 at *
    have y0 := HQ4.out.cell (j := 0) rfl
    have y1 := HQ4.out.cell (j := 1) rfl
    have y2 := HQ4.out.cell (j := 2) rfl
    have y3 := HQ4.out.cell (j := 3) rfl
    have y4 := HQ4.out.cell (j := 4) rfl
    have z0 := HX4.out.cell (j := 0) rfl
    have z1 := HX4.out.cell (j := 1) rfl
    have z2 := HX4.out.cell (j := 2) rfl
    have z3 := HX4.out.cell (j := 3) rfl
    have z4 := HX4.out.cell (j := 4) rfl
    have v0 := HX4.out.frozen 0
    have v1 := HX4.out.frozen 1
    have v2 := HX4.out.frozen 2
    have v3 := HX4.out.frozen 3
    have v4 := HX4.out.frozen 4
    clear a0 a1 a2 a3 a4 x0 xf hs
    go_wp2_with fail
    have r5 := HX4.out.set5 (.int .i64 (t.kind : Int)) (.string ⟨t.text.toArray⟩) (.int .i64 t.num) (.int .i32 t.day) (.int .i64 (t.at_ : Int))
    have g5 := grown_sets5 W4 X (.int .i64 (t.kind : Int)) (.string ⟨t.text.toArray⟩) (.int .i64 t.num) (.int .i32 t.day) (.int .i64 (t.at_ : Int))
    have u0 := r5.cell (j := 0) rfl
    have u1 := r5.cell (j := 1) rfl
    have u2 := r5.cell (j := 2) rfl
    have u3 := r5.cell (j := 3) rfl
    have u4 := r5.cell (j := 4) rfl
    have hlt := HT4.out.lt
    have hB := HH.out.top
    refine bodyPost_ret (v := .agg #[.int .i64 (t.kind : Int), .string ⟨t.text.toArray⟩, .int .i64 t.num, .int .i32 t.day, .int .i64 (t.at_ : Int)]) (by simp [results, Tryz.results89, go_sem, u0, u1, u2, u3, u4]) rfl ?_
    exact ⟨grown_up HW4.out g5 (Nat.le_of_eq HX.out), _, rfl, rfl, HH.out.lt, Nat.le_trans hB (Nat.le_trans HW4.out.size g5.size), b, off + 5, cap - 1, p1, HG4.out.grown g5 (fun e => hgX (Option.some.inj e)), HT4.out.grown g5 (by have := HX.out; omega)⟩
  · have hne : ((t.kind : Int) != (k : Int)) = true := by simp; omega
    have hRv := HRR.out
    rw [need_no hkk] at hRv
    clear HRR
    subst hRv
    unfold faultE at KF
    go_wp2_with (go_at_call 56; refine (KF.out _ HB3.out).mono ?_; rintro e w5 ⟨rfl, h5⟩; have HB5 := Lib.hid (HB3.out.trans (h5.mono HB3.out.size)); clear h5)
    exact ⟨rfl, grown_below' HB5.out (some g), rfl⟩
end Go.Proofs.YtffhnedladiaoaaGreatDoor
/- Package parse: the reader's takes, must, number, code, part. -/
namespace Go.Proofs.YtffhnedladiaoaaGreatDoor
open Go.RowKit Go.Lib
set_option linter.unusedVariables false
set_option linter.unusedSimpArgs false
set_option maxHeartbeats 2000000 in
set_option maxRecDepth 100000 in
theorem takes_p {B : Nat} {w : World} {g : Nat} {l : List Tk} (h : PR B w g l) {k : Nat} (hk : k ≠ 0) {s : List UInt8} (hs : s ≠ []) :
    Calls Tryz.prog 93 #[.pointer (some ⟨g, 0, none⟩), .int .i64 (k : Int), .string ⟨s.toArray⟩] w fun e w' => e = .returned (.bool (isT k s l)) ∧ w.grownBy w' (some g) ∧ PR B w' g (if isT k s l then l.tail else l) := by
  obtain ⟨t, r, rfl⟩ := h.ends.form
  have KN := Lib.hid (fun w' (hb : Below w.heap.size w w') => next_p (h.stay (hb.mono h.top)))
  have KT := Lib.hid (fun w' (hb : Below w.heap.size w w') (hh : t.kind = k) => need_yes hh ▸ take_p (h.stay (hb.mono h.top)) hk)
  unfold tokV at KN
  have HH := Lib.hid h
  have hfT : t.kind = k → t.text = s → isT k s (t :: r) = true := fun a b => by rw [isT_cons k hs, a, b]; simp
  have hf1 : t.kind ≠ k → isT k s (t :: r) = false := fun a => by rw [isT_cons k hs, beq_eq_false_iff_ne.2 a]; rfl
  have hf2 : t.text ≠ s → isT k s (t :: r) = false := fun a => by rw [isT_cons k hs, beq_eq_false_iff_ne.2 a, Bool.and_false]
  obtain ⟨R, hR⟩ : ∃ R, isT k s (t :: r) = R := ⟨_, rfl⟩
  rw [hR] at hfT hf1 hf2 ⊢
  have HF := Lib.hid (And.intro hfT (And.intro hf1 hf2))
  clear h hR hfT hf1 hf2
  go_enter Tryz.func93, Tryz.ntmps93
  go_upto_region 2 with (go_at_call 55; refine (KN.out _ (Below.refl _ _)).mono ?_; rintro e w2 ⟨rfl, h2⟩; have HB2 := Lib.hid h2; clear h2)
  have b3 := HB2.out.alloc HB2.out.size (.cells #[.int .i64 (t.kind : Int), .string ⟨t.text.toArray⟩, .int .i64 t.num, .int .i32 t.day, .int .i64 (t.at_ : Int)] 90)
  have q3 := HBox.new w2 [.int .i64 (t.kind : Int), .string ⟨t.text.toArray⟩, .int .i64 t.num, .int .i32 t.day, .int .i64 (t.at_ : Int)] 90
  change HBox (w2.alloc (.cells #[.int .i64 (t.kind : Int), .string ⟨t.text.toArray⟩, .int .i64 t.num, .int .i32 t.day, .int .i64 (t.at_ : Int)] 90)) _ _ _ at q3
  generalize w2.alloc (.cells #[.int .i64 (t.kind : Int), .string ⟨t.text.toArray⟩, .int .i64 t.num, .int .i32 t.day, .int .i64 (t.at_ : Int)] 90) = W3 at *
  have HB3 := Lib.hid b3
  have HQ3 := Lib.hid q3
  clear b3 q3 HB2 KN
  generalize w2.heap.size = Y at *
  have a0 := HQ3.out.cell (j := 0) rfl
  have a1 := HQ3.out.cell (j := 1) rfl
  clear HQ3
  have hP := Lib.hid (HH.out.stay (HB3.out.mono HH.out.top))
  by_cases hkk : t.kind = k
  · subst hkk
    have hne : ((t.kind : Int) != (t.kind : Int)) = false := by simp
    by_cases hss : t.text = s
    · obtain rfl := HF.out.1 rfl hss
      have hq : (t.text == s) = true := beq_iff_eq.2 hss
      have K := Lib.hid (KT.out W3 HB3.out rfl)
      have HG3 := Lib.hid (grown_below' HB3.out (some g))
      clear hss HF KT
      go_wp2_with (go_at_call 89; refine K.out.mono ?_; rintro e w5 ⟨h5, v, rfl, rfl, hp⟩; have HG5 := Lib.hid (grown_trans' HG3.out h5); have HP5 := Lib.hid hp; clear h5 hp)
      go_ret
      exact ⟨rfl, HG5.out, HP5.out⟩
    · obtain rfl := HF.out.2.2 hss
      have hq : (t.text == s) = false := beq_eq_false_iff_ne.2 hss
      clear hss HF KT
      go_wp2_with fail
      go_ret
      exact ⟨rfl, grown_below' HB3.out (some g), hP.out⟩
  · obtain rfl := HF.out.2.1 hkk
    have hne : ((t.kind : Int) != (k : Int)) = true := by simp; omega
    clear hkk HF KT
    go_wp2_with fail
    go_ret
    exact ⟨rfl, grown_below' HB3.out (some g), hP.out⟩
/-- must: the same as need of a text. -/
theorem needT_is {k : Nat} {s : List UInt8} {t : Tk} {r : List Tk} : needT k s (t :: r) = if isT k s (t :: r) then .ok (t, r) else .error (t.at_, 1) := rfl
set_option maxHeartbeats 2000000 in
set_option maxRecDepth 100000 in
theorem must_p {B : Nat} {w : World} {g : Nat} {l : List Tk} (h : PR B w g l) {k : Nat} (hk : k ≠ 0) {s : List UInt8} (hs : s ≠ []) :
    Calls Tryz.prog 58 #[.pointer (some ⟨g, 0, none⟩), .int .i64 (k : Int), .string ⟨s.toArray⟩] w fun e w' => GotR B g w (fun _ v _ => v = .tuple #[]) (needT k s l) e w' := by
  have K := Lib.hid (takes_p h hk hs)
  obtain ⟨t, r, rfl⟩ := h.ends.form
  rw [needT_is]
  have KF := Lib.hid (fun w' (hb : PR B w' g (t :: r)) => fail_p hb 1)
  unfold faultE at KF
  obtain ⟨R, hR⟩ : ∃ R, isT k s (t :: r) = R := ⟨_, rfl⟩
  rw [hR] at K ⊢
  clear h hR
  cases R with
  | true =>
    go_enter Tryz.func58, Tryz.ntmps58
    go_wp2_with (go_at_call 93; refine K.out.mono ?_; rintro e w5 ⟨rfl, h5, hp⟩; have HG5 := Lib.hid h5; have HP5 := Lib.hid hp; clear h5 hp)
    go_end0
    exact ⟨HG5.out, _, rfl, rfl, HP5.out⟩
  | false =>
    go_enter Tryz.func58, Tryz.ntmps58
    go_wp2_with (first
      | (go_at_call 56; refine (KF.out _ HP5.out).mono ?_; rintro e w6 ⟨rfl, h6⟩; have HG6 := Lib.hid (grown_trans' HG5.out (grown_below' h6 (some g))); clear h6)
      | (go_at_call 93; refine K.out.mono ?_; rintro e w5 ⟨rfl, h5, hp⟩; have HG5 := Lib.hid h5; have HP5 := Lib.hid hp; clear h5 hp))
    exact ⟨rfl, HG6.out, rfl⟩
end Go.Proofs.YtffhnedladiaoaaGreatDoor
/- Package parse: the reader's number, code, part. -/
namespace Go.Proofs.YtffhnedladiaoaaGreatDoor
open Go.RowKit Go.Lib
set_option linter.unusedVariables false
set_option linter.unusedSimpArgs false
set_option maxHeartbeats 2000000 in
set_option maxRecDepth 100000 in
theorem number_p {B : Nat} {w : World} {g : Nat} {l : List Tk} (h : PR B w g l) {a b : Int} (ha : 0 ≤ a) :
    Calls Tryz.prog 118 #[.pointer (some ⟨g, 0, none⟩), .int .i64 a, .int .i64 b] w fun e w' => GotR B g w (fun (n : Nat) v _ => v = .int .i64 (n : Int)) (numR a b l) e w' := by
  obtain ⟨t, r, rfl⟩ := h.ends.form
  have KN := Lib.hid (fun w' (hb : Below w.heap.size w w') => next_p (h.stay (hb.mono h.top)))
  have KT := Lib.hid (fun w' (hb : Below w.heap.size w w') => take_p (h.stay (hb.mono h.top)) (k := 2) (by decide))
  have KF := Lib.hid (fun w' (hb : Below w.heap.size w w') => fail_p (h.stay (hb.mono h.top)) 5)
  have f2 := fun (a b c d e : Value) (w : World) => field_tk2 a b c d e w
  unfold tokV at KN KT
  unfold faultE at KF
  obtain ⟨R, hR⟩ : ∃ R, numR a b (t :: r) = R := ⟨_, rfl⟩
  rw [hR]
  have HRR := Lib.hid hR
  clear h hR
  go_enter Tryz.func118, Tryz.ntmps118
  go_upto_region 2 with (go_at_call 55; refine (KN.out _ (Below.refl _ _)).mono ?_; rintro e w2 ⟨rfl, h2⟩; have HB2 := Lib.hid h2; clear h2)
  have b3 := HB2.out.alloc HB2.out.size (.cells #[.int .i64 (t.kind : Int), .string ⟨t.text.toArray⟩, .int .i64 t.num, .int .i32 t.day, .int .i64 (t.at_ : Int)] 90)
  have q3 := HBox.new w2 [.int .i64 (t.kind : Int), .string ⟨t.text.toArray⟩, .int .i64 t.num, .int .i32 t.day, .int .i64 (t.at_ : Int)] 90
  change HBox (w2.alloc (.cells #[.int .i64 (t.kind : Int), .string ⟨t.text.toArray⟩, .int .i64 t.num, .int .i32 t.day, .int .i64 (t.at_ : Int)] 90)) _ _ _ at q3
  generalize w2.alloc (.cells #[.int .i64 (t.kind : Int), .string ⟨t.text.toArray⟩, .int .i64 t.num, .int .i32 t.day, .int .i64 (t.at_ : Int)] 90) = W3 at *
  have HB3 := Lib.hid b3
  have HQ3 := Lib.hid q3
  clear b3 q3 HB2 KN
  generalize w2.heap.size = Y at *
  have a0 := HQ3.out.cell (j := 0) rfl
  have a2 := HQ3.out.cell (j := 2) rfl
  clear HQ3
  by_cases h2 : t.kind = 2
  · have t0 : ((t.kind : Int) == 2) = true := by simp [h2]
    by_cases h3 : t.num < a
    · have t1 : decide (t.num < a) = true := decide_eq_true h3
      have hRv := HRR.out
      rw [numR_range h2 (.inl h3)] at hRv
      clear HRR h2 h3
      subst hRv
      go_wp2_with (go_at_call 56; refine (KF.out _ HB3.out).mono ?_; rintro e w6 ⟨rfl, h6⟩; have HG6 := Lib.hid (grown_below' (HB3.out.trans (h6.mono HB3.out.size)) (some g)); clear h6)
      exact ⟨rfl, HG6.out, rfl⟩
    · have t1 : decide (t.num < a) = false := decide_eq_false h3
      by_cases h4 : b < t.num
      · have t2 : decide (b < t.num) = true := decide_eq_true h4
        have hRv := HRR.out
        rw [numR_range h2 (.inr h4)] at hRv
        clear HRR h2 h3 h4
        subst hRv
        go_wp2_with (go_at_call 56; refine (KF.out _ HB3.out).mono ?_; rintro e w6 ⟨rfl, h6⟩; have HG6 := Lib.hid (grown_below' (HB3.out.trans (h6.mono HB3.out.size)) (some g)); clear h6)
        exact ⟨rfl, HG6.out, rfl⟩
      · have t2 : decide (b < t.num) = false := decide_eq_false h4
        have hRv := HRR.out
        rw [numR_ok h2 h3 h4] at hRv
        have K := KT.out W3 HB3.out
        rw [need_yes h2] at K
        have K := Lib.hid K
        have hn : t.num = (t.num.toNat : Int) := by omega
        have HN := Lib.hid hn
        have HG3 := Lib.hid (grown_below' HB3.out (some g))
        clear HRR h2 h3 h4 KT hn
        subst hRv
        go_wp2_with (go_at_call 89; refine K.out.mono ?_; rintro e w6 ⟨h6, v, rfl, rfl, hp⟩; have HG6 := Lib.hid (grown_trans' HG3.out h6); have HP6 := Lib.hid hp; clear h6 hp)
        go_ret
        exact ⟨HG6.out, _, rfl, congrArg (Value.int .i64) HN.out, HP6.out⟩
  · have t0 : ((t.kind : Int) == 2) = false := by rw [beq_eq_false_iff_ne]; omega
    have hRv := HRR.out
    rw [numR_form h2] at hRv
    have K := KT.out W3 HB3.out
    rw [need_no h2] at K
    unfold GotR faultE at K
    have K := Lib.hid K
    have HG3 := Lib.hid (grown_below' HB3.out (some g))
    clear HRR h2 KT
    subst hRv
    go_wp2_with (go_at_call 89; refine K.out.mono ?_; rintro e w6 ⟨h6, rfl⟩; have HG6 := Lib.hid (grown_trans' HG3.out h6); clear h6)
    exact ⟨rfl, HG6.out, rfl⟩
set_option maxHeartbeats 2000000 in
set_option maxRecDepth 100000 in
theorem code_p {B : Nat} {w : World} {g : Nat} {l : List Tk} (h : PR B w g l) {k : Nat} {a : Int} (ha : 0 ≤ a) :
    Calls Tryz.prog 88 #[.pointer (some ⟨g, 0, none⟩), .int .i64 (k : Int), .int .i64 a] w fun e w' => GotR B g w (fun (n : Nat) v _ => v = .int .u32 (n : Int)) (numR a (if k = 5 ∨ k = 6 then 999 else 999999) l) e w' := by
  have KU := Lib.hid (unit_s (k : Int) w)
  obtain ⟨M, hM⟩ : ∃ M : Int, (if k = 5 ∨ k = 6 then (999 : Int) else 999999) = M := ⟨_, rfl⟩
  rw [hM]
  have hm : M ≤ 999999 := by rw [← hM]; split <;> omega
  have KN := Lib.hid (number_p h (a := a) (b := M) ha)
  obtain ⟨R, hR⟩ : ∃ R, numR a M l = R := ⟨_, rfl⟩
  have hin : ∀ n r, R = .ok (n, r) → (n : Int) ≤ 999999 := fun n r e => by
    have := (numR_in ha (hR.trans e)).2
    omega
  rw [hR] at KN ⊢
  have HIN := Lib.hid hin
  have hd : (k = 5 ∨ k = 6) ↔ ((k : Int) = 5 ∨ (k : Int) = 6) := by omega
  clear h hR hin hm
  by_cases hk : k = 5 ∨ k = 6
  all_goals
    have hk' := hk
    rw [hd] at hk'
    first
      | rw [if_pos hk] at hM
      | rw [if_neg hk] at hM
    have KU2 := KU.out
    first
      | rw [decide_eq_true hk'] at KU2
      | rw [decide_eq_false hk'] at KU2
    have KU := Lib.hid KU2
    clear KU2 hk hk' hd
    subst hM
    rcases R with p | ⟨n, r⟩
    · unfold GotR faultE at KN
      go_enter Tryz.func88, Tryz.ntmps88
      go_wp2_with (first
        | (go_at_call 118; refine KN.out.mono ?_; rintro e w6 ⟨h6, rfl⟩; have HG6 := Lib.hid h6; clear h6)
        | (go_at_call 49; refine KU.out.mono ?_; rintro e w5 ⟨rfl, h5⟩; obtain rfl : w = w5 := h5.symm))
      exact ⟨rfl, HG6.out, rfl⟩
    · have hn := HIN.out n r rfl
      have hw : IntKind.u32.wrap (n : Int) = (n : Int) := by rw [IntKind.wrap_u32]; omega
      go_enter Tryz.func88, Tryz.ntmps88
      go_wp2_with (first
        | (go_at_call 118; refine KN.out.mono ?_; rintro e w6 ⟨h6, v, rfl, rfl, hp⟩; have HG6 := Lib.hid h6; have HP6 := Lib.hid hp; clear h6 hp)
        | (go_at_call 49; refine KU.out.mono ?_; rintro e w5 ⟨rfl, h5⟩; obtain rfl : w = w5 := h5.symm))
      go_ret
      exact ⟨HG6.out, _, rfl, rfl, HP6.out⟩
end Go.Proofs.YtffhnedladiaoaaGreatDoor
/- Package parse: the reader's part, kind. -/
namespace Go.Proofs.YtffhnedladiaoaaGreatDoor
open Go.RowKit Go.Lib
set_option linter.unusedVariables false
set_option linter.unusedSimpArgs false
/-- A part. -/
def partR : Rd (Nat × Nat) := thenR (numR 1 999999) fun c => thenR (numR 1 1000000) fun w => backR (c, w)
theorem partR_err1 {l : List Tk} {p : Nat × Int} (h : numR 1 999999 l = .error p) : partR l = .error p := by unfold partR thenR; rw [h]
theorem partR_err2 {l r : List Tk} {n : Nat} {p : Nat × Int} (h : numR 1 999999 l = .ok (n, r)) (h2 : numR 1 1000000 r = .error p) : partR l = .error p := by
  unfold partR thenR; rw [h]; simp only; rw [h2]
theorem partR_ok {l r q : List Tk} {n m : Nat} (h : numR 1 999999 l = .ok (n, r)) (h2 : numR 1 1000000 r = .ok (m, q)) : partR l = .ok ((n, m), q) := by
  unfold partR thenR; rw [h]; simp only; rw [h2]; rfl
set_option maxHeartbeats 2000000 in
set_option maxRecDepth 100000 in
theorem part_p {B : Nat} {w : World} {g : Nat} {l : List Tk} (h : PR B w g l) :
    Calls Tryz.prog 120 #[.pointer (some ⟨g, 0, none⟩)] w fun e w' => GotR B g w (fun p v _ => v = .agg (ptc p).toArray) (partR l) e w' := by
  have b1 := (Below.refl w.heap.size w).alloc (Nat.le_refl _) (.cells #[.int .u32 0, .int .i64 0] 60)
  have r1 := HBox.new w [.int .u32 0, .int .i64 0] 60
  change HBox (w.alloc (.cells #[.int .u32 0, .int .i64 0] 60)) _ _ _ at r1
  have KC := Lib.hid (fun w' (hb : Below w.heap.size w w') => code_p (k := 4) (a := 1) (h.stay (hb.mono h.top)) (by decide))
  rw [if_neg (by decide)] at KC
  have hlt := h.lt
  have hB := h.top
  obtain ⟨R, hR⟩ : ∃ R, partR l = R := ⟨_, rfl⟩
  rw [hR]
  have HRR := Lib.hid hR
  clear h hR
  cases h1 : numR 1 999999 l with
  | error p =>
    rw [h1] at KC
    have hRv := HRR.out
    rw [partR_err1 h1] at hRv
    subst hRv
    unfold GotR faultE at KC
    clear HRR h1
    go_enter Tryz.func120, Tryz.ntmps120
    go_upto_region 1 with fail
    generalize w.alloc (.cells #[.int .u32 0, .int .i64 0] 60) = W1 at *
    go_wp2_with (go_at_call 88; refine (KC.out _ b1).mono ?_; rintro e w6 ⟨h6, rfl⟩; have HG6 := Lib.hid (grown_trans' (grown_below' b1 (some g)) h6); clear h6)
    exact ⟨rfl, HG6.out, rfl⟩
  | ok a =>
    obtain ⟨n, r⟩ := a
    rw [h1] at KC
    have KN := Lib.hid (fun w' (hb : PR B w' g r) => number_p (a := 1) (b := 1000000) hb (by decide))
    cases h2 : numR 1 1000000 r with
    | error p =>
      rw [h2] at KN
      have hRv := HRR.out
      rw [partR_err2 h1 h2] at hRv
      subst hRv
      unfold GotR faultE at KN
      clear HRR h1 h2
      go_enter Tryz.func120, Tryz.ntmps120
      go_upto_region 1 with fail
      generalize w.alloc (.cells #[.int .u32 0, .int .i64 0] 60) = W1 at *
      go_wp2_with (first
        | (go_at_call 118; refine (KN.out _ HP6.out).mono ?_; rintro e w7 ⟨h7, rfl⟩; have HG7 := Lib.hid (grown_trans' HG6.out h7); clear h7)
        | (go_at_call 88; refine (KC.out _ b1).mono ?_; rintro e w6 ⟨h6, v, rfl, rfl, hp⟩; have HG6 := Lib.hid (grown_trans' (grown_below' b1 (some g)) h6); have HP6 := Lib.hid hp; clear h6 hp))
      exact ⟨rfl, HG7.out, rfl⟩
    | ok b =>
      obtain ⟨m, q⟩ := b
      rw [h2] at KN
      have hRv := HRR.out
      rw [partR_ok h1 h2] at hRv
      subst hRv
      clear HRR h1 h2
      go_enter Tryz.func120, Tryz.ntmps120
      go_upto_region 1 with fail
      generalize w.alloc (.cells #[.int .u32 0, .int .i64 0] 60) = W1 at *
      obtain ⟨X, hX⟩ : ∃ X, w.heap.size = X := ⟨_, rfl⟩
      have hgX : g ≠ X := by omega
      rw [hX] at r1 ⊢
      have HR1 := Lib.hid r1
      clear r1
      go_upto_region 2 with (go_at_call 88; refine (KC.out _ b1).mono ?_; rintro e w6 ⟨h6, v, rfl, rfl, hp⟩; have HG6 := Lib.hid (grown_trans' (grown_below' b1 (some g)) h6); have HR6 := Lib.hid (HR1.out.grown h6 (fun e => hgX (Option.some.inj e).symm)); have HP6 := Lib.hid hp; clear h6 hp)
      have HX := Lib.hid hX
      clear hX
      go_wp2_with (go_at_call 118; refine (KN.out _ HP6.out).mono ?_; rintro e w7 ⟨h7, v, rfl, rfl, hp⟩; have HG7 := Lib.hid (grown_trans' HG6.out h7); have HR7 := Lib.hid (HR6.out.grown h7 (fun e => hgX (Option.some.inj e).symm)); have HP7 := Lib.hid hp; have f0 := HR7.out.frozen 0; have f1 := HR7.out.frozen 1; have c0 := HR7.out.cell (j := 0) rfl; have c1 := HR7.out.cell (j := 1) rfl; clear h7 hp)
      have r8 := (HR7.out.set 0 (.int .u32 (n : Int))).set 1 (.int .i64 (m : Int))
      have g8 := (grownBy_set w7 ⟨X, 0, none⟩ (.int .u32 (n : Int))).trans (grownBy_set _ ⟨X, 1, none⟩ (.int .i64 (m : Int)))
      have u0 := r8.cell (j := 0) rfl
      have u1 := r8.cell (j := 1) rfl
      refine bodyPost_ret (v := .agg #[.int .u32 (n : Int), .int .i64 (m : Int)]) (by simp [results, Tryz.results120, go_sem, u0, u1]) rfl ?_
      exact ⟨grown_up HG7.out g8 (Nat.le_of_eq HX.out), _, rfl, rfl, PR.stay HP7.out (grownBy_below g8 (by have := HX.out; show B ≤ X; omega) HP7.out.top)⟩
theorem word_ne : ∀ k : Fin 8, wordK k.val ≠ [] := by decide
theorem link_ne : ∀ k : Fin 8, k.val ≠ 1 → linkK k.val ≠ [] := by decide
theorem env_step {w0 w w' : World} {g : Nat} (hb : Below w0.heap.size w0 w) (hg : w0.heap.size ≤ g) (h : w.grownBy w' (some g)) : Below w0.heap.size w0 w' := hb.grown h hb.size (fun k hk => by cases hk; exact hg)
theorem kind_at {l : List Tk} {j : Nat} (hj : j < 8) (h : isT 1 (wordK j) l = true) (hn : ∀ i, i < j → isT 1 (wordK i) l = false) : kindT l = some j := by
  unfold kindT
  rw [List.find?_range_eq_some]
  exact ⟨h, by simpa using hj, fun i hi => by rw [hn i hi]; rfl⟩
theorem kind_not {l : List Tk} (hn : ∀ i, i < 8 → isT 1 (wordK i) l = false) : kindT l = none := by
  unfold kindT
  rw [List.find?_range_eq_none]
  intro i hi
  rw [hn i hi]; rfl
set_option maxHeartbeats 2000000 in
set_option maxRecDepth 100000 in
theorem kind_p {B : Nat} {w w0 : World} {g : Nat} {l : List Tk} (h : PR B w g l) (hI : InS w0) (hb : Below w0.heap.size w0 w) (hg : w0.heap.size ≤ g) :
    Calls Tryz.prog 87 #[.pointer (some ⟨g, 0, none⟩)] w fun e w' => w.grownBy w' (some g) ∧ match kindT l with
      | some k => e = .returned (.int .i64 (k : Int)) ∧ PR B w' g l.tail
      | none => e = faultE (atT l) 17 := by
  obtain ⟨R, hR⟩ : ∃ R, kindT l = R := ⟨_, rfl⟩
  rw [hR]
  have HRR := Lib.hid hR
  have HH := Lib.hid h
  have HE := Lib.hid (fun (w' : World) (hG : w.grownBy w' (some g)) => hI.stay (env_step hb hg hG))
  have KN : Hid (∀ w', PR B w' g l → Calls Tryz.prog 55 #[.pointer (some ⟨g, 0, none⟩)] w' fun e w2 => (∃ a b c d, e = .returned (.agg #[a, b, c, d, .int .i64 (atT l : Int)])) ∧ Below w'.heap.size w' w2) := Lib.hid (fun w' hp => by
    obtain ⟨t, r, rfl⟩ := hp.ends.form
    exact (next_p hp).mono (fun e w2 ⟨h1, h2⟩ => ⟨⟨_, _, _, _, h1⟩, h2⟩))
  have f4 := fun (a b c d e : Value) (w : World) => field_tk4 a b c d e w
  clear h hI hb hR
  unfold faultE
  go_enter Tryz.func87, Tryz.ntmps87
  go_wp2
  go_loopw [4] (fun i wr => ∃ j : Nat, i = .int .i64 (j : Int) ∧ j ≤ 8 ∧ Hid (∀ i, i < j → isT 1 (wordK i) l = false) ∧ Hid (w.grownBy wr (some g)) ∧ Hid (PR B wr g l)) (fun i _ => 8 - (RowKit.intOf i).toNat)
  case atStart => exact ⟨0, rfl, Nat.zero_le _, Lib.hid (fun i hi => absurd hi (Nat.not_lt_zero _)), Lib.hid (grown_selfG w _), HH⟩
  case round =>
    obtain ⟨j, rfl, hj, HN, HG, HP⟩ := hrel
    rename World => wr
    by_cases hlt : j < 8
    · have KW := Lib.hid (fun w' (hG : w.grownBy w' (some g)) => word_s j hlt w' (HE.out w' hG).2)
      have KT := Lib.hid (takes_p HP.out (k := 1) (by decide) (s := wordK j) (word_ne ⟨j, hlt⟩))
      unfold strV at KW
      by_cases hh : isT 1 (wordK j) l = true
      · rw [hh] at KT
        have hRv := HRR.out
        rw [kind_at hlt hh HN.out] at hRv
        clear hh HRR HN
        subst hRv
        go_wp2_with (first
          | (go_at_call 93; refine KT.out.mono ?_; rintro e w6 ⟨rfl, h6, hp⟩; have HG6 := Lib.hid (grown_trans' HG.out h6); have HP6 := Lib.hid hp; clear h6 hp)
          | (go_at_call 95; refine (KW.out _ HG.out).mono ?_; rintro e w5 ⟨rfl, h5⟩; obtain rfl : wr = w5 := h5.symm))
        go_ret
        exact ⟨HG6.out, rfl, HP6.out⟩
      · have hh : isT 1 (wordK j) l = false := by simpa using hh
        rw [hh] at KT
        have HN2 : Hid (∀ i, i < j + 1 → isT 1 (wordK i) l = false) := Lib.hid (fun i hi => by
          rcases Nat.lt_or_ge i j with h | h
          · exact HN.out i h
          · obtain rfl : i = j := by omega
            exact hh)
        clear hh HN
        go_wp2_with (first
          | (go_at_call 93; refine KT.out.mono ?_; rintro e w6 ⟨rfl, h6, hp⟩; have HG6 := Lib.hid (grown_trans' HG.out h6); have HP6 := Lib.hid hp; clear h6 hp)
          | (go_at_call 95; refine (KW.out _ HG.out).mono ?_; rintro e w5 ⟨rfl, h5⟩; obtain rfl : wr = w5 := h5.symm))
        go_roundw
        case rel => exact ⟨j + 1, by go_num, by omega, HN2, HG6, HP6⟩
        case measure => simp [RowKit.intOf]; omega
    · have hRv := HRR.out
      rw [kind_not (fun i hi => HN.out i (by omega))] at hRv
      clear HRR HN
      subst hRv
      go_wp2_with (go_at_call 55; refine (KN.out _ HP.out).mono ?_; rintro e w6 ⟨⟨a, b, c, d, rfl⟩, h6⟩; have HG6 := Lib.hid (grown_trans' HG.out (grown_below' h6 (some g))); clear h6)
      exact ⟨rfl, HG6.out, rfl⟩
end Go.Proofs.YtffhnedladiaoaaGreatDoor
/- Package parse: the reader's parts. -/
namespace Go.Proofs.YtffhnedladiaoaaGreatDoor
open Go.RowKit Go.Lib
set_option linter.unusedVariables false
set_option linter.unusedSimpArgs false
/-- Parts that are read, and what may come of the rest. -/
def contR (ps : List (Nat × Nat)) (n : Nat) (l : List Tk) : Except (Nat × Int) (List (Nat × Nat) × List Tk) :=
  if isT 5 [44] l then (match partsR n l.tail with | .error e => .error e | .ok a => .ok (ps ++ a.1, a.2)) else .ok (ps, l)
theorem need_isT {k : Nat} {s : List UInt8} {l : List Tk} (h : isT k s l = true) : ∃ t, needT k s l = .ok (t, l.tail) := by
  cases l with
  | nil => cases h
  | cons t r => exact ⟨t, by rw [needT_is, if_pos h]; rfl⟩
theorem parts_step (n : Nat) (l : List Tk) : partsR (n + 1) l = match partR l with | .error e => .error e | .ok a => contR [a.1] n a.2 := by
  conv => lhs; unfold partsR
  cases h1 : numR 1 999999 l with
  | error p => rw [partR_err1 h1]; simp only [thenR, h1]
  | ok a =>
    obtain ⟨c, r⟩ := a
    cases h2 : numR 1 1000000 r with
    | error p => rw [partR_err2 h1 h2]; simp only [thenR, h1, h2]
    | ok b =>
      obtain ⟨d, q⟩ := b
      rw [partR_ok h1 h2]
      simp only [thenR, h1, h2]
      unfold contR
      by_cases hi : isT 5 [44] q = true
      · obtain ⟨t, ht⟩ := need_isT hi
        rw [if_pos hi, if_pos hi, ht]
        simp only
        cases partsR n q.tail with
        | error e => rfl
        | ok x => rfl
      · rw [if_neg hi, if_neg hi]
theorem cont_end {ps : List (Nat × Nat)} {n : Nat} {l : List Tk} (h : isT 5 [44] l = false) : contR ps n l = .ok (ps, l) := by
  unfold contR; rw [if_neg (by rw [h]; decide)]
theorem cont_full {ps : List (Nat × Nat)} {l : List Tk} (h : isT 5 [44] l = true) : contR ps 0 l = .error (atT l.tail, 2) := by
  unfold contR; rw [if_pos h]; rfl
theorem cont_err {ps : List (Nat × Nat)} {n : Nat} {l : List Tk} {e : Nat × Int} (h : isT 5 [44] l = true) (hp : partR l.tail = .error e) : contR ps (n + 1) l = .error e := by
  unfold contR; rw [if_pos h, parts_step, hp]
theorem cont_step {ps : List (Nat × Nat)} {n : Nat} {l r : List Tk} {p : Nat × Nat} (h : isT 5 [44] l = true) (hp : partR l.tail = .ok (p, r)) : contR ps (n + 1) l = contR (ps ++ [p]) n r := by
  unfold contR
  rw [if_pos h, parts_step, hp]
  simp only
  unfold contR
  by_cases hi : isT 5 [44] r = true
  · rw [if_pos hi, if_pos hi]
    cases partsR n r.tail with
    | error e => rfl
    | ok x => simp
  · rw [if_neg hi, if_neg hi]
def lenV : Value → Nat | .slice _ n _ => n | _ => 0
theorem grown_row {w w' w'' : World} {row row' : Option Nat} (h : w.grownBy w' row) (k : w'.grownBy w'' row') (hr : ∀ X, row' = some X → w.heap.size ≤ X) : w.grownBy w'' row :=
  ⟨k.os.trans h.os, k.tape.trans h.tape, k.output.trans h.output, Nat.le_trans h.size k.size, fun i hi hn => (k.block i (Nat.lt_of_lt_of_le hi h.size) (fun e => by have := hr i e.symm; omega)).trans (h.block i hi hn)⟩
theorem infoPa : (Tryz.prog.info? 60).map (fun i => (i.zero, i.size, i.bytes)) = some (some (.agg #[.int .u32 0, .int .i64 0]), 2, 16) := by kernel_rfl
/-- Parts in a row of one's own. -/
def OwnP (base : Nat) (w : World) (v : Value) (ps : List (Nat × Nat)) : Prop := w.ownsRow base 60 2 v ps.length (ps.flatMap ptc) ∧ ps.length ≤ 8
theorem parts_more {B X m g : Nat} {w w7 : World} {q : Option Addr} {cap c d : Nat} {ps : List (Nat × Nat)} {r : List Tk} (HX : Hid (w.heap.size = X)) (hlt : g < B) (hB : B ≤ X) (HM : Hid (ps.length = m))
    (HO : w7.ownsRow X 60 2 (.slice q m cap) m (ps.flatMap ptc)) (HG : w.grownBy w7 (some g)) (HP : PR B w7 g r) (v5 : Value) (w5 : World)
    (ho : w5.ownsRow X 60 2 v5 (m + 1) (ps.flatMap ptc ++ [.int .u32 (c : Int), .int .i64 (d : Int)])) (hg : (w7.alloc (.cells #[.int .u32 (c : Int), .int .i64 (d : Int)] 60)).grownBy w5 (Value.slice q m cap).ownBlock) :
    w5.ownsRow X 60 2 v5 (ps ++ [(c, d)]).length ((ps ++ [(c, d)]).flatMap ptc) ∧ w.grownBy w5 (some g) ∧ PR B w5 g r := by
  have hXw : X ≤ w7.heap.size := by have := HG.size; have := HX.out; omega
  have hb := (Below.refl w7.heap.size w7).alloc (Nat.le_refl _) (.cells #[.int .u32 (c : Int), .int .i64 (d : Int)] 60)
  refine ⟨?_, ?_, ?_⟩
  · rw [List.length_append, HM.out, flat_snoc]
    exact ho
  · exact grown_row (grown_trans' HG (grown_below' hb (some g))) hg (fun Z hZ => by have := (HO.lt Z hZ).1; have := HX.out; omega)
  · exact HP.stay ((hb.mono HP.top).grown hg (Nat.le_trans HP.top hb.size) (fun Z hZ => by have := (HO.lt Z hZ).1; omega))
set_option maxHeartbeats 4000000 in
set_option maxRecDepth 100000 in
theorem parts_p {B : Nat} {w : World} {g : Nat} {l : List Tk} (h : PR B w g l) :
    Calls Tryz.prog 91 #[.pointer (some ⟨g, 0, none⟩)] w fun e w' => GotR B g w (fun ps v w' => OwnP w.heap.size w' v ps) (partsR 8 l) e w' := by
  have KP := Lib.hid (part_p h)
  have hlt := h.lt
  have hB := h.top
  obtain ⟨i0, hi, hz0, hz1, hz2⟩ := info_parts infoPa
  obtain ⟨R, hR⟩ : ∃ R, partsR 8 l = R := ⟨_, rfl⟩
  rw [hR]
  have HRR := Lib.hid hR
  have hs := parts_step 7 l
  clear h hR
  cases h1 : partR l with
  | error p =>
    rw [h1] at KP hs
    have hRv := HRR.out
    rw [hs] at hRv
    simp only at hRv
    subst hRv
    unfold GotR faultE at KP
    clear HRR h1 hs
    go_enter Tryz.func91, Tryz.ntmps91
    go_wp2_with (go_at_call 120; refine KP.out.mono ?_; rintro e w6 ⟨h6, rfl⟩; have HG6 := Lib.hid h6; clear h6)
    exact ⟨rfl, HG6.out, rfl⟩
  | ok a =>
  obtain ⟨⟨c, d⟩, r⟩ := a
  rw [h1] at KP hs
  simp only at hs
  unfold ptc at KP
  have HC : Hid (contR [(c, d)] 7 r = R) := Lib.hid (hs.symm.trans HRR.out)
  clear HRR hs h1
  obtain ⟨X, hX⟩ : ∃ X, w.heap.size = X := ⟨_, rfl⟩
  have HX := Lib.hid hX
  rw [hX] at hB ⊢
  clear hX
  go_enter Tryz.func91, Tryz.ntmps91
  go_wp2_with (go_at_call 120; refine KP.out.mono ?_; rintro e w6 ⟨h6, v, rfl, rfl, hp⟩; have HG6 := Lib.hid h6; have HP6 := Lib.hid hp; clear h6 hp)
  have hXw : X ≤ w6.heap.size := by have := HG6.out.size; have := HX.out; omega
  have MO := World.ownsRow_lit (base := X) (e := 60) (size := 2) w6 #[.int .u32 (c : Int), .int .i64 (d : Int)] 1 hXw (by unfold maxLen; omega) rfl
  have HO : Hid (OwnP X (w6.alloc (.cells #[.int .u32 (c : Int), .int .i64 (d : Int)] 60)) (.slice (some ⟨w6.heap.size, 0, none⟩) 1 1) [(c, d)]) := Lib.hid ⟨MO, by simp⟩
  have hb7 := (Below.refl w6.heap.size w6).alloc (Nat.le_refl _) (.cells #[.int .u32 (c : Int), .int .i64 (d : Int)] 60)
  have HP7 := Lib.hid (HP6.out.stay (hb7.mono HP6.out.top))
  have HG7 := Lib.hid (grown_trans' HG6.out (grown_below' hb7 (some g)))
  generalize w6.alloc (.cells #[.int .u32 (c : Int), .int .i64 (d : Int)] 60) = W7 at *
  generalize w6.heap.size = Y at *
  clear HG6 HP6 MO hb7 hXw KP
  go_loopw [3] (fun s wr => ∃ (m : Nat) (q : Option Addr) (cap : Nat) (ps : List (Nat × Nat)) (l' : List Tk), s = .slice q m cap ∧ 1 ≤ m ∧ m ≤ 8 ∧ Hid (ps.length = m) ∧ Hid (OwnP X wr (.slice q m cap) ps) ∧ Hid (contR ps (8 - m) l' = R) ∧ Hid (w.grownBy wr (some g)) ∧ Hid (PR B wr g l')) (fun s _ => 9 - lenV s)
  case atStart => exact ⟨1, _, _, [(c, d)], r, rfl, Nat.le_refl _, by omega, Lib.hid rfl, HO, HC, HG7, HP7⟩
  case round =>
    clear HO HC HG7 HP7
    obtain ⟨m, q, cap, ps, l', rfl, hm1, hm8, HM, HO, HC, HG, HP⟩ := hrel
    rename World => wr
    have KT := Lib.hid (takes_p HP.out (k := 5) (by decide) (s := [44]) (by decide))
    cases hh : isT 5 [44] l' with
    | false =>
      rw [hh] at KT
      have hRv := HC.out
      rw [cont_end hh] at hRv
      subst hRv
      clear hh HC
      go_wp2_with (go_at_call 93; refine KT.out.mono ?_; rintro e w6 ⟨rfl, h6, hp⟩; have HG6 := Lib.hid (grown_trans' HG.out h6); have HP6 := Lib.hid hp; have HO6 : Hid (OwnP X w6 (.slice q m cap) ps) := Lib.hid ⟨HO.out.1.kept h6 (.inr (by have := HM.out; have h := HO.out.1; rw [this] at h; exact owns_far h (.inl (by omega)))), HO.out.2⟩; clear h6 hp)
      go_ret
      exact ⟨HG6.out, _, rfl, HO6.out, HP6.out⟩
    | true =>
      rw [hh] at KT
      simp only [if_true] at KT
      by_cases h8 : m = 8
      · subst h8
        have hRv := HC.out
        rw [cont_full hh] at hRv
        subst hRv
        have KF : Hid (∀ w', PR B w' g l'.tail → Calls Tryz.prog 56 #[.pointer (some ⟨g, 0, none⟩), .int .i64 2] w' fun e w2 => e = faultE (atT l'.tail) 2 ∧ Below w'.heap.size w' w2) := Lib.hid (fun w' hp => by
          obtain ⟨t, r, e⟩ := hp.ends.form
          rw [e] at hp ⊢
          exact fail_p hp 2)
        unfold faultE at KF
        clear hh HC
        go_wp2_with (first
          | (go_at_call 56; refine (KF.out _ HP6.out).mono ?_; rintro e w7 ⟨rfl, h7⟩; have HG7 := Lib.hid (grown_trans' HG6.out (grown_below' h7 (some g))); clear h7)
          | (go_at_call 93; refine KT.out.mono ?_; rintro e w6 ⟨rfl, h6, hp⟩; have HG6 := Lib.hid (grown_trans' HG.out h6); have HP6 := Lib.hid hp; clear h6 hp))
        exact ⟨rfl, HG7.out, rfl⟩
      · have h8n : ((m : Int) == 8) = false := by rw [beq_eq_false_iff_ne]; omega
        have KP := Lib.hid (fun w' (hp : PR B w' g l'.tail) => part_p hp)
        obtain ⟨n, hn⟩ : ∃ n, 8 - m = n + 1 := ⟨7 - m, by omega⟩
        have hRv := HC.out
        rw [hn] at hRv
        cases hp1 : partR l'.tail with
        | error p =>
          rw [hp1] at KP
          rw [cont_err hh hp1] at hRv
          subst hRv
          unfold GotR faultE at KP
          clear hh HC hp1 hn
          go_wp2_with (first
            | (go_at_call 120; refine (KP.out _ HP6.out).mono ?_; rintro e w7 ⟨h7, rfl⟩; have HG7 := Lib.hid (grown_trans' HG6.out h7); clear h7)
            | (go_at_call 93; refine KT.out.mono ?_; rintro e w6 ⟨rfl, h6, hp⟩; have HG6 := Lib.hid (grown_trans' HG.out h6); have HP6 := Lib.hid hp; clear h6 hp))
          exact ⟨rfl, HG7.out, rfl⟩
        | ok a =>
          obtain ⟨⟨c', d'⟩, r'⟩ := a
          rw [hp1] at KP
          unfold ptc at KP
          rw [cont_step hh hp1] at hRv
          have HC2 : Hid (contR (ps ++ [(c', d')]) (8 - (m + 1)) r' = R) := Lib.hid (by rw [show 8 - (m + 1) = n by omega]; exact hRv)
          clear hh HC hp1 hn hRv
          go_wp2_with (first
            | (at_builtin; refine wpList_append_own_at _ rfl (.tmp 14) (.tmp 17) 32 rfl X 60 i0 _ 2 16 Tryz.underlying32 hi hz0 hz1 hz2 rfl (by decide) _ m _ rfl (HO7.out.alloc _) ⟨_, 0, none⟩ 1 1 [.int .u32 (c' : Int), .int .i64 (d' : Int)] rfl rfl (cells_new _ [.int .u32 (c' : Int), .int .i64 (d' : Int)] _) (fun v hv => by simp at hv; rcases hv with rfl | rfl <;> rfl) (by unfold maxLen; omega) (by omega) (by simp; omega) ?_; intro v5 w5 hown5 hgrow5 _ hat5; have hEx := HE7.out v5 w5 hown5 hgrow5; obtain ⟨q5, cap5, rfl⟩ := owns_form hown5; have HX8 := Lib.hid hEx; clear hown5 hgrow5 hat5 hEx)
            | (go_at_call 120; refine (KP.out _ HP6.out).mono ?_; rintro e w7 ⟨h7, v, rfl, rfl, hp⟩; have HG7 := Lib.hid (grown_trans' HG6.out h7); have HP7 := Lib.hid hp; have HO7 := Lib.hid (HO6.out.kept h7 (.inr (owns_far HO6.out (m := g) (.inl (by omega))))); have hX7 : X ≤ w7.heap.size := (by have := HG7.out.size; have := HX.out; omega); have HE7 := Lib.hid (parts_more (c := c') (d := d') HX hlt hB HM HO7.out HG7.out HP7.out); clear h7 hp)
            | (go_at_call 93; refine KT.out.mono ?_; rintro e w6 ⟨rfl, h6, hp⟩; have HG6 := Lib.hid (grown_trans' HG.out h6); have HP6 := Lib.hid hp; have HO6 : Hid (w6.ownsRow X 60 2 (.slice q m cap) m (ps.flatMap ptc)) := Lib.hid (by have h := HO.out.1; rw [HM.out] at h; exact h.kept h6 (.inr (owns_far h (m := g) (.inl (by omega))))); clear h6 hp))
          have hm := HM.out
          exact ⟨⟨m + 1, q5, cap5, ps ++ [(c', d')], r', rfl, by omega, by omega, Lib.hid (by simp [hm]), Lib.hid ⟨HX8.out.1, by simp [hm]; omega⟩, HC2, Lib.hid HX8.out.2.1, Lib.hid HX8.out.2.2⟩, by simp only [lenV]; omega⟩
end Go.Proofs.YtffhnedladiaoaaGreatDoor

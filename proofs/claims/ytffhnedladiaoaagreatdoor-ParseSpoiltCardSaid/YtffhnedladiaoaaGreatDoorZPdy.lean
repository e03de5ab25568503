/- Package parse: an op that is being read, in memory. -/
import Derived.Test.YtffhnedladiaoaaGreatDoorZPdx
import Derived.Test.YtffhnedladiaoaaGreatDoorZTall
namespace Go.Proofs.YtffhnedladiaoaaGreatDoor
open Go.RowKit Go.Lib
set_option linter.unusedVariables false
set_option linter.unusedSimpArgs false
/-- All of an op: its kind's word ahead. -/
def opAll (l : List Tk) : Except (Nat × Int) ((Opp × Nat) × List Tk) := match kindT l with
  | none => .error (atT l, 17)
  | some k => match opR k l.tail with
    | .error e => .error e
    | .ok a => .ok ((a.1, atT l), a.2)
theorem opAll_none {l : List Tk} (h : kindT l = none) : opAll l = .error (atT l, 17) := by unfold opAll; rw [h]
theorem opAll_err {l : List Tk} {k : Nat} {e : Nat × Int} (h : kindT l = some k) (h2 : opR k l.tail = .error e) : opAll l = .error e := by unfold opAll; rw [h]; simp only; rw [h2]
theorem opAll_ok {l r : List Tk} {k : Nat} {o : Opp} (h : kindT l = some k) (h2 : opR k l.tail = .ok (o, r)) : opAll l = .ok ((o, atT l), r) := by unfold opAll; rw [h]; simp only; rw [h2]
theorem kind_lt {l : List Tk} {k : Nat} (h : kindT l = some k) : k < 8 := by
  unfold kindT at h
  have := List.mem_of_find?_eq_some h
  simpa using this
def z8 : List Value := [.int .i64 0, .int .u32 0, .int .u32 0, .string ⟨#[]⟩, .slice none 0 0, .slice none 0 0, .int .i32 0, .int .i64 0]
/-- A box for what comes out, X, one for the op, Z; the reader, g. -/
structure OpW (B X Z g : Nat) (w W : World) (l : List Tk) (cs : List Value) : Prop where
  lt : g < B ∧ B ≤ X ∧ X < Z ∧ w.heap.size = X
  res : HBox W X z8 38
  box : HBox W Z cs 38
  grown : w.grownBy W (some g)
  pr : PR B W g l
theorem OpW.call {B X Z g : Nat} {w W W' : World} {l l' : List Tk} {cs : List Value} (h : OpW B X Z g w W l cs) (hG : W.grownBy W' (some g)) (hp : PR B W' g l') : OpW B X Z g w W' l' cs := by
  obtain ⟨h1, h2, h3, h4⟩ := h.lt
  exact ⟨h.lt, h.res.grown hG (fun e => by have := Option.some.inj e; omega), h.box.grown hG (fun e => by have := Option.some.inj e; omega), grown_trans' h.grown hG, hp⟩
theorem OpW.stay {B X Z g : Nat} {w W W' : World} {l : List Tk} {cs : List Value} (h : OpW B X Z g w W l cs) (hb : Below W.heap.size W W') : OpW B X Z g w W' l cs :=
  h.call (grown_below' hb (some g)) (h.pr.stay (hb.mono h.pr.top))
theorem OpW.drew {B X Z g : Nat} {w W : World} {l : List Tk} {cs : List Value} (h : OpW B X Z g w W l cs) : OpW B X Z g w W.drew l cs := h.stay (Below.refl _ _).drew
/-- What grows lies from X on, apart from both boxes. -/
theorem OpW.row {B X Z g : Nat} {w W W' : World} {l : List Tk} {cs : List Value} {row : Option Nat} (h : OpW B X Z g w W l cs) (hG : W.grownBy W' row) (hr : ∀ Y, row = some Y → X ≤ Y ∧ Y ≠ X ∧ Y ≠ Z) : OpW B X Z g w W' l cs := by
  obtain ⟨h1, h2, h3, h4⟩ := h.lt
  exact ⟨h.lt, h.res.grown hG (fun e => (hr X e.symm).2.1 rfl), h.box.grown hG (fun e => (hr Z e.symm).2.2 rfl), grown_row h.grown hG (fun Y e => by have := (hr Y e).1; omega), h.pr.stay ((Below.refl B W).grown hG h.pr.top (fun Y e => by have := (hr Y e).1; omega))⟩
theorem OpW.set {B X Z g : Nat} {w W : World} {l : List Tk} {cs : List Value} (h : OpW B X Z g w W l cs) (j : Nat) (u : Value) : OpW B X Z g w (W.setCell ⟨Z, j, none⟩ u) l (cs.set j u) := by
  obtain ⟨h1, h2, h3, h4⟩ := h.lt
  exact ⟨h.lt, h.res.grown (grown_set W Z j u) (fun e => by have := Option.some.inj e; omega), h.box.set j u, grown_up h.grown (grown_set W Z j u) (by omega), h.pr.stay (grownBy_below (grown_set W Z j u) (by omega) h.pr.top)⟩
theorem OpW.new {B g : Nat} {w W1 w2 : World} {l : List Tk} {cs : List Value} (hlt : g < B) (hB : B ≤ w.heap.size) (h1 : Below w.heap.size w W1) (hr : HBox W1 w.heap.size z8 38) (h2 : Below W1.heap.size W1 w2) (hp : PR B w g l) :
    OpW B w.heap.size w2.heap.size g w (w2.alloc (.cells cs.toArray 38)) l cs := by
  have b3 := (h1.trans (h2.mono h1.size)).alloc (Nat.le_trans h1.size h2.size) (.cells cs.toArray 38)
  exact ⟨⟨hlt, hB, Nat.lt_of_lt_of_le hr.size h2.size, rfl⟩, (hr.stay h2).alloc _, HBox.new w2 cs _, grown_below' b3 (some g), hp.stay (b3.mono hB)⟩
theorem HBox.set8p {w : World} {b : Nat} {c0 c1 c2 c3 c4 c5 c6 c7 : Value} {T : TypeId} (h : HBox w b [c0, c1, c2, c3, c4, c5, c6, c7] T) (d0 d1 d2 d3 d4 d5 d6 d7 : Value) :
    HBox ((((((((w.setCell ⟨b, 0, none⟩ d0).setCell ⟨b, 1, none⟩ d1).setCell ⟨b, 2, none⟩ d2).setCell ⟨b, 3, none⟩ d3).setCell ⟨b, 4, none⟩ d4).setCell ⟨b, 5, none⟩ d5).setCell ⟨b, 6, none⟩ d6).setCell ⟨b, 7, none⟩ d7) b [d0, d1, d2, d3, d4, d5, d6, d7] T :=
  (((((((h.set 0 d0).set 1 d1).set 2 d2).set 3 d3).set 4 d4).set 5 d5).set 6 d6).set 7 d7
theorem grown_sets8p (w : World) (b : Nat) (d0 d1 d2 d3 d4 d5 d6 d7 : Value) : w.grownBy ((((((((w.setCell ⟨b, 0, none⟩ d0).setCell ⟨b, 1, none⟩ d1).setCell ⟨b, 2, none⟩ d2).setCell ⟨b, 3, none⟩ d3).setCell ⟨b, 4, none⟩ d4).setCell ⟨b, 5, none⟩ d5).setCell ⟨b, 6, none⟩ d6).setCell ⟨b, 7, none⟩ d7) (some b) :=
  (((grown_sets5 w b d0 d1 d2 d3 d4).trans (grownBy_set _ ⟨b, 5, none⟩ d5)).trans (grownBy_set _ ⟨b, 6, none⟩ d6)).trans (grownBy_set _ ⟨b, 7, none⟩ d7)
theorem next_at {B : Nat} {w : World} {g : Nat} {l : List Tk} (h : PR B w g l) : Calls Tryz.prog 55 #[.pointer (some ⟨g, 0, none⟩)] w fun e w2 => (∃ a b c d, e = .returned (.agg #[a, b, c, d, .int .i64 (atT l : Int)])) ∧ Below w.heap.size w w2 := by
  obtain ⟨t, r, rfl⟩ := h.ends.form
  exact (next_p h).mono (fun e w2 ⟨h1, h2⟩ => ⟨⟨_, _, _, _, h1⟩, h2⟩)
/-- What an op's reading answers. -/
def OpV (X : Nat) (a : Opp × Nat) (v : Value) (w' : World) : Prop := ∃ vP vS, v = opV ⟨a.1, (a.2 : Int), vP, vS⟩ ∧ OpOwn X w' ⟨a.1, (a.2 : Int), vP, vS⟩
theorem ownD_nil (base : Nat) (w : World) : w.ownsRow base 34 1 (.slice none 0 0) 0 [] := ⟨rfl, .inl ⟨rfl, rfl⟩⟩
theorem ownP_nil (base : Nat) (w : World) : w.ownsRow base 60 2 (.slice none 0 0) 0 [] := ⟨rfl, .inl ⟨rfl, rfl⟩⟩
end Go.Proofs.YtffhnedladiaoaaGreatDoor
/- Package parse: the reader's op: renames. -/
namespace Go.Proofs.YtffhnedladiaoaaGreatDoor
open Go.RowKit Go.Lib
set_option linter.unusedVariables false
set_option linter.unusedSimpArgs false
theorem op1_e1 {l : List Tk} {p : Nat × Int} (h : numR 1 999999 l = .error p) : opR 1 l = .error p := by
  unfold opR; rw [if_neg (by decide), if_pos rfl]; simp only [thenR, h]
theorem op1_e2 {l r : List Tk} {a : Nat} {p : Nat × Int} (h : numR 1 999999 l = .ok (a, r)) (h2 : needT 4 [] r = .error p) : opR 1 l = .error p := by
  unfold opR; rw [if_neg (by decide), if_pos rfl]; simp only [thenR, h, h2]
theorem op1_ok {l r q : List Tk} {a : Nat} {t : Tk} (h : numR 1 999999 l = .ok (a, r)) (h2 : needT 4 [] r = .ok (t, q)) : opR 1 l = .ok (⟨1, a, 0, t.text, [], [], 0⟩, q) := by
  unfold opR; rw [if_neg (by decide), if_pos rfl]; simp only [thenR, h, h2, backR]
set_option maxHeartbeats 4000000 in
set_option maxRecDepth 100000 in
theorem op_1 {B : Nat} {w w0 : World} {g : Nat} {l : List Tk} (h : PR B w g l) (hI : InS w0) (hb : Below w0.heap.size w0 w) (hg : w0.heap.size ≤ g) (hk : kindT l = some 1) :
    Calls Tryz.prog 57 #[.pointer (some ⟨g, 0, none⟩)] w fun e w' => GotR B g w (OpV w.heap.size) (opAll l) e w' := by
  have KN := Lib.hid (fun w' (hp : PR B w' g l) => next_at hp)
  have KK := Lib.hid (fun w' (hG : w.grownBy w' (some g)) (hp : PR B w' g l) => kind_p hp hI (env_step hb hg hG) hg)
  rw [hk] at KK
  simp only at KK
  have HK := Lib.hid hk
  have HE := Lib.hid (fun (w' : World) (hG : w.grownBy w' (some g)) => hI.stay (env_step hb hg hG))
  have f4 := fun (a b c d e : Value) (w : World) => field_tk4 a b c d e w
  have f1 := fun (a b c d e : Value) (w : World) => field_tk1 a b c d e w
  have f3 := fun (a b c d e : Value) (w : World) => field_tk3 a b c d e w
  have f0 := fun (a b c d e : Value) (w : World) => field_tk0 a b c d e w
  obtain ⟨R, hR⟩ : ∃ R, opAll l = R := ⟨_, rfl⟩
  rw [hR]
  have HRR := Lib.hid hR
  have HH := Lib.hid h
  have b1 := (Below.refl w.heap.size w).alloc (Nat.le_refl _) (.cells #[.int .i64 0, .int .u32 0, .int .u32 0, .string ⟨#[]⟩, .slice none 0 0, .slice none 0 0, .int .i32 0, .int .i64 0] 38)
  have r1 := HBox.new w z8 38
  change HBox (w.alloc (.cells #[.int .i64 0, .int .u32 0, .int .u32 0, .string ⟨#[]⟩, .slice none 0 0, .slice none 0 0, .int .i32 0, .int .i64 0] 38)) _ _ _ at r1
  clear h hI hb hR hk
  go_enter Tryz.func57, Tryz.ntmps57
  go_upto_region 1 with fail
  generalize w.alloc (.cells #[.int .i64 0, .int .u32 0, .int .u32 0, .string ⟨#[]⟩, .slice none 0 0, .slice none 0 0, .int .i32 0, .int .i64 0] 38) = W1 at *
  have HB1 := Lib.hid b1
  have HR1 := Lib.hid r1
  clear b1 r1
  go_upto_region 2 with (go_at_call 55; refine (KN.out _ (HH.out.stay (HB1.out.mono HH.out.top))).mono ?_; rintro e w2 ⟨⟨na, nb, nc, nd, rfl⟩, h2⟩; have HB2 := Lib.hid h2; clear h2)
  have HW3 : Hid (OpW B w.heap.size w2.heap.size g w (w2.alloc (.cells #[.int .i64 0, .int .u32 0, .int .u32 0, .string ⟨#[]⟩, .slice none 0 0, .slice none 0 0, .int .i32 0, .int .i64 (atT l : Int)] 38)) l [.int .i64 0, .int .u32 0, .int .u32 0, .string ⟨#[]⟩, .slice none 0 0, .slice none 0 0, .int .i32 0, .int .i64 (atT l : Int)]) := Lib.hid (OpW.new (cs := [.int .i64 0, .int .u32 0, .int .u32 0, .string ⟨#[]⟩, .slice none 0 0, .slice none 0 0, .int .i32 0, .int .i64 (atT l : Int)]) HH.out.lt HH.out.top HB1.out HR1.out HB2.out HH.out)
  generalize w2.alloc (.cells #[.int .i64 0, .int .u32 0, .int .u32 0, .string ⟨#[]⟩, .slice none 0 0, .slice none 0 0, .int .i32 0, .int .i64 (atT l : Int)] 38) = W3 at *
  clear HB2 HR1 HB1 KN
  obtain ⟨X, hX⟩ : ∃ X, w.heap.size = X := ⟨_, rfl⟩
  rw [hX] at HW3 ⊢
  have HX := Lib.hid hX
  clear hX
  generalize w2.heap.size = Z at *
  go_upto_region 3 with (go_at_call 87; refine (KK.out _ HW3.out.grown HW3.out.pr).mono ?_; rintro e w4 ⟨h4, rfl, hp⟩; have HW4 := Lib.hid (HW3.out.call h4 hp); have d0 := HW4.out.box.cell (j := 0) rfl; have e0 := HW4.out.box.frozen 0; have e9 := HW4.out.box.size; clear h4 hp)
  have HW5 : Hid (OpW B X Z g w (w4.setCell ⟨Z, 0, none⟩ (.int .i64 1)) l.tail [.int .i64 1, .int .u32 0, .int .u32 0, .string ⟨#[]⟩, .slice none 0 0, .slice none 0 0, .int .i32 0, .int .i64 (atT l : Int)]) := Lib.hid (HW4.out.set 0 _)
  generalize w4.setCell ⟨Z, 0, none⟩ (.int .i64 1) = W5 at *
  clear d0 e0 e9 HW4 HW3 KK HH
  have c0 := HW5.out.box.cell (j := 0) rfl
  have HRR2 := Lib.hid (fun e (h : opR 1 l.tail = .error e) => HRR.out.symm.trans (opAll_err HK.out h))
  have HRR3 := Lib.hid (fun o r (h : opR 1 l.tail = .ok (o, r)) => HRR.out.symm.trans (opAll_ok HK.out h))
  have HK0 := HK
  clear HRR HK
  obtain ⟨l1, hl1⟩ : ∃ x, l.tail = x := ⟨_, rfl⟩
  rw [hl1] at HW5 HRR2 HRR3
  clear hl1
  have KC := Lib.hid (fun w' (hp : PR B w' g l1) => code_p (k := 1) (a := 1) hp (by decide))
  rw [if_neg (by decide)] at KC
  cases h1 : numR 1 999999 l1 with
  | error p =>
    rw [h1] at KC
    obtain rfl := HRR2.out _ (op1_e1 h1)
    unfold GotR faultE at KC
    clear h1 HRR2 HRR3
    go_wp2_with (go_at_call 88; refine (KC.out _ HW5.out.pr).mono ?_; rintro e w6 ⟨h6, rfl⟩; have HG9 := Lib.hid (grown_trans' HW5.out.grown h6); clear h6)
    exact ⟨rfl, HG9.out, rfl⟩
  | ok aa =>
    obtain ⟨a, l2⟩ := aa
    rw [h1] at KC
    go_upto_region 9 with (go_at_call 88; refine (KC.out _ HW5.out.pr).mono ?_; rintro e w6 ⟨h6, v, rfl, rfl, hp⟩; have HW6 := Lib.hid (HW5.out.call h6 hp); have d1 := HW6.out.box.cell (j := 1) rfl; have e1 := HW6.out.box.frozen 1; have e9 := HW6.out.box.size; clear h6 hp)
    have HW7 : Hid (OpW B X Z g w (w6.setCell ⟨Z, 1, none⟩ (.int .u32 (a : Int))) l2 [.int .i64 1, .int .u32 (a : Int), .int .u32 0, .string ⟨#[]⟩, .slice none 0 0, .slice none 0 0, .int .i32 0, .int .i64 (atT l : Int)]) := Lib.hid (HW6.out.set 1 _)
    generalize w6.setCell ⟨Z, 1, none⟩ (.int .u32 (a : Int)) = W7 at *
    clear d1 e1 e9 HW6 KC c0
    have KT := Lib.hid (fun w' (hp : PR B w' g l2) => take_p hp (k := 4) (by decide))
    unfold tokV at KT
    cases h2 : needT 4 [] l2 with
    | error p =>
      rw [h2] at KT
      obtain rfl := HRR2.out _ (op1_e2 h1 h2)
      unfold GotR faultE at KT
      clear h1 h2 HRR2 HRR3
      go_wp2_with (go_at_call 89; refine (KT.out _ HW7.out.pr).mono ?_; rintro e w8 ⟨h6, rfl⟩; have HG9 := Lib.hid (grown_trans' HW7.out.grown h6); clear h6)
      exact ⟨rfl, HG9.out, rfl⟩
    | ok bb =>
      obtain ⟨t, l3⟩ := bb
      rw [h2] at KT
      obtain rfl := HRR3.out _ _ (op1_ok h1 h2)
      clear h1 h2 HRR2 HRR3
      go_upto_region 19 with (go_at_call 89; refine (KT.out _ HW7.out.pr).mono ?_; rintro e w8 ⟨h6, v, rfl, rfl, hp⟩; have HW8 := Lib.hid (HW7.out.call h6 hp); have d3 := HW8.out.box.cell (j := 3) rfl; have e3 := HW8.out.box.frozen 3; have e9 := HW8.out.box.size; clear h6 hp)
      have HW9 : Hid (OpW B X Z g w (w8.setCell ⟨Z, 3, none⟩ (.string ⟨t.text.toArray⟩)) l3 [.int .i64 1, .int .u32 (a : Int), .int .u32 0, .string ⟨t.text.toArray⟩, .slice none 0 0, .slice none 0 0, .int .i32 0, .int .i64 (atT l : Int)]) := Lib.hid (HW8.out.set 3 _)
      generalize w8.setCell ⟨Z, 3, none⟩ (.string ⟨t.text.toArray⟩) = W9 at *
      clear d3 e3 e9 HW8 HW7 KT
      have x0 := HW9.out.box.cell (j := 0) rfl
      have x1 := HW9.out.box.cell (j := 1) rfl
      have x2 := HW9.out.box.cell (j := 2) rfl
      have x3 := HW9.out.box.cell (j := 3) rfl
      have x4 := HW9.out.box.cell (j := 4) rfl
      have x5 := HW9.out.box.cell (j := 5) rfl
      have x6 := HW9.out.box.cell (j := 6) rfl
      have x7 := HW9.out.box.cell (j := 7) rfl
      have y0 := HW9.out.res.cell (j := 0) rfl
      have z0 := HW9.out.res.frozen 0
      have y1 := HW9.out.res.cell (j := 1) rfl
      have z1 := HW9.out.res.frozen 1
      have y2 := HW9.out.res.cell (j := 2) rfl
      have z2 := HW9.out.res.frozen 2
      have y3 := HW9.out.res.cell (j := 3) rfl
      have z3 := HW9.out.res.frozen 3
      have y4 := HW9.out.res.cell (j := 4) rfl
      have z4 := HW9.out.res.frozen 4
      have y5 := HW9.out.res.cell (j := 5) rfl
      have z5 := HW9.out.res.frozen 5
      have y6 := HW9.out.res.cell (j := 6) rfl
      have z6 := HW9.out.res.frozen 6
      have y7 := HW9.out.res.cell (j := 7) rfl
      have z7 := HW9.out.res.frozen 7
      have ys := HW9.out.res.size
      go_wp2_with fail
      have r9 := HW9.out.res.set8p (.int .i64 1) (.int .u32 (a : Int)) (.int .u32 0) (.string ⟨t.text.toArray⟩) (.slice none 0 0) (.slice none 0 0) (.int .i32 0) (.int .i64 (atT l : Int))
      have g9 := grown_sets8p W9 X (.int .i64 1) (.int .u32 (a : Int)) (.int .u32 0) (.string ⟨t.text.toArray⟩) (.slice none 0 0) (.slice none 0 0) (.int .i32 0) (.int .i64 (atT l : Int))
      have u0 := r9.cell (j := 0) rfl
      have u1 := r9.cell (j := 1) rfl
      have u2 := r9.cell (j := 2) rfl
      have u3 := r9.cell (j := 3) rfl
      have u4 := r9.cell (j := 4) rfl
      have u5 := r9.cell (j := 5) rfl
      have u6 := r9.cell (j := 6) rfl
      have u7 := r9.cell (j := 7) rfl
      have hB := HW9.out.lt
      refine bodyPost_ret (v := .agg #[.int .i64 1, .int .u32 (a : Int), .int .u32 0, .string ⟨t.text.toArray⟩, .slice none 0 0, .slice none 0 0, .int .i32 0, .int .i64 (atT l : Int)]) (by simp [results, Tryz.results57, go_sem, u0, u1, u2, u3, u4, u5, u6, u7]) rfl ?_
      have hX := HX.out
      subst hX
      exact ⟨grown_up HW9.out.grown g9 (Nat.le_refl _), _, rfl, ⟨.slice none 0 0, .slice none 0 0, rfl, ⟨ownP_nil _ _, ownD_nil _ _, ⟨Nat.zero_le _, Nat.zero_le _⟩⟩⟩, HW9.out.pr.stay (grownBy_below g9 hB.2.1 HW9.out.pr.top)⟩
theorem op4_is (l : List Tk) : opR 4 l = thenR (numR 1 999999) (fun a => thenR (needT 1 (linkK 4)) fun _ => thenR (partsR 8) fun ps => backR ⟨4, a, 0, [], ps, [], 0⟩) l := by
  unfold opR; rw [if_neg (by decide), if_neg (by decide), if_neg (by decide), if_pos rfl]
theorem op4_e1 {l : List Tk} {p : Nat × Int} (h : numR 1 999999 l = .error p) : opR 4 l = .error p := by rw [op4_is]; simp only [thenR, h]
theorem op4_e2 {l r : List Tk} {a : Nat} {p : Nat × Int} (h : numR 1 999999 l = .ok (a, r)) (h2 : needT 1 (linkK 4) r = .error p) : opR 4 l = .error p := by rw [op4_is]; simp only [thenR, h, h2]
theorem op4_e3 {l r q : List Tk} {a : Nat} {t : Tk} {p : Nat × Int} (h : numR 1 999999 l = .ok (a, r)) (h2 : needT 1 (linkK 4) r = .ok (t, q)) (h3 : partsR 8 q = .error p) : opR 4 l = .error p := by rw [op4_is]; simp only [thenR, h, h2, h3]
theorem op4_ok {l r q s : List Tk} {a : Nat} {t : Tk} {ps : List (Nat × Nat)} (h : numR 1 999999 l = .ok (a, r)) (h2 : needT 1 (linkK 4) r = .ok (t, q)) (h3 : partsR 8 q = .ok (ps, s)) : opR 4 l = .ok (⟨4, a, 0, [], ps, [], 0⟩, s) := by rw [op4_is]; simp only [thenR, h, h2, h3, backR]
set_option maxHeartbeats 4000000 in
set_option maxRecDepth 100000 in
theorem op_4 {B : Nat} {w w0 : World} {g : Nat} {l : List Tk} (h : PR B w g l) (hI : InS w0) (hb : Below w0.heap.size w0 w) (hg : w0.heap.size ≤ g) (hk : kindT l = some 4) :
    Calls Tryz.prog 57 #[.pointer (some ⟨g, 0, none⟩)] w fun e w' => GotR B g w (OpV w.heap.size) (opAll l) e w' := by
  have KN := Lib.hid (fun w' (hp : PR B w' g l) => next_at hp)
  have KK := Lib.hid (fun w' (hG : w.grownBy w' (some g)) (hp : PR B w' g l) => kind_p hp hI (env_step hb hg hG) hg)
  rw [hk] at KK
  simp only at KK
  have HK := Lib.hid hk
  have HE := Lib.hid (fun (w' : World) (hG : w.grownBy w' (some g)) => hI.stay (env_step hb hg hG))
  have f4 := fun (a b c d e : Value) (w : World) => field_tk4 a b c d e w
  have f1 := fun (a b c d e : Value) (w : World) => field_tk1 a b c d e w
  have f3 := fun (a b c d e : Value) (w : World) => field_tk3 a b c d e w
  have f0 := fun (a b c d e : Value) (w : World) => field_tk0 a b c d e w
  obtain ⟨R, hR⟩ : ∃ R, opAll l = R := ⟨_, rfl⟩
  rw [hR]
  have HRR := Lib.hid hR
  have HH := Lib.hid h
  have b1 := (Below.refl w.heap.size w).alloc (Nat.le_refl _) (.cells #[.int .i64 0, .int .u32 0, .int .u32 0, .string ⟨#[]⟩, .slice none 0 0, .slice none 0 0, .int .i32 0, .int .i64 0] 38)
  have r1 := HBox.new w z8 38
  change HBox (w.alloc (.cells #[.int .i64 0, .int .u32 0, .int .u32 0, .string ⟨#[]⟩, .slice none 0 0, .slice none 0 0, .int .i32 0, .int .i64 0] 38)) _ _ _ at r1
  clear h hI hb hR hk
  go_enter Tryz.func57, Tryz.ntmps57
  go_upto_region 1 with fail
  generalize w.alloc (.cells #[.int .i64 0, .int .u32 0, .int .u32 0, .string ⟨#[]⟩, .slice none 0 0, .slice none 0 0, .int .i32 0, .int .i64 0] 38) = W1 at *
  have HB1 := Lib.hid b1
  have HR1 := Lib.hid r1
  clear b1 r1
  go_upto_region 2 with (go_at_call 55; refine (KN.out _ (HH.out.stay (HB1.out.mono HH.out.top))).mono ?_; rintro e w2 ⟨⟨na, nb, nc, nd, rfl⟩, h2⟩; have HB2 := Lib.hid h2; clear h2)
  have HW3 : Hid (OpW B w.heap.size w2.heap.size g w (w2.alloc (.cells #[.int .i64 0, .int .u32 0, .int .u32 0, .string ⟨#[]⟩, .slice none 0 0, .slice none 0 0, .int .i32 0, .int .i64 (atT l : Int)] 38)) l [.int .i64 0, .int .u32 0, .int .u32 0, .string ⟨#[]⟩, .slice none 0 0, .slice none 0 0, .int .i32 0, .int .i64 (atT l : Int)]) := Lib.hid (OpW.new (cs := [.int .i64 0, .int .u32 0, .int .u32 0, .string ⟨#[]⟩, .slice none 0 0, .slice none 0 0, .int .i32 0, .int .i64 (atT l : Int)]) HH.out.lt HH.out.top HB1.out HR1.out HB2.out HH.out)
  generalize w2.alloc (.cells #[.int .i64 0, .int .u32 0, .int .u32 0, .string ⟨#[]⟩, .slice none 0 0, .slice none 0 0, .int .i32 0, .int .i64 (atT l : Int)] 38) = W3 at *
  clear HB2 HR1 HB1 KN
  obtain ⟨X, hX⟩ : ∃ X, w.heap.size = X := ⟨_, rfl⟩
  rw [hX] at HW3 ⊢
  have HX := Lib.hid hX
  clear hX
  generalize w2.heap.size = Z at *
  go_upto_region 3 with (go_at_call 87; refine (KK.out _ HW3.out.grown HW3.out.pr).mono ?_; rintro e w4 ⟨h4, rfl, hp⟩; have HW4 := Lib.hid (HW3.out.call h4 hp); have d0 := HW4.out.box.cell (j := 0) rfl; have e0 := HW4.out.box.frozen 0; have e9 := HW4.out.box.size; clear h4 hp)
  have HW5 : Hid (OpW B X Z g w (w4.setCell ⟨Z, 0, none⟩ (.int .i64 4)) l.tail [.int .i64 4, .int .u32 0, .int .u32 0, .string ⟨#[]⟩, .slice none 0 0, .slice none 0 0, .int .i32 0, .int .i64 (atT l : Int)]) := Lib.hid (HW4.out.set 0 _)
  generalize w4.setCell ⟨Z, 0, none⟩ (.int .i64 4) = W5 at *
  clear d0 e0 e9 HW4 HW3 KK HH
  have c0 := HW5.out.box.cell (j := 0) rfl
  have HRR2 := Lib.hid (fun e (h : opR 4 l.tail = .error e) => HRR.out.symm.trans (opAll_err HK.out h))
  have HRR3 := Lib.hid (fun o r (h : opR 4 l.tail = .ok (o, r)) => HRR.out.symm.trans (opAll_ok HK.out h))
  have HK0 := HK
  clear HRR HK
  obtain ⟨l1, hl1⟩ : ∃ x, l.tail = x := ⟨_, rfl⟩
  rw [hl1] at HW5 HRR2 HRR3
  clear hl1
  have KC := Lib.hid (fun w' (hp : PR B w' g l1) => code_p (k := 4) (a := 1) hp (by decide))
  rw [if_neg (by decide)] at KC
  cases h1 : numR 1 999999 l1 with
  | error p =>
    rw [h1] at KC
    obtain rfl := HRR2.out _ (op4_e1 h1)
    unfold GotR faultE at KC
    clear h1 HRR2 HRR3
    go_wp2_with (go_at_call 88; refine (KC.out _ HW5.out.pr).mono ?_; rintro e w6 ⟨h6, rfl⟩; have HG9 := Lib.hid (grown_trans' HW5.out.grown h6); clear h6)
    exact ⟨rfl, HG9.out, rfl⟩
  | ok aa =>
    obtain ⟨a, l2⟩ := aa
    rw [h1] at KC
    go_upto_region 12 with (go_at_call 88; refine (KC.out _ HW5.out.pr).mono ?_; rintro e w6 ⟨h6, v, rfl, rfl, hp⟩; have HW6 := Lib.hid (HW5.out.call h6 hp); have d1 := HW6.out.box.cell (j := 1) rfl; have e1 := HW6.out.box.frozen 1; have e9 := HW6.out.box.size; clear h6 hp)
    have HW7 : Hid (OpW B X Z g w (w6.setCell ⟨Z, 1, none⟩ (.int .u32 (a : Int))) l2 [.int .i64 4, .int .u32 (a : Int), .int .u32 0, .string ⟨#[]⟩, .slice none 0 0, .slice none 0 0, .int .i32 0, .int .i64 (atT l : Int)]) := Lib.hid (HW6.out.set 1 _)
    generalize w6.setCell ⟨Z, 1, none⟩ (.int .u32 (a : Int)) = W7 at *
    clear d1 e1 e9 HW6 KC c0
    have c0 := HW7.out.box.cell (j := 0) rfl
    have KL := Lib.hid (fun w' (hG : w.grownBy w' (some g)) => link_s 4 (by decide) w' (HE.out w' hG).2)
    have KM := Lib.hid (fun w' (hp : PR B w' g l2) => must_p hp (k := 1) (by decide) (s := linkK 4) (by decide))
    unfold strV at KL
    cases h2 : needT 1 (linkK 4) l2 with
    | error p =>
      rw [h2] at KM
      obtain rfl := HRR2.out _ (op4_e2 h1 h2)
      unfold GotR faultE at KM
      clear h1 h2 HRR2 HRR3
      go_wp2_with (first
        | (go_at_call 58; refine (KM.out _ HW7.out.pr).mono ?_; rintro e w8 ⟨h6, rfl⟩; have HG9 := Lib.hid (grown_trans' HW7.out.grown h6); clear h6)
        | (go_at_call 90; refine (KL.out _ HW7.out.grown).mono ?_; rintro e wL ⟨rfl, hL⟩; obtain rfl : W7 = wL := hL.symm))
      exact ⟨rfl, HG9.out, rfl⟩
    | ok bb =>
      obtain ⟨t, l3⟩ := bb
      rw [h2] at KM
      go_upto_region 13 with (first
        | (go_at_call 58; refine (KM.out _ HW7.out.pr).mono ?_; rintro e W8 ⟨h6, v, rfl, rfl, hp⟩; have HW8 := Lib.hid (HW7.out.call h6 hp); clear h6 hp)
        | (go_at_call 90; refine (KL.out _ HW7.out.grown).mono ?_; rintro e wL ⟨rfl, hL⟩; obtain rfl : W7 = wL := hL.symm))
      clear KL KM c0 HW7
      have KP := Lib.hid (fun w' (hp : PR B w' g l3) => parts_p hp)
      cases h3 : partsR 8 l3 with
      | error p =>
        rw [h3] at KP
        obtain rfl := HRR2.out _ (op4_e3 h1 h2 h3)
        unfold GotR faultE at KP
        clear h1 h2 h3 HRR2 HRR3
        go_wp2_with (go_at_call 91; refine (KP.out _ HW8.out.pr).mono ?_; rintro e w9 ⟨h6, rfl⟩; have HG9 := Lib.hid (grown_trans' HW8.out.grown h6); clear h6)
        exact ⟨rfl, HG9.out, rfl⟩
      | ok cc =>
        obtain ⟨ps, l4⟩ := cc
        rw [h3] at KP
        obtain rfl := HRR3.out _ _ (op4_ok h1 h2 h3)
        clear h1 h2 h3 HRR2 HRR3
        go_upto_region 19 with (go_at_call 91; refine (KP.out _ HW8.out.pr).mono ?_; rintro e w8 ⟨h6, v, rfl, ho, hp⟩; obtain ⟨q, cap, rfl⟩ := owns_form ho.1; have HW9 := Lib.hid (HW8.out.call h6 hp); have HO9 := Lib.hid ho; have d4 := HW9.out.box.cell (j := 4) rfl; have e4 := HW9.out.box.frozen 4; have e9 := HW9.out.box.size; clear h6 hp ho)
        have HWA : Hid (OpW B X Z g w (w8.setCell ⟨Z, 4, none⟩ (.slice q ps.length cap)) l4 [.int .i64 4, .int .u32 (a : Int), .int .u32 0, .string ⟨#[]⟩, .slice q ps.length cap, .slice none 0 0, .int .i32 0, .int .i64 (atT l : Int)]) := Lib.hid (HW9.out.set 4 _)
        have HOA : Hid ((w8.setCell ⟨Z, 4, none⟩ (.slice q ps.length cap)).ownsRow X 60 2 (.slice q ps.length cap) ps.length (ps.flatMap ptc)) := Lib.hid (owns_mono (HO9.out.1.kept (grown_set w8 Z 4 (.slice q ps.length cap)) (.inr (HBox.far HW9.out.box HO9.out.1 (by decide)))) (by have := HW8.out.grown.size; have := HX.out; omega))
        have H8 := Lib.hid HO9.out.2
        generalize w8.setCell ⟨Z, 4, none⟩ (.slice q ps.length cap) = W9 at *
        clear d4 e4 e9 HW8 HW9 KP HO9
        have x0 := HWA.out.box.cell (j := 0) rfl
        have x1 := HWA.out.box.cell (j := 1) rfl
        have x2 := HWA.out.box.cell (j := 2) rfl
        have x3 := HWA.out.box.cell (j := 3) rfl
        have x4 := HWA.out.box.cell (j := 4) rfl
        have x5 := HWA.out.box.cell (j := 5) rfl
        have x6 := HWA.out.box.cell (j := 6) rfl
        have x7 := HWA.out.box.cell (j := 7) rfl
        have y0 := HWA.out.res.cell (j := 0) rfl
        have z0 := HWA.out.res.frozen 0
        have y1 := HWA.out.res.cell (j := 1) rfl
        have z1 := HWA.out.res.frozen 1
        have y2 := HWA.out.res.cell (j := 2) rfl
        have z2 := HWA.out.res.frozen 2
        have y3 := HWA.out.res.cell (j := 3) rfl
        have z3 := HWA.out.res.frozen 3
        have y4 := HWA.out.res.cell (j := 4) rfl
        have z4 := HWA.out.res.frozen 4
        have y5 := HWA.out.res.cell (j := 5) rfl
        have z5 := HWA.out.res.frozen 5
        have y6 := HWA.out.res.cell (j := 6) rfl
        have z6 := HWA.out.res.frozen 6
        have y7 := HWA.out.res.cell (j := 7) rfl
        have z7 := HWA.out.res.frozen 7
        have ys := HWA.out.res.size
        go_wp2_with fail
        have r9 := HWA.out.res.set8p (.int .i64 4) (.int .u32 (a : Int)) (.int .u32 0) (.string ⟨#[]⟩) (.slice q ps.length cap) (.slice none 0 0) (.int .i32 0) (.int .i64 (atT l : Int))
        have g9 := grown_sets8p W9 X (.int .i64 4) (.int .u32 (a : Int)) (.int .u32 0) (.string ⟨#[]⟩) (.slice q ps.length cap) (.slice none 0 0) (.int .i32 0) (.int .i64 (atT l : Int))
        have u0 := r9.cell (j := 0) rfl
        have u1 := r9.cell (j := 1) rfl
        have u2 := r9.cell (j := 2) rfl
        have u3 := r9.cell (j := 3) rfl
        have u4 := r9.cell (j := 4) rfl
        have u5 := r9.cell (j := 5) rfl
        have u6 := r9.cell (j := 6) rfl
        have u7 := r9.cell (j := 7) rfl
        have hB := HWA.out.lt
        refine bodyPost_ret (v := .agg #[.int .i64 4, .int .u32 (a : Int), .int .u32 0, .string ⟨#[]⟩, .slice q ps.length cap, .slice none 0 0, .int .i32 0, .int .i64 (atT l : Int)]) (by simp [results, Tryz.results57, go_sem, u0, u1, u2, u3, u4, u5, u6, u7]) rfl ?_
        have hX := HX.out
        subst hX
        exact ⟨grown_up HWA.out.grown g9 (Nat.le_refl _), _, rfl, ⟨.slice q ps.length cap, .slice none 0 0, rfl, ⟨HOA.out.kept g9 (.inr (HBox.far HWA.out.res HOA.out (by decide))), ownD_nil _ _, ⟨H8.out, Nat.zero_le _⟩⟩⟩, HWA.out.pr.stay (grownBy_below g9 hB.2.1 HWA.out.pr.top)⟩
end Go.Proofs.YtffhnedladiaoaaGreatDoor
/- Package parse: the reader's op: two numbers. -/
namespace Go.Proofs.YtffhnedladiaoaaGreatDoor
open Go.RowKit Go.Lib
set_option linter.unusedVariables false
set_option linter.unusedSimpArgs false
def mK (k : Nat) : Int := if k = 5 ∨ k = 6 then 999 else 999999
def lK (k : Nat) : Int := if k = 2 then 0 else 1
theorem lK_pos (k : Nat) : 0 ≤ lK k := by unfold lK; split <;> decide
theorem opd_is {k : Nat} (n1 : k ≠ 1) (n4 : k ≠ 4) (n7 : k ≠ 7) (l : List Tk) : opR k l = thenR (numR 1 (mK k)) (fun a => thenR (needT 1 (linkK k)) fun _ => thenR (numR (lK k) (mK k)) fun b => backR ⟨k, a, b, [], [], [], 0⟩) l := by
  unfold opR mK lK
  rw [if_neg n7, if_neg n1]
  by_cases h2 : k = 2
  · subst h2
    rw [if_pos rfl, if_neg (by decide), if_pos rfl]
  · rw [if_neg h2, if_neg n4, if_neg h2]
theorem opd_e1 {k : Nat} (n1 : k ≠ 1) (n4 : k ≠ 4) (n7 : k ≠ 7) {l : List Tk} {p : Nat × Int} (h : numR 1 (mK k) l = .error p) : opR k l = .error p := by rw [opd_is n1 n4 n7]; simp only [thenR, h]
theorem opd_e2 {k : Nat} (n1 : k ≠ 1) (n4 : k ≠ 4) (n7 : k ≠ 7) {l r : List Tk} {a : Nat} {p : Nat × Int} (h : numR 1 (mK k) l = .ok (a, r)) (h2 : needT 1 (linkK k) r = .error p) : opR k l = .error p := by rw [opd_is n1 n4 n7]; simp only [thenR, h, h2]
theorem opd_e3 {k : Nat} (n1 : k ≠ 1) (n4 : k ≠ 4) (n7 : k ≠ 7) {l r q : List Tk} {a : Nat} {t : Tk} {p : Nat × Int} (h : numR 1 (mK k) l = .ok (a, r)) (h2 : needT 1 (linkK k) r = .ok (t, q)) (h3 : numR (lK k) (mK k) q = .error p) : opR k l = .error p := by rw [opd_is n1 n4 n7]; simp only [thenR, h, h2, h3]
theorem opd_ok {k : Nat} (n1 : k ≠ 1) (n4 : k ≠ 4) (n7 : k ≠ 7) {l r q s : List Tk} {a b : Nat} {t : Tk} (h : numR 1 (mK k) l = .ok (a, r)) (h2 : needT 1 (linkK k) r = .ok (t, q)) (h3 : numR (lK k) (mK k) q = .ok (b, s)) : opR k l = .ok (⟨k, a, b, [], [], [], 0⟩, s) := by rw [opd_is n1 n4 n7]; simp only [thenR, h, h2, h3, backR]
theorem least_p (k : Nat) (w : World) : Calls Tryz.prog 92 #[.int .i64 (k : Int)] w fun e w' => e = .returned (.int .i64 (lK k)) ∧ w' = w := by
  unfold lK
  by_cases h : k = 2
  · have h2 : ((k : Int) == 2) = true := by simp [h]
    rw [if_pos h]
    clear h
    go_enter Tryz.func92, Tryz.ntmps92
    go_wp2
    go_ret
    exact ⟨rfl, rfl⟩
  · have h2 : ((k : Int) == 2) = false := by rw [beq_eq_false_iff_ne]; omega
    rw [if_neg h]
    clear h
    go_enter Tryz.func92, Tryz.ntmps92
    go_wp2
    go_ret
    exact ⟨rfl, rfl⟩
def R6v (f : List Value) : Nat → Value → World → Prop
  | 0, v, _ => v = (f[0]?).getD undef
  | 1, v, _ => v = (f[1]?).getD undef
  | 2, v, _ => v = (f[2]?).getD undef
  | 3, v, _ => v = (f[3]?).getD undef
  | 4, v, _ => v = (f[4]?).getD undef
  | 5, v, _ => v = (f[5]?).getD undef
  | _, _, _ => True
theorem R6v.stay {f : List Value} {w w' : World} : ∀ j u, R6v f j u w → R6v f j u w'
  | 0, _, h => h
  | 1, _, h => h
  | 2, _, h => h
  | 3, _, h => h
  | 4, _, h => h
  | 5, _, h => h
  | _ + 6, _, h => h
set_option maxHeartbeats 4000000 in
set_option maxRecDepth 100000 in
theorem op_d {B : Nat} {w w0 : World} {g : Nat} {l : List Tk} {k : Nat} (h : PR B w g l) (hI : InS w0) (hb : Below w0.heap.size w0 w) (hg : w0.heap.size ≤ g) (hk : kindT l = some k) (n1 : k ≠ 1) (n4 : k ≠ 4) (n7 : k ≠ 7) :
    Calls Tryz.prog 57 #[.pointer (some ⟨g, 0, none⟩)] w fun e w' => GotR B g w (OpV w.heap.size) (opAll l) e w' := by
  have KN := Lib.hid (fun w' (hp : PR B w' g l) => next_at hp)
  have KK := Lib.hid (fun w' (hG : w.grownBy w' (some g)) (hp : PR B w' g l) => kind_p hp hI (env_step hb hg hG) hg)
  rw [hk] at KK
  simp only at KK
  have HK := Lib.hid hk
  have HE := Lib.hid (fun (w' : World) (hG : w.grownBy w' (some g)) => hI.stay (env_step hb hg hG))
  have f4 := fun (a b c d e : Value) (w : World) => field_tk4 a b c d e w
  have f1 := fun (a b c d e : Value) (w : World) => field_tk1 a b c d e w
  have f3 := fun (a b c d e : Value) (w : World) => field_tk3 a b c d e w
  have f0 := fun (a b c d e : Value) (w : World) => field_tk0 a b c d e w
  obtain ⟨R, hR⟩ : ∃ R, opAll l = R := ⟨_, rfl⟩
  rw [hR]
  have HRR := Lib.hid hR
  have HH := Lib.hid h
  have b1 := (Below.refl w.heap.size w).alloc (Nat.le_refl _) (.cells #[.int .i64 0, .int .u32 0, .int .u32 0, .string ⟨#[]⟩, .slice none 0 0, .slice none 0 0, .int .i32 0, .int .i64 0] 38)
  have r1 := HBox.new w z8 38
  change HBox (w.alloc (.cells #[.int .i64 0, .int .u32 0, .int .u32 0, .string ⟨#[]⟩, .slice none 0 0, .slice none 0 0, .int .i32 0, .int .i64 0] 38)) _ _ _ at r1
  clear h hI hb hR hk
  go_enter Tryz.func57, Tryz.ntmps57
  go_upto_region 1 with fail
  generalize w.alloc (.cells #[.int .i64 0, .int .u32 0, .int .u32 0, .string ⟨#[]⟩, .slice none 0 0, .slice none 0 0, .int .i32 0, .int .i64 0] 38) = W1 at *
  have HB1 := Lib.hid b1
  have HR1 := Lib.hid r1
  clear b1 r1
  go_upto_region 2 with (go_at_call 55; refine (KN.out _ (HH.out.stay (HB1.out.mono HH.out.top))).mono ?_; rintro e w2 ⟨⟨na, nb, nc, nd, rfl⟩, h2⟩; have HB2 := Lib.hid h2; clear h2)
  have HW3 : Hid (OpW B w.heap.size w2.heap.size g w (w2.alloc (.cells #[.int .i64 0, .int .u32 0, .int .u32 0, .string ⟨#[]⟩, .slice none 0 0, .slice none 0 0, .int .i32 0, .int .i64 (atT l : Int)] 38)) l [.int .i64 0, .int .u32 0, .int .u32 0, .string ⟨#[]⟩, .slice none 0 0, .slice none 0 0, .int .i32 0, .int .i64 (atT l : Int)]) := Lib.hid (OpW.new (cs := [.int .i64 0, .int .u32 0, .int .u32 0, .string ⟨#[]⟩, .slice none 0 0, .slice none 0 0, .int .i32 0, .int .i64 (atT l : Int)]) HH.out.lt HH.out.top HB1.out HR1.out HB2.out HH.out)
  generalize w2.alloc (.cells #[.int .i64 0, .int .u32 0, .int .u32 0, .string ⟨#[]⟩, .slice none 0 0, .slice none 0 0, .int .i32 0, .int .i64 (atT l : Int)] 38) = W3 at *
  clear HB2 HR1 HB1 KN
  obtain ⟨X, hX⟩ : ∃ X, w.heap.size = X := ⟨_, rfl⟩
  rw [hX] at HW3 ⊢
  have HX := Lib.hid hX
  clear hX
  generalize w2.heap.size = Z at *
  go_upto_region 3 with (go_at_call 87; refine (KK.out _ HW3.out.grown HW3.out.pr).mono ?_; rintro e w4 ⟨h4, rfl, hp⟩; have HW4 := Lib.hid (HW3.out.call h4 hp); have d0 := HW4.out.box.cell (j := 0) rfl; have e0 := HW4.out.box.frozen 0; have e9 := HW4.out.box.size; clear h4 hp)
  have HW5 : Hid (OpW B X Z g w (w4.setCell ⟨Z, 0, none⟩ (.int .i64 (k : Int))) l.tail [.int .i64 (k : Int), .int .u32 0, .int .u32 0, .string ⟨#[]⟩, .slice none 0 0, .slice none 0 0, .int .i32 0, .int .i64 (atT l : Int)]) := Lib.hid (HW4.out.set 0 _)
  generalize w4.setCell ⟨Z, 0, none⟩ (.int .i64 (k : Int)) = W5 at *
  clear d0 e0 e9 HW4 HW3 KK HH
  have c0 := HW5.out.box.cell (j := 0) rfl
  have HRR2 := Lib.hid (fun e (h : opR k l.tail = .error e) => HRR.out.symm.trans (opAll_err HK.out h))
  have HRR3 := Lib.hid (fun o r (h : opR k l.tail = .ok (o, r)) => HRR.out.symm.trans (opAll_ok HK.out h))
  have HK0 := HK
  clear HRR HK
  obtain ⟨l1, hl1⟩ : ∃ x, l.tail = x := ⟨_, rfl⟩
  rw [hl1] at HW5 HRR2 HRR3
  clear hl1
  have hk8 : k < 8 := kind_lt HK0.out
  have s1 : ((k : Int) == 1) = false := by rw [beq_eq_false_iff_ne]; omega
  have s4 : ((k : Int) == 4) = false := by rw [beq_eq_false_iff_ne]; omega
  have s7 : ((k : Int) == 7) = false := by rw [beq_eq_false_iff_ne]; omega
  have hmix : Tryz.prog.follows .mixedOrders = true := by kernel_rfl
  have KC := Lib.hid (fun w' (hp : PR B w' g l1) => code_p (k := k) (a := 1) hp (by decide))
  change Hid (∀ w', _ → Calls _ _ _ _ fun e w'' => GotR B g w' _ (numR 1 (mK k) l1) e w'') at KC
  cases h1 : numR 1 (mK k) l1 with
  | error p =>
    rw [h1] at KC
    obtain rfl := HRR2.out _ (opd_e1 n1 n4 n7 h1)
    unfold GotR faultE at KC
    clear h1 HRR2 HRR3
    go_wp2_with (go_at_call 88; refine (KC.out _ HW5.out.pr).mono ?_; rintro e w6 ⟨h6, rfl⟩; have HG9 := Lib.hid (grown_trans' HW5.out.grown h6); clear h6)
    exact ⟨rfl, HG9.out, rfl⟩
  | ok aa =>
    obtain ⟨a, l2⟩ := aa
    rw [h1] at KC
    go_upto_region 5 with (go_at_call 88; refine (KC.out _ HW5.out.pr).mono ?_; rintro e w6 ⟨h6, v, rfl, rfl, hp⟩; have HW6 := Lib.hid (HW5.out.call h6 hp); have d1 := HW6.out.box.cell (j := 1) rfl; have e1 := HW6.out.box.frozen 1; have e9 := HW6.out.box.size; clear h6 hp)
    have HW7 : Hid (OpW B X Z g w (w6.setCell ⟨Z, 1, none⟩ (.int .u32 (a : Int))) l2 [.int .i64 (k : Int), .int .u32 (a : Int), .int .u32 0, .string ⟨#[]⟩, .slice none 0 0, .slice none 0 0, .int .i32 0, .int .i64 (atT l : Int)]) := Lib.hid (HW6.out.set 1 _)
    generalize w6.setCell ⟨Z, 1, none⟩ (.int .u32 (a : Int)) = W7 at *
    clear d1 e1 e9 HW6 KC c0
    have c0 := HW7.out.box.cell (j := 0) rfl
    have KL := Lib.hid (fun w' (hG : w.grownBy w' (some g)) => link_s k hk8 w' (HE.out w' hG).2)
    have KM := Lib.hid (fun w' (hp : PR B w' g l2) => must_p hp (k := 1) (by decide) (s := linkK k) (link_ne ⟨k, hk8⟩ n1))
    unfold strV at KL
    cases h2 : needT 1 (linkK k) l2 with
    | error p =>
      rw [h2] at KM
      obtain rfl := HRR2.out _ (opd_e2 n1 n4 n7 h1 h2)
      unfold GotR faultE at KM
      clear h1 h2 HRR2 HRR3
      go_wp2_with (first
        | (go_at_call 58; refine (KM.out _ HW7.out.pr).mono ?_; rintro e w8 ⟨h6, rfl⟩; have HG9 := Lib.hid (grown_trans' HW7.out.grown h6); clear h6)
        | (go_at_call 90; refine (KL.out _ HW7.out.grown).mono ?_; rintro e wL ⟨rfl, hL⟩; obtain rfl : W7 = wL := hL.symm))
      exact ⟨rfl, HG9.out, rfl⟩
    | ok bb =>
      obtain ⟨t, l3⟩ := bb
      rw [h2] at KM
      go_upto_region 6 with (first
        | (go_at_call 58; refine (KM.out _ HW7.out.pr).mono ?_; rintro e W8 ⟨h6, v, rfl, rfl, hp⟩; have HW8 := Lib.hid (HW7.out.call h6 hp); clear h6 hp)
        | (go_at_call 90; refine (KL.out _ HW7.out.grown).mono ?_; rintro e wL ⟨rfl, hL⟩; obtain rfl : W7 = wL := hL.symm))
      clear KL KM c0 HW7
      have KP := Lib.hid (fun w' (hp : PR B w' g l3) => code_p (k := k) (a := lK k) hp (lK_pos k))
      change Hid (∀ w', _ → Calls _ _ _ _ fun e w'' => GotR B g w' _ (numR (lK k) (mK k) l3) e w'') at KP
      refine wp_region_part3 6 (fun _ w' => OpW B X Z g w w' l3 [.int .i64 (k : Int), .int .u32 (a : Int), .int .u32 0, .string ⟨#[]⟩, .slice none 0 0, .slice none 0 0, .int .i32 0, .int .i64 (atT l : Int)]) (R6v [(.pointer (some ⟨g, 0, none⟩)), (.pointer (some ⟨Z, 0, none⟩)), (.int .i64 (k : Int)), (.pointer (some ⟨Z, 0, none⟩)), (.int .i64 (k : Int)), (.int .i64 (lK k))]) (fun _ _ _ _ => True) hmix (by decide) (by kernel_rfl) (by kernel_rfl) (by kernel_rfl) HW8.out.drew ?_ ?_
      · intro st a' w' i hi hsi hdn hC hfar hrd
        rcases (by omega : i = 0 ∨ i = 1 ∨ i = 2 ∨ i = 3 ∨ i = 4 ∨ i = 5) with rfl | rfl | rfl | rfl | rfl | rfl
        · refine op_run (.move (.tmp 0)) (some 23) (by unfold opIs; kernel_rfl) (.pointer (some ⟨g, 0, none⟩)) (w' := w') (fun o ho => by unfold execOp; rw [ho]; simp only [(hfar 0 (by kernel_rfl)).trans (show _ = ((.pointer (some ⟨g, 0, none⟩)) : Value) by kernel_rfl)]; go_simp) ?_
          exact ⟨_, congrArg (fun d => a'.put d (.pointer (some ⟨g, 0, none⟩))) (by kernel_rfl), hC, rfl, (fun j u h => h), fun _ _ _ _ _ _ _ => ⟨trivial, trivial⟩⟩
        · refine op_run (.fieldAddr 38 (.tmp 3) 0) (some 24) (by unfold opIs; kernel_rfl) (.pointer (some ⟨Z, 0, none⟩)) (w' := w') (fun o ho => by unfold execOp; rw [ho]; simp only [(hfar 3 (by kernel_rfl)).trans (show _ = ((.pointer (some ⟨Z, 0, none⟩)) : Value) by kernel_rfl)]; go_simp) ?_
          exact ⟨_, congrArg (fun d => a'.put d (.pointer (some ⟨Z, 0, none⟩))) (by kernel_rfl), hC, rfl, (fun j u h => h), fun _ _ _ _ _ _ _ => ⟨trivial, trivial⟩⟩
        · have o0 := hC.box.cell (j := 0) rfl
          refine op_load 30 (.tmp 24) (some 25) (by unfold opIs; kernel_rfl) _ (.int .i64 (k : Int)) (hrd 1 24 (by kernel_rfl) (by kernel_rfl)) (by go_simp) ?_
          exact ⟨_, congrArg (fun d => a'.put d (.int .i64 (k : Int))) (by kernel_rfl), hC, rfl, (fun j u h => h), fun _ _ _ _ _ _ _ => ⟨trivial, trivial⟩⟩
        · refine op_run (.fieldAddr 38 (.tmp 3) 0) (some 26) (by unfold opIs; kernel_rfl) (.pointer (some ⟨Z, 0, none⟩)) (w' := w') (fun o ho => by unfold execOp; rw [ho]; simp only [(hfar 3 (by kernel_rfl)).trans (show _ = ((.pointer (some ⟨Z, 0, none⟩)) : Value) by kernel_rfl)]; go_simp) ?_
          exact ⟨_, congrArg (fun d => a'.put d (.pointer (some ⟨Z, 0, none⟩))) (by kernel_rfl), hC, rfl, (fun j u h => h), fun _ _ _ _ _ _ _ => ⟨trivial, trivial⟩⟩
        · have o0 := hC.box.cell (j := 0) rfl
          refine op_load 30 (.tmp 26) (some 27) (by unfold opIs; kernel_rfl) _ (.int .i64 (k : Int)) (hrd 3 26 (by kernel_rfl) (by kernel_rfl)) (by go_simp) ?_
          exact ⟨_, congrArg (fun d => a'.put d (.int .i64 (k : Int))) (by kernel_rfl), hC, rfl, (fun j u h => h), fun _ _ _ _ _ _ _ => ⟨trivial, trivial⟩⟩
        · refine op_call (.call { callee := .value (.func 92), args := #[.tmp 27], argTypes := #[30] }) (some 28) (by unfold opIs; kernel_rfl) 92 #[(.int .i64 (k : Int))] (fun o ho => by unfold execOp; rw [ho]; simp only [resolve, List.map_toArray, List.map_cons, List.map_nil, show a'.eval (.tmp 27) = (.int .i64 (k : Int)) from hrd 4 27 (by kernel_rfl) (by kernel_rfl)]; go_simp) (least_p k w') ?_
          rintro e w'' ⟨rfl, hw⟩
          obtain rfl : w' = w'' := hw.symm
          exact ⟨_, rfl, _, congrArg (fun d => a'.put d _) (by kernel_rfl), hC, rfl, (fun j u h => h), fun _ _ _ _ _ _ _ => ⟨trivial, trivial⟩⟩
      · intro st bv W9 hall hC hR _
        have q0 : bv 0 = (.pointer (some ⟨g, 0, none⟩)) := hR 0 (by omega)
        have q2 : bv 2 = (.int .i64 (k : Int)) := hR 2 (by omega)
        have q5 : bv 5 = (.int .i64 (lK k)) := hR 5 (by omega)
        have HW9 := Lib.hid hC
        simp only [List.take_succ_cons, List.take_zero, List.drop_succ_cons, List.drop_zero, putL, if_true, Nat.reduceAdd, Act.put, List.getElem_toArray, List.getElem_cons_zero, List.getElem_cons_succ, List.setIfInBounds_toArray, List.set_cons_zero, List.set_cons_succ]
        rw [q0, q2, q5]
        clear hR q0 q2 q5 hall hC HW8
        cases h3 : numR (lK k) (mK k) l3 with
        | error p =>
          rw [h3] at KP
          obtain rfl := HRR2.out _ (opd_e3 n1 n4 n7 h1 h2 h3)
          unfold GotR faultE at KP
          clear h1 h2 h3 HRR2 HRR3
          go_wp2_with (go_at_call 88; refine (KP.out _ HW9.out.pr).mono ?_; rintro e w9 ⟨h6, rfl⟩; have HG9 := Lib.hid (grown_trans' HW9.out.grown h6); clear h6)
          exact ⟨rfl, HG9.out, rfl⟩
        | ok cc =>
          obtain ⟨b, l4⟩ := cc
          rw [h3] at KP
          obtain rfl := HRR3.out _ _ (opd_ok n1 n4 n7 h1 h2 h3)
          clear h1 h2 h3 HRR2 HRR3
          go_upto_region 19 with (go_at_call 88; refine (KP.out _ HW9.out.pr).mono ?_; rintro e w10 ⟨h6, v, rfl, rfl, hp⟩; have HWB := Lib.hid (HW9.out.call h6 hp); have d2 := HWB.out.box.cell (j := 2) rfl; have e2 := HWB.out.box.frozen 2; have e9 := HWB.out.box.size; clear h6 hp)
          have HWA : Hid (OpW B X Z g w (w10.setCell ⟨Z, 2, none⟩ (.int .u32 (b : Int))) l4 [.int .i64 (k : Int), .int .u32 (a : Int), .int .u32 (b : Int), .string ⟨#[]⟩, .slice none 0 0, .slice none 0 0, .int .i32 0, .int .i64 (atT l : Int)]) := Lib.hid (HWB.out.set 2 _)
          generalize w10.setCell ⟨Z, 2, none⟩ (.int .u32 (b : Int)) = WA at *
          clear d2 e2 e9 HWB HW9 KP
          have x0 := HWA.out.box.cell (j := 0) rfl
          have x1 := HWA.out.box.cell (j := 1) rfl
          have x2 := HWA.out.box.cell (j := 2) rfl
          have x3 := HWA.out.box.cell (j := 3) rfl
          have x4 := HWA.out.box.cell (j := 4) rfl
          have x5 := HWA.out.box.cell (j := 5) rfl
          have x6 := HWA.out.box.cell (j := 6) rfl
          have x7 := HWA.out.box.cell (j := 7) rfl
          have y0 := HWA.out.res.cell (j := 0) rfl
          have z0 := HWA.out.res.frozen 0
          have y1 := HWA.out.res.cell (j := 1) rfl
          have z1 := HWA.out.res.frozen 1
          have y2 := HWA.out.res.cell (j := 2) rfl
          have z2 := HWA.out.res.frozen 2
          have y3 := HWA.out.res.cell (j := 3) rfl
          have z3 := HWA.out.res.frozen 3
          have y4 := HWA.out.res.cell (j := 4) rfl
          have z4 := HWA.out.res.frozen 4
          have y5 := HWA.out.res.cell (j := 5) rfl
          have z5 := HWA.out.res.frozen 5
          have y6 := HWA.out.res.cell (j := 6) rfl
          have z6 := HWA.out.res.frozen 6
          have y7 := HWA.out.res.cell (j := 7) rfl
          have z7 := HWA.out.res.frozen 7
          have ys := HWA.out.res.size
          go_wp2_with fail
          have r9 := HWA.out.res.set8p (.int .i64 (k : Int)) (.int .u32 (a : Int)) (.int .u32 (b : Int)) (.string ⟨#[]⟩) (.slice none 0 0) (.slice none 0 0) (.int .i32 0) (.int .i64 (atT l : Int))
          have g9 := grown_sets8p WA X (.int .i64 (k : Int)) (.int .u32 (a : Int)) (.int .u32 (b : Int)) (.string ⟨#[]⟩) (.slice none 0 0) (.slice none 0 0) (.int .i32 0) (.int .i64 (atT l : Int))
          have u0 := r9.cell (j := 0) rfl
          have u1 := r9.cell (j := 1) rfl
          have u2 := r9.cell (j := 2) rfl
          have u3 := r9.cell (j := 3) rfl
          have u4 := r9.cell (j := 4) rfl
          have u5 := r9.cell (j := 5) rfl
          have u6 := r9.cell (j := 6) rfl
          have u7 := r9.cell (j := 7) rfl
          have hB := HWA.out.lt
          refine bodyPost_ret (v := .agg #[.int .i64 (k : Int), .int .u32 (a : Int), .int .u32 (b : Int), .string ⟨#[]⟩, .slice none 0 0, .slice none 0 0, .int .i32 0, .int .i64 (atT l : Int)]) (by simp [results, Tryz.results57, go_sem, u0, u1, u2, u3, u4, u5, u6, u7]) rfl ?_
          have hX := HX.out
          subst hX
          exact ⟨grown_up HWA.out.grown g9 (Nat.le_refl _), _, rfl, ⟨.slice none 0 0, .slice none 0 0, rfl, ⟨ownP_nil _ _, ownD_nil _ _, ⟨Nat.zero_le _, Nat.zero_le _⟩⟩⟩, HWA.out.pr.stay (grownBy_below g9 hB.2.1 HWA.out.pr.top)⟩
end Go.Proofs.YtffhnedladiaoaaGreatDoor
/- Package parse: the reader's op: calendars. -/
namespace Go.Proofs.YtffhnedladiaoaaGreatDoor
open Go.RowKit Go.Lib
set_option linter.unusedVariables false
set_option linter.unusedSimpArgs false
def isD (t : Tk) : Bool := t.kind == 3
theorem op7_is (l : List Tk) : opR 7 l = thenR (needT 1 (linkK 7)) (fun _ => thenR (needT 3 []) fun e => backR ⟨7, 0, 0, [], [], (l.takeWhile isD).map (·.day), e.day⟩) (l.dropWhile isD) := by
  unfold opR; rw [if_pos rfl]; rfl
theorem op7_e1 {l : List Tk} {p : Nat × Int} (h : needT 1 (linkK 7) (l.dropWhile isD) = .error p) : opR 7 l = .error p := by rw [op7_is]; simp only [thenR, h]
theorem op7_e2 {l r : List Tk} {t : Tk} {p : Nat × Int} (h : needT 1 (linkK 7) (l.dropWhile isD) = .ok (t, r)) (h2 : needT 3 [] r = .error p) : opR 7 l = .error p := by rw [op7_is]; simp only [thenR, h, h2]
theorem op7_ok {l r q : List Tk} {t u : Tk} (h : needT 1 (linkK 7) (l.dropWhile isD) = .ok (t, r)) (h2 : needT 3 [] r = .ok (u, q)) : opR 7 l = .ok (⟨7, 0, 0, [], [], (l.takeWhile isD).map (·.day), u.day⟩, q) := by rw [op7_is]; simp only [thenR, h, h2, backR]
def tokN (w : World) (g : Nat) : Nat := match w.cell? ⟨g, 0, none⟩ with | some v => lenV v | none => 0
theorem PR.tokN {B g : Nat} {w : World} {l : List Tk} (h : PR B w g l) : tokN w g = l.length := by
  obtain ⟨b, off, cap, h1, h2, h3⟩ := h.box
  unfold Go.Proofs.YtffhnedladiaoaaGreatDoor.tokN
  rw [h2.cell (j := 0) rfl]
  rfl
theorem PR.few {B g : Nat} {w : World} {l : List Tk} (h : PR B w g l) : l.length ≤ 1000000 := by
  obtain ⟨b, off, cap, h1, h2, h3⟩ := h.box
  exact h3.few
theorem hbox_cellsP {w : World} {b : Nat} {cs : List Value} {T : TypeId} (h : HBox w b cs T) : ∀ j u, cs[j]? = some u → w.cell? ((⟨b, 0, none⟩ : Addr).add j) = some u := fun j u hj => by
  have e : (⟨b, 0, none⟩ : Addr).add j = ⟨b, j, none⟩ := by unfold Addr.add; split <;> simp_all
  rw [e]
  exact h.cell hj
def RB6 (N : Nat) (T : TypeId) (x : Value) (f : List Value) : Nat → Value → World → Prop
  | 6, v, w => ∃ y, v = .slice (some ⟨y, 0, none⟩) 1 1 ∧ HBox w y [x] T ∧ N ≤ y
  | 0, v, _ => v = (f[0]?).getD undef
  | 1, v, _ => v = (f[1]?).getD undef
  | 2, v, _ => v = (f[2]?).getD undef
  | 3, v, _ => v = (f[3]?).getD undef
  | 4, v, _ => v = (f[4]?).getD undef
  | 5, v, _ => v = (f[5]?).getD undef
  | _, _, _ => True
theorem RB6.stay {N : Nat} {T : TypeId} {x : Value} {f : List Value} {w w' : World} {row : Option Nat} (hg : w.grownBy w' row) (hr : ∀ k, row = some k → k < N) : ∀ j u, RB6 N T x f j u w → RB6 N T x f j u w'
  | 0, _, h => h
  | 1, _, h => h
  | 2, _, h => h
  | 3, _, h => h
  | 4, _, h => h
  | 5, _, h => h
  | 6, _, ⟨g, h1, h2, h3⟩ => ⟨g, h1, h2.grown hg (fun e => by have := hr g e.symm; omega), h3⟩
  | _ + 7, _, h => h
set_option maxHeartbeats 4000000 in
set_option maxRecDepth 100000 in
theorem op_7 {B : Nat} {w w0 : World} {g : Nat} {l : List Tk} (h : PR B w g l) (hI : InS w0) (hb : Below w0.heap.size w0 w) (hg : w0.heap.size ≤ g) (hk : kindT l = some 7) :
    Calls Tryz.prog 57 #[.pointer (some ⟨g, 0, none⟩)] w fun e w' => GotR B g w (OpV w.heap.size) (opAll l) e w' := by
  have KN := Lib.hid (fun w' (hp : PR B w' g l) => next_at hp)
  have KK := Lib.hid (fun w' (hG : w.grownBy w' (some g)) (hp : PR B w' g l) => kind_p hp hI (env_step hb hg hG) hg)
  rw [hk] at KK
  simp only at KK
  have HK := Lib.hid hk
  have HE := Lib.hid (fun (w' : World) (hG : w.grownBy w' (some g)) => hI.stay (env_step hb hg hG))
  have f4 := fun (a b c d e : Value) (w : World) => field_tk4 a b c d e w
  have f1 := fun (a b c d e : Value) (w : World) => field_tk1 a b c d e w
  have f3 := fun (a b c d e : Value) (w : World) => field_tk3 a b c d e w
  have f0 := fun (a b c d e : Value) (w : World) => field_tk0 a b c d e w
  obtain ⟨R, hR⟩ : ∃ R, opAll l = R := ⟨_, rfl⟩
  rw [hR]
  have HRR := Lib.hid hR
  have HH := Lib.hid h
  have b1 := (Below.refl w.heap.size w).alloc (Nat.le_refl _) (.cells #[.int .i64 0, .int .u32 0, .int .u32 0, .string ⟨#[]⟩, .slice none 0 0, .slice none 0 0, .int .i32 0, .int .i64 0] 38)
  have r1 := HBox.new w z8 38
  change HBox (w.alloc (.cells #[.int .i64 0, .int .u32 0, .int .u32 0, .string ⟨#[]⟩, .slice none 0 0, .slice none 0 0, .int .i32 0, .int .i64 0] 38)) _ _ _ at r1
  clear h hI hb hR hk
  go_enter Tryz.func57, Tryz.ntmps57
  go_upto_region 1 with fail
  generalize w.alloc (.cells #[.int .i64 0, .int .u32 0, .int .u32 0, .string ⟨#[]⟩, .slice none 0 0, .slice none 0 0, .int .i32 0, .int .i64 0] 38) = W1 at *
  have HB1 := Lib.hid b1
  have HR1 := Lib.hid r1
  clear b1 r1
  go_upto_region 2 with (go_at_call 55; refine (KN.out _ (HH.out.stay (HB1.out.mono HH.out.top))).mono ?_; rintro e w2 ⟨⟨na, nb, nc, nd, rfl⟩, h2⟩; have HB2 := Lib.hid h2; clear h2)
  have HW3 : Hid (OpW B w.heap.size w2.heap.size g w (w2.alloc (.cells #[.int .i64 0, .int .u32 0, .int .u32 0, .string ⟨#[]⟩, .slice none 0 0, .slice none 0 0, .int .i32 0, .int .i64 (atT l : Int)] 38)) l [.int .i64 0, .int .u32 0, .int .u32 0, .string ⟨#[]⟩, .slice none 0 0, .slice none 0 0, .int .i32 0, .int .i64 (atT l : Int)]) := Lib.hid (OpW.new (cs := [.int .i64 0, .int .u32 0, .int .u32 0, .string ⟨#[]⟩, .slice none 0 0, .slice none 0 0, .int .i32 0, .int .i64 (atT l : Int)]) HH.out.lt HH.out.top HB1.out HR1.out HB2.out HH.out)
  generalize w2.alloc (.cells #[.int .i64 0, .int .u32 0, .int .u32 0, .string ⟨#[]⟩, .slice none 0 0, .slice none 0 0, .int .i32 0, .int .i64 (atT l : Int)] 38) = W3 at *
  clear HB2 HR1 HB1 KN
  obtain ⟨X, hX⟩ : ∃ X, w.heap.size = X := ⟨_, rfl⟩
  rw [hX] at HW3 ⊢
  have HX := Lib.hid hX
  clear hX
  generalize w2.heap.size = Z at *
  go_upto_region 3 with (go_at_call 87; refine (KK.out _ HW3.out.grown HW3.out.pr).mono ?_; rintro e w4 ⟨h4, rfl, hp⟩; have HW4 := Lib.hid (HW3.out.call h4 hp); have d0 := HW4.out.box.cell (j := 0) rfl; have e0 := HW4.out.box.frozen 0; have e9 := HW4.out.box.size; clear h4 hp)
  have HW5 : Hid (OpW B X Z g w (w4.setCell ⟨Z, 0, none⟩ (.int .i64 7)) l.tail [.int .i64 7, .int .u32 0, .int .u32 0, .string ⟨#[]⟩, .slice none 0 0, .slice none 0 0, .int .i32 0, .int .i64 (atT l : Int)]) := Lib.hid (HW4.out.set 0 _)
  generalize w4.setCell ⟨Z, 0, none⟩ (.int .i64 7) = W5 at *
  clear d0 e0 e9 HW4 HW3 KK HH
  have c0 := HW5.out.box.cell (j := 0) rfl
  have HRR2 := Lib.hid (fun e (h : opR 7 l.tail = .error e) => HRR.out.symm.trans (opAll_err HK.out h))
  have HRR3 := Lib.hid (fun o r (h : opR 7 l.tail = .ok (o, r)) => HRR.out.symm.trans (opAll_ok HK.out h))
  have HK0 := HK
  clear HRR HK
  obtain ⟨l1, hl1⟩ : ∃ x, l.tail = x := ⟨_, rfl⟩
  rw [hl1] at HW5 HRR2 HRR3
  clear hl1
  have hmix : Tryz.prog.follows .mixedOrders = true := by kernel_rfl
  obtain ⟨i0, hi, hz0, hz1, hz2⟩ := info_parts infoD
  have HF := Lib.hid HW5.out.pr.few
  go_wp2_with fail
  go_loopw [62] (fun _ wr => ∃ (m : Nat) (q : Option Addr) (cap : Nat) (ds : List Int) (l' : List Tk), Hid (ds.length = m) ∧ Hid (wr.ownsRow X 34 1 (.slice q m cap) m (ds.flatMap dcl)) ∧ Hid ((l1.takeWhile isD).map (·.day) = ds ++ (l'.takeWhile isD).map (·.day)) ∧ Hid (l1.dropWhile isD = l'.dropWhile isD) ∧ Hid (m + l'.length = l1.length) ∧ Hid (OpW B X Z g w wr l' [.int .i64 7, .int .u32 0, .int .u32 0, .string ⟨#[]⟩, .slice none 0 0, .slice q m cap, .int .i32 0, .int .i64 (atT l : Int)])) (fun _ wr => tokN wr g)
  case atStart => exact ⟨0, none, 0, [], l1, Lib.hid rfl, Lib.hid (ownD_nil _ _), Lib.hid rfl, Lib.hid rfl, Lib.hid (Nat.zero_add _), HW5⟩
  case round =>
    clear HW5 c0
    obtain ⟨m, q, cap, ds, l', HM, HO, HT, HD, HL, HWR⟩ := hrel
    rename World => wr
    obtain ⟨t, r, rfl⟩ := HWR.out.pr.ends.form
    have KN := Lib.hid (fun w' (hp : PR B w' g (t :: r)) => next_p hp)
    unfold tokV at KN
    by_cases h3 : t.kind = 3
    · have t3 : ((t.kind : Int) == 3) = true := by simp [h3]
      have KT := Lib.hid (fun w' (hp : PR B w' g (t :: r)) => need_yes h3 ▸ take_p hp (k := 3) (by decide))
      unfold tokV at KT
      have hd : isD t = true := by unfold isD; simp [h3]
      have HT2 : Hid ((l1.takeWhile isD).map (·.day) = (ds ++ [t.day]) ++ (r.takeWhile isD).map (·.day)) := Lib.hid (by rw [HT.out, List.takeWhile_cons_of_pos hd]; simp)
      have HD2 : Hid (l1.dropWhile isD = r.dropWhile isD) := Lib.hid (by rw [HD.out, List.dropWhile_cons_of_pos hd])
      have HL2 : Hid (m + 1 + r.length = l1.length) := Lib.hid (by have := HL.out; simp at this; omega)
      have hm6 : m ≤ 1000000 := by have := HL2.out; have := HF.out; omega
      clear h3 hd HT HD HL
      go_upto_region 16 with (go_at_call 55; refine (KN.out _ HWR.out.pr).mono ?_; rintro e W6 ⟨rfl, h6⟩; have HW6 := Lib.hid (HWR.out.stay h6); have HO6 := Lib.hid (owns_below HO.out h6); clear h6)
      obtain ⟨NN, hNN⟩ : ∃ N, W6.heap.size = N := ⟨_, rfl⟩
      have HNN : Hid (X ≤ NN) := Lib.hid (by have := HW6.out.res.size; omega)
      have HCW : Hid (OpW B X Z g w W6.drew (t :: r) [.int .i64 7, .int .u32 0, .int .u32 0, .string ⟨#[]⟩, .slice none 0 0, .slice q m cap, .int .i32 0, .int .i64 (atT l : Int)] ∧ W6.drew.ownsRow X 34 1 (.slice q m cap) m (ds.flatMap dcl) ∧ NN ≤ W6.drew.heap.size) := Lib.hid ⟨HW6.out.drew, owns_below HO6.out (Below.refl _ _).drew, Nat.le_of_eq hNN.symm⟩
      clear hNN HW6 HO6 KN HO
      refine wp_region_part3 7 (fun st w' => OpW B X Z g w w' (if st 4 = true then r else t :: r) [.int .i64 7, .int .u32 0, .int .u32 0, .string ⟨#[]⟩, .slice none 0 0, .slice q m cap, .int .i32 0, .int .i64 (atT l : Int)] ∧ w'.ownsRow X 34 1 (.slice q m cap) m (ds.flatMap dcl) ∧ NN ≤ w'.heap.size) (RB6 NN 34 (.int .i32 t.day) [(.pointer (some ⟨Z, 5, none⟩)), (.pointer (some ⟨Z, 5, none⟩)), (.slice q m cap), (.pointer (some ⟨g, 0, none⟩)), (.agg #[.int .i64 (t.kind : Int), .string ⟨t.text.toArray⟩, .int .i64 t.num, .int .i32 t.day, .int .i64 (t.at_ : Int)]), (.int .i32 t.day)]) (fun _ _ _ _ => True) hmix (by decide) (by kernel_rfl) (by kernel_rfl) (by kernel_rfl) (by simpa using HCW.out) ?_ ?_
      · intro st a' w' i hi hsi hdn hC hfar hrd
        rcases (by omega : i = 0 ∨ i = 1 ∨ i = 2 ∨ i = 3 ∨ i = 4 ∨ i = 5 ∨ i = 6) with rfl | rfl | rfl | rfl | rfl | rfl | rfl
        · refine op_run (.fieldAddr 38 (.tmp 3) 5) (some 63) (by unfold opIs; kernel_rfl) (.pointer (some ⟨Z, 5, none⟩)) (w' := w') (fun o ho => by unfold execOp; rw [ho]; simp only [(hfar 3 (by kernel_rfl)).trans (show _ = (.pointer (some ⟨Z, 0, none⟩) : Value) by kernel_rfl)]; go_simp) ?_
          exact ⟨_, congrArg (fun d => a'.put d (.pointer (some ⟨Z, 5, none⟩))) (by kernel_rfl), (by simpa using hC), rfl, (fun j u h => h), fun _ _ _ _ _ _ _ => ⟨trivial, trivial⟩⟩
        · refine op_run (.fieldAddr 36 (.tmp 63) 0) (some 64) (by unfold opIs; kernel_rfl) (.pointer (some ⟨Z, 5, none⟩)) (w' := w') (fun o ho => by unfold execOp; rw [ho]; simp only [show a'.eval (.tmp 63) = (.pointer (some ⟨Z, 5, none⟩)) from hrd 0 63 (by kernel_rfl) (by kernel_rfl)]; go_simp) ?_
          exact ⟨_, congrArg (fun d => a'.put d (.pointer (some ⟨Z, 5, none⟩))) (by kernel_rfl), (by simpa using hC), rfl, (fun j u h => h), fun _ _ _ _ _ _ _ => ⟨trivial, trivial⟩⟩
        · have o0 := hC.1.box.cell (j := 5) rfl
          refine op_load 33 (.tmp 64) (some 65) (by unfold opIs; kernel_rfl) _ (.slice q m cap) (hrd 1 64 (by kernel_rfl) (by kernel_rfl)) (by go_simp) ?_
          exact ⟨_, congrArg (fun d => a'.put d (.slice q m cap)) (by kernel_rfl), (by simpa using hC), rfl, (fun j u h => h), fun _ _ _ _ _ _ _ => ⟨trivial, trivial⟩⟩
        · refine op_run (.move (.tmp 0)) (some 66) (by unfold opIs; kernel_rfl) (.pointer (some ⟨g, 0, none⟩)) (w' := w') (fun o ho => by unfold execOp; rw [ho]; simp only [(hfar 0 (by kernel_rfl)).trans (show _ = ((.pointer (some ⟨g, 0, none⟩)) : Value) by kernel_rfl)]; go_simp) ?_
          exact ⟨_, congrArg (fun d => a'.put d (.pointer (some ⟨g, 0, none⟩))) (by kernel_rfl), (by simpa using hC), rfl, (fun j u h => h), fun _ _ _ _ _ _ _ => ⟨trivial, trivial⟩⟩
        · have h := hC
          rw [hsi] at h
          simp only [Bool.false_eq_true, if_false] at h
          refine op_call (.call { callee := .value (.func 89), args := #[.tmp 66, .const (.int .i64 3)], argTypes := #[109, 88] }) (some 67) (by unfold opIs; kernel_rfl) 89 #[(.pointer (some ⟨g, 0, none⟩)), .int .i64 3] (fun o ho => by unfold execOp; rw [ho]; simp only [resolve, List.map_toArray, List.map_cons, List.map_nil, show a'.eval (.tmp 66) = (.pointer (some ⟨g, 0, none⟩)) from hrd 3 66 (by kernel_rfl) (by kernel_rfl)]; go_simp) (KT.out w' h.1.pr) ?_
          rintro e w'' ⟨h6, v, rfl, rfl, hp⟩
          exact ⟨_, rfl, _, congrArg (fun d => a'.put d _) (by kernel_rfl), (by simpa using ⟨h.1.call h6 hp, h.2.1.kept h6 (.inr (owns_far h.2.1 (m := g) (.inl (by have := h.1.lt; omega)))), Nat.le_trans h.2.2 h6.size⟩), rfl, RB6.stay h6 (fun k hk => by cases hk; have := h.1.lt; have := HNN.out; omega), fun _ _ _ _ _ _ _ => ⟨trivial, trivial⟩⟩
        · refine op_run (.field 90 (.tmp 67) 3) (some 68) (by unfold opIs; kernel_rfl) (.int .i32 t.day) (w' := w') (fun o ho => by unfold execOp; rw [ho]; simp only [show a'.eval (.tmp 67) = (.agg #[.int .i64 (t.kind : Int), .string ⟨t.text.toArray⟩, .int .i64 t.num, .int .i32 t.day, .int .i64 (t.at_ : Int)]) from hrd 4 67 (by kernel_rfl) (by kernel_rfl)]; go_simp) ?_
          exact ⟨_, congrArg (fun d => a'.put d (.int .i32 t.day)) (by kernel_rfl), (by simpa using hC), rfl, (fun j u h => h), fun _ _ _ _ _ _ _ => ⟨trivial, trivial⟩⟩
        · refine op_run (.buildSlice 33 1 #[(0, .tmp 68)]) (some 69) (by unfold opIs; kernel_rfl) (.slice (some ⟨w'.heap.size, 0, none⟩) 1 1) (w' := w'.alloc (.cells #[(.int .i32 t.day)] 34)) (fun o ho => by unfold execOp; rw [ho]; simp only [List.map_toArray, List.map_cons, List.map_nil, show a'.eval (.tmp 68) = (.int .i32 t.day) from hrd 5 68 (by kernel_rfl) (by kernel_rfl)]; go_simp) ?_
          have hb := (Below.refl w'.heap.size w').alloc (Nat.le_refl _) (.cells #[(.int .i32 t.day)] 34)
          exact ⟨_, congrArg (fun d => a'.put d (.slice (some ⟨w'.heap.size, 0, none⟩) 1 1)) (by kernel_rfl), (by simpa using ⟨hC.1.stay hb, owns_below hC.2.1 hb, Nat.le_succ_of_le hC.2.2⟩), ⟨_, rfl, HBox.new w' [(.int .i32 t.day)] _, hC.2.2⟩, RB6.stay (grown_below' hb none) (fun k hk => by cases hk), fun _ _ _ _ _ _ _ => ⟨trivial, trivial⟩⟩
      · intro st bv W9 hall hC hR _
        rw [hall 4 (by omega)] at hC
        simp only [if_true] at hC
        have q2 : bv 2 = (.slice q m cap) := hR 2 (by omega)
        obtain ⟨y, q6, hB6, hy⟩ := hR 6 (by omega)
        have HW9 := Lib.hid hC.1
        have HO9 := Lib.hid hC.2.1
        have HBB := Lib.hid hB6
        have hXs : X ≤ W9.heap.size := by have := hC.1.pr.top; have := hC.1.lt; have := hC.1.res.size; omega
        simp only [List.take_succ_cons, List.take_zero, List.drop_succ_cons, List.drop_zero, putL, if_true, Nat.reduceAdd, Act.put, List.getElem_toArray, List.getElem_cons_zero, List.getElem_cons_succ, List.setIfInBounds_toArray, List.set_cons_zero, List.set_cons_succ]
        rw [q2, q6]
        clear hR q2 q6 hall hC hB6
        go_wp2_with (at_builtin; refine wpList_append_own_at _ rfl (.tmp 65) (.tmp 69) 33 rfl X 34 i0 _ 1 4 Tryz.underlying33 hi hz0 hz1 hz2 rfl (by decide) _ m _ rfl HO9.out ⟨y, 0, none⟩ 1 1 [(.int .i32 t.day)] rfl rfl (hbox_cellsP HBB.out) (fun v hv => by simp at hv; subst hv; rfl) (by unfold maxLen; omega) (by omega) (by omega) ?_; intro v12 w12 ho hg _ _; have hr12 := HW9.out.row hg (fun Y hY => ⟨(HO9.out.lt Y hY).1, fun e => HBox.far HW9.out.res HO9.out (by decide) (e ▸ hY), fun e => HBox.far HW9.out.box HO9.out (by decide) (e ▸ hY)⟩); obtain ⟨q2, cap2, rfl⟩ := owns_form ho; have HWB := Lib.hid hr12; have HOB := Lib.hid ho; have d5 := HWB.out.box.cell (j := 5) rfl; have e5 := HWB.out.box.frozen 5; have e9 := HWB.out.box.size; clear ho hg hr12)
        have HWC : Hid (OpW B X Z g w (w12.setCell ⟨Z, 5, none⟩ (.slice q2 (m + 1) cap2)) r [.int .i64 7, .int .u32 0, .int .u32 0, .string ⟨#[]⟩, .slice none 0 0, .slice q2 (m + 1) cap2, .int .i32 0, .int .i64 (atT l : Int)]) := Lib.hid (HWB.out.set 5 _)
        have HOC := Lib.hid (HOB.out.kept (grown_set w12 Z 5 (.slice q2 (m + 1) cap2)) (.inr (HBox.far HWB.out.box HOB.out (by decide))))
        generalize w12.setCell ⟨Z, 5, none⟩ (.slice q2 (m + 1) cap2) = WC at *
        clear d5 e5 e9 HWB HOB HW9 HO9 HBB
        go_roundw
        case rel => exact ⟨m + 1, q2, cap2, ds ++ [t.day], r, Lib.hid (by simp [HM.out]), Lib.hid (by rw [flat_snoc]; exact HOC.out), HT2, HD2, HL2, HWC⟩
        case measure => rw [HWC.out.pr.tokN, HWR.out.pr.tokN]; simp
    · have t3 : ((t.kind : Int) == 3) = false := by rw [beq_eq_false_iff_ne]; omega
      have hd : isD t = false := by unfold isD; simp [h3]
      have hT : (l1.takeWhile isD).map (·.day) = ds := by rw [HT.out, List.takeWhile_cons_of_neg (by simp [hd])]; simp
      have hD : l1.dropWhile isD = t :: r := by rw [HD.out, List.dropWhile_cons_of_neg (by simp [hd])]
      obtain rfl := HM.out
      have HTT := Lib.hid hT
      have HDD := Lib.hid hD
      have HFD : Hid (ds.length ≤ 1000000) := Lib.hid (by have := HL.out; have := HF.out; omega)
      clear h3 hd HT HD HL hT hD HM
      go_upto_region 17 with (go_at_call 55; refine (KN.out _ HWR.out.pr).mono ?_; rintro e W7 ⟨rfl, h6⟩; have HW7 := Lib.hid (HWR.out.stay h6); have HO7 := Lib.hid (owns_below HO.out h6); clear h6)
      have c0 := HW7.out.box.cell (j := 0) rfl
      have KL := Lib.hid (fun w' (hG : w.grownBy w' (some g)) => link_s 7 (by decide) w' (HE.out w' hG).2)
      have KM := Lib.hid (fun w' (hp : PR B w' g (t :: r)) => must_p hp (k := 1) (by decide) (s := linkK 7) (by decide))
      unfold strV at KL
      clear KN HWR HO
      cases h2 : needT 1 (linkK 7) (t :: r) with
      | error p =>
        rw [h2] at KM
        obtain rfl := HRR2.out _ (op7_e1 (by rw [HDD.out]; exact h2))
        unfold GotR faultE at KM
        clear h2 HRR2 HRR3
        go_wp2_with (first
          | (go_at_call 58; refine (KM.out _ HW7.out.pr).mono ?_; rintro e w8 ⟨h6, rfl⟩; have HG9 := Lib.hid (grown_trans' HW7.out.grown h6); clear h6)
          | (go_at_call 90; refine (KL.out _ HW7.out.grown).mono ?_; rintro e wL ⟨rfl, hL⟩; obtain rfl : W7 = wL := hL.symm))
        exact ⟨rfl, HG9.out, rfl⟩
      | ok bb =>
        obtain ⟨t2, l3⟩ := bb
        rw [h2] at KM
        go_upto_region 18 with (first
          | (go_at_call 58; refine (KM.out _ HW7.out.pr).mono ?_; rintro e W8 ⟨h6, v, rfl, rfl, hp⟩; have HW8 := Lib.hid (HW7.out.call h6 hp); have HO8 := Lib.hid (HO7.out.kept h6 (.inr (owns_far HO7.out (m := g) (.inl (by have := HW7.out.lt; omega))))); clear h6 hp)
          | (go_at_call 90; refine (KL.out _ HW7.out.grown).mono ?_; rintro e wL ⟨rfl, hL⟩; obtain rfl : W7 = wL := hL.symm))
        clear KL KM c0 HW7 HO7
        have KT := Lib.hid (fun w' (hp : PR B w' g l3) => take_p hp (k := 3) (by decide))
        unfold tokV at KT
        cases h4 : needT 3 [] l3 with
        | error p =>
          rw [h4] at KT
          obtain rfl := HRR2.out _ (op7_e2 (by rw [HDD.out]; exact h2) h4)
          unfold GotR faultE at KT
          clear h2 h4 HRR2 HRR3
          go_wp2_with (go_at_call 89; refine (KT.out _ HW8.out.pr).mono ?_; rintro e w9 ⟨h6, rfl⟩; have HG9 := Lib.hid (grown_trans' HW8.out.grown h6); clear h6)
          exact ⟨rfl, HG9.out, rfl⟩
        | ok cc =>
          obtain ⟨u, l4⟩ := cc
          rw [h4] at KT
          have hop := op7_ok (by rw [HDD.out]; exact h2) h4
          rw [HTT.out] at hop
          obtain rfl := HRR3.out _ _ hop
          clear h2 h4 HRR2 HRR3 hop
          go_upto_region 19 with (go_at_call 89; refine (KT.out _ HW8.out.pr).mono ?_; rintro e w9 ⟨h6, v, rfl, rfl, hp⟩; have HW9 := Lib.hid (HW8.out.call h6 hp); have HO9 := Lib.hid (HO8.out.kept h6 (.inr (owns_far HO8.out (m := g) (.inl (by have := HW8.out.lt; omega))))); have d6 := HW9.out.box.cell (j := 6) rfl; have e6 := HW9.out.box.frozen 6; have e9 := HW9.out.box.size; clear h6 hp)
          have HWA : Hid (OpW B X Z g w (w9.setCell ⟨Z, 6, none⟩ (.int .i32 u.day)) l4 [.int .i64 7, .int .u32 0, .int .u32 0, .string ⟨#[]⟩, .slice none 0 0, .slice q ds.length cap, .int .i32 u.day, .int .i64 (atT l : Int)]) := Lib.hid (HW9.out.set 6 _)
          have HOA := Lib.hid (HO9.out.kept (grown_set w9 Z 6 (.int .i32 u.day)) (.inr (HBox.far HW9.out.box HO9.out (by decide))))
          generalize w9.setCell ⟨Z, 6, none⟩ (.int .i32 u.day) = WA at *
          clear d6 e6 e9 HW8 HW9 KT HO8 HO9
          have x0 := HWA.out.box.cell (j := 0) rfl
          have x1 := HWA.out.box.cell (j := 1) rfl
          have x2 := HWA.out.box.cell (j := 2) rfl
          have x3 := HWA.out.box.cell (j := 3) rfl
          have x4 := HWA.out.box.cell (j := 4) rfl
          have x5 := HWA.out.box.cell (j := 5) rfl
          have x6 := HWA.out.box.cell (j := 6) rfl
          have x7 := HWA.out.box.cell (j := 7) rfl
          have y0 := HWA.out.res.cell (j := 0) rfl
          have z0 := HWA.out.res.frozen 0
          have y1 := HWA.out.res.cell (j := 1) rfl
          have z1 := HWA.out.res.frozen 1
          have y2 := HWA.out.res.cell (j := 2) rfl
          have z2 := HWA.out.res.frozen 2
          have y3 := HWA.out.res.cell (j := 3) rfl
          have z3 := HWA.out.res.frozen 3
          have y4 := HWA.out.res.cell (j := 4) rfl
          have z4 := HWA.out.res.frozen 4
          have y5 := HWA.out.res.cell (j := 5) rfl
          have z5 := HWA.out.res.frozen 5
          have y6 := HWA.out.res.cell (j := 6) rfl
          have z6 := HWA.out.res.frozen 6
          have y7 := HWA.out.res.cell (j := 7) rfl
          have z7 := HWA.out.res.frozen 7
          have ys := HWA.out.res.size
          go_wp2_with fail
          have r9 := HWA.out.res.set8p (.int .i64 7) (.int .u32 0) (.int .u32 0) (.string ⟨#[]⟩) (.slice none 0 0) (.slice q ds.length cap) (.int .i32 u.day) (.int .i64 (atT l : Int))
          have g9 := grown_sets8p WA X (.int .i64 7) (.int .u32 0) (.int .u32 0) (.string ⟨#[]⟩) (.slice none 0 0) (.slice q ds.length cap) (.int .i32 u.day) (.int .i64 (atT l : Int))
          have u0 := r9.cell (j := 0) rfl
          have u1 := r9.cell (j := 1) rfl
          have u2 := r9.cell (j := 2) rfl
          have u3 := r9.cell (j := 3) rfl
          have u4 := r9.cell (j := 4) rfl
          have u5 := r9.cell (j := 5) rfl
          have u6 := r9.cell (j := 6) rfl
          have u7 := r9.cell (j := 7) rfl
          have hB := HWA.out.lt
          refine bodyPost_ret (v := .agg #[.int .i64 7, .int .u32 0, .int .u32 0, .string ⟨#[]⟩, .slice none 0 0, .slice q ds.length cap, .int .i32 u.day, .int .i64 (atT l : Int)]) (by simp [results, Tryz.results57, go_sem, u0, u1, u2, u3, u4, u5, u6, u7]) rfl ?_
          have hX := HX.out
          subst hX
          exact ⟨grown_up HWA.out.grown g9 (Nat.le_refl _), _, rfl, ⟨.slice none 0 0, .slice q ds.length cap, rfl, ⟨ownP_nil _ _, HOA.out.kept g9 (.inr (HBox.far HWA.out.res HOA.out (by decide))), ⟨Nat.zero_le _, HFD.out⟩⟩⟩, HWA.out.pr.stay (grownBy_below g9 hB.2.1 HWA.out.pr.top)⟩
end Go.Proofs.YtffhnedladiaoaaGreatDoor

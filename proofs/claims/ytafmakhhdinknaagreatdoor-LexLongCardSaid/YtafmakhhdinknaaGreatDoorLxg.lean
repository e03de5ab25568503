/- Tokens compared; what the laws ask of lex; law LexSplits; law 12's Awake. -/
import Derived.Test.YtafmakhhdinknaaGreatDoorLxf
import Derived.Laws.StructEq
import Derived.Deep.QuietTactic
import Derived.BigQuiet
namespace Go.Proofs.YtafmakhhdinknaaGreatDoor
open Go.RowKit Go.Lib
set_option linter.unusedVariables false
set_option linter.unusedSimpArgs false
theorem below_drewT (B : Nat) (w : World) (q : Nat) : Below B w (w.drewN q) := ⟨rfl, rfl, rfl, Nat.le_refl _, fun _ _ => rfl⟩
set_option maxRecDepth 100000 in
theorem equalIn_tk (a1 : Int) (a2 : ByteArray) (a3 a4 a5 : Int) (w : World) : (Op.equalIn Op.maxDepth 31 (.agg #[.int .i64 a1, .string a2, .int .i64 a3, .int .i32 a4, .int .i64 a5]) (.agg #[.int .i64 a1, .string a2, .int .i64 a3, .int .i32 a4, .int .i64 a5])).run Tryz.prog w = .ok true w := by
  have hp : Tryz.prog.stoodInHeld 31 = false := by kernel_rfl
  have ht := Tryz.underlying31
  have hf : Tryz.prog.underlying 31 = some (.struct (Tryz.prog.fieldsOf 31)) := by kernel_rfl
  rw [show Op.maxDepth = 9999 + 1 from rfl, run_equalIn_agg w 9999 _ _ _ hf hp]
  have he : (Tryz.prog.fieldsOf 31) = (match Tryz.prog.underlying 31 with | some (.struct fs) => fs | _ => #[]) := rfl
  rw [he, ht]
  simp [Op.eqFields, go_sem, Tryz.underlying28, Tryz.underlying9, Tryz.underlying2, Tryz.underlying29, Tryz.underlying3]
theorem neq_tk (a1 : Int) (a2 : ByteArray) (a3 a4 a5 : Int) (w : World) : (binOp .neq 31 (.agg #[.int .i64 a1, .string a2, .int .i64 a3, .int .i32 a4, .int .i64 a5]) (.agg #[.int .i64 a1, .string a2, .int .i64 a3, .int .i32 a4, .int .i64 a5])).run Tryz.prog w = .ok (.bool false) w := by
  simp [binOp, Op.equal, equalIn_tk a1 a2 a3 a4 a5 w]
set_option maxHeartbeats 2000000 in
set_option maxRecDepth 100000 in
/-- slices.Equal of two rows of the same tokens. -/
theorem equal_tk (v1 v2 : Value) (S : List Tk) (w : World) (h1 : Recs tkc 5 w v1 S) (h2 : Recs tkc 5 w v2 S) :
    Calls Tryz.prog 10 #[v1, v2] w fun e w' => e = .returned (.bool true) ∧ Below w.heap.size w w' := by
  obtain ⟨r1, cap1, rfl, hm⟩ := h1.form
  obtain ⟨r2, cap2, rfl, _⟩ := h2.form
  obtain ⟨n, hn⟩ : ∃ n, S.length = n := ⟨_, rfl⟩
  have HN := Lib.hid hn
  rw [hn] at h1 h2 hm ⊢
  have H1 := Lib.hid h1
  have H2 := Lib.hid h2
  clear h1 h2 hn
  go_enter Tryz.func10, Tryz.ntmps10
  go_wp2
  go_loopw [13] (fun i wr => ∃ j : Nat, j ≤ n ∧ i = .int .i64 j ∧ Below w.heap.size w wr) (fun i _ => n - (RowKit.intOf i).toNat)
  case atStart => exact ⟨0, Nat.zero_le _, rfl, Below.refl _ _⟩
  case round =>
    obtain ⟨j, hj, rfl, hB⟩ := hrel
    rename World => wr
    by_cases hlt : j < n
    · obtain ⟨x, hx⟩ : ∃ x, S[j]? = some x := ⟨S[j]'(by have := HN.out; omega), List.getElem?_eq_getElem (by have := HN.out; omega)⟩
      obtain ⟨g1, o1, rfl, _, c1⟩ := (H1.out.stay hB).at hx
      obtain ⟨g2, o2, rfl, _, c2⟩ := (H2.out.stay hB).at hx
      have a0 := c1 0 _ rfl
      have a1 := c1 1 _ rfl
      have a2 := c1 2 _ rfl
      have a3 := c1 3 _ rfl
      have a4 := c1 4 _ rfl
      have b0 := c2 0 _ rfl
      have b1 := c2 1 _ rfl
      have b2 := c2 2 _ rfl
      have b3 := c2 3 _ rfl
      have b4 := c2 4 _ rfl
      rw [Nat.add_zero] at a0 b0
      have HB := Lib.hid hB
      have hne := fun w => neq_tk (x.kind : Int) ⟨x.text.toArray⟩ x.num x.day (x.at_ : Int) w
      clear hx c1 c2 hB
      go_wp2_with fail
      go_quiet (fail)
      go_wp2
      go_roundw
      case rel => exact ⟨j + 1, by omega, by go_num, HB.out.trans (below_drewT _ _ _)⟩
      case measure => simp [RowKit.intOf]; omega
    · go_wp2
      go_ret
      exact ⟨rfl, hB⟩
/-- What a call answers that splits a text. -/
def SplT (p : List Tk × Nat × Int) (e : Ending) (w w' : World) : Prop := ∃ r c, e = .returned (.tuple #[.slice r p.1.length c, .int .i64 (p.2.1 : Int), .int .i64 p.2.2]) ∧ Recs tkc 5 w' (.slice r p.1.length c) p.1 ∧ Below w.heap.size w w'
/-- What the laws ask of lex. -/
structure LexC (I : World → Prop) : Prop where
  split : ∀ (s : ByteArray) (w : World), I w → s.size ≤ 100000 → Calls Tryz.prog 8 #[.string s] w fun e w' => SplT (splT s.data.toList) e w w'
theorem lsplit_t {I : World → Prop} (D : DayC I) (s : ByteArray) (w : World) (hI : I w) (hs : s.size ≤ 10000) :
    Calls Tryz.prog 9 #[.string s] w fun e w' => SplT (splT s.data.toList) e w w' := by
  refine (lsplit_c D s w hI hs).mono ?_
  rintro e w' ⟨hb, h⟩
  have hl : ¬ 65536 < s.data.toList.length := by simp; omega
  unfold splT
  rw [if_neg hl]
  cases hr : splitF s.data.toList with
  | error p =>
    rw [hr] at h
    exact ⟨none, 0, h, .inl ⟨_, _, rfl, rfl⟩, hb⟩
  | ok ts =>
    rw [hr] at h
    obtain ⟨v, rfl, h2⟩ := h
    obtain ⟨r, c, rfl, _⟩ := h2.form
    exact ⟨r, c, rfl, h2, hb⟩
set_option maxHeartbeats 2000000 in
set_option maxRecDepth 100000 in
theorem lexsplits_any {I : World → Prop} (D : DayC I) (LX : LexC I) (A12 : ∀ w, I w → Calls Tryz.prog 7 #[] w fun e w' => e = .returned (.bool true) ∧ Below w.heap.size w w') (s : ByteArray) (w : World) (hI : I w) (hs : s.size ≤ 9223372036854775807) :
    Calls Tryz.prog 3 #[.string s] w fun e w' => e = .returned (.bool true) ∧ Below w.heap.size w w' := by
  have KA := Lib.hid (A12 w hI)
  by_cases h2 : 2000 < s.size
  · have t1 : decide ((2000 : Int) < (s.size : Int)) = true := decide_eq_true (by omega)
    clear D LX A12 hI
    go_enter Tryz.func3, Tryz.ntmps3
    go_wp2_with (go_at_call 7; refine KA.out.mono ?_; rintro e w4 ⟨rfl, h4⟩; have HB4 := Lib.hid h4; clear h4)
    go_ret
    exact ⟨rfl, HB4.out⟩
  have t1 : decide ((2000 : Int) < (s.size : Int)) = false := decide_eq_false (by omega)
  have K1 := Lib.hid (fun (w' : World) (h : Below w.heap.size w w') => LX.split s w' (D.stay hI h) (by omega))
  have K2 := Lib.hid (fun (w' : World) (h : Below w.heap.size w w') => lsplit_t D s w' (D.stay hI h) (by omega))
  unfold SplT at K1 K2
  generalize splT s.data.toList = p at K1 K2
  obtain ⟨ts, pl, cd⟩ := p
  simp only at K1 K2
  have KQ := Lib.hid (fun (w' : World) (u v : Value) (hu : Recs tkc 5 w' u ts) (hv : Recs tkc 5 w' v ts) => equal_tk u v ts w' hu hv)
  clear D LX A12 hI
  go_enter Tryz.func3, Tryz.ntmps3
  go_wp2_with (first
    | (go_at_call 10; refine (KQ.out _ _ _ HR5.out HR6.out).mono ?_; rintro e w7 ⟨rfl, h7⟩; have HB7 := Lib.hid (HB6.out.trans (h7.mono HB6.out.size)); clear h7)
    | (go_at_call 9; refine (K2.out _ HB5.out).mono ?_; rintro e w6 ⟨r6, c6, rfl, hr6, h6⟩; have HR6 := Lib.hid hr6; have HR5 := Lib.hid (HR4.out.stay h6); have HB6 := Lib.hid (HB5.out.trans (h6.mono HB5.out.size)); clear hr6 h6)
    | (go_at_call 8; refine (K1.out _ HB4.out).mono ?_; rintro e w5 ⟨r5, c5, rfl, hr5, h5⟩; have HR4 := Lib.hid hr5; have HB5 := Lib.hid (HB4.out.trans (h5.mono HB4.out.size)); clear hr5 h5)
    | (go_at_call 7; refine KA.out.mono ?_; rintro e w4 ⟨rfl, h4⟩; have HB4 := Lib.hid h4; clear h4))
  go_ret
  exact ⟨rfl, HB7.out⟩
theorem ex12 : splT [116, 111, 32, 49, 50, 59] = ([⟨1, [116, 111], 0, 0, 0⟩, ⟨2, [49, 50], 12, 0, 3⟩, ⟨5, [59], 0, 0, 5⟩, ⟨0, [], 0, 0, 6⟩], 0, 0) := by kernel_rfl
set_option maxHeartbeats 2000000 in
set_option maxRecDepth 100000 in
theorem awake12_any {I : World → Prop} (D : DayC I) (LX : LexC I) (A11 : ∀ w, I w → Calls Tryz.prog 12 #[] w fun e w' => e = .returned (.bool true) ∧ Below w.heap.size w w') (w : World) (hI : I w) :
    Calls Tryz.prog 7 #[] w fun e w' => e = .returned (.bool true) ∧ Below w.heap.size w w' := by
  have K1 := LX.split ⟨#[116, 111, 32, 49, 50, 59]⟩ w hI (by decide)
  rw [show (⟨#[116, 111, 32, 49, 50, 59]⟩ : ByteArray).data.toList = [116, 111, 32, 49, 50, 59] from rfl, ex12] at K1
  have KA := Lib.hid (fun (w' : World) (h : Below w.heap.size w w') => A11 w' (D.stay hI h))
  have KK1 : Hid (Calls Tryz.prog 8 #[.string ⟨#[116, 111, 32, 49, 50, 59]⟩] w fun e w' => ∃ g off c, e = .returned (.tuple #[.slice (some ⟨g, off, none⟩) 4 c, .int .i64 0, .int .i64 0]) ∧ w'.cell? ⟨g, off + 1 * 5 + 2, none⟩ = some (.int .i64 12) ∧ w'.cell? ⟨g, off + 2 * 5 + 1, none⟩ = some (.string ⟨#[59]⟩) ∧ w'.cell? ⟨g, off + 3 * 5, none⟩ = some (.int .i64 0) ∧ Below w.heap.size w w') := Lib.hid (K1.mono (by
    rintro e w' ⟨r, c, rfl, h, hb⟩
    obtain ⟨g, off, hr, _, c1⟩ := h.at (i := 1) rfl
    obtain ⟨g2, off2, hr2, _, c2⟩ := h.at (i := 2) rfl
    obtain ⟨g3, off3, hr3, _, c3⟩ := h.at (i := 3) rfl
    rw [hr] at hr2 hr3
    cases hr2
    cases hr3
    subst hr
    exact ⟨g, off, c, rfl, c1 2 _ rfl, c2 1 _ rfl, c3 0 _ rfl, hb⟩))
  clear K1 D LX A11 hI
  go_enter Tryz.func7, Tryz.ntmps7
  go_wp2_with (first
    | (go_at_call 12; refine (KA.out _ HB1.out).mono ?_; rintro e w2 ⟨rfl, h2⟩; have HB2 := Lib.hid (HB1.out.trans (h2.mono HB1.out.size)); clear h2)
    | (go_at_call 8; refine KK1.out.mono ?_; rintro e w1 ⟨g, off, c, rfl, x1, x2, x3, h1⟩; have HB1 := Lib.hid h1; clear h1))
  go_ret
  exact ⟨rfl, HB2.out⟩
end Go.Proofs.YtafmakhhdinknaaGreatDoor

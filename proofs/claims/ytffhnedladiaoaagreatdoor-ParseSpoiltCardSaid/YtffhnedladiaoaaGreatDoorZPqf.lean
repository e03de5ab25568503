/- Law 14's Parse answers as the developers' does. -/
import Derived.Test.YtffhnedladiaoaaGreatDoorZPqy
import Derived.Test.YtffhnedladiaoaaGreatDoorZPdz
import Derived.Test.YtffhnedladiaoaaGreatDoorZLxy
namespace Go.Proofs.YtffhnedladiaoaaGreatDoor
open Go.RowKit Go.Lib
set_option linter.unusedVariables false
set_option linter.unusedSimpArgs false
theorem Kep.trans {w w' w'' : World} {g Z : Nat} (h : Kep w w' g Z) (k : Kep w' w'' g Z) : Kep w w'' g Z :=
  ⟨k.os.trans h.os, k.tape.trans h.tape, k.output.trans h.output, Nat.le_trans h.size k.size, fun i hi h1 h2 => (k.block i (Nat.lt_of_lt_of_le hi h.size) h1 h2).trans (h.block i hi h1 h2)⟩
theorem OOwn.kep {B g Z : Nat} {w w' : World} {v : Value} {ps : List Om} (h : OOwn B w v ps) (k : Kep w w' g Z) (hg : g < B) (hZ : w.heap.size ≤ Z) : OOwn B w' v ps := by
  have far : ∀ {e : TypeId} {s n : Nat} {u : Value} {xs : List Value}, w.ownsRow B e s u n xs → w'.ownsRow B e s u n xs := fun {e s n u xs} ho =>
    k.owns ho (fun e => by have := (ho.lt _ e).1; omega) (fun e => by have := (ho.lt _ e).2; omega)
  exact ⟨far h.row, fun p hp => ⟨far (h.ops p hp).parts, far (h.ops p hp).starts, (h.ops p hp).few⟩⟩
/-- One op more at the list's end; Q is as it was. -/
theorem outs_more {A B m g : Nat} {w7 : World} {q : Option Addr} {cap : Nat} {ps : List Om} {cs : List Value} {st : St} (hA : A ≤ B) (hlt : g < B) (HM : ps.length = m)
    (HO : OOwn B w7 (.slice q m cap) ps) (HQ : QR B w7 g st) (v5 : Value) (w5 : World)
    (ho : w5.ownsRow B 38 8 v5 (m + 1) (ps.flatMap oc ++ cs)) (hg : (w7.alloc (.cells cs.toArray 38)).grownBy w5 (Value.slice q m cap).ownBlock) :
    QR B w5 g st ∧ Below A w7 w5 ∧ ∀ p, oc p = cs → OpOwn B w7 p → OOwn B w5 v5 (ps ++ [p]) := by
  have hb := (Below.refl w7.heap.size w7).alloc (Nat.le_refl _) (.cells cs.toArray 38)
  have hr := HO.row
  rw [HM] at hr
  have hB := (hb.mono HQ.top).grown hg (Nat.le_trans HQ.top hb.size) (fun Z hZ => by have := (hr.lt Z hZ).1; omega)
  refine ⟨HQ.stay hB, hB.mono hA, ?_⟩
  rintro p rfl hp
  exact OOwn.push (HO.below hb) (hp.below hb) hg (by rw [HM]; exact ho)
def resP : Except (Nat × Int) (List (Opp × Nat)) → List (Opp × Nat) × Nat × Int
  | .error e => ([], e.1, e.2)
  | .ok os => (os, 0, 0)
/-- Where the reading of the ops stands. -/
def LI (B : Nat) (R : Except (Nat × Int) (List (Opp × Nat))) (wr : World) (v : Value) (m : Nat) : St → Prop
  | .ok l => ∃ ps qs, ps.length = m ∧ posP ps qs ∧ OOwn B wr v ps ∧ joinR qs (opsR (100 - m) l) = R
  | .error p => R = .error p
set_option maxRecDepth 100000 in
theorem op_q {B : Nat} {w : World} {g Z : Nat} {l : List Tk} {at_ : Int} {k : Nat} (hk : k < 8) (h : QR B w g (.ok l)) (hz : HBox w Z [.int .i64 (k : Int), .int .u32 0, .int .u32 0, .string ⟨#[]⟩, .slice none 0 0, .slice none 0 0, .int .i32 0, .int .i64 at_] 38) (hB : B ≤ Z) :
    Calls Tryz.prog 40 #[.pointer (some ⟨g, 0, none⟩), .pointer (some ⟨Z, 0, none⟩)] w fun e w' => OpQ B g Z w k at_ l e w' := by
  rcases (by omega : k = 0 ∨ k = 1 ∨ k = 2 ∨ k = 3 ∨ k = 4 ∨ k = 5 ∨ k = 6 ∨ k = 7) with rfl | rfl | rfl | rfl | rfl | rfl | rfl | rfl
  · exact opq_0 h hz hB
  · exact opq_1 h hz hB
  · exact opq_2 h hz hB
  · exact opq_3 h hz hB
  · exact opq_4 h hz hB
  · exact opq_5 h hz hB
  · exact opq_6 h hz hB
  · exact opq_7 h hz hB
/-- Which kind's word has been found among the first so many. -/
def KI2 (l : List Tk) (n : Nat) (K : Int) (st : St) : Prop := (K = -1 ∧ st = .ok l ∧ ∀ j, j < n → isT 1 (wordK j) l = false) ∨ ∃ k, k < n ∧ k < 8 ∧ K = (k : Int) ∧ st = .ok l.tail ∧ kindT l = some k
def NX (R : Except (Nat × Int) (List (Opp × Nat))) (qs : List (Opp × Nat)) (m k a : Nat) (l1 : List Tk) : St → Prop
  | .error p => R = .error p
  | .ok r => ∃ o r1, opR k l1 = .ok (o, r1) ∧ joinR (qs ++ [(o, a)]) (opsR (100 - (m + 1)) r) = R
theorem ops_q {R : Except (Nat × Int) (List (Opp × Nat))} {m k : Nat} {qs : List (Opp × Nat)} {l : List Tk} (hC : joinR qs (opsR (100 - m) l) = R) (h0 : isT 0 [] l = false) (hm : m < 100) (hk : kindT l = some k) :
    NX R qs m k (atT l) l.tail (stOf (aft (needT 5 [59]) (stOf (opR k l.tail)))) := by
  obtain ⟨n, hn⟩ : ∃ n, 100 - m = n + 1 := ⟨99 - m, by omega⟩
  rw [hn] at hC
  cases h1 : opR k l.tail with
  | error p =>
    rw [ops_err h0 (opAll_err hk h1)] at hC
    exact hC.symm
  | ok a =>
    obtain ⟨o, r1⟩ := a
    have ha := opAll_ok hk h1
    show NX R qs m k (atT l) l.tail (stOf (aft (needT 5 [59]) (.ok r1)))
    cases h2 : needT 5 [59] r1 with
    | error p =>
      rw [ops_err2 h0 ha h2] at hC
      simp only [aft, h2, stOf]
      exact hC.symm
    | ok b =>
      obtain ⟨u, l2⟩ := b
      rw [ops_step h0 ha h2] at hC
      simp only [aft, h2, stOf]
      exact ⟨o, r1, h1, by rw [show 100 - (m + 1) = n by omega]; exact hC⟩
set_option maxHeartbeats 8000000 in
set_option maxRecDepth 100000 in
theorem lparse_c {I : World → Prop} (D : DayC I) (s : ByteArray) (w : World) (hI : I w) (hs : s.size ≤ 10000) :
    Calls Tryz.prog 15 #[.string s] w fun e w' => PrsR (prsT s.data.toList) e w w' := by
  have K1 := Lib.hid (lsplit_t D s w hI hs)
  obtain ⟨i0, hi, hz0, hz1, hz2⟩ := info_parts infoOpP
  unfold SplT at K1
  have hsl : s.data.toList.length ≤ 10000 := by simpa using hs
  have HSE := Lib.hid (fun (h : (splT s.data.toList).2.2 = 0) => splT_ends h)
  have HSL := Lib.hid hsl
  obtain ⟨RR, hRR⟩ : ∃ RR, prsT s.data.toList = RR := ⟨_, rfl⟩
  rw [hRR]
  unfold prsT at hRR
  generalize splT s.data.toList = sp at *
  obtain ⟨ts, pl, cd⟩ := sp
  simp only at K1 HSE hRR
  have HRR := Lib.hid hRR
  have hz : decide (65536 < (s.size : Int)) = false := decide_eq_false (by omega)
  clear hRR hsl hI D hs
  go_enter Tryz.func15, Tryz.ntmps15
  go_upto_region 4 with (go_at_call 36; refine K1.out.mono ?_; rintro e w2 ⟨r, cap, rfl, hr, h2⟩; have HB2 := Lib.hid h2; have HR2 := Lib.hid hr; clear h2 hr)
  clear K1
  by_cases h0 : cd = 0
  case neg =>
    have t0 : (cd != 0) = true := by rw [bne_iff_ne]; exact h0
    have hRv := HRR.out
    rw [if_pos h0] at hRv
    subst hRv
    clear h0 HRR HSE
    go_wp2_with fail
    go_ret3
    exact ⟨none, 0, [], rfl, ⟨.inl ⟨none, 0, rfl, rfl⟩, fun p hp => by cases hp⟩, rfl, HB2.out⟩
  subst h0
  obtain ⟨hE, hf⟩ := HSE.out rfl
  obtain ⟨b, off, rfl, hb, hc⟩ := tok_form HR2.out hE
  have hRv := HRR.out
  rw [if_neg (by decide)] at hRv
  obtain ⟨R, hR⟩ : ∃ R, opsR 100 ts = R := ⟨_, rfl⟩
  rw [hR] at hRv
  have HRP : Hid (RR = resP R) := Lib.hid (by rw [← hRv]; cases R <;> rfl)
  obtain ⟨N0, hN0⟩ : ∃ n, ts.length = n := ⟨_, rfl⟩
  have HTB : Hid (TokB (w2.heap.size + 1) (w2.alloc (.cells #[.slice (some ⟨b, off, none⟩) ts.length cap, .int .i64 0, .int .i64 0] 87)) b off cap ts) := Lib.hid ⟨by omega, HR2.out.stay ((Below.refl _ _).alloc (Nat.le_refl _) _), hc, by have := HSL.out; omega, hE⟩
  have HQ : Hid (QR (w2.heap.size + 1) (w2.alloc (.cells #[.slice (some ⟨b, off, none⟩) ts.length cap, .int .i64 0, .int .i64 0] 87)) w2.heap.size (.ok ts)) := Lib.hid ⟨by omega, by simp, b, off, cap, by omega, HBox.new w2 [.slice (some ⟨b, off, none⟩) ts.length cap, .int .i64 0, .int .i64 0] _, HTB.out⟩
  have bn := (Below.refl w2.heap.size w2).alloc (Nat.le_refl _) (.cells #[.slice (some ⟨b, off, none⟩) ts.length cap, .int .i64 0, .int .i64 0] 87)
  have HB4 := Lib.hid (HB2.out.trans (bn.mono HB2.out.size))
  have HGA := Lib.hid HB2.out.size
  have HL0 : Hid (LI (w2.heap.size + 1) R (w2.alloc (.cells #[.slice (some ⟨b, off, none⟩) ts.length cap, .int .i64 0, .int .i64 0] 87)) (.slice none 0 0) 0 (.ok ts)) := Lib.hid ⟨[], [], rfl, rfl, OOwn.nil _ _, by rw [Nat.sub_zero, hR]; cases R <;> rfl⟩
  obtain rfl := HRP.out
  clear hRv hb hc hE hf HTB bn HSE HSL HRR HRP HR2 HB2 hN0 hR
  go_upto_region 7 with fail
  generalize w2.alloc (.cells #[.slice (some ⟨b, off, none⟩) ts.length cap, .int .i64 0, .int .i64 0] 87) = W4 at *
  obtain ⟨B, hB⟩ : ∃ B, w2.heap.size + 1 = B := ⟨_, rfl⟩
  rw [hB] at HQ HL0
  have HGB : Hid (w2.heap.size < B) := Lib.hid (by omega)
  generalize w2.heap.size = g at *
  clear hB
  go_wp2_with fail
  go_loopw [9] (fun s wr => ∃ (m : Nat) (q : Option Addr) (cap : Nat) (st : St), s = .slice q m cap ∧ Hid (m ≤ 100) ∧ Hid (LI B R wr (.slice q m cap) m st) ∧ Hid (Below w.heap.size w wr) ∧ Hid (QR B wr g st)) (fun s _ => 101 - lenV s)
  case atStart => exact ⟨0, none, 0, .ok ts, rfl, Lib.hid (Nat.zero_le _), HL0, HB4, HQ⟩
  case round =>
    clear HL0 HB4 HQ
    obtain ⟨m, q, cap, st, rfl, HM, HLI, HB, HQ⟩ := hrel
    rename World => wr
    cases st with
    | error p =>
      have hR : R = .error p := HLI.out
      subst hR
      clear HLI
      obtain ⟨hp2, qe, ne, ce, he⟩ := HQ.out.box
      have x1 := he.cell (j := 1) rfl
      have x2 := he.cell (j := 2) rfl
      clear he
      have t1 : ((p.2 : Int) != 0) = true := by rw [bne_iff_ne]; exact hp2
      have t2 : ((p.2 : Int) == 0) = false := by rw [beq_eq_false_iff_ne]; exact hp2
      clear hp2
      go_wp2_with fail
      go_region
      go_wp2_with fail
      go_ret3
      exact ⟨none, 0, [], rfl, ⟨.inl ⟨none, 0, rfl, rfl⟩, fun p hp => by cases hp⟩, rfl, HB.out.drew⟩
    | ok l' =>
      obtain ⟨t, r, rfl⟩ := HQ.out.ends.form
      obtain ⟨b2, off2, cap2, hne, hbx, htk⟩ := HQ.out.box
      have c0 := hbx.cell (j := 0) rfl
      have c2 := hbx.cell (j := 2) rfl
      obtain ⟨k0, k1, k2, k3, k4⟩ := tok_cells htk.recs
      have hlc : (t :: r).length ≤ cap2 := htk.cap
      have hl1 : (t :: r).length = r.length + 1 := rfl
      rw [hl1] at c0 hlc
      clear hne hbx htk hl1 k1 k2 k3
      obtain ⟨ps, qs, hpl, hpq, hOW, hC⟩ := HLI.out
      cases hk : isT 0 [] (t :: r) with
      | true =>
        have hk0 : t.kind = 0 := by have := hk; rw [isT_any] at this; simpa using this
        have t3 : ((t.kind : Int) != 0) = false := by rw [hk0]; rfl
        rw [ops_end hk] at hC
        subst hC
        have HOW := Lib.hid hOW
        have HPQ := Lib.hid hpq
        have HPL := Lib.hid hpl
        clear hk hk0 hpl hpq hOW HLI k4
        go_wp2_with fail
        go_ret3
        have hql : qs.length = m := by rw [← HPQ.out.len]; exact HPL.out
        subst hql
        exact ⟨q, cap, ps, rfl, HOW.out.orow (by have := HPL.out; have := HM.out; omega), HPQ.out, HB.out⟩
      | false =>
        have hk0 : t.kind ≠ 0 := by have := hk; rw [isT_any] at this; simpa using this
        have t3 : ((t.kind : Int) != 0) = true := by rw [bne_iff_ne]; omega
        clear hk0
        by_cases h100 : m = 100
        · have h100e : ((m : Int) == 100) = true := by rw [h100]; rfl
          rw [h100, show 100 - 100 = 0 from rfl, ops_full hk] at hC
          subst hC
          have KW := Lib.hid (wrong_q HQ.out (c := 2) (by decide))
          clear h100 hk HLI hpl hpq hOW k4
          go_upto_region 24 with (go_at_call 37; refine KW.out.mono ?_; rintro e w6 ⟨rfl, h6, hq⟩; have HB6 := Lib.hid (HB.out.grown h6 HB.out.size (fun k hk => by cases hk; exact HGA.out)); have HQ6 := Lib.hid (show QR B w6 g (.error (t.at_, 2)) from hq); clear h6 hq)
          clear c0 c2 k0 h100e t3 KW HB HQ
          obtain ⟨hp2, qe, ne, ce, he⟩ := HQ6.out.box
          have x1 := he.cell (j := 1) rfl
          have x2 := he.cell (j := 2) rfl
          clear he
          have t1 : ((((t.at_, 2) : Nat × Int).2 : Int) != 0) = true := by rw [bne_iff_ne]; exact hp2
          have t2 : ((((t.at_, 2) : Nat × Int).2 : Int) == 0) = false := by rw [beq_eq_false_iff_ne]; exact hp2
          clear hp2
          go_wp2_with fail
          go_region
          go_wp2_with fail
          go_ret3
          exact ⟨none, 0, [], rfl, ⟨.inl ⟨none, 0, rfl, rfl⟩, fun p hp => by cases hp⟩, rfl, HB6.out.drew⟩
        · have h100e : ((m : Int) == 100) = false := by rw [beq_eq_false_iff_ne]; omega
          obtain ⟨at_, hat⟩ : ∃ a : Int, (t.at_ : Int) = a := ⟨_, rfl⟩
          rw [hat] at k4
          have HAT := Lib.hid hat
          have HC := Lib.hid hC
          have HOW := Lib.hid hOW
          have HPQ := Lib.hid hpq
          have HPL := Lib.hid hpl
          have HKF := Lib.hid hk
          have HM2 : Hid (m < 100) := Lib.hid (by have := HM.out; omega)
          have hb3 := (Below.refl wr.heap.size wr).alloc (Nat.le_refl _) (.cells #[.int .i64 (-1), .int .u32 0, .int .u32 0, .string ⟨#[]⟩, .slice none 0 0, .slice none 0 0, .int .i32 0, .int .i64 at_] 38)
          have HQ3 := Lib.hid (HQ.out.stay (hb3.mono HQ.out.top))
          have HR3 : Hid (HBox (wr.alloc (.cells #[.int .i64 (-1), .int .u32 0, .int .u32 0, .string ⟨#[]⟩, .slice none 0 0, .slice none 0 0, .int .i32 0, .int .i64 at_] 38)) wr.heap.size [.int .i64 (-1), .int .u32 0, .int .u32 0, .string ⟨#[]⟩, .slice none 0 0, .slice none 0 0, .int .i32 0, .int .i64 at_] 38) := Lib.hid (HBox.new wr [.int .i64 (-1), .int .u32 0, .int .u32 0, .string ⟨#[]⟩, .slice none 0 0, .slice none 0 0, .int .i32 0, .int .i64 at_] _)
          have HB3 := Lib.hid (HB.out.trans (hb3.mono HB.out.size))
          have HZB : Hid (B ≤ wr.heap.size) := Lib.hid HQ.out.top
          have HK3 : Hid (Kep wr (wr.alloc (.cells #[.int .i64 (-1), .int .u32 0, .int .u32 0, .string ⟨#[]⟩, .slice none 0 0, .slice none 0 0, .int .i32 0, .int .i64 at_] 38)) g wr.heap.size) := Lib.hid (Kep.step (Kep.refl wr g _) (grown_below' hb3 none) (fun Y e => by cases e))
          have HZ1 : Hid (wr.heap.size ≤ wr.heap.size) := Lib.hid (Nat.le_refl _)
          have HW3 : Hid (QW B wr.heap.size g (wr.alloc (.cells #[.int .i64 (-1), .int .u32 0, .int .u32 0, .string ⟨#[]⟩, .slice none 0 0, .slice none 0 0, .int .i32 0, .int .i64 at_] 38)) (wr.alloc (.cells #[.int .i64 (-1), .int .u32 0, .int .u32 0, .string ⟨#[]⟩, .slice none 0 0, .slice none 0 0, .int .i32 0, .int .i64 at_] 38)) (.ok (t :: r)) [.int .i64 (-1), .int .u32 0, .int .u32 0, .string ⟨#[]⟩, .slice none 0 0, .slice none 0 0, .int .i32 0, .int .i64 at_]) := Lib.hid ⟨⟨HQ.out.lt, HZB.out⟩, HR3.out, Kep.refl _ _ _, HQ3.out⟩
          clear hat hC hpl hpq hOW hk HLI hb3 h100 HQ3 HR3 HM HB HQ
          go_upto_region 12 with fail
          generalize wr.alloc (.cells #[.int .i64 (-1), .int .u32 0, .int .u32 0, .string ⟨#[]⟩, .slice none 0 0, .slice none 0 0, .int .i32 0, .int .i64 at_] 38) = W3 at *
          obtain ⟨Z, hZ⟩ : ∃ z, wr.heap.size = z := ⟨_, rfl⟩
          rw [hZ] at HZB HK3 HW3
          have HZ1 : Hid (wr.heap.size ≤ Z) := Lib.hid (Nat.le_of_eq hZ)
          rw [hZ]
          clear hZ c0 c2 k0 k4 t3 h100e
          go_wp2_with fail
          have hb4 := (Below.refl W3.heap.size W3).alloc (Nat.le_refl _) (.cells #[.string ⟨#[114, 101, 110, 117, 109, 98, 101, 114]⟩, .string ⟨#[114, 101, 110, 97, 109, 101]⟩, .string ⟨#[114, 101, 112, 97, 114, 101, 110, 116]⟩, .string ⟨#[109, 101, 114, 103, 101]⟩, .string ⟨#[115, 112, 108, 105, 116]⟩, .string ⟨#[114, 101, 99, 111, 100, 101]⟩, .string ⟨#[106, 111, 105, 110]⟩, .string ⟨#[99, 97, 108, 101, 110, 100, 97, 114]⟩] 9)
          have HW4 := Lib.hid (HW3.out.row (grown_below' hb4 none) (fun Y e => by cases e))
          have HF4 : Hid (HBox (W3.alloc (.cells #[.string ⟨#[114, 101, 110, 117, 109, 98, 101, 114]⟩, .string ⟨#[114, 101, 110, 97, 109, 101]⟩, .string ⟨#[114, 101, 112, 97, 114, 101, 110, 116]⟩, .string ⟨#[109, 101, 114, 103, 101]⟩, .string ⟨#[115, 112, 108, 105, 116]⟩, .string ⟨#[114, 101, 99, 111, 100, 101]⟩, .string ⟨#[106, 111, 105, 110]⟩, .string ⟨#[99, 97, 108, 101, 110, 100, 97, 114]⟩] 9)) W3.heap.size [.string ⟨#[114, 101, 110, 117, 109, 98, 101, 114]⟩, .string ⟨#[114, 101, 110, 97, 109, 101]⟩, .string ⟨#[114, 101, 112, 97, 114, 101, 110, 116]⟩, .string ⟨#[109, 101, 114, 103, 101]⟩, .string ⟨#[115, 112, 108, 105, 116]⟩, .string ⟨#[114, 101, 99, 111, 100, 101]⟩, .string ⟨#[106, 111, 105, 110]⟩, .string ⟨#[99, 97, 108, 101, 110, 100, 97, 114]⟩] 9) := Lib.hid (HBox.new W3 [.string ⟨#[114, 101, 110, 117, 109, 98, 101, 114]⟩, .string ⟨#[114, 101, 110, 97, 109, 101]⟩, .string ⟨#[114, 101, 112, 97, 114, 101, 110, 116]⟩, .string ⟨#[109, 101, 114, 103, 101]⟩, .string ⟨#[115, 112, 108, 105, 116]⟩, .string ⟨#[114, 101, 99, 111, 100, 101]⟩, .string ⟨#[106, 111, 105, 110]⟩, .string ⟨#[99, 97, 108, 101, 110, 100, 97, 114]⟩] _)
          have HZF : Hid (Z < W3.heap.size) := Lib.hid HW3.out.box.size
          generalize W3.alloc (.cells #[.string ⟨#[114, 101, 110, 117, 109, 98, 101, 114]⟩, .string ⟨#[114, 101, 110, 97, 109, 101]⟩, .string ⟨#[114, 101, 112, 97, 114, 101, 110, 116]⟩, .string ⟨#[109, 101, 114, 103, 101]⟩, .string ⟨#[115, 112, 108, 105, 116]⟩, .string ⟨#[114, 101, 99, 111, 100, 101]⟩, .string ⟨#[106, 111, 105, 110]⟩, .string ⟨#[99, 97, 108, 101, 110, 100, 97, 114]⟩] 9) = W4 at *
          generalize W3.heap.size = F at *
          clear hb4 HW3
          go_loopw [59] (fun i wi => ∃ (n : Nat) (K : Int) (st : St), i = .int .i64 (n : Int) ∧ n ≤ 8 ∧ Hid (KI2 (t :: r) n K st) ∧ Hid (QW B Z g W3 wi st [.int .i64 K, .int .u32 0, .int .u32 0, .string ⟨#[]⟩, .slice none 0 0, .slice none 0 0, .int .i32 0, .int .i64 at_]) ∧ Hid (HBox wi F [.string ⟨#[114, 101, 110, 117, 109, 98, 101, 114]⟩, .string ⟨#[114, 101, 110, 97, 109, 101]⟩, .string ⟨#[114, 101, 112, 97, 114, 101, 110, 116]⟩, .string ⟨#[109, 101, 114, 103, 101]⟩, .string ⟨#[115, 112, 108, 105, 116]⟩, .string ⟨#[114, 101, 99, 111, 100, 101]⟩, .string ⟨#[106, 111, 105, 110]⟩, .string ⟨#[99, 97, 108, 101, 110, 100, 97, 114]⟩] 9)) (fun i _ => 8 - (RowKit.intOf i).toNat)
          case atStart => exact ⟨0, -1, .ok (t :: r), rfl, Nat.zero_le _, Lib.hid (.inl ⟨rfl, rfl, fun j hj => absurd hj (Nat.not_lt_zero _)⟩), HW4, HF4⟩
          case round =>
            clear HW4 HF4
            obtain ⟨n, K, st, rfl, hn8, HKI, HWI, HFI⟩ := hrel
            rename World => wi
            have j0 := HWI.out.box.cell (j := 0) rfl
            by_cases h8 : n < 8
            · have t8 : decide ((n : Int) < 8) = true := decide_eq_true (by omega)
              have cw : wi.cell? ⟨F, n, none⟩ = some (.string ⟨(wordK n).toArray⟩) := HFI.out.cell (j := n) (by rcases (by omega : n = 0 ∨ n = 1 ∨ n = 2 ∨ n = 3 ∨ n = 4 ∨ n = 5 ∨ n = 6 ∨ n = 7) with rfl | rfl | rfl | rfl | rfl | rfl | rfl | rfl <;> rfl)
              have hK := HKI.out
              clear HKI
              rcases hK with ⟨rfl, rfl, hN⟩ | ⟨k, hkn, hk8, rfl, rfl, hkT⟩
              · have KI := is_q HWI.out.qr 1 (wordK n)
                have eI : isQ 1 (wordK n) (.ok (t :: r)) = isT 1 (wordK n) (t :: r) := rfl
                rw [eI] at KI
                cases hw : isT 1 (wordK n) (t :: r) with
                | true =>
                  rw [hw] at KI
                  have KI := Lib.hid KI
                  have KT := fun w' (hq : QR B w' g (.ok (t :: r))) => need_q hq (k := 1) (by decide) (wordK n)
                  rw [show aft (needT 1 (wordK n)) (.ok (t :: r)) = .ok (t, r) from needT_of hw] at KT
                  change ∀ w', _ → Calls _ _ _ w' fun e w2 => e = .returned (tokV t) ∧ w'.grownBy w2 (some g) ∧ QR B w2 g (.ok r) at KT
                  unfold tokV at KT
                  have KT := Lib.hid KT
                  have HKN : Hid (KI2 (t :: r) (n + 1) (n : Int) (.ok r)) := Lib.hid (.inr ⟨n, by omega, h8, rfl, rfl, kind_at h8 hw hN⟩)
                  have j9 := HWI.out.box.size
                  have jf := HWI.out.box.frozen 0
                  obtain ⟨wd, hwd⟩ : ∃ x, wordK n = x := ⟨_, rfl⟩
                  rw [hwd] at cw KI KT
                  clear eI hw hN hwd
                  go_upto_region 17 with (go_at_call 38; refine KI.out.mono ?_; rintro e wD ⟨rfl, hD⟩; obtain rfl : wi = wD := hD.symm)
                  have HWS : Hid (QW B Z g W3 (wi.setCell ⟨Z, 0, none⟩ (.int .i64 (n : Int))) (.ok (t :: r)) [.int .i64 (n : Int), .int .u32 0, .int .u32 0, .string ⟨#[]⟩, .slice none 0 0, .slice none 0 0, .int .i32 0, .int .i64 at_]) := Lib.hid (HWI.out.set 0 _)
                  have HFS := Lib.hid (HFI.out.grown (grown_set wi Z 0 (.int .i64 (n : Int))) (fun e => by have := Option.some.inj e; have := HZF.out; omega))
                  generalize wi.setCell ⟨Z, 0, none⟩ (.int .i64 (n : Int)) = wS at *
                  clear HWI HFI j0 j9 jf cw KI
                  go_wp2_with (go_at_call 39; refine (KT.out _ HWS.out.qr).mono ?_; rintro e wU ⟨rfl, h6, hq⟩; have HWU := Lib.hid (HWS.out.call h6 hq); have HFU := Lib.hid (HFS.out.grown h6 (fun e => by have := Option.some.inj e; have := HZF.out; have := HWS.out.lt; omega)); clear h6 hq)
                  go_roundw
                  case rel => exact ⟨n + 1, (n : Int), .ok r, rfl, by omega, HKN, HWU, HFU⟩
                  case measure => simp [RowKit.intOf]; omega
                | false =>
                  rw [hw] at KI
                  have KI := Lib.hid KI
                  have HKN : Hid (KI2 (t :: r) (n + 1) (-1) (.ok (t :: r))) := Lib.hid (.inl ⟨rfl, rfl, fun j hj => by rcases (by omega : j < n ∨ j = n) with h | rfl; exact hN j h; exact hw⟩)
                  obtain ⟨wd, hwd⟩ : ∃ x, wordK n = x := ⟨_, rfl⟩
                  rw [hwd] at cw KI
                  clear eI hw hN hwd
                  go_wp2_with (go_at_call 38; refine KI.out.mono ?_; rintro e wD ⟨rfl, hD⟩; obtain rfl : wi = wD := hD.symm)
                  go_roundw
                  case rel => exact ⟨n + 1, -1, .ok (t :: r), rfl, by omega, HKN, HWI, HFI⟩
                  case measure => simp [RowKit.intOf]; omega
              · have HKN : Hid (KI2 (t :: r) (n + 1) (k : Int) (.ok (t :: r).tail)) := Lib.hid (.inr ⟨k, by omega, hk8, rfl, rfl, hkT⟩)
                have t9 : decide ((k : Int) < 0) = false := decide_eq_false (by omega)
                clear hkT
                go_wp2_with fail
                go_roundw
                case rel => exact ⟨n + 1, (k : Int), .ok (t :: r).tail, rfl, by omega, HKN, HWI, HFI⟩
                case measure => simp [RowKit.intOf]; omega
            · obtain rfl : n = 8 := by omega
              have hK := HKI.out
              clear HKI HFI h8 hn8
              rcases hK with ⟨rfl, rfl, hN⟩ | ⟨k, hkn, hk8, rfl, rfl, hkT⟩
              · have hR : R = .error (t.at_, 17) := by
                  have h := HC.out
                  obtain ⟨n, hn⟩ : ∃ n, 100 - m = n + 1 := ⟨99 - m, by have := HM2.out; omega⟩
                  rw [hn, ops_err HKF.out (show opAll (t :: r) = .error (t.at_, 17) by unfold opAll; rw [kind_not hN]; rfl)] at h
                  exact h.symm
                subst hR
                have KW := Lib.hid (wrong_q HWI.out.qr (c := 17) (by decide))
                clear hN HC
                go_upto_region 24 with (go_at_call 37; refine KW.out.mono ?_; rintro e w6 ⟨rfl, h6, hq⟩; have HB6 := Lib.hid ((HB3.out.trans (HWI.out.kept.below HGA.out (Nat.le_trans (by have := HGA.out; have := HGB.out; omega) HZB.out) HB3.out.size)).grown h6 (Nat.le_trans HB3.out.size HWI.out.kept.size) (fun k hk => by cases hk; exact HGA.out)); have HQ6 := Lib.hid (show QR B w6 g (.error (t.at_, 17)) from hq); clear h6 hq)
                clear j0 KW HWI HB3
                obtain ⟨hp2, qe, ne, ce, he⟩ := HQ6.out.box
                have x1 := he.cell (j := 1) rfl
                have x2 := he.cell (j := 2) rfl
                clear he
                have t1 : ((((t.at_, 17) : Nat × Int).2 : Int) != 0) = true := by rw [bne_iff_ne]; exact hp2
                have t2 : ((((t.at_, 17) : Nat × Int).2 : Int) == 0) = false := by rw [beq_eq_false_iff_ne]; exact hp2
                clear hp2
                go_wp2_with fail
                go_region
                go_wp2_with fail
                go_ret3
                exact ⟨none, 0, [], rfl, ⟨.inl ⟨none, 0, rfl, rfl⟩, fun p hp => by cases hp⟩, rfl, HB6.out.drew⟩
              · have t9 : decide ((k : Int) < 0) = false := decide_eq_false (by omega)
                have hop := ops_q HC.out HKF.out HM2.out hkT
                obtain ⟨l1, hl1⟩ : ∃ x, (t :: r).tail = x := ⟨_, rfl⟩
                rw [hl1] at hop HWI
                have KO := op_q hk8 HWI.out.qr HWI.out.box HWI.out.lt.2
                unfold OpQ at KO
                obtain ⟨s6, hs6⟩ : ∃ x, stOf (opR k l1) = x := ⟨_, rfl⟩
                obtain ⟨x7, hx7⟩ : ∃ x, aft (needT 5 [59]) s6 = x := ⟨_, rfl⟩
                obtain ⟨s7, hs7⟩ : ∃ x, stOf x7 = x := ⟨_, rfl⟩
                rw [hs6] at KO
                rw [hs6, hx7, hs7] at hop
                have KM := fun w' (hq : QR B w' g s6) => need_q hq (k := 5) (by decide) [59]
                rw [hx7, hs7] at KM
                obtain ⟨t7, ht7⟩ : ∃ x, valT x7 = x := ⟨_, rfl⟩
                rw [ht7] at KM
                unfold tokV at KM
                have KO := Lib.hid KO
                have KM := Lib.hid KM
                have HOPS := Lib.hid hop
                clear hop hkT hl1 hs6 hx7 hs7 ht7 HC HKF
                go_upto_region 22 with (go_at_call 40; refine KO.out.mono ?_; rintro e w6 ⟨rfl, hk6, hq6, k', fr, tg, nm, rP, nP, cP, rS, nS, cS, en, hb6, ha6⟩; have HK6 := Lib.hid hk6; have HQ6 := Lib.hid hq6; have HB6 := Lib.hid hb6; have HA6 := Lib.hid ha6; clear hk6 hq6 hb6 ha6)
                clear KO j0
                go_upto_region 23 with (go_at_call 39; refine (KM.out _ HQ6.out).mono ?_; rintro e w8 ⟨rfl, h8, hq8⟩; have HG8 := Lib.hid h8; have HQ8 := Lib.hid hq8; clear h8 hq8)
                clear KM
                have hgZ : Z ≠ g := by have := HWI.out.lt; omega
                have HB8 := Lib.hid (HB6.out.grown HG8.out (fun e => hgZ (Option.some.inj e)))
                have HK8 := Lib.hid (HWI.out.kept.trans (HK6.out.step HG8.out (fun Y e => .inl (Option.some.inj e).symm)))
                have HO8 := Lib.hid (HOW.out.kep (HK3.out.trans HK8.out) HGB.out HZ1.out)
                have HL8 := Lib.hid (HB3.out.trans (HK8.out.below HGA.out (Nat.le_trans (by have := HGA.out; have := HGB.out; omega) HZB.out) HB3.out.size))
                have HBi : Hid (B ≤ wi.heap.size) := Lib.hid HWI.out.qr.top
                have HA8 : Hid (∀ o r1, opR k l1 = .ok (o, r1) → k' = (o.kind : Int) ∧ fr = o.frm ∧ tg = o.to ∧ nm = o.name ∧ en = o.en ∧ nP = o.parts.length ∧ nS = o.starts.length ∧ OpOwn B w8 ⟨o, at_, .slice rP nP cP, .slice rS nS cS⟩) := Lib.hid (fun o r1 ho => by
                  obtain ⟨a1, a2, a3, a4, a5, a6, a7, a8⟩ := HA6.out o r1 ho
                  exact ⟨a1, a2, a3, a4, a5, a6, a7, (a8.keptG HG8.out (by have := HGB.out; have := HBi.out; omega)).mono HBi.out⟩)
                have HRW8 : Hid (w8.ownsRow B 38 8 (.slice q m cap) m (ps.flatMap oc)) := Lib.hid (by have h := HO8.out.row; rw [HPL.out] at h; exact h)
                have hB8 : B ≤ w8.heap.size := HQ8.out.top
                have HE8 := Lib.hid (outs_more (A := w.heap.size) (cs := [.int .i64 k', .int .u32 (fr : Int), .int .u32 (tg : Int), .string ⟨nm.toArray⟩, .slice rP nP cP, .slice rS nS cS, .int .i32 en, .int .i64 at_]) (by have := HGA.out; have := HGB.out; omega) HGB.out HPL.out HO8.out HQ8.out)
                have y0 := HB8.out.cell (j := 0) rfl
                have y1 := HB8.out.cell (j := 1) rfl
                have y2 := HB8.out.cell (j := 2) rfl
                have y3 := HB8.out.cell (j := 3) rfl
                have y4 := HB8.out.cell (j := 4) rfl
                have y5 := HB8.out.cell (j := 5) rfl
                have y6 := HB8.out.cell (j := 6) rfl
                have y7 := HB8.out.cell (j := 7) rfl
                have hm2 : m < 100 := HM2.out
                clear HWI HK6 HQ6 HB6 HA6 HG8 HK8 HB3 HK3 HO8 hgZ
                go_wp2_with (at_builtin; refine wpList_append_own_at _ rfl (.tmp 87) (.tmp 89) 24 rfl B 38 i0 _ 8 96 Tryz.underlying24 hi hz0 hz1 hz2 rfl (by decide) _ m _ rfl (HRW8.out.alloc _) ⟨_, 0, none⟩ 1 1 [.int .i64 k', .int .u32 (fr : Int), .int .u32 (tg : Int), .string ⟨nm.toArray⟩, .slice rP nP cP, .slice rS nS cS, .int .i32 en, .int .i64 at_] rfl rfl (cells_new _ [.int .i64 k', .int .u32 (fr : Int), .int .u32 (tg : Int), .string ⟨nm.toArray⟩, .slice rP nP cP, .slice rS nS cS, .int .i32 en, .int .i64 at_] _) (fun v hv => by simp at hv; rcases hv with rfl | rfl | rfl | rfl | rfl | rfl | rfl | rfl <;> rfl) (by unfold maxLen; omega) (by omega) (by simp; omega) ?_; intro v5 w5 hown5 hgrow5 _ hat5; have hEx := HE8.out v5 w5 hown5 hgrow5; obtain ⟨q5, cap5, rfl⟩ := owns_form hown5; have HX8 := Lib.hid hEx; clear hown5 hgrow5 hat5 hEx)
                have HLI2 : Hid (LI B R w5 (.slice q5 (m + 1) cap5) (m + 1) s7) := Lib.hid (by
                  have h := HOPS.out
                  cases s7 with
                  | error p => exact h
                  | ok r2 =>
                    obtain ⟨o, r1, ho, hj⟩ := h
                    obtain ⟨rfl, rfl, rfl, rfl, rfl, a6, a7, a8⟩ := HA8.out o r1 ho
                    have hps := HPL.out
                    have hp := HPQ.out.snoc (o, t.at_) (.slice rP nP cP) (.slice rS nS cS)
                    rw [HAT.out] at hp
                    exact ⟨_, _, by simp [hps], hp, HX8.out.2.2 _ rfl a8, hj⟩)
                go_roundw
                case rel => exact ⟨m + 1, q5, cap5, s7, rfl, Lib.hid (by omega), HLI2, Lib.hid (HL8.out.trans (HX8.out.2.1.mono (Nat.le_refl _))), Lib.hid HX8.out.1⟩
                case measure => simp only [lenV]; omega
end Go.Proofs.YtffhnedladiaoaaGreatDoor

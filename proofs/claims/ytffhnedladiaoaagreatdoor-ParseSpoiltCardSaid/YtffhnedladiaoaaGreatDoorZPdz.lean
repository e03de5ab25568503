/- Package parse: the reader's op and ops. -/
import Derived.Test.YtffhnedladiaoaaGreatDoorZPdy
import Derived.Recover
import Derived.BigRegion
import Derived.Test.YtffhnedladiaoaaGreatDoorZLxx
import Derived.Test.YtffhnedladiaoaaGreatDoorZEwz
namespace Go.Proofs.YtffhnedladiaoaaGreatDoor
open Go.RowKit Go.Lib
set_option linter.unusedVariables false
set_option linter.unusedSimpArgs false
set_option maxHeartbeats 4000000 in
set_option maxRecDepth 100000 in
theorem op_none {B : Nat} {w w0 : World} {g : Nat} {l : List Tk} (h : PR B w g l) (hI : InS w0) (hb : Below w0.heap.size w0 w) (hg : w0.heap.size ≤ g) (hk : kindT l = none) :
    Calls Tryz.prog 57 #[.pointer (some ⟨g, 0, none⟩)] w fun e w' => GotR B g w (OpV w.heap.size) (opAll l) e w' := by
  have KN := Lib.hid (fun w' (hp : PR B w' g l) => next_at hp)
  have KK := Lib.hid (fun w' (hG : w.grownBy w' (some g)) (hp : PR B w' g l) => kind_p hp hI (env_step hb hg hG) hg)
  rw [hk] at KK
  simp only at KK
  unfold faultE at KK
  rw [opAll_none hk]
  have f4 := fun (a b c d e : Value) (w : World) => field_tk4 a b c d e w
  have HH := Lib.hid h
  have b1 := (Below.refl w.heap.size w).alloc (Nat.le_refl _) (.cells #[.int .i64 0, .int .u32 0, .int .u32 0, .string ⟨#[]⟩, .slice none 0 0, .slice none 0 0, .int .i32 0, .int .i64 0] 38)
  have r1 := HBox.new w z8 38
  change HBox (w.alloc (.cells #[.int .i64 0, .int .u32 0, .int .u32 0, .string ⟨#[]⟩, .slice none 0 0, .slice none 0 0, .int .i32 0, .int .i64 0] 38)) _ _ _ at r1
  clear h hI hb hk
  go_enter Tryz.func57, Tryz.ntmps57
  go_upto_region 1 with fail
  generalize w.alloc (.cells #[.int .i64 0, .int .u32 0, .int .u32 0, .string ⟨#[]⟩, .slice none 0 0, .slice none 0 0, .int .i32 0, .int .i64 0] 38) = W1 at *
  have HB1 := Lib.hid b1
  have HR1 := Lib.hid r1
  clear b1 r1
  go_upto_region 2 with (go_at_call 55; refine (KN.out _ (HH.out.stay (HB1.out.mono HH.out.top))).mono ?_; rintro e w2 ⟨⟨na, nb, nc, nd, rfl⟩, h2⟩; have HB2 := Lib.hid h2; clear h2)
  have HW3 : Hid (OpW B w.heap.size w2.heap.size g w (w2.alloc (.cells #[.int .i64 0, .int .u32 0, .int .u32 0, .string ⟨#[]⟩, .slice none 0 0, .slice none 0 0, .int .i32 0, .int .i64 (atT l : Int)] 38)) l [.int .i64 0, .int .u32 0, .int .u32 0, .string ⟨#[]⟩, .slice none 0 0, .slice none 0 0, .int .i32 0, .int .i64 (atT l : Int)]) := Lib.hid (OpW.new (cs := [.int .i64 0, .int .u32 0, .int .u32 0, .string ⟨#[]⟩, .slice none 0 0, .slice none 0 0, .int .i32 0, .int .i64 (atT l : Int)]) HH.out.lt HH.out.top HB1.out HR1.out HB2.out HH.out)
  generalize w2.alloc (.cells #[.int .i64 0, .int .u32 0, .int .u32 0, .string ⟨#[]⟩, .slice none 0 0, .slice none 0 0, .int .i32 0, .int .i64 (atT l : Int)] 38) = W3 at *
  go_wp2_with (go_at_call 87; refine (KK.out _ HW3.out.grown HW3.out.pr).mono ?_; rintro e w4 ⟨h4, rfl⟩; have HG4 := Lib.hid (grown_trans' HW3.out.grown h4); clear h4)
  exact ⟨rfl, HG4.out, rfl⟩
theorem op_p {B : Nat} {w w0 : World} {g : Nat} {l : List Tk} (h : PR B w g l) (hI : InS w0) (hb : Below w0.heap.size w0 w) (hg : w0.heap.size ≤ g) :
    Calls Tryz.prog 57 #[.pointer (some ⟨g, 0, none⟩)] w fun e w' => GotR B g w (OpV w.heap.size) (opAll l) e w' := by
  cases hk : kindT l with
  | none => exact op_none h hI hb hg hk
  | some k =>
    by_cases h1 : k = 1
    · subst h1; exact op_1 h hI hb hg hk
    by_cases h4 : k = 4
    · subst h4; exact op_4 h hI hb hg hk
    by_cases h7 : k = 7
    · subst h7; exact op_7 h hI hb hg hk
    exact op_d h hI hb hg hk h1 h4 h7
/-- Ops that are read, and what comes of the rest. -/
def joinR (os : List (Opp × Nat)) : Except (Nat × Int) (List (Opp × Nat)) → Except (Nat × Int) (List (Opp × Nat))
  | .error e => .error e
  | .ok us => .ok (os ++ us)
theorem ops_end {os : List (Opp × Nat)} {n : Nat} {l : List Tk} (h : isT 0 [] l = true) : joinR os (opsR n l) = .ok os := by
  have : opsR n l = .ok [] := by cases n <;> (unfold opsR; rw [if_pos h])
  rw [this]; simp [joinR]
theorem ops_full {os : List (Opp × Nat)} {l : List Tk} (h : isT 0 [] l = false) : joinR os (opsR 0 l) = .error (atT l, 2) := by
  unfold opsR; rw [if_neg (by rw [h]; decide)]; rfl
theorem ops_err {os : List (Opp × Nat)} {n : Nat} {l : List Tk} {e : Nat × Int} (h : isT 0 [] l = false) (ha : opAll l = .error e) : joinR os (opsR (n + 1) l) = .error e := by
  unfold opsR
  rw [if_neg (by rw [h]; decide)]
  unfold opAll at ha
  cases hk : kindT l with
  | none => rw [hk] at ha; cases ha; rfl
  | some k =>
    rw [hk] at ha
    simp only at ha
    cases ho : opR k l.tail with
    | error p => rw [ho] at ha; cases ha; simp only [thenR, ho]; rfl
    | ok a => rw [ho] at ha; cases ha
theorem ops_err2 {os : List (Opp × Nat)} {n : Nat} {l r : List Tk} {p : Opp × Nat} {e : Nat × Int} (h : isT 0 [] l = false) (ha : opAll l = .ok (p, r)) (hn : needT 5 [59] r = .error e) : joinR os (opsR (n + 1) l) = .error e := by
  unfold opsR
  rw [if_neg (by rw [h]; decide)]
  unfold opAll at ha
  cases hk : kindT l with
  | none => rw [hk] at ha; cases ha
  | some k =>
    rw [hk] at ha
    simp only at ha
    cases ho : opR k l.tail with
    | error p => rw [ho] at ha; cases ha
    | ok a => rw [ho] at ha; cases ha; simp only [thenR, ho, hn]; rfl
theorem ops_step {os : List (Opp × Nat)} {n : Nat} {l r q : List Tk} {p : Opp × Nat} {t : Tk} (h : isT 0 [] l = false) (ha : opAll l = .ok (p, r)) (hn : needT 5 [59] r = .ok (t, q)) : joinR os (opsR (n + 1) l) = joinR (os ++ [p]) (opsR n q) := by
  conv => lhs; unfold opsR
  rw [if_neg (by rw [h]; decide)]
  unfold opAll at ha
  cases hk : kindT l with
  | none => rw [hk] at ha; cases ha
  | some k =>
    rw [hk] at ha
    simp only at ha
    cases ho : opR k l.tail with
    | error p => rw [ho] at ha; cases ha
    | ok a =>
      rw [ho] at ha
      cases ha
      simp only [thenR, ho, hn, backR]
      cases opsR n q with
      | error e => rfl
      | ok us => simp [joinR]
theorem OOwn.keptG {base g : Nat} {w w' : World} {v : Value} {ps : List Om} (h : OOwn base w v ps) (hG : w.grownBy w' (some g)) (hg : g < base) : OOwn base w' v ps := by
  have far : ∀ {e : TypeId} {s n : Nat} {u : Value} {xs : List Value}, w.ownsRow base e s u n xs → w'.ownsRow base e s u n xs := fun {e s n u xs} ho => by
    obtain ⟨r, c, rfl⟩ := owns_form ho
    exact ho.kept hG (.inr (owns_far ho (m := g) (.inl hg)))
  exact ⟨far h.row, fun p hp => ⟨far (h.ops p hp).parts, far (h.ops p hp).starts, (h.ops p hp).few⟩⟩
theorem OpOwn.keptG {base g : Nat} {w w' : World} {p : Om} (h : OpOwn base w p) (hG : w.grownBy w' (some g)) (hg : g < base) : OpOwn base w' p := by
  have far : ∀ {e : TypeId} {s n : Nat} {u : Value} {xs : List Value}, w.ownsRow base e s u n xs → w'.ownsRow base e s u n xs := fun {e s n u xs} ho => by
    obtain ⟨r, c, rfl⟩ := owns_form ho
    exact ho.kept hG (.inr (owns_far ho (m := g) (.inl hg)))
  exact ⟨far h.parts, far h.starts, h.few⟩
theorem infoOpP : (Tryz.prog.info? 38).map (fun i => (i.zero, i.size, i.bytes)) = some (some (.agg #[.int .i64 0, .int .u32 0, .int .u32 0, .string ⟨#[]⟩, .slice none 0 0, .slice none 0 0, .int .i32 0, .int .i64 0]), 8, 96) := by kernel_rfl
/-- Ops in memory, as they were read. -/
def posP (ps : List Om) (qs : List (Opp × Nat)) : Prop := ps.map (fun p => (p.o, p.pos)) = qs.map (fun a => (a.1, (a.2 : Int)))
theorem posP.len {ps : List Om} {qs : List (Opp × Nat)} (h : posP ps qs) : ps.length = qs.length := by have := congrArg List.length h; simpa using this
theorem posP.snoc {ps : List Om} {qs : List (Opp × Nat)} (h : posP ps qs) (a : Opp × Nat) (vP vS : Value) : posP (ps ++ [⟨a.1, (a.2 : Int), vP, vS⟩]) (qs ++ [a]) := by
  unfold posP at h ⊢
  rw [List.map_append, List.map_append, h]; rfl
end Go.Proofs.YtffhnedladiaoaaGreatDoor
/- Package parse: all ops. -/
namespace Go.Proofs.YtffhnedladiaoaaGreatDoor
open Go.RowKit Go.Lib
set_option linter.unusedVariables false
set_option linter.unusedSimpArgs false
theorem ops_more {B X m g : Nat} {w w7 : World} {q : Option Addr} {cap : Nat} {ps : List Om} {p : Om} {r : List Tk} (HX : Hid (w.heap.size = X)) (hlt : g < B) (hB : B ≤ X) (HM : Hid (ps.length = m))
    (HO : OOwn X w7 (.slice q m cap) ps) (hp : OpOwn X w7 p) (HG : w.grownBy w7 (some g)) (HP : PR B w7 g r) (v5 : Value) (w5 : World)
    (ho : w5.ownsRow X 38 8 v5 (m + 1) (ps.flatMap oc ++ oc p)) (hg : (w7.alloc (.cells (oc p).toArray 38)).grownBy w5 (Value.slice q m cap).ownBlock) :
    OOwn X w5 v5 (ps ++ [p]) ∧ w.grownBy w5 (some g) ∧ PR B w5 g r := by
  have hXw : X ≤ w7.heap.size := by have := HG.size; have := HX.out; omega
  have hb := (Below.refl w7.heap.size w7).alloc (Nat.le_refl _) (.cells (oc p).toArray 38)
  have hr := HO.row
  rw [HM.out] at hr
  refine ⟨?_, ?_, ?_⟩
  · exact OOwn.push (HO.below hb) (hp.below hb) hg (by rw [HM.out]; exact ho)
  · exact grown_row (grown_trans' HG (grown_below' hb (some g))) hg (fun Z hZ => by have := (hr.lt Z hZ).1; have := HX.out; omega)
  · exact HP.stay ((hb.mono HP.top).grown hg (Nat.le_trans HP.top hb.size) (fun Z hZ => by have := (hr.lt Z hZ).1; omega))
theorem next_kind {B : Nat} {w : World} {g : Nat} {l : List Tk} (h : PR B w g l) : Calls Tryz.prog 55 #[.pointer (some ⟨g, 0, none⟩)] w fun e w2 => (∃ k b c d f, e = .returned (.agg #[.int .i64 k, b, c, d, f]) ∧ (k != 0) = !(isT 0 [] l)) ∧ Below w.heap.size w w2 := by
  obtain ⟨t, r, rfl⟩ := h.ends.form
  refine (next_p h).mono (fun e w2 ⟨h1, h2⟩ => ⟨⟨_, _, _, _, _, h1, ?_⟩, h2⟩)
  rw [isT_any]
  cases hk : t.kind with
  | zero => rfl
  | succ n =>
    have a : (((n + 1 : Nat) : Int) != 0) = true := by rw [bne_iff_ne]; omega
    have b : ((n + 1 : Nat) == 0) = false := by rw [beq_eq_false_iff_ne]; omega
    rw [a, b]; rfl
/-- What all of it answers. -/
def OpsG (X g : Nat) (w : World) (x : Except (Nat × Int) (List (Opp × Nat))) (e : Ending) (w' : World) : Prop := w.grownBy w' (some g) ∧ match x with
  | .ok qs => ∃ q cap ps, e = .returned (.slice q qs.length cap) ∧ OOwn X w' (.slice q qs.length cap) ps ∧ posP ps qs ∧ qs.length ≤ 100
  | .error p => e = faultE p.1 p.2
set_option maxHeartbeats 4000000 in
set_option maxRecDepth 100000 in
theorem ops_p {B : Nat} {w w0 : World} {g : Nat} {l : List Tk} (h : PR B w g l) (hI : InS w0) (hb : Below w0.heap.size w0 w) (hg : w0.heap.size ≤ g) :
    Calls Tryz.prog 28 #[.pointer (some ⟨g, 0, none⟩)] w fun e w' => OpsG w.heap.size g w (opsR 100 l) e w' := by
  have hlt := h.lt
  have hB := h.top
  obtain ⟨i0, hi, hz0, hz1, hz2⟩ := info_parts infoOpP
  obtain ⟨R, hR⟩ : ∃ R, opsR 100 l = R := ⟨_, rfl⟩
  rw [hR]
  have HC0 : Hid (joinR [] (opsR (100 - 0) l) = R) := Lib.hid (by rw [Nat.sub_zero, hR]; cases R <;> rfl)
  have HOP := Lib.hid (fun (w' : World) (hG : w.grownBy w' (some g)) (l' : List Tk) (hp : PR B w' g l') => op_p hp hI (env_step hb hg hG) hg)
  have f0 := fun (a b c d e : Value) (w : World) => field_tk0 a b c d e w
  have HH := Lib.hid h
  obtain ⟨X, hX⟩ : ∃ X, w.heap.size = X := ⟨_, rfl⟩
  have HX := Lib.hid hX
  rw [hX] at hB ⊢
  clear h hI hb hR hX hg
  go_enter Tryz.func28, Tryz.ntmps28
  go_wp2
  go_loopw [3] (fun s wr => ∃ (m : Nat) (q : Option Addr) (cap : Nat) (ps : List Om) (qs : List (Opp × Nat)) (l' : List Tk), s = .slice q m cap ∧ m ≤ 100 ∧ Hid (ps.length = m) ∧ Hid (posP ps qs) ∧ Hid (OOwn X wr (.slice q m cap) ps) ∧ Hid (joinR qs (opsR (100 - m) l') = R) ∧ Hid (w.grownBy wr (some g)) ∧ Hid (PR B wr g l')) (fun s _ => 101 - lenV s)
  case atStart => exact ⟨0, none, 0, [], [], l, rfl, Nat.zero_le _, Lib.hid rfl, Lib.hid rfl, Lib.hid (OOwn.nil X w), HC0, Lib.hid (grown_selfG w _), HH⟩
  case round =>
    clear HC0 HH
    obtain ⟨m, q, cap, ps, qs, l', rfl, hm, HM, HQ, HO, HC, HG, HP⟩ := hrel
    rename World => wr
    have KN := Lib.hid (next_kind HP.out)
    cases hh : isT 0 [] l' with
    | true =>
      rw [hh] at KN
      have hRv := HC.out
      rw [ops_end hh] at hRv
      have hqm : qs.length = m := by rw [← HQ.out.len]; exact HM.out
      subst hRv
      have HQM := Lib.hid hqm
      clear hh HC hqm
      go_wp2_with (go_at_call 55; refine KN.out.mono ?_; rintro e w6 ⟨⟨k, b, c, d, f, rfl, hk⟩, h6⟩; have HG6 := Lib.hid (grown_trans' HG.out (grown_below' h6 (some g))); have HO6 := Lib.hid (HO.out.below h6); simp only [Bool.not_true] at hk; clear h6)
      go_ret
      have e := HQM.out
      subst e
      exact ⟨HG6.out, q, cap, ps, rfl, HO6.out, HQ.out, hm⟩
    | false =>
      rw [hh] at KN
      by_cases h100 : m = 100
      · subst h100
        have hRv := HC.out
        rw [show 100 - 100 = 0 from rfl, ops_full hh] at hRv
        subst hRv
        have KF : Hid (∀ w', PR B w' g l' → Calls Tryz.prog 56 #[.pointer (some ⟨g, 0, none⟩), .int .i64 2] w' fun e w2 => e = faultE (atT l') 2 ∧ Below w'.heap.size w' w2) := Lib.hid (fun w' hp => by
          obtain ⟨t, r, e⟩ := hp.ends.form
          rw [e] at hp ⊢
          exact fail_p hp 2)
        unfold faultE at KF
        clear hh HC
        go_wp2_with (first
          | (go_at_call 56; refine (KF.out _ HP6.out).mono ?_; rintro e w7 ⟨rfl, h7⟩; have HG7 := Lib.hid (grown_trans' HG6.out (grown_below' h7 (some g))); clear h7)
          | (go_at_call 55; refine KN.out.mono ?_; rintro e w6 ⟨⟨k, b, c, d, f, rfl, hk⟩, h6⟩; have HG6 := Lib.hid (grown_trans' HG.out (grown_below' h6 (some g))); have HP6 := Lib.hid (HP.out.stay (h6.mono HP.out.top)); simp only [Bool.not_false] at hk; clear h6))
        exact ⟨rfl, HG7.out, rfl⟩
      · have h100n : ((m : Int) == 100) = false := by rw [beq_eq_false_iff_ne]; omega
        have KO := Lib.hid (fun w' (hG : w.grownBy w' (some g)) (hp : PR B w' g l') => HOP.out w' hG l' hp)
        obtain ⟨n, hn⟩ : ∃ n, 100 - m = n + 1 := ⟨99 - m, by omega⟩
        have hRv := HC.out
        rw [hn] at hRv
        have ARN : True := trivial
        cases ha : opAll l' with
        | error p =>
          rw [ha] at KO
          rw [ops_err hh ha] at hRv
          subst hRv
          unfold GotR faultE at KO
          clear hh HC ha hn HOP
          go_wp2_with (first
            | (go_at_call 57; refine (KO.out _ HG6.out HP6.out).mono ?_; rintro e w7 ⟨h7, rfl⟩; have HG7 := Lib.hid (grown_trans' HG6.out h7); clear h7)
            | (go_at_call 55; refine KN.out.mono ?_; rintro e w6 ⟨⟨k, b, c, d, f, rfl, hk⟩, h6⟩; have HG6 := Lib.hid (grown_trans' HG.out (grown_below' h6 (some g))); have HP6 := Lib.hid (HP.out.stay (h6.mono HP.out.top)); simp only [Bool.not_false] at hk; clear h6))
          exact ⟨rfl, HG7.out, rfl⟩
        | ok a =>
          obtain ⟨⟨⟨kd, fr, tg, nm, pl, ss, en⟩, at_⟩, r⟩ := a
          rw [ha] at KO
          unfold GotR OpV at KO
          simp only at KO
          unfold opV strV at KO
          go_upto_region 6 with (first
            | (at_builtin; refine wpList_append_own_at _ rfl (.tmp 13) (.tmp 16) 24 rfl X 38 i0 _ 8 96 Tryz.underlying24 hi hz0 hz1 hz2 rfl (by decide) _ m _ rfl (HRW7.out.alloc _) ⟨_, 0, none⟩ 1 1 [.int .i64 (kd : Int), .int .u32 (fr : Int), .int .u32 (tg : Int), .string ⟨nm.toArray⟩, (.slice rP pl.length cP), (.slice rS ss.length cS), .int .i32 en, .int .i64 (at_ : Int)] rfl rfl (cells_new _ [.int .i64 (kd : Int), .int .u32 (fr : Int), .int .u32 (tg : Int), .string ⟨nm.toArray⟩, (.slice rP pl.length cP), (.slice rS ss.length cS), .int .i32 en, .int .i64 (at_ : Int)] _) (fun v hv => by simp at hv; rcases hv with rfl | rfl | rfl | rfl | rfl | rfl | rfl | rfl <;> rfl) (by unfold maxLen; omega) (by omega) (by simp; omega) ?_; intro v5 w5 hown5 hgrow5 _ hat5; have hEx := HE7.out v5 w5 hown5 hgrow5; obtain ⟨q5, cap5, rfl⟩ := owns_form hown5; have HX8 := Lib.hid hEx; clear hown5 hgrow5 hat5 hEx)
            | (go_at_call 57; refine (KO.out _ HG6.out HP6.out).mono ?_; rintro e w7 ⟨h7, v, rfl, ⟨vP, vS, rfl, hown⟩, hp⟩; obtain ⟨rP, cP, eP⟩ := owns_form hown.parts; obtain ⟨rS, cS, eS⟩ := owns_form hown.starts; simp only at eP eS; subst eP; subst eS; have HG7 := Lib.hid (grown_trans' HG6.out h7); have HP7 := Lib.hid hp; have HO7 := Lib.hid (HO6.out.keptG h7 (by omega)); have HRW7 : Hid (w7.ownsRow X 38 8 (.slice q m cap) m (ps.flatMap oc)) := Lib.hid (by have h := HO7.out.row; rw [HM.out] at h; exact h); have hX7 : X ≤ w7.heap.size := (by have := HG7.out.size; have := HX.out; omega); have hX6 : X ≤ w6.heap.size := (by have := HG6.out.size; have := HX.out; omega); have HE7 := Lib.hid (ops_more (p := ⟨⟨kd, fr, tg, nm, pl, ss, en⟩, (at_ : Int), .slice rP pl.length cP, .slice rS ss.length cS⟩) HX hlt hB HM HO7.out (hown.mono hX6) HG7.out HP7.out); clear h7 hp hown)
            | (go_at_call 55; refine KN.out.mono ?_; rintro e w6 ⟨⟨k, b, c, d, f, rfl, hk⟩, h6⟩; have HG6 := Lib.hid (grown_trans' HG.out (grown_below' h6 (some g))); have HP6 := Lib.hid (HP.out.stay (h6.mono HP.out.top)); have HO6 := Lib.hid (HO.out.below h6); simp only [Bool.not_false] at hk; clear h6))
          have KM := Lib.hid (must_p HX8.out.2.2 (k := 5) (by decide) (s := [59]) (by decide))
          have hm1 := HM.out
          cases hn1 : needT 5 [59] r with
          | error p =>
            rw [hn1] at KM
            rw [ops_err2 hh ha hn1] at hRv
            subst hRv
            unfold GotR faultE at KM
            clear hh HC ha hn1 hn HOP
            go_wp2_with (go_at_call 58; refine KM.out.mono ?_; rintro e w9 ⟨h9, rfl⟩; have HG9 := Lib.hid (grown_trans' HX8.out.2.1 h9); clear h9)
            exact ⟨rfl, HG9.out, rfl⟩
          | ok bb =>
            obtain ⟨t2, l2⟩ := bb
            rw [hn1] at KM
            rw [ops_step hh ha hn1] at hRv
            have HC2 := Lib.hid hRv
            clear hh HC ha hn1 hRv
            go_wp2_with (go_at_call 58; refine KM.out.mono ?_; rintro e w9 ⟨h9, v, rfl, rfl, hp⟩; have HG9 := Lib.hid (grown_trans' HX8.out.2.1 h9); have HP9 := Lib.hid hp; have HO9 := Lib.hid (HX8.out.1.keptG h9 (by omega)); clear h9 hp)
            exact ⟨⟨m + 1, q5, cap5, _, _, l2, rfl, by omega, Lib.hid (by simp [hm1]), Lib.hid (HQ.out.snoc (⟨kd, fr, tg, nm, pl, ss, en⟩, at_) _ _), HO9, Lib.hid (by rw [show 100 - (m + 1) = n by omega]; exact HC2.out), HG9, HP9⟩, by simp only [lenV]; omega⟩
end Go.Proofs.YtffhnedladiaoaaGreatDoor
/- Package parse: the deferred call that recovers. -/
namespace Go.Proofs.YtffhnedladiaoaaGreatDoor
open Go.RowKit Go.Lib
set_option linter.unusedVariables false
set_option linter.unusedSimpArgs false
theorem assert_fault (x : Value) (w : World) : (Instr.typeAssert (.iface 70 x) 20 70 false).run Tryz.prog w = .ok x w := by kernel_rfl
theorem catch_idle (a b c : Addr) (w : World) :
    CallsD Tryz.prog 27 #[.pointer (some a), .pointer (some b), .pointer (some c)] .returning w fun e u' w' => e = .returned (.tuple #[]) ∧ u' = .returning ∧ w' = w := by
  refine callsD_of_wpS Tryz.func27 rfl fun c₀ cs hu => ?_
  apply wpS_seq
  apply wpS_region
  simp [wpOpsS, go_sem, recoverD, hu, Tryz.ntmps27, Exit.thenS]
  refine wpS_of_wp ?_
  go_wp2
  cases c₀
  simp_all [bodyPostS, results, Tryz.results27]
set_option maxHeartbeats 2000000 in
set_option maxRecDepth 100000 in
theorem catch_fault (A : Nat) (w : World) (p : Nat) (c : Int) (q0 : Option Addr) (n0 c0' : Nat) (n1 n2 : Int)
    (h0 : HBox w A [.slice q0 n0 c0'] 24) (h1 : HBox w (A + 1) [.int .i64 n1] 3) (h2 : HBox w (A + 1 + 1) [.int .i64 n2] 41) :
    CallsD Tryz.prog 27 #[.pointer (some ⟨A, 0, none⟩), .pointer (some ⟨A + 1, 0, none⟩), .pointer (some ⟨A + 1 + 1, 0, none⟩)] (.panicking [{ v := .iface 70 (.agg #[.int .i64 (p : Int), .int .i64 c]), recovered := false }]) w fun e u' w' =>
      e = .returned (.tuple #[]) ∧ u' = .panicking [{ v := .iface 70 (.agg #[.int .i64 (p : Int), .int .i64 c]), recovered := true }] ∧ Below A w w' ∧ HBox w' A [.slice none 0 0] 24 ∧ HBox w' (A + 1) [.int .i64 (p : Int)] 3 ∧ HBox w' (A + 1 + 1) [.int .i64 c] 41 := by
  refine callsD_of_wpS Tryz.func27 rfl fun c₀ cs hu => ?_
  apply wpS_seq
  apply wpS_region
  simp [wpOpsS, go_sem, recoverD, hu, Tryz.ntmps27, Exit.thenS]
  have hT : ∀ v : Value, (#[.pointer (some ⟨A, 0, none⟩), .pointer (some ⟨A + 1, 0, none⟩), .pointer (some ⟨A + 1 + 1, 0, none⟩)] ++ (((Array.replicate 11 undef).setIfInBounds 2 v).setIfInBounds 0 v) : Array Value) = #[.pointer (some ⟨A, 0, none⟩), .pointer (some ⟨A + 1, 0, none⟩), .pointer (some ⟨A + 1 + 1, 0, none⟩), v, undef, v, undef, undef, undef, undef, undef, undef, undef, undef] := fun v => rfl
  rw [hT]
  have ha := fun (x : Value) (w : World) => assert_fault x w
  refine wpS_of_wp ?_
  go_upto_region 3 with fail
  have r3 := HBox.new w [.int .i64 (p : Int), .int .i64 c] 70
  change HBox (w.alloc (.cells #[.int .i64 (p : Int), .int .i64 c] 70)) _ _ _ at r3
  have b3 := (Below.refl w.heap.size w).alloc (Nat.le_refl _) (.cells #[.int .i64 (p : Int), .int .i64 c] 70)
  have g0 := h0.stay b3
  have g1 := h1.stay b3
  have g2 := h2.stay b3
  have hA : A + 1 + 1 < w.heap.size := h2.size
  generalize w.alloc (.cells #[.int .i64 (p : Int), .int .i64 c] 70) = W at *
  generalize w.heap.size = F at *
  have hF : A + 1 + 1 < W.heap.size := g2.size
  have x0 := r3.cell (j := 0) rfl
  have x1 := r3.cell (j := 1) rfl
  have y0 := g0.cell (j := 0) rfl
  have y1 := g1.cell (j := 0) rfl
  have y2 := g2.cell (j := 0) rfl
  have z0 := g0.frozen 0
  have z1 := g1.frozen 0
  have z2 := g2.frozen 0
  have n1 : ¬ F = A := by omega
  have n2 : ¬ F = A + 1 := by omega
  have n3 : ¬ F = A + 1 + 1 := by omega
  have m1 : A < W.heap.size := by omega
  have m2 : A + 1 < W.heap.size := by omega
  clear r3 h0 h1 h2
  go_region
  have k0 := ((g0.set 0 (.slice none 0 0)).grown (grown_set _ (A + 1) 0 (.int .i64 (p : Int))) (by simp)).grown (grown_set _ (A + 1 + 1) 0 (.int .i64 c)) (by simp; omega)
  have k1 := (((g1.grown (grown_set W A 0 (.slice none 0 0)) (by simp)).set 0 (.int .i64 (p : Int))).grown (grown_set _ (A + 1 + 1) 0 (.int .i64 c)) (by simp))
  have k2 := (((g2.grown (grown_set W A 0 (.slice none 0 0)) (by simp; omega)).grown (grown_set _ (A + 1) 0 (.int .i64 (p : Int))) (by simp)).set 0 (.int .i64 c))
  have bw := (((b3.mono (show A ≤ F by omega)).setCell (p := ⟨A, 0, none⟩) (Nat.le_refl _) (.slice none 0 0)).setCell (p := ⟨A + 1, 0, none⟩) (show A ≤ A + 1 by omega) (.int .i64 (p : Int))).setCell (p := ⟨A + 1 + 1, 0, none⟩) (show A ≤ A + 1 + 1 by omega) (.int .i64 c)
  refine ⟨rfl, .panicking [{ v := .iface 70 (.agg #[.int .i64 (p : Int), .int .i64 c]), recovered := true }], ?_, .tuple #[], ?_, rfl, rfl, bw.drew, k0.stay (Below.refl _ _).drew, k1.stay (Below.refl _ _).drew, k2.stay (Below.refl _ _).drew⟩
  · rfl
  · simp [results, Tryz.results27]
end Go.Proofs.YtffhnedladiaoaaGreatDoor
/- Package parse: Parse: as the document says, for every text. -/
namespace Go.Proofs.YtffhnedladiaoaaGreatDoor
open Go.RowKit Go.Lib
set_option linter.unusedVariables false
set_option linter.unusedSimpArgs false
/-- What a call answers that parses a text. -/
def PrsR (p : List (Opp × Nat) × Nat × Int) (e : Ending) (w w' : World) : Prop := ∃ q cap ps, e = .returned (.tuple #[.slice q p.1.length cap, .int .i64 (p.2.1 : Int), .int .i64 p.2.2]) ∧ ORow w' (.slice q p.1.length cap) ps ∧ posP ps p.1 ∧ Below w.heap.size w w'
theorem makeFunc_run (fn : Fn) (first cap : Array Value) (w : World) : (Instr.makeFunc fn first cap).run Tryz.prog w = .ok (.func fn first cap) w := rfl
theorem recs_box_ne {w : World} {b off n cap g : Nat} {t : Tk} {r : List Tk} {x : Value} {T : TypeId} (h : Recs tkc 5 w (.slice (some ⟨b, off, none⟩) n cap) (t :: r)) (hb : HBox w g [x] T) : b ≠ g := fun e => by
  subst e
  obtain ⟨_, c1, _⟩ := tok_cells h
  have h' : w.heap[b]? = some (.cells #[x] T (0, 0)) := hb
  unfold World.cell? at c1
  rw [h'] at c1
  simp at c1
/-- The tokens' slice of a text that has no fault. -/
theorem tok_form {w : World} {r : Option Addr} {cap : Nat} {ts : List Tk} (h : Recs tkc 5 w (.slice r ts.length cap) ts) (he : EndsL ts) : ∃ b off, r = some ⟨b, off, none⟩ ∧ b < w.heap.size ∧ ts.length ≤ cap := by
  obtain ⟨t, q, rfl⟩ := he.form
  rcases h with ⟨_, _, h1, h2⟩ | ⟨g, off, cap', h1, h2, h3, h4, h5⟩
  · cases h2
  · cases h1
    exact ⟨g, off, rfl, h2, h4⟩
set_option maxHeartbeats 4000000 in
set_option maxRecDepth 100000 in
theorem parse_c (s : ByteArray) (w : World) (hI : InS w) (hs : s.size ≤ 100000) (LX : LexC InI) :
    Calls Tryz.prog 12 #[.string s] w fun e w' => PrsR (prsT s.data.toList) e w w' := by
  have K1 := Lib.hid (fun (w' : World) (h : Below w.heap.size w w') => LX.split s w' (hI.1.stay h) hs)
  unfold SplT at K1
  have hsl : s.data.toList.length ≤ 100000 := by simpa using hs
  have HSE := Lib.hid (fun (h : (splT s.data.toList).2.2 = 0) => splT_ends h)
  obtain ⟨RR, hRR⟩ : ∃ RR, prsT s.data.toList = RR := ⟨_, rfl⟩
  rw [hRR]
  unfold prsT at hRR
  generalize splT s.data.toList = sp at *
  obtain ⟨ts, pl, cd⟩ := sp
  simp only at K1 HSE hRR
  have HRR := Lib.hid hRR
  clear hRR
  have hmf := fun (fn : Fn) (first cap : Array Value) (w : World) => makeFunc_run fn first cap w
  have b0 := (((Below.refl w.heap.size w).alloc (Nat.le_refl _) (.cells #[.slice none 0 0] 24)).alloc (by simp) (.cells #[.int .i64 0] 3)).alloc (by simp; omega) (.cells #[.int .i64 0] 41)
  have g0 := ((HBox.new w [.slice none 0 0] 24).alloc (.cells #[.int .i64 0] 3)).alloc (.cells #[.int .i64 0] 41)
  have g1 := (HBox.new (w.alloc (.cells #[.slice none 0 0] 24)) [.int .i64 0] 3).alloc (.cells #[.int .i64 0] 41)
  have g2 := HBox.new ((w.alloc (.cells #[.slice none 0 0] 24)).alloc (.cells #[.int .i64 0] 3)) [.int .i64 0] 41
  have s1 : (w.alloc (.cells #[.slice none 0 0] 24)).heap.size = w.heap.size + 1 := by simp
  have s2 : ((w.alloc (.cells #[.slice none 0 0] 24)).alloc (.cells #[.int .i64 0] 3)).heap.size = w.heap.size + 2 := by simp
  rw [s1] at g1
  rw [s2] at g2
  change HBox (((w.alloc (.cells #[.slice none 0 0] 24)).alloc (.cells #[.int .i64 0] 3)).alloc (.cells #[.int .i64 0] 41)) _ _ _ at g0 g1 g2
  have HI := Lib.hid hI
  clear hI LX s1 s2 hsl
  go_enter_defers Tryz.func12, Tryz.ntmps12
  go_upto_region 1 with fail
  generalize ((w.alloc (.cells #[.slice none 0 0] 24)).alloc (.cells #[.int .i64 0] 3)).alloc (.cells #[.int .i64 0] 41) = W1 at *
  have HB1 := Lib.hid b0
  have HG0 := Lib.hid g0
  have HG1 := Lib.hid g1
  have HG2 := Lib.hid g2
  clear b0 g0 g1 g2
  obtain ⟨A, hA⟩ : ∃ A, w.heap.size = A := ⟨_, rfl⟩
  have HA := Lib.hid hA
  rw [hA] at HG0 HG1 HG2 ⊢
  clear hA
  go_upto_region 2 with (go_at_call 26; refine (K1.out _ HB1.out).mono ?_; rintro e w2 ⟨r, cap, rfl, hr, h2⟩; have HB2 := Lib.hid (HB1.out.trans (h2.mono HB1.out.size)); have HR2 := Lib.hid hr; have HI0 := Lib.hid (HG0.out.stay h2); have HI1 := Lib.hid (HG1.out.stay h2); have HI2 := Lib.hid (HG2.out.stay h2); have y1 := HI1.out.cell (j := 0) rfl; have y2 := HI2.out.cell (j := 0) rfl; have z1 := HI1.out.frozen 0; have z2 := HI2.out.frozen 0; have hs2 := HI2.out.size; have hs1 := HI1.out.size; clear h2 hr)
  clear HG0 HG1 HG2 HB1 K1
  have HJ0 := Lib.hid ((HI0.out.grown (grown_set w2 (A + 1) 0 (.int .i64 (pl : Int))) (by simp)).grown (grown_set _ (A + 1 + 1) 0 (.int .i64 cd)) (by simp; omega))
  have HJ1 := Lib.hid ((HI1.out.set 0 (.int .i64 (pl : Int))).grown (grown_set _ (A + 1 + 1) 0 (.int .i64 cd)) (by simp))
  have HJ2 := Lib.hid ((HI2.out.grown (grown_set w2 (A + 1) 0 (.int .i64 (pl : Int))) (by simp)).set 0 (.int .i64 cd))
  have HB3 := Lib.hid ((HB2.out.setCell (p := ⟨A + 1, 0, none⟩) (by have := HA.out; show _ ≤ A + 1; omega) (.int .i64 (pl : Int))).setCell (p := ⟨A + 1 + 1, 0, none⟩) (by have := HA.out; show _ ≤ A + 1 + 1; omega) (.int .i64 cd))
  have HT3 : Hid (cd = 0 → ∃ b off, r = some ⟨b, off, none⟩ ∧ b < ((w2.setCell ⟨A + 1, 0, none⟩ (.int .i64 (pl : Int))).setCell ⟨A + 1 + 1, 0, none⟩ (.int .i64 cd)).heap.size ∧ Recs tkc 5 ((w2.setCell ⟨A + 1, 0, none⟩ (.int .i64 (pl : Int))).setCell ⟨A + 1 + 1, 0, none⟩ (.int .i64 cd)) (.slice (some ⟨b, off, none⟩) ts.length cap) ts ∧ ts.length ≤ cap ∧ EndsL ts ∧ ts.length ≤ 1000000) := Lib.hid (fun h0 => by
    obtain ⟨h1, h2⟩ := HSE.out h0
    have hl : s.data.toList.length = s.size := by simp
    obtain ⟨b, off, rfl, h3, h4⟩ := tok_form HR2.out h1
    obtain ⟨t, q, rfl⟩ := h1.form
    have n1 := recs_box_ne HR2.out HI1.out
    have n2 := recs_box_ne HR2.out HI2.out
    exact ⟨b, off, rfl, by simpa using h3, recs_keepG (recs_keepG HR2.out (grown_set w2 (A + 1) 0 (.int .i64 (pl : Int))) n1) (grown_set _ (A + 1 + 1) 0 (.int .i64 cd)) n2, h4, h1, by omega⟩)
  change Hid (HBox ((w2.setCell ⟨A + 1, 0, none⟩ (.int .i64 (pl : Int))).setCell ⟨A + 1 + 1, 0, none⟩ (.int .i64 cd)) A [.slice none 0 0] _) at HJ0
  change Hid (HBox ((w2.setCell ⟨A + 1, 0, none⟩ (.int .i64 (pl : Int))).setCell ⟨A + 1 + 1, 0, none⟩ (.int .i64 cd)) (A + 1) [.int .i64 (pl : Int)] _) at HJ1
  change Hid (HBox ((w2.setCell ⟨A + 1, 0, none⟩ (.int .i64 (pl : Int))).setCell ⟨A + 1 + 1, 0, none⟩ (.int .i64 cd)) (A + 1 + 1) [.int .i64 cd] _) at HJ2
  generalize (w2.setCell ⟨A + 1, 0, none⟩ (.int .i64 (pl : Int))).setCell ⟨A + 1 + 1, 0, none⟩ (.int .i64 cd) = W3 at *
  clear HI0 HI1 HI2 HB2 HR2 HSE y1 y2 z1 z2 hs1 hs2
  have x0 := HJ0.out.cell (j := 0) rfl
  have x1 := HJ1.out.cell (j := 0) rfl
  have x2 := HJ2.out.cell (j := 0) rfl
  have f0 := HJ0.out.frozen 0
  have f1 := HJ1.out.frozen 0
  have f2 := HJ2.out.frozen 0
  have sz2 := HJ2.out.size
  have sz1 := HJ1.out.size
  have sz0 := HJ0.out.size
  by_cases h0 : cd = 0
  case neg =>
    have t0 : (cd != 0) = true := by rw [bne_iff_ne]; exact h0
    have hRv := HRR.out
    rw [if_pos h0] at hRv
    subst hRv
    clear h0 HRR HT3
    go_wp2_with fail
    go_region
    have k0 := (((HJ0.out.set 0 (.slice none 0 0)).grown (grown_set _ (A + 1) 0 (.int .i64 (pl : Int))) (by simp)).grown (grown_set _ (A + 1 + 1) 0 (.int .i64 cd)) (by simp; omega)).stay (Below.refl _ _).drew
    have k1 := (((HJ1.out.grown (grown_set W3 A 0 (.slice none 0 0)) (by simp)).set 0 (.int .i64 (pl : Int))).grown (grown_set _ (A + 1 + 1) 0 (.int .i64 cd)) (by simp)).stay (Below.refl _ _).drew
    have k2 := (((HJ2.out.grown (grown_set W3 A 0 (.slice none 0 0)) (by simp; omega)).grown (grown_set _ (A + 1) 0 (.int .i64 (pl : Int))) (by simp)).set 0 (.int .i64 cd)).stay (Below.refl _ _).drew
    have bw := (((HB3.out.setCell (p := ⟨A, 0, none⟩) (Nat.le_of_eq HA.out) (.slice none 0 0)).setCell (p := ⟨A + 1, 0, none⟩) (show w.heap.size ≤ A + 1 by have := HA.out; omega) (.int .i64 (pl : Int))).setCell (p := ⟨A + 1 + 1, 0, none⟩) (show w.heap.size ≤ A + 1 + 1 by have := HA.out; omega) (.int .i64 cd)).drew
    clear HJ0 HJ1 HJ2 HB3 x0 x1 x2 f0 f1 f2
    change HBox _ A [.slice none 0 0] _ at k0
    change HBox _ (A + 1) [.int .i64 (pl : Int)] _ at k1
    change HBox _ (A + 1 + 1) [.int .i64 cd] _ at k2
    generalize (((W3.setCell ⟨A, 0, none⟩ (.slice none 0 0)).setCell ⟨A + 1, 0, none⟩ (.int .i64 (pl : Int))).setCell ⟨A + 1 + 1, 0, none⟩ (.int .i64 cd)).drew = W4 at *
    have y0 := k0.cell (j := 0) rfl
    have y1 := k1.cell (j := 0) rfl
    have y2 := k2.cell (j := 0) rfl
    go_wp2_with fail
    exact ⟨.tuple #[.slice none 0 0, .int .i64 (pl : Int), .int .i64 cd], by simp [results, Tryz.results12, go_sem, y0, y1, y2], none, 0, [], rfl, ⟨.inl ⟨none, 0, rfl, rfl⟩, fun p hp => by cases hp⟩, rfl, bw⟩
  subst h0
  obtain ⟨b, off, rfl, hb, hR, hc, hE, hf⟩ := HT3.out rfl
  have hRv := HRR.out
  rw [if_neg (by decide)] at hRv
  clear HRR HT3
  have HRR := Lib.hid hRv
  have HTB : Hid (TokB (W3.heap.size + 1) (W3.alloc (.cells #[.slice (some ⟨b, off, none⟩) ts.length cap] 72)) b off cap ts) := Lib.hid ⟨by omega, hR.stay ((Below.refl _ _).alloc (Nat.le_refl _) _), hc, hf, hE⟩
  have HQ : Hid (PR (W3.heap.size + 1) (W3.alloc (.cells #[.slice (some ⟨b, off, none⟩) ts.length cap] 72)) W3.heap.size ts) := Lib.hid ⟨by omega, by simp, b, off, cap, by omega, HBox.new W3 [.slice (some ⟨b, off, none⟩) ts.length cap] _, HTB.out⟩
  have bn := (Below.refl W3.heap.size W3).alloc (Nat.le_refl _) (.cells #[.slice (some ⟨b, off, none⟩) ts.length cap] 72)
  have HL0 := Lib.hid (HJ0.out.stay bn)
  have HL1 := Lib.hid (HJ1.out.stay bn)
  have HL2 := Lib.hid (HJ2.out.stay bn)
  have HB4 := Lib.hid (HB3.out.trans (bn.mono HB3.out.size))
  clear hRv hb hR hc hE hf HTB bn
  go_upto_region 6 with fail
  generalize W3.alloc (.cells #[.slice (some ⟨b, off, none⟩) ts.length cap] 72) = W4 at *
  have hgA : A + 1 + 1 < W3.heap.size := sz2
  generalize W3.heap.size = G at *
  clear HJ0 HJ1 HJ2 x0 x1 x2 f0 f1 f2 sz0 sz1 sz2 HB3
  have KO := Lib.hid (ops_p HQ.out HI.out HB4.out (by have := HA.out; omega))
  cases ho : opsR 100 ts with
  | error p =>
    rw [ho] at KO
    have hRv := HRR.out
    rw [ho] at hRv
    simp only at hRv
    subst hRv
    unfold OpsG faultE at KO
    clear HRR ho
    go_wp2_with (go_at_call 28; refine KO.out.mono ?_; rintro e w6 ⟨h6, rfl⟩; have HB6 := Lib.hid (HB4.out.grown h6 HB4.out.size (fun k hk => by cases hk; have := HA.out; omega)); have HM0 := Lib.hid (HL0.out.grown h6 (fun e => by have := Option.some.inj e; omega)); have HM1 := Lib.hid (HL1.out.grown h6 (fun e => by have := Option.some.inj e; omega)); have HM2 := Lib.hid (HL2.out.grown h6 (fun e => by have := Option.some.inj e; omega)); clear h6)
    refine leaves_cons (f := 27) (args := #[.pointer (some ⟨A, 0, none⟩), .pointer (some ⟨A + 1, 0, none⟩), .pointer (some ⟨A + 1 + 1, 0, none⟩)]) (by simp) (by simp [go_sem]) ?_
    refine (catch_fault A w6 p.1 p.2 none 0 0 pl 0 HM0.out HM1.out HM2.out).mono ?_
    rintro e u' w7 ⟨rfl, rfl, hb7, k0, k1, k2⟩
    have y0 := k0.cell (j := 0) rfl
    have y1 := k1.cell (j := 0) rfl
    have y2 := k2.cell (j := 0) rfl
    refine (show Leaves Tryz.prog Tryz.f12 _ _ [] .returning w7 from ?_)
    exact ⟨.tuple #[.slice none 0 0, .int .i64 (p.1 : Int), .int .i64 p.2], by simp [results, Tryz.results12, go_sem, y0, y1, y2], none, 0, [], rfl, ⟨.inl ⟨none, 0, rfl, rfl⟩, fun p hp => by cases hp⟩, rfl, HB6.out.trans (hb7.mono (Nat.le_of_eq HA.out))⟩
  | ok qs =>
    rw [ho] at KO
    have hRv := HRR.out
    rw [ho] at hRv
    simp only at hRv
    subst hRv
    unfold OpsG at KO
    clear HRR ho
    go_wp2_with (go_at_call 28; refine KO.out.mono ?_; rintro e w6 ⟨h6, q, cap2, ps, rfl, ho, hp, hl⟩; have HB6 := Lib.hid (HB4.out.grown h6 HB4.out.size (fun k hk => by cases hk; have := HA.out; omega)); have HM0 := Lib.hid (HL0.out.grown h6 (fun e => by have := Option.some.inj e; omega)); have HM1 := Lib.hid (HL1.out.grown h6 (fun e => by have := Option.some.inj e; omega)); have HM2 := Lib.hid (HL2.out.grown h6 (fun e => by have := Option.some.inj e; omega)); have HO6 := Lib.hid ho; have HP6 := Lib.hid hp; have y0 := HM0.out.cell (j := 0) rfl; have y1 := HM1.out.cell (j := 0) rfl; have y2 := HM2.out.cell (j := 0) rfl; have z0 := HM0.out.frozen 0; have z1 := HM1.out.frozen 0; have z2 := HM2.out.frozen 0; have w0 := HM0.out.size; have w1 := HM1.out.size; have w2 := HM2.out.size; clear h6 ho hp)
    have k0 := ((HM0.out.set 0 (.slice q qs.length cap2)).grown (grown_set _ (A + 1) 0 (.int .i64 0)) (by simp)).grown (grown_set _ (A + 1 + 1) 0 (.int .i64 0)) (by simp; omega)
    have k1 := ((HM1.out.grown (grown_set w6 A 0 (.slice q qs.length cap2)) (by simp)).set 0 (.int .i64 0)).grown (grown_set _ (A + 1 + 1) 0 (.int .i64 0)) (by simp)
    have k2 := ((HM2.out.grown (grown_set w6 A 0 (.slice q qs.length cap2)) (by simp; omega)).grown (grown_set _ (A + 1) 0 (.int .i64 0)) (by simp)).set 0 (.int .i64 0)
    have bw := ((HB6.out.setCell (p := ⟨A, 0, none⟩) (Nat.le_of_eq HA.out) (.slice q qs.length cap2)).setCell (p := ⟨A + 1, 0, none⟩) (show w.heap.size ≤ A + 1 by have := HA.out; omega) (.int .i64 0)).setCell (p := ⟨A + 1 + 1, 0, none⟩) (show w.heap.size ≤ A + 1 + 1 by have := HA.out; omega) (.int .i64 0)
    have hW4 : A + 1 + 1 < W4.heap.size := HL2.out.size
    have ko := ((HO6.out.keptG (grown_set w6 A 0 (.slice q qs.length cap2)) (by omega)).keptG (grown_set _ (A + 1) 0 (.int .i64 0)) (by omega)).keptG (grown_set _ (A + 1 + 1) 0 (.int .i64 0)) hW4
    change HBox _ A [.slice q qs.length cap2] _ at k0
    change HBox _ (A + 1) [.int .i64 0] _ at k1
    change HBox _ (A + 1 + 1) [.int .i64 0] _ at k2
    generalize ((w6.setCell ⟨A, 0, none⟩ (.slice q qs.length cap2)).setCell ⟨A + 1, 0, none⟩ (.int .i64 0)).setCell ⟨A + 1 + 1, 0, none⟩ (.int .i64 0) = W7 at *
    refine leaves_cons (f := 27) (args := #[.pointer (some ⟨A, 0, none⟩), .pointer (some ⟨A + 1, 0, none⟩), .pointer (some ⟨A + 1 + 1, 0, none⟩)]) (by simp) (by simp [go_sem]) ?_
    refine (catch_idle ⟨A, 0, none⟩ ⟨A + 1, 0, none⟩ ⟨A + 1 + 1, 0, none⟩ W7).mono ?_
    rintro e u' w8 ⟨rfl, rfl, hw8⟩
    obtain rfl : W7 = w8 := hw8.symm
    have e0 := k0.cell (j := 0) rfl
    have e1 := k1.cell (j := 0) rfl
    have e2 := k2.cell (j := 0) rfl
    refine (show Leaves Tryz.prog Tryz.f12 _ _ [] .returning W7 from ?_)
    exact ⟨.tuple #[.slice q qs.length cap2, .int .i64 0, .int .i64 0], by simp [results, Tryz.results12, go_sem, e0, e1, e2], q, cap2, ps, rfl, ko.orow (by rw [HP6.out.len]; omega), HP6.out, bw⟩
end Go.Proofs.YtffhnedladiaoaaGreatDoor
/- Law 14's Awake. -/
namespace Go.Proofs.YtffhnedladiaoaaGreatDoor
open Go.RowKit Go.Lib
set_option linter.unusedVariables false
set_option linter.unusedSimpArgs false
/-- What the laws ask of parse. -/
structure ParC : Prop where
  parse : ∀ (s : ByteArray) (w : World), InS w → s.size ≤ 100000 → Calls Tryz.prog 12 #[.string s] w fun e w' => PrsR (prsT s.data.toList) e w w'
theorem ex14 : prsT [114, 101, 110, 117, 109, 98, 101, 114, 32, 49, 32, 116, 111, 32, 50, 59] = ([(⟨0, 1, 2, [], [], [], 0⟩, 0)], 0, 0) := by kernel_rfl
set_option maxHeartbeats 2000000 in
set_option maxRecDepth 100000 in
theorem awake14 (PC : ParC) (w : World) (hI : InS w) :
    Calls Tryz.prog 9 #[] w fun e w' => e = .returned (.bool true) ∧ Below w.heap.size w w' := by
  have K1 := PC.parse ⟨#[114, 101, 110, 117, 109, 98, 101, 114, 32, 49, 32, 116, 111, 32, 50, 59]⟩ w hI (by decide)
  rw [show (⟨#[114, 101, 110, 117, 109, 98, 101, 114, 32, 49, 32, 116, 111, 32, 50, 59]⟩ : ByteArray).data.toList = [114, 101, 110, 117, 109, 98, 101, 114, 32, 49, 32, 116, 111, 32, 50, 59] from rfl, ex14] at K1
  have KA := Lib.hid (fun (w' : World) (h : Below w.heap.size w w') => awake13_ev w' (hI.stay h))
  have KK1 : Hid (Calls Tryz.prog 12 #[.string ⟨#[114, 101, 110, 117, 109, 98, 101, 114, 32, 49, 32, 116, 111, 32, 50, 59]⟩] w fun e w' => ∃ g off c, e = .returned (.tuple #[.slice (some ⟨g, off, none⟩) 1 c, .int .i64 0, .int .i64 0]) ∧ w'.cell? ⟨g, off + 1, none⟩ = some (.int .u32 1) ∧ w'.cell? ⟨g, off + 2, none⟩ = some (.int .u32 2) ∧ w'.cell? ⟨g, off + 7, none⟩ = some (.int .i64 0) ∧ Below w.heap.size w w') := Lib.hid (K1.mono (by
    rintro e w' ⟨q, cap, ps, rfl, h, hp, hb⟩
    have hl := hp.len
    match ps, hl with
    | [p], _ =>
      unfold posP at hp
      simp only [List.map_cons, List.map_nil, List.cons.injEq, and_true, Prod.mk.injEq] at hp
      obtain ⟨e1, e2⟩ := hp
      obtain ⟨g, off, cap', hv, _, _, hc, _⟩ := h.at (i := 0) (p := p) rfl
      cases hv
      have c1 := hc 1 _ rfl
      have c2 := hc 2 _ rfl
      have c7 := hc 7 _ rfl
      rw [e1] at c1 c2
      rw [e2] at c7
      simp only [Nat.zero_mul, Nat.add_zero] at c1 c2 c7
      exact ⟨g, off, cap, rfl, c1, c2, c7, hb⟩))
  clear K1 PC hI
  go_enter Tryz.func9, Tryz.ntmps9
  go_wp2_with (first
    | (go_at_call 21; refine (KA.out _ HB1.out).mono ?_; rintro e w2 ⟨rfl, h2⟩; have HB2 := Lib.hid (HB1.out.trans (h2.mono HB1.out.size)); clear h2)
    | (go_at_call 12; refine KK1.out.mono ?_; rintro e w1 ⟨g, off, c, rfl, x1, x2, x3, h1⟩; have HB1 := Lib.hid h1; clear h1))
  go_ret
  exact ⟨rfl, HB2.out⟩
theorem parC : ParC := ⟨fun s w hI hs => parse_c s w hI hs lexC⟩
end Go.Proofs.YtffhnedladiaoaaGreatDoor

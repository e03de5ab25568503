/- Package lex: a text in quotes; the token that a text begins with. -/
import Derived.Test.YtafmakhhdinknaaGreatDoorLxn
namespace Go.Proofs.YtafmakhhdinknaaGreatDoor
open Go.RowKit Go.Lib
set_option linter.unusedVariables false
set_option linter.unusedSimpArgs false
set_option maxHeartbeats 4000000 in
set_option maxRecDepth 100000 in
theorem quoted_c (r : List UInt8) (hl : r.length ≤ 100000) (w : World) : Calls Tryz.prog 34 #[.string ⟨(34 :: r).toArray⟩] w fun e w' =>
    ResR (if (r.drop (r.takeWhile inQ).length).head? = some 34 then .ok (⟨4, r.takeWhile inQ, 0, 0, 0⟩, (r.takeWhile inQ).length + 2) else .error 3) e ∧ Below w.heap.size w w' := by
  have hs := mk_size (34 :: r)
  rw [List.length_cons] at hs
  have S1 := fun W' => slice_l ⟨(34 :: r).toArray⟩ 1 (by omega) W'
  change ∀ W', (Instr.slice 9 (.string ⟨(34 :: r).toArray⟩) (some (.int .i64 1)) none none).run Tryz.prog W' = .ok (.string ⟨r.toArray⟩) W' at S1
  have KL0 := fun (W' : World) => leading_inText ⟨r.toArray⟩ W' (by have := mk_size r; omega)
  rw [show (⟨r.toArray⟩ : ByteArray).data.toList = r from rfl] at KL0
  have hq := tw_len (p := inQ) r
  obtain ⟨T, hT⟩ : ∃ T, r.takeWhile inQ = T := ⟨_, rfl⟩
  rw [hT] at KL0 hq ⊢
  have KL := Lib.hid KL0
  have hts := mk_size T
  have hix : ∀ (h : T.length + 1 < (⟨(34 :: r).toArray⟩ : ByteArray).size), (r.drop T.length).head? = some (⟨(34 :: r).toArray⟩ : ByteArray)[T.length + 1] := fun h => by
    rw [List.head?_drop, List.getElem?_eq_getElem (by omega)]; rfl
  have hnn : T.length + 1 = (⟨(34 :: r).toArray⟩ : ByteArray).size → (r.drop T.length).head? = none := fun h => by
    rw [List.head?_drop, List.getElem?_eq_none (by omega)]
  obtain ⟨E, hE0⟩ : ∃ E, T.length + 1 = E := ⟨_, rfl⟩
  have HQ : Hid (∀ e, e = .returned (.tuple #[.agg #[.int .i64 4, .string ⟨T.toArray⟩, .int .i64 0, .int .i32 0, .int .i64 0], .int .i64 ((E : Int) + 1), .int .i64 0]) → ResR (.ok (⟨4, T, 0, 0, 0⟩, T.length + 2)) e) := Lib.hid (fun e h => by
    rw [h, show (E : Int) + 1 = ((T.length + 2 : Nat) : Int) by omega]; rfl)
  generalize (r.drop T.length).head? = X at *
  generalize (⟨(34 :: r).toArray⟩ : ByteArray) = s at *
  generalize (⟨r.toArray⟩ : ByteArray) = sr at *
  generalize (⟨T.toArray⟩ : ByteArray) = ts at *
  rw [hE0] at hix hnn
  have HX0 := Lib.hid (HBox.new w [.int .i64 0, .string ⟨#[]⟩, .int .i64 0, .int .i32 0, .int .i64 0] 31)
  have HB0 := Lib.hid ((Below.refl w.heap.size w).alloc (Nat.le_refl _) (.cells #[.int .i64 0, .string ⟨#[]⟩, .int .i64 0, .int .i32 0, .int .i64 0] 31))
  have hE : 1 + (ts.size : Int) = (E : Int) := by omega
  have hw : wrap64 (E : Int) = (E : Int) := by unfold wrap64; omega
  have hb1 : s.size ≤ 100001 := by omega
  have hb2 : E ≤ s.size := by omega
  have HN : Hid (s.size = r.length + 1) := Lib.hid hs
  clear hs hts
  by_cases hq2 : E = s.size
  · rw [hnn hq2, if_neg (by simp)]
    have e1 : ((E : Int) == (s.size : Int)) = true := by rw [beq_iff_eq, hq2]
    clear hix hnn HQ hq2 KL0 hT hq hE0
    go_enter Tryz.func34, Tryz.ntmps34
    go_wp2_with (go_at_call 27; refine (KL.out _).mono ?_; rintro e w1 ⟨rfl, rfl⟩)
    exact bodyPost_ret (v := .tuple #[.agg #[.int .i64 0, .string ⟨#[]⟩, .int .i64 0, .int .i32 0, .int .i64 0], .int .i64 0, .int .i64 3]) (by simp [results, Tryz.results34, go_sem]) rfl ⟨rfl, (Below.refl _ _).alloc (Nat.le_refl _) _⟩
  · have hlt : E < s.size := by omega
    rw [hix hlt]
    have e1 : ((E : Int) == (s.size : Int)) = false := by rw [beq_eq_false_iff_ne]; omega
    obtain ⟨c, hc⟩ : ∃ c, s[E] = c := ⟨_, rfl⟩
    rw [hc]
    by_cases h34 : c = 34
    · rw [if_pos (by rw [h34])]
      have e2 : ((c.toNat : Int) != 34) = false := by rw [h34]; rfl
      clear hix hnn hq2 KL0 hT hq hE0 h34
      go_enter Tryz.func34, Tryz.ntmps34
      go_wp2_with (go_at_call 27; refine (KL.out _).mono ?_; rintro e w1 ⟨rfl, rfl⟩)
      exact bodyPost_ret (v := .tuple #[.agg #[.int .i64 4, .string ts, .int .i64 0, .int .i32 0, .int .i64 0], .int .i64 ((E : Int) + 1), .int .i64 0]) (by simp [results, Tryz.results34, go_sem]) rfl ⟨HQ.out _ rfl, (Below.refl _ _).alloc (Nat.le_refl _) _⟩
    · rw [if_neg (fun h => h34 (Option.some.inj h))]
      have e2 : ((c.toNat : Int) != 34) = true := u8_ne' h34
      clear hix hnn hq2 KL0 hT hq hE0 h34 HQ
      go_enter Tryz.func34, Tryz.ntmps34
      go_wp2_with (go_at_call 27; refine (KL.out _).mono ?_; rintro e w1 ⟨rfl, rfl⟩)
      exact bodyPost_ret (v := .tuple #[.agg #[.int .i64 0, .string ⟨#[]⟩, .int .i64 0, .int .i32 0, .int .i64 0], .int .i64 0, .int .i64 3]) (by simp [results, Tryz.results34, go_sem]) rfl ⟨rfl, (Below.refl _ _).alloc (Nat.le_refl _) _⟩
theorem plain_v (k : Nat) (l : List UInt8) (w : World) : Calls Tryz.prog 30 #[.int .i64 (k : Int), .string ⟨l.toArray⟩] w fun e w' => e = .returned (.tuple #[.agg #[.int .i64 (k : Int), .string ⟨l.toArray⟩, .int .i64 0, .int .i32 0, .int .i64 0], .int .i64 (l.length : Int), .int .i64 0]) ∧ Below w.heap.size w w' :=
  (plain_c k l w).mono fun e w' h => ⟨h.1, h.2⟩
set_option maxHeartbeats 8000000 in
set_option maxRecDepth 100000 in
theorem first_c {I : World → Prop} (D : DayC I) (l : List UInt8) (h0 : l ≠ []) (hl : l.length ≤ 100000) (w : World) (hI : I w) :
    Calls Tryz.prog 14 #[.string ⟨l.toArray⟩] w fun e w' => OneR l e ∧ Below w.heap.size w w' := by
  have hOR : ∀ r, oneF l = r → ∀ e, ResR r e → OneR l e := fun r h e he => by unfold OneR; rw [h]; exact he
  have hs := mk_size l
  have hz : 0 < (⟨l.toArray⟩ : ByteArray).size := by rw [hs]; exact List.length_pos_iff.2 h0
  obtain ⟨c, r, rfl⟩ : ∃ c r, l = c :: r := by
    cases l with
    | nil => exact absurd rfl h0
    | cons c r => exact ⟨c, r, rfl⟩
  have hc0 : (⟨(c :: r).toArray⟩ : ByteArray)[0] = c := rfl
  have S1 := fun W' => slice_h ⟨(c :: r).toArray⟩ 1 (by omega) W'
  change ∀ W', (Instr.slice 9 (.string ⟨(c :: r).toArray⟩) none (some (.int .i64 1)) none).run Tryz.prog W' = .ok (.string ⟨#[c]⟩) W' at S1
  have KL := fun (W' : World) => letter_p c W'
  have KG := fun (W' : World) => digit_p c W'
  have K1 := fun (W' : World) => leading_letter ⟨(c :: r).toArray⟩ W' (by omega)
  have K2 := fun (W' : World) => leading_inDay ⟨(c :: r).toArray⟩ W' (by omega)
  rw [show (⟨(c :: r).toArray⟩ : ByteArray).data.toList = c :: r from rfl] at K1 K2
  have hc8 := c.toNat_lt
  have HX0 := Lib.hid (HBox.new w [.int .i64 0, .string ⟨#[]⟩, .int .i64 0, .int .i32 0, .int .i64 0] 31)
  have HB0 := Lib.hid ((Below.refl w.heap.size w).alloc (Nat.le_refl _) (.cells #[.int .i64 0, .string ⟨#[]⟩, .int .i64 0, .int .i32 0, .int .i64 0] 31))
  have hZ : ∀ x, oneF (c :: r) = .error x → Hid (∀ e, e = .returned (.tuple #[.agg #[.int .i64 0, .string ⟨#[]⟩, .int .i64 0, .int .i32 0, .int .i64 0], .int .i64 0, .int .i64 x]) → OneR (c :: r) e) := fun x h => Lib.hid (fun e he => hOR _ h e he)
  have hT : ∀ t n, oneF (c :: r) = .ok (t, n) → Hid (∀ e, e = .returned (.tuple #[.agg #[.int .i64 (t.kind : Int), .string ⟨t.text.toArray⟩, .int .i64 t.num, .int .i32 t.day, .int .i64 (t.at_ : Int)], .int .i64 (n : Int), .int .i64 0]) → OneR (c :: r) e) := fun t n h => Lib.hid (fun e he => hOR _ h e he)
  by_cases hlo : lowB c = true
  · rw [hlo] at KL
    have hW : (c :: r).takeWhile lowB ≠ [] := by rw [List.takeWhile_cons, if_pos hlo]; simp
    have h1 : oneF (c :: r) = .ok (⟨1, (c :: r).takeWhile lowB, 0, 0, 0⟩, ((c :: r).takeWhile lowB).length) := by unfold oneF; rw [if_pos hW]
    have HQ := hT _ _ h1
    generalize (c :: r).takeWhile lowB = W at *
    have KP := Lib.hid (fun (W' : World) => plain_v 1 W W')
    have KKL := Lib.hid KL
    have KK1 := Lib.hid K1
    generalize OneR (c :: r) = Q at *
    generalize (⟨(c :: r).toArray⟩ : ByteArray) = s at *
    dsimp only at HQ
    generalize (⟨W.toArray⟩ : ByteArray) = sw at *
    generalize W.length = wn at *
    clear KL K1 K2 KG hZ hT hlo hW h1 hOR S1 D hI h0 hs hl
    go_enter Tryz.func14, Tryz.ntmps14
    go_wp2_with (first
      | (go_at_call 30; refine (KP.out _).mono ?_; rintro e w1 ⟨rfl, h1⟩; have HB1 := Lib.hid (HB0.out.trans (h1.mono HB0.out.size)); have hx := HX0.out.stay h1; have z0 := hx.cell (j := 0) rfl; have z1 := hx.cell (j := 1) rfl; have z2 := hx.cell (j := 2) rfl; have z3 := hx.cell (j := 3) rfl; have z4 := hx.cell (j := 4) rfl; have f0 := hx.frozen 0; have f1 := hx.frozen 1; have f2 := hx.frozen 2; have f3 := hx.frozen 3; have f4 := hx.frozen 4; have zz := hx.size; have HX1 := Lib.hid hx; clear hx; clear h1)
      | (go_at_call 27; refine (KK1.out _).mono ?_; rintro e w' ⟨rfl, rfl⟩)
      | (go_at_call 29; refine (KKL.out _).mono ?_; rintro e w' ⟨rfl, rfl⟩))
    have hx2 := HX1.out.set5 (.int .i64 1) (.string sw) (.int .i64 0) (.int .i32 0) (.int .i64 0)
    have y0 := hx2.cell (j := 0) rfl
    have y1 := hx2.cell (j := 1) rfl
    have y2 := hx2.cell (j := 2) rfl
    have y3 := hx2.cell (j := 3) rfl
    have y4 := hx2.cell (j := 4) rfl
    exact bodyPost_ret (v := .tuple #[.agg #[.int .i64 1, .string sw, .int .i64 0, .int .i32 0, .int .i64 0], .int .i64 (wn : Int), .int .i64 0]) (by simp [results, Tryz.results14, go_sem, y0, y1, y2, y3, y4]) rfl ⟨HQ.out _ rfl, ((((HB1.out.setCell (Nat.le_refl _) _).setCell (Nat.le_refl _) _).setCell (Nat.le_refl _) _).setCell (Nat.le_refl _) _).setCell (Nat.le_refl _) _⟩
  have hlo2 : lowB c = false := by simpa using hlo
  rw [hlo2] at KL
  have hW : (c :: r).takeWhile lowB = [] := by rw [List.takeWhile_cons, if_neg hlo]
  have KKL := Lib.hid KL
  clear KL K1 hlo hlo2
  by_cases hdi : digB c = true
  · rw [hdi] at KG
    have hdm : dimB c = true := by unfold dimB; rw [hdi]; rfl
    have hD : (c :: r).takeWhile dimB ≠ [] := by rw [List.takeWhile_cons, if_pos hdm]; simp
    have hne : (c :: r).head? ≠ some 45 := fun h => by
      have : c = 45 := Option.some.inj h
      rw [this] at hdi; exact absurd hdi (by decide)
    have hhd : ((c :: r).takeWhile dimB).head? = (c :: r).head? := tw_head hD
    have h1 : oneF (c :: r) = digF ((c :: r).takeWhile dimB) := by
      unfold oneF digF
      rw [hW, if_neg (by simp), if_pos ⟨hD, hne⟩, hhd]
      rfl
    have KD := Lib.hid (fun (W' : World) (h : Below w.heap.size w W') => digits_c D ((c :: r).takeWhile dimB) hD (fun x hx => tw_mem2 hx) (Nat.le_trans (tw_len _) hl) W' (D.stay hI h))
    have hQ := hOR _ h1
    generalize (c :: r).takeWhile dimB = T at *
    have KKG := Lib.hid KG
    have KK2 := Lib.hid K2
    generalize OneR (c :: r) = Q at *
    generalize (⟨(c :: r).toArray⟩ : ByteArray) = s at *
    clear KG K2 hZ hT hdi hdm hD hne hhd h1 hOR S1 D hI h0 hs hl hW
    cases hd : digF T with
    | error x =>
      rw [hd] at KD hQ
      have HQ : Hid (∀ e, e = .returned (.tuple #[.agg #[.int .i64 0, .string ⟨#[]⟩, .int .i64 0, .int .i32 0, .int .i64 0], .int .i64 0, .int .i64 x]) → Q e) := Lib.hid hQ
      have KD2 : Hid (∀ W', Below w.heap.size w W' → Calls Tryz.prog 32 #[.string ⟨T.toArray⟩] W' fun e w' => e = .returned (.tuple #[.agg #[.int .i64 0, .string ⟨#[]⟩, .int .i64 0, .int .i32 0, .int .i64 0], .int .i64 0, .int .i64 x]) ∧ Below W'.heap.size W' w') := KD
      clear KD hQ hd
      generalize (⟨T.toArray⟩ : ByteArray) = st at *
      go_enter Tryz.func14, Tryz.ntmps14
      go_wp2_with (first
        | (go_at_call 32; refine (KD2.out _ HB0.out).mono ?_; rintro e w1 ⟨rfl, h1⟩; have HB1 := Lib.hid (HB0.out.trans (h1.mono HB0.out.size)); have hx := HX0.out.stay h1; have z0 := hx.cell (j := 0) rfl; have z1 := hx.cell (j := 1) rfl; have z2 := hx.cell (j := 2) rfl; have z3 := hx.cell (j := 3) rfl; have z4 := hx.cell (j := 4) rfl; have f0 := hx.frozen 0; have f1 := hx.frozen 1; have f2 := hx.frozen 2; have f3 := hx.frozen 3; have f4 := hx.frozen 4; have zz := hx.size; have HX1 := Lib.hid hx; clear hx; clear h1)
        | (go_at_call 27; refine (KK2.out _).mono ?_; rintro e w' ⟨rfl, rfl⟩)
        | (go_at_call 29; refine (KKL.out _).mono ?_; rintro e w' ⟨rfl, rfl⟩)
        | (go_at_call 31; refine (KKG.out _).mono ?_; rintro e w' ⟨rfl, rfl⟩))
      have hx2 := HX1.out.set5 (.int .i64 0) (.string ⟨#[]⟩) (.int .i64 0) (.int .i32 0) (.int .i64 0)
      have y0 := hx2.cell (j := 0) rfl
      have y1 := hx2.cell (j := 1) rfl
      have y2 := hx2.cell (j := 2) rfl
      have y3 := hx2.cell (j := 3) rfl
      have y4 := hx2.cell (j := 4) rfl
      exact bodyPost_ret (v := .tuple #[.agg #[.int .i64 0, .string ⟨#[]⟩, .int .i64 0, .int .i32 0, .int .i64 0], .int .i64 0, .int .i64 x]) (by simp [results, Tryz.results14, go_sem, y0, y1, y2, y3, y4]) rfl ⟨HQ.out _ rfl, ((((HB1.out.setCell (Nat.le_refl _) _).setCell (Nat.le_refl _) _).setCell (Nat.le_refl _) _).setCell (Nat.le_refl _) _).setCell (Nat.le_refl _) _⟩
    | ok p =>
      obtain ⟨t, n⟩ := p
      rw [hd] at KD hQ
      obtain ⟨tk, tt, tn, td, ta⟩ := t
      have HQ : Hid (∀ e, e = .returned (.tuple #[.agg #[.int .i64 (tk : Int), .string ⟨tt.toArray⟩, .int .i64 tn, .int .i32 td, .int .i64 (ta : Int)], .int .i64 (n : Int), .int .i64 0]) → Q e) := Lib.hid hQ
      have KD2 : Hid (∀ W', Below w.heap.size w W' → Calls Tryz.prog 32 #[.string ⟨T.toArray⟩] W' fun e w' => e = .returned (.tuple #[.agg #[.int .i64 (tk : Int), .string ⟨tt.toArray⟩, .int .i64 tn, .int .i32 td, .int .i64 (ta : Int)], .int .i64 (n : Int), .int .i64 0]) ∧ Below W'.heap.size W' w') := KD
      clear KD hQ hd
      generalize (⟨T.toArray⟩ : ByteArray) = st at *
      generalize (⟨tt.toArray⟩ : ByteArray) = ss at *
      go_enter Tryz.func14, Tryz.ntmps14
      go_wp2_with (first
        | (go_at_call 32; refine (KD2.out _ HB0.out).mono ?_; rintro e w1 ⟨rfl, h1⟩; have HB1 := Lib.hid (HB0.out.trans (h1.mono HB0.out.size)); have hx := HX0.out.stay h1; have z0 := hx.cell (j := 0) rfl; have z1 := hx.cell (j := 1) rfl; have z2 := hx.cell (j := 2) rfl; have z3 := hx.cell (j := 3) rfl; have z4 := hx.cell (j := 4) rfl; have f0 := hx.frozen 0; have f1 := hx.frozen 1; have f2 := hx.frozen 2; have f3 := hx.frozen 3; have f4 := hx.frozen 4; have zz := hx.size; have HX1 := Lib.hid hx; clear hx; clear h1)
        | (go_at_call 27; refine (KK2.out _).mono ?_; rintro e w' ⟨rfl, rfl⟩)
        | (go_at_call 29; refine (KKL.out _).mono ?_; rintro e w' ⟨rfl, rfl⟩)
        | (go_at_call 31; refine (KKG.out _).mono ?_; rintro e w' ⟨rfl, rfl⟩))
      have hx2 := HX1.out.set5 (.int .i64 (tk : Int)) (.string ss) (.int .i64 tn) (.int .i32 td) (.int .i64 (ta : Int))
      have y0 := hx2.cell (j := 0) rfl
      have y1 := hx2.cell (j := 1) rfl
      have y2 := hx2.cell (j := 2) rfl
      have y3 := hx2.cell (j := 3) rfl
      have y4 := hx2.cell (j := 4) rfl
      exact bodyPost_ret (v := .tuple #[.agg #[.int .i64 (tk : Int), .string ss, .int .i64 tn, .int .i32 td, .int .i64 (ta : Int)], .int .i64 (n : Int), .int .i64 0]) (by simp [results, Tryz.results14, go_sem, y0, y1, y2, y3, y4]) rfl ⟨HQ.out _ rfl, ((((HB1.out.setCell (Nat.le_refl _) _).setCell (Nat.le_refl _) _).setCell (Nat.le_refl _) _).setCell (Nat.le_refl _) _).setCell (Nat.le_refl _) _⟩
  have hdi2 : digB c = false := by simpa using hdi
  rw [hdi2] at KG
  have KKG := Lib.hid KG
  have h2 : ¬ ((c :: r).takeWhile dimB ≠ [] ∧ (c :: r).head? ≠ some 45) := by
    rintro ⟨h3, h4⟩
    rw [List.takeWhile_cons] at h3
    by_cases h5 : dimB c = true
    · unfold dimB at h5
      rw [hdi2, Bool.false_or] at h5
      exact h4 (by rw [show c = 45 by simpa using h5]; rfl)
    · rw [if_neg h5] at h3; exact h3 rfl
  have hsw := oneF_sw rfl hW h2
  clear KG K2 hdi hdi2 hW h2
  by_cases h34 : c = 34
  · subst h34
    rw [if_neg (by decide), if_pos rfl] at hsw
    have KQ := fun (W' : World) => show Calls Tryz.prog 34 #[.string ⟨(34 :: r).toArray⟩] W' fun e w' => ResR (oneF (34 :: r)) e ∧ Below W'.heap.size W' w' by
      rw [hsw]; exact quoted_c r (by simp at hl; omega) W'
    have hQ := hOR _ rfl
    clear hZ hT hOR S1 D hI h0 hl hsw
    generalize oneF (34 :: r) = R at *
    generalize OneR (34 :: r) = Q at *
    generalize (⟨(34 :: r).toArray⟩ : ByteArray) = s at *
    cases R with
    | error x =>
      have HQ : Hid (∀ e, e = .returned (.tuple #[.agg #[.int .i64 0, .string ⟨#[]⟩, .int .i64 0, .int .i32 0, .int .i64 0], .int .i64 0, .int .i64 x]) → Q e) := Lib.hid hQ
      have KD2 : Hid (∀ W', Calls Tryz.prog 34 #[.string s] W' fun e w' => e = .returned (.tuple #[.agg #[.int .i64 0, .string ⟨#[]⟩, .int .i64 0, .int .i32 0, .int .i64 0], .int .i64 0, .int .i64 x]) ∧ Below W'.heap.size W' w') := KQ
      clear KQ hQ hs
      go_enter Tryz.func14, Tryz.ntmps14
      go_wp2_with (first
        | (go_at_call 34; refine (KD2.out _).mono ?_; rintro e w1 ⟨rfl, h1⟩; have HB1 := Lib.hid (HB0.out.trans (h1.mono HB0.out.size)); have hx := HX0.out.stay h1; have z0 := hx.cell (j := 0) rfl; have z1 := hx.cell (j := 1) rfl; have z2 := hx.cell (j := 2) rfl; have z3 := hx.cell (j := 3) rfl; have z4 := hx.cell (j := 4) rfl; have f0 := hx.frozen 0; have f1 := hx.frozen 1; have f2 := hx.frozen 2; have f3 := hx.frozen 3; have f4 := hx.frozen 4; have zz := hx.size; have HX1 := Lib.hid hx; clear hx; clear h1)
        | (go_at_call 29; refine (KKL.out _).mono ?_; rintro e w' ⟨rfl, rfl⟩)
        | (go_at_call 31; refine (KKG.out _).mono ?_; rintro e w' ⟨rfl, rfl⟩))
      have hx2 := HX1.out.set5 (.int .i64 0) (.string ⟨#[]⟩) (.int .i64 0) (.int .i32 0) (.int .i64 0)
      have y0 := hx2.cell (j := 0) rfl
      have y1 := hx2.cell (j := 1) rfl
      have y2 := hx2.cell (j := 2) rfl
      have y3 := hx2.cell (j := 3) rfl
      have y4 := hx2.cell (j := 4) rfl
      exact bodyPost_ret (v := .tuple #[.agg #[.int .i64 0, .string ⟨#[]⟩, .int .i64 0, .int .i32 0, .int .i64 0], .int .i64 0, .int .i64 x]) (by simp [results, Tryz.results14, go_sem, y0, y1, y2, y3, y4]) rfl ⟨HQ.out _ rfl, ((((HB1.out.setCell (Nat.le_refl _) _).setCell (Nat.le_refl _) _).setCell (Nat.le_refl _) _).setCell (Nat.le_refl _) _).setCell (Nat.le_refl _) _⟩
    | ok p =>
      obtain ⟨⟨tk, tt, tn, td, ta⟩, n⟩ := p
      have HQ : Hid (∀ e, e = .returned (.tuple #[.agg #[.int .i64 (tk : Int), .string ⟨tt.toArray⟩, .int .i64 tn, .int .i32 td, .int .i64 (ta : Int)], .int .i64 (n : Int), .int .i64 0]) → Q e) := Lib.hid hQ
      have KD2 : Hid (∀ W', Calls Tryz.prog 34 #[.string s] W' fun e w' => e = .returned (.tuple #[.agg #[.int .i64 (tk : Int), .string ⟨tt.toArray⟩, .int .i64 tn, .int .i32 td, .int .i64 (ta : Int)], .int .i64 (n : Int), .int .i64 0]) ∧ Below W'.heap.size W' w') := KQ
      clear KQ hQ hs
      generalize (⟨tt.toArray⟩ : ByteArray) = ss at *
      go_enter Tryz.func14, Tryz.ntmps14
      go_wp2_with (first
        | (go_at_call 34; refine (KD2.out _).mono ?_; rintro e w1 ⟨rfl, h1⟩; have HB1 := Lib.hid (HB0.out.trans (h1.mono HB0.out.size)); have hx := HX0.out.stay h1; have z0 := hx.cell (j := 0) rfl; have z1 := hx.cell (j := 1) rfl; have z2 := hx.cell (j := 2) rfl; have z3 := hx.cell (j := 3) rfl; have z4 := hx.cell (j := 4) rfl; have f0 := hx.frozen 0; have f1 := hx.frozen 1; have f2 := hx.frozen 2; have f3 := hx.frozen 3; have f4 := hx.frozen 4; have zz := hx.size; have HX1 := Lib.hid hx; clear hx; clear h1)
        | (go_at_call 29; refine (KKL.out _).mono ?_; rintro e w' ⟨rfl, rfl⟩)
        | (go_at_call 31; refine (KKG.out _).mono ?_; rintro e w' ⟨rfl, rfl⟩))
      have hx2 := HX1.out.set5 (.int .i64 (tk : Int)) (.string ss) (.int .i64 tn) (.int .i32 td) (.int .i64 (ta : Int))
      have y0 := hx2.cell (j := 0) rfl
      have y1 := hx2.cell (j := 1) rfl
      have y2 := hx2.cell (j := 2) rfl
      have y3 := hx2.cell (j := 3) rfl
      have y4 := hx2.cell (j := 4) rfl
      exact bodyPost_ret (v := .tuple #[.agg #[.int .i64 (tk : Int), .string ss, .int .i64 tn, .int .i32 td, .int .i64 (ta : Int)], .int .i64 (n : Int), .int .i64 0]) (by simp [results, Tryz.results14, go_sem, y0, y1, y2, y3, y4]) rfl ⟨HQ.out _ rfl, ((((HB1.out.setCell (Nat.le_refl _) _).setCell (Nat.le_refl _) _).setCell (Nat.le_refl _) _).setCell (Nat.le_refl _) _).setCell (Nat.le_refl _) _⟩
  have n34 : ((c.toNat : Int) == 34) = false := u8_ne h34
  by_cases h4 : c = 44 ∨ c = 59
  · rw [if_pos h4] at hsw
    have HQ := hT _ _ hsw
    dsimp only at HQ
    have KP := Lib.hid (fun (W' : World) => plain_v 5 [c] W')
    have B4 : ((c.toNat : Int) == 44) = true ∨ (((c.toNat : Int) == 44) = false ∧ ((c.toNat : Int) == 59) = true) := by
      rcases h4 with rfl | rfl
      · exact Or.inl (by decide)
      · exact Or.inr ⟨by decide, by decide⟩
    clear hZ hT hOR D hI h0 hl hsw h4 hs
    generalize OneR (c :: r) = Q at *
    generalize (⟨(c :: r).toArray⟩ : ByteArray) = s at *
    change Hid (∀ e, e = .returned (.tuple #[.agg #[.int .i64 5, .string ⟨#[c]⟩, .int .i64 0, .int .i32 0, .int .i64 0], .int .i64 1, .int .i64 0]) → Q e) at HQ
    change Hid (∀ W', Calls Tryz.prog 30 #[.int .i64 5, .string ⟨#[c]⟩] W' fun e w' => e = .returned (.tuple #[.agg #[.int .i64 5, .string ⟨#[c]⟩, .int .i64 0, .int .i32 0, .int .i64 0], .int .i64 1, .int .i64 0]) ∧ Below W'.heap.size W' w') at KP
    generalize (⟨#[c]⟩ : ByteArray) = sc at *
    rcases B4 with b1 | ⟨b1, b2⟩
    · go_enter Tryz.func14, Tryz.ntmps14
      go_wp2_with (first
        | (go_at_call 30; refine (KP.out _).mono ?_; rintro e w1 ⟨rfl, h1⟩; have HB1 := Lib.hid (HB0.out.trans (h1.mono HB0.out.size)); have hx := HX0.out.stay h1; have z0 := hx.cell (j := 0) rfl; have z1 := hx.cell (j := 1) rfl; have z2 := hx.cell (j := 2) rfl; have z3 := hx.cell (j := 3) rfl; have z4 := hx.cell (j := 4) rfl; have f0 := hx.frozen 0; have f1 := hx.frozen 1; have f2 := hx.frozen 2; have f3 := hx.frozen 3; have f4 := hx.frozen 4; have zz := hx.size; have HX1 := Lib.hid hx; clear hx; clear h1)
        | (go_at_call 29; refine (KKL.out _).mono ?_; rintro e w' ⟨rfl, rfl⟩)
        | (go_at_call 31; refine (KKG.out _).mono ?_; rintro e w' ⟨rfl, rfl⟩))
      have hx2 := HX1.out.set5 (.int .i64 5) (.string sc) (.int .i64 0) (.int .i32 0) (.int .i64 0)
      have y0 := hx2.cell (j := 0) rfl
      have y1 := hx2.cell (j := 1) rfl
      have y2 := hx2.cell (j := 2) rfl
      have y3 := hx2.cell (j := 3) rfl
      have y4 := hx2.cell (j := 4) rfl
      exact bodyPost_ret (v := .tuple #[.agg #[.int .i64 5, .string sc, .int .i64 0, .int .i32 0, .int .i64 0], .int .i64 1, .int .i64 0]) (by simp [results, Tryz.results14, go_sem, y0, y1, y2, y3, y4]) rfl ⟨HQ.out _ rfl, ((((HB1.out.setCell (Nat.le_refl _) _).setCell (Nat.le_refl _) _).setCell (Nat.le_refl _) _).setCell (Nat.le_refl _) _).setCell (Nat.le_refl _) _⟩
    · go_enter Tryz.func14, Tryz.ntmps14
      go_wp2_with (first
        | (go_at_call 30; refine (KP.out _).mono ?_; rintro e w1 ⟨rfl, h1⟩; have HB1 := Lib.hid (HB0.out.trans (h1.mono HB0.out.size)); have hx := HX0.out.stay h1; have z0 := hx.cell (j := 0) rfl; have z1 := hx.cell (j := 1) rfl; have z2 := hx.cell (j := 2) rfl; have z3 := hx.cell (j := 3) rfl; have z4 := hx.cell (j := 4) rfl; have f0 := hx.frozen 0; have f1 := hx.frozen 1; have f2 := hx.frozen 2; have f3 := hx.frozen 3; have f4 := hx.frozen 4; have zz := hx.size; have HX1 := Lib.hid hx; clear hx; clear h1)
        | (go_at_call 29; refine (KKL.out _).mono ?_; rintro e w' ⟨rfl, rfl⟩)
        | (go_at_call 31; refine (KKG.out _).mono ?_; rintro e w' ⟨rfl, rfl⟩))
      have hx2 := HX1.out.set5 (.int .i64 5) (.string sc) (.int .i64 0) (.int .i32 0) (.int .i64 0)
      have y0 := hx2.cell (j := 0) rfl
      have y1 := hx2.cell (j := 1) rfl
      have y2 := hx2.cell (j := 2) rfl
      have y3 := hx2.cell (j := 3) rfl
      have y4 := hx2.cell (j := 4) rfl
      exact bodyPost_ret (v := .tuple #[.agg #[.int .i64 5, .string sc, .int .i64 0, .int .i32 0, .int .i64 0], .int .i64 1, .int .i64 0]) (by simp [results, Tryz.results14, go_sem, y0, y1, y2, y3, y4]) rfl ⟨HQ.out _ rfl, ((((HB1.out.setCell (Nat.le_refl _) _).setCell (Nat.le_refl _) _).setCell (Nat.le_refl _) _).setCell (Nat.le_refl _) _).setCell (Nat.le_refl _) _⟩
  · rw [if_neg h4, if_neg h34] at hsw
    have HQ := hZ _ hsw
    have n44 : ((c.toNat : Int) == 44) = false := u8_ne (fun h => h4 (Or.inl h))
    have n59 : ((c.toNat : Int) == 59) = false := u8_ne (fun h => h4 (Or.inr h))
    clear hZ hT hOR D hI h0 hl hsw h4 hs S1
    generalize OneR (c :: r) = Q at *
    generalize (⟨(c :: r).toArray⟩ : ByteArray) = s at *
    go_enter Tryz.func14, Tryz.ntmps14
    go_wp2_with (first
      | (go_at_call 29; refine (KKL.out _).mono ?_; rintro e w' ⟨rfl, rfl⟩)
      | (go_at_call 31; refine (KKG.out _).mono ?_; rintro e w' ⟨rfl, rfl⟩))
    exact bodyPost_ret (v := .tuple #[.agg #[.int .i64 0, .string ⟨#[]⟩, .int .i64 0, .int .i32 0, .int .i64 0], .int .i64 0, .int .i64 1]) (by simp [results, Tryz.results14, go_sem]) rfl ⟨HQ.out _ rfl, (Below.refl _ _).alloc (Nat.le_refl _) _⟩
end Go.Proofs.YtafmakhhdinknaaGreatDoor

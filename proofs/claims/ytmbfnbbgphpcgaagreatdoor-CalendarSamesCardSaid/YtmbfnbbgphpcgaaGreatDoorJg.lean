/- The walk of law CalendarSames. -/
import Derived.Test.YtmbfnbbgphpcgaaGreatDoorJc
namespace Go.Proofs.YtmbfnbbgphpcgaaGreatDoor
open Go.RowKit
set_option linter.unusedVariables false
set_option linter.unusedSimpArgs false
/-- Are the first of both alike, and the lengths and the ends? -/
def sameP (S T : List Int) (E F : Int) (k : Nat) : Bool := decide ((S.length = T.length ∧ E = F) ∧ S.take k = T.take k)
theorem sameP_zero (S T : List Int) (E F : Int) : sameP S T E F 0 = decide (S.length = T.length ∧ E = F) := by
  unfold sameP
  apply decide_eq_decide.2
  simp
theorem sameP_step {S T : List Int} {E F : Int} {k : Nat} {x y : Int} (hx : S[k]? = some x) (hy : T[k]? = some y) : sameP S T E F (k + 1) = (sameP S T E F k && (x == y)) := by
  obtain ⟨h1, e1⟩ := List.getElem?_eq_some_iff.1 hx
  obtain ⟨h2, e2⟩ := List.getElem?_eq_some_iff.1 hy
  unfold sameP
  rw [List.take_succ_eq_append_getElem h1, List.take_succ_eq_append_getElem h2, e1, e2]
  rw [Bool.eq_iff_iff, Bool.and_eq_true, decide_eq_true_eq, decide_eq_true_eq, beq_iff_eq]
  constructor
  · rintro ⟨h, e⟩
    have hl : (S.take k).length = (T.take k).length := by rw [List.length_take, List.length_take]; omega
    obtain ⟨g1, g2⟩ := List.append_inj e hl
    exact ⟨⟨h, g1⟩, by simpa using g2⟩
  · rintro ⟨⟨h, e⟩, rfl⟩
    exact ⟨h, by rw [e]⟩
theorem sameP_all {S T : List Int} {E F : Int} {k : Nat} (hk : min S.length T.length ≤ k) : sameP S T E F k = decide (S = T ∧ E = F) := by
  unfold sameP
  apply decide_eq_decide.2
  constructor
  · rintro ⟨⟨h1, h2⟩, h3⟩
    rw [List.take_of_length_le (by omega), List.take_of_length_le (by omega)] at h3
    exact ⟨h3, h2⟩
  · rintro ⟨rfl, h⟩
    exact ⟨⟨rfl, h⟩, rfl⟩
set_option maxHeartbeats 4000000 in
set_option maxRecDepth 100000 in
theorem calsames_any {I : World → Prop} (C : AllotC) (D : DayC I) (K : KeyC I) (U : UnitC) (LC : CalC I) (va vb : Value) (la lb : List Nat) (a b : Int) (same : Bool) (ha : -32768 ≤ a ∧ a ≤ 32767) (hb : -32768 ≤ b ∧ b ≤ 32767) (w : World) (hI : I w) (hA : Recs u8c 1 w va la) (hB : Recs u8c 1 w vb lb) :
    Calls Tryz.prog 5 #[.int .i16 a, .int .i16 b, va, vb, .bool same] w fun e w' => e = .returned (.bool true) ∧ Below w.heap.size w w' := by
  have HW := Lib.hid (awake8_any C D K U LC w hI)
  have HM := Lib.hid (fun (w' : World) (h : Below w.heap.size w w') => makeC_c _ la a ha w' (hA.stay h))
  have hL := mkS_lens a la
  obtain ⟨b', lb', hbl⟩ : ∃ b' lb', (if same then (a, la) else (b, lb)) = (b', lb') := ⟨_, _, rfl⟩
  have hL2 := mkS_lens b' lb'
  have HS := Lib.hid (fun (V V' : Value) (w' : World) (h : Recs dcl 1 w' V (mkS a la)) (h' : Recs dcl 1 w' V' (mkS b' lb')) => LC.same V V' _ _ (mkE a la) (mkE b' lb') w' h h' (by omega) (by omega))
  have HM2 : Hid (∀ (w' : World) (h : Below w.heap.size w w'), Calls Tryz.prog 13 #[.int .i16 b', if same then va else vb] w' fun e w'' => ∃ v', e = .returned (.agg #[v', .int .i32 (mkE b' lb')]) ∧ w''.ownsRow w'.heap.size 25 1 v' (mkS b' lb').length ((mkS b' lb').flatMap dcl) ∧ Below w'.heap.size w' w'') := Lib.hid (fun w' h => by
    cases same with
    | true => cases hbl; exact makeC_c _ la a ha w' (hA.stay h)
    | false => cases hbl; exact makeC_c _ lb b hb w' (hB.stay h))
  have hb' : b' = if same then a else b := by cases same <;> (cases hbl; rfl)
  generalize mkS b' lb' = T at HM2 HS hL2
  generalize mkE b' lb' = F at HM2 HS
  generalize mkS a la = S at HM HS hL
  generalize mkE a la = E at HM HS
  subst hb'
  obtain ⟨L, hLL⟩ : ∃ L, S.length = L := ⟨_, rfl⟩
  obtain ⟨M, hMM⟩ : ∃ M, T.length = M := ⟨_, rfl⟩
  have HL := Lib.hid (And.intro hLL hMM)
  rw [hLL] at hL HM
  rw [hMM] at hL2 HM2
  clear hA hB C D K U LC hI hLL hMM hbl
  go_enter Tryz.func5, Tryz.ntmps5
  cases same
  all_goals
    simp only [Bool.false_eq_true, if_false, if_true] at HM2
    go_upto_region 6 with (first
      | (go_at_call 13; refine (HM2.out _ HB2.out).mono ?_; rintro e w3 ⟨v3, rfl, ho, h2⟩; have HR3 := Lib.hid (recs_of_owns dcl_len ho HL.out.2.symm (by omega)); have HR2' := Lib.hid (HR2.out.stay h2); have HB3 := Lib.hid (HB2.out.trans (h2.mono HB2.out.size)); obtain ⟨r3, cap3, rfl⟩ := owns_form ho; clear h2 ho)
      | (go_at_call 13; refine (HM.out _ HB1.out).mono ?_; rintro e w2 ⟨v2, rfl, ho, h2⟩; have HR2 := Lib.hid (recs_of_owns dcl_len ho HL.out.1.symm (by omega)); have HB2 := Lib.hid (HB1.out.trans (h2.mono HB1.out.size)); obtain ⟨r2, cap2, rfl⟩ := owns_form ho; clear h2 ho)
      | (go_at_call 8; refine HW.out.mono ?_; rintro e w1 ⟨rfl, h1⟩; have HB1 := Lib.hid h1; clear h1))
    have hs3 : (w3.alloc (.cells #[.slice r2 L cap2, .int .i32 E] 27)).heap.size = w3.heap.size + 1 := by simp
    have hbx := (Box2.new w3 (.slice r2 L cap2) (.int .i32 E) 27).alloc (.cells #[.slice r3 M cap3, .int .i32 F] 27)
    have hby := Box2.new (w3.alloc (.cells #[.slice r2 L cap2, .int .i32 E] 27)) (.slice r3 M cap3) (.int .i32 F) 27
    have hba := ((Below.refl w3.heap.size w3).alloc (Nat.le_refl _) (.cells #[.slice r2 L cap2, .int .i32 E] 27)).alloc (by omega) (.cells #[.slice r3 M cap3, .int .i32 F] 27)
    rw [hs3] at hby
    have HR2 := Lib.hid (HR2'.out.stay hba)
    have HR3 := Lib.hid (HR3.out.stay hba)
    have HB0 := Lib.hid (HB3.out.trans (hba.mono HB3.out.size))
    clear hba hs3 HR2' HB3
    generalize (w3.alloc (.cells #[.slice r2 L cap2, .int .i32 E] 27)).alloc (.cells #[.slice r3 M cap3, .int .i32 F] 27) = V at hbx hby HR2 HR3 HB0 ⊢
    generalize w3.heap.size + 1 = Y at hby ⊢
    generalize w3.heap.size = X at hbx ⊢
    obtain ⟨p0, p1, _, _, _⟩ := hbx
    obtain ⟨p2, p3, _, _, _⟩ := hby
    have hz := sameP_zero S T E F
    rw [HL.out.1, HL.out.2] at hz
    obtain ⟨mn, hmn⟩ : ∃ mn, min L M = mn := ⟨_, rfl⟩
    have hmi : min (L : Int) (M : Int) = (mn : Int) := by omega
    have hmn1 : mn ≤ L ∧ mn ≤ M ∧ (mn = L ∨ mn = M) := by omega
    clear hmn
    have hbd : ∀ q, Below V.heap.size V (V.drewN q) := fun q => ⟨rfl, rfl, rfl, Nat.le_refl _, fun _ _ => rfl⟩
    have KS := Lib.hid (fun q => HS.out _ _ (V.drewN q) (HR2.out.stay (hbd q)) (HR3.out.stay (hbd q)))
    have HBD := Lib.hid hbd
    clear hbd
    go_cut [13] (fun s13 wx => s13 = .bool (sameP S T E F 0) ∧ wx = V)
    case first =>
      by_cases hLM : L = M
      · subst hLM
        rw [show decide (L = L ∧ E = F) = decide (E = F) by simp] at hz
        go_wp2_with fail
        go_meet
        exact ⟨by rw [hz]; exact congrArg Value.bool (Bool.eq_iff_iff.2 (by simp)), rfl⟩
      · have t1 : (L == M) = false := by simp [hLM]
        rw [show decide (L = M ∧ E = F) = false by simp [hLM]] at hz
        go_wp2_with fail
        go_meet
        exact ⟨by rw [hz], rfl⟩
    case rest =>
      obtain ⟨rfl, rfl⟩ := hcut
      clear hz
      go_wp2_with fail
      generalize wc = V at *
      go_loopw [13, 47] (fun s13 i wr => ∃ (k q : Nat), s13 = .bool (sameP S T E F k) ∧ i = .int .i64 k ∧ k ≤ mn ∧ wr = V.drewN q) (fun _ i _ => mn - (intOf i).toNat)
      case atStart => exact ⟨0, 0, rfl, rfl, Nat.zero_le _, rfl⟩
      case round =>
        obtain ⟨k, q, rfl, rfl, hk, rfl⟩ := hrel
        by_cases hlt : k < mn
        · obtain ⟨x, hx⟩ : ∃ x, S[k]? = some x := ⟨S[k]'(by have := HL.out.1; omega), List.getElem?_eq_getElem (by have := HL.out.1; omega)⟩
          obtain ⟨y, hy⟩ : ∃ y, T[k]? = some y := ⟨T[k]'(by have := HL.out.2; omega), List.getElem?_eq_getElem (by have := HL.out.2; omega)⟩
          have hstep := sameP_step (E := E) (F := F) hx hy
          have hkL : (k : Int) < (L : Int) := by omega
          have hkM : (k : Int) < (M : Int) := by omega
          have hk0 : (0 : Int) ≤ (k : Int) := by omega
          obtain ⟨g2, o2, rfl, _, h2⟩ := HR2.out.at hx
          obtain ⟨g3, o3, rfl, _, h3⟩ := HR3.out.at hy
          have c2 := h2 0 _ rfl
          have c3 := h3 0 _ rfl
          simp only [Nat.mul_one, Nat.add_zero] at c2 c3
          clear h2 h3 hx hy
          cases hB : sameP S T E F k with
          | true =>
            rw [hB] at hstep
            have HST := Lib.hid hstep
            clear hstep hB
            go_wp2_with fail
            go_quiet (fail)
            go_wp2
            go_roundw
            case rel => exact ⟨k + 1, q + nq, by rw [HST.out]; simp, by go_num, by omega, rfl⟩
            case measure => simp [intOf]; omega
          | false =>
            rw [hB] at hstep
            have HST := Lib.hid hstep
            clear hstep hB
            go_wp2_with fail
            go_quiet (fail)
            go_wp2
            go_roundw
            case rel => exact ⟨k + 1, q + nq, by rw [HST.out]; simp, by go_num, by omega, rfl⟩
            case measure => simp [intOf]; omega
        · obtain rfl : k = mn := by omega
          have hall := sameP_all (S := S) (T := T) (E := E) (F := F) (k := k) (by rw [HL.out.1, HL.out.2]; omega)
          have K1 := Lib.hid (KS.out q)
          rw [← hall] at K1
          clear hall
          generalize sameP S T E F k = B at *
          go_wp2_with (go_at_call 16; refine K1.out.mono ?_; rintro e x4 ⟨rfl, h⟩; have H4 := Lib.hid ((HBD.out q).trans (h.mono (HBD.out q).size)); clear h)
          go_ret
          exact ⟨by simp, HB0.out.trans (H4.out.mono HB0.out.size)⟩
end Go.Proofs.YtmbfnbbgphpcgaaGreatDoor

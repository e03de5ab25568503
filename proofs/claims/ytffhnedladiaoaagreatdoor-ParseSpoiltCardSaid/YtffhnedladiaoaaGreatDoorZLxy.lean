/- Law 12's one: its contract. -/
import Derived.Test.YtffhnedladiaoaaGreatDoorZLxx
import Derived.Deep.DeepCutAuto
namespace Go.Proofs.YtffhnedladiaoaaGreatDoor
open Go.RowKit Go.Lib
set_option linter.unusedVariables false
set_option linter.unusedSimpArgs false
set_option maxHeartbeats 8000000 in
set_option maxRecDepth 100000 in
theorem one_c {I : World → Prop} (D : DayC I) (s : ByteArray) (w : World) (hI : I w) (h0 : 0 < s.size) (hs : s.size ≤ 100000) :
    Calls Tryz.prog 63 #[.string s] w fun e w' => OneR s.data.toList e ∧ Below w.heap.size w w' := by
  have hlen : s.data.toList.length = s.size := by simp
  obtain ⟨W, hW⟩ : ∃ W, s.data.toList.takeWhile lowB = W := ⟨_, rfl⟩
  obtain ⟨T, hT⟩ : ∃ T, s.data.toList.takeWhile dimB = T := ⟨_, rfl⟩
  have hWl : W.length ≤ s.size := by rw [← hW, ← hlen]; exact tw_len _
  have hTl : T.length ≤ s.size := by rw [← hT, ← hlen]; exact tw_len _
  have hWt : s.data.toList.take W.length = W := by rw [← hW]; exact tw_take _
  have hTt : s.data.toList.take T.length = T := by rw [← hT]; exact tw_take _
  have K1 := fun W' => show Calls Tryz.prog 99 #[.string s, .string ⟨#[97, 98, 99, 100, 101, 102, 103, 104, 105, 106, 107, 108, 109, 110, 111, 112, 113, 114, 115, 116, 117, 118, 119, 120, 121, 122]⟩] W' fun e w' => e = .returned (.int .i64 ((s.data.toList.takeWhile lowB).length : Nat)) ∧ w' = W' from among_c s ⟨lowS.toArray⟩ lowB low_set W' (by omega)
  have K2 := fun W' => show Calls Tryz.prog 99 #[.string s, .string ⟨#[48, 49, 50, 51, 52, 53, 54, 55, 56, 57, 45]⟩] W' fun e w' => e = .returned (.int .i64 ((s.data.toList.takeWhile dimB).length : Nat)) ∧ w' = W' from among_c s ⟨dimS.toArray⟩ dimB dim_set W' (by omega)
  rw [hW] at K1
  rw [hT] at K2
  have S1 := fun W' => slice_h s W.length hWl W'
  have S2 := fun W' => slice_h s T.length hTl W'
  rw [hWt] at S1
  rw [hTt] at S2
  obtain ⟨nW, hnW⟩ : ∃ n, W.length = n := ⟨_, rfl⟩
  obtain ⟨nT, hnT⟩ : ∃ n, T.length = n := ⟨_, rfl⟩
  rw [hnW] at S1 K1 hWl
  rw [hnT] at S2 K2 hTl
  have KK1 := Lib.hid K1
  have KK2 := Lib.hid K2
  have HI := Lib.hid hI
  have HD := Lib.hid D
  clear K1 K2 D hI
  by_cases h1 : 0 < nW
  · have EQ : Hid (oneF s.data.toList = .ok (⟨1, W, 0, 0, 0⟩, nW)) := Lib.hid (by
      unfold oneF
      rw [hW, if_pos (by intro h; rw [h] at hnW; simp at hnW; omega), hnW])
    clear S2 hWt hTt hW hT hWl hTl hlen hnW hnT
    go_enter Tryz.func63, Tryz.ntmps63
    go_wp2_with (go_at_call 99; refine (KK1.out _).mono ?_; rintro e w1 ⟨rfl, rfl⟩)
    exact bodyPost_ret (v := .tuple #[tokV ⟨1, W, 0, 0, 0⟩, .int .i64 (nW : Int), .int .i64 0]) (by simp [results, Tryz.results63, go_sem, tokV]) rfl ⟨oneR_ok EQ.out rfl, (Below.refl _ _).alloc (Nat.le_refl _) _⟩
  obtain rfl : nW = 0 := by omega
  have hW0 : W = [] := List.eq_nil_of_length_eq_zero hnW
  subst hW0
  clear S1 hWt hWl h1 hnW
  obtain ⟨c, r, hcr⟩ : ∃ c r, s.data.toList = c :: r := by
    cases h : s.data.toList with
    | nil => rw [h] at hlen; simp at hlen; omega
    | cons c r => exact ⟨c, r, rfl⟩
  have hc0 : s[0] = c := by
    have h2 : s.data.toList[0]? = some s[0] := by rw [List.getElem?_eq_getElem (by rw [hlen]; exact h0)]; rfl
    rw [hcr] at h2
    simpa using h2.symm
  have S3 := fun W' => slice_h s 1 (by omega) W'
  rw [show s.data.toList.take 1 = [c] by rw [hcr]; rfl] at S3
  change ∀ W', (Instr.slice 9 (.string s) none (some (.int .i64 1)) none).run Tryz.prog W' = _ at S3
  have hhd : s.data.toList.head? = some c := by rw [hcr]; rfl
  by_cases hT0 : 0 < nT
  case neg =>
    obtain rfl : nT = 0 := by omega
    have HSW := Lib.hid (oneF_sw hcr hW (by rw [hT, List.eq_nil_of_length_eq_zero hnT]; simp))
    clear S2 hTt hTl hW hT hnT hhd hT0
    by_cases e44 : c = 44
    · subst e44
      have EQ : Hid (oneF s.data.toList = .ok (⟨5, [44], 0, 0, 0⟩, 1)) := Lib.hid (by rw [HSW.out, if_pos (Or.inl rfl)])
      go_enter Tryz.func63, Tryz.ntmps63
      go_wp2_with (go_at_call 99; first | (with_reducible refine (KK1.out _).mono ?_; rintro e w1 ⟨rfl, rfl⟩) | (with_reducible refine (KK2.out _).mono ?_; rintro e w2 ⟨rfl, rfl⟩))
      exact bodyPost_ret (v := .tuple #[tokV ⟨5, [44], 0, 0, 0⟩, .int .i64 1, .int .i64 0]) (by simp [results, Tryz.results63, go_sem, tokV]) rfl ⟨oneR_ok EQ.out rfl, (Below.refl _ _).alloc (Nat.le_refl _) _⟩
    by_cases e59 : c = 59
    · subst e59
      have EQ : Hid (oneF s.data.toList = .ok (⟨5, [59], 0, 0, 0⟩, 1)) := Lib.hid (by rw [HSW.out, if_pos (Or.inr rfl)])
      go_enter Tryz.func63, Tryz.ntmps63
      go_wp2_with (go_at_call 99; first | (with_reducible refine (KK1.out _).mono ?_; rintro e w1 ⟨rfl, rfl⟩) | (with_reducible refine (KK2.out _).mono ?_; rintro e w2 ⟨rfl, rfl⟩))
      exact bodyPost_ret (v := .tuple #[tokV ⟨5, [59], 0, 0, 0⟩, .int .i64 1, .int .i64 0]) (by simp [results, Tryz.results63, go_sem, tokV]) rfl ⟨oneR_ok EQ.out rfl, (Below.refl _ _).alloc (Nat.le_refl _) _⟩
    have n44 : ((c.toNat : Int) == 44) = false := u8_ne e44
    have n59 : ((c.toNat : Int) == 59) = false := u8_ne e59
    have hcl := c.toNat_lt
    by_cases e34 : c = 34
    case neg =>
      have EQ : Hid (oneF s.data.toList = .error 1) := Lib.hid (by rw [HSW.out, if_neg (by simp [e44, e59]), if_neg e34])
      have n34 : ((c.toNat : Int) == 34) = false := u8_ne e34
      clear e44 e59 e34
      go_enter Tryz.func63, Tryz.ntmps63
      go_wp2_with (go_at_call 99; first | (with_reducible refine (KK1.out _).mono ?_; rintro e w1 ⟨rfl, rfl⟩) | (with_reducible refine (KK2.out _).mono ?_; rintro e w2 ⟨rfl, rfl⟩))
      exact bodyPost_ret (v := .tuple #[tokV ⟨0, [], 0, 0, 0⟩, .int .i64 0, .int .i64 1]) (by simp [results, Tryz.results63, go_sem, tokV]) rfl ⟨oneR_err EQ.out rfl, (Below.refl _ _).alloc (Nat.le_refl _) _⟩
    case pos =>
      subst e34
      clear e44 e59 n44 n59 hcl S3
      obtain ⟨Q, hQ⟩ : ∃ q, (r.takeWhile inQ).length = q := ⟨_, rfl⟩
      have hrl : r.length + 1 = s.size := by rw [← hlen, hcr]; rfl
      have hQr : Q ≤ r.length := by rw [← hQ]; exact tw_len r
      have hix : ∀ (k : Nat) (h : k + 1 < s.size), r[k]? = some s[k + 1] := fun k h => by
        have h2 : s.data.toList[k + 1]? = some s[k + 1] := by rw [List.getElem?_eq_getElem (by rw [hlen]; exact h)]; rfl
        rw [hcr] at h2
        simpa using h2
      have J1 := Lib.hid (fun (k : Nat) (hk : 1 ≤ k) (hkQ : k ≤ Q) (h : k < s.size) => show inQ s[k] = true by
        obtain ⟨j, rfl⟩ : ∃ j, k = j + 1 := ⟨k - 1, by omega⟩
        exact tw_at r j s[j + 1] (by omega) (hix j h))
      have J2 := Lib.hid (fun (h : Q + 1 < s.size) => show inQ s[Q + 1] = false from tw_end (p := inQ) r s[Q + 1] (by rw [hQ]; exact hix Q h))
      have J3 : Hid (∀ (h : Q + 1 < s.size), s[Q + 1] = 34 → oneF s.data.toList = .ok (⟨4, r.take Q, 0, 0, 0⟩, Q + 2)) := Lib.hid (fun h h2 => by
        have e := hix Q h
        have e4 : r.take Q = r.takeWhile inQ := by rw [← hQ]; exact tw_take r
        rw [HSW.out, if_neg (by decide), if_pos rfl, hQ, if_pos (by rw [List.head?_drop, e, h2]), e4])
      have J4 : Hid ((∀ (h : Q + 1 < s.size), s[Q + 1] ≠ 34) → oneF s.data.toList = .error 3) := Lib.hid (fun h2 => by
        rw [HSW.out, if_neg (by decide), if_pos rfl, hQ, if_neg]
        rw [List.head?_drop]
        intro h3
        obtain ⟨h4, _⟩ := List.getElem?_eq_some_iff.1 h3
        have h5 := hix Q (by omega)
        rw [h5] at h3
        exact h2 (by omega) (Option.some.inj h3))
      have J5 := Lib.hid (fun (W' : World) (hQ2 : Q + 1 ≤ s.size) => slice_m s 1 (Q + 1) (by omega) hQ2 W')
      have hdr : s.data.toList.drop 1 = r := by rw [hcr]; rfl
      rw [hdr, Nat.add_sub_cancel] at J5
      clear HSW hcr hdr hix hrl hQ hQr hlen
      go_enter Tryz.func63, Tryz.ntmps63
      go_wp2_with (go_at_call 99; first | (with_reducible refine (KK1.out _).mono ?_; rintro e w1 ⟨rfl, rfl⟩) | (with_reducible refine (KK2.out _).mono ?_; rintro e w2 ⟨rfl, rfl⟩))
      go_loop [12] (fun i => ∃ k : Nat, i = .int .i64 (k : Int) ∧ 1 ≤ k ∧ k ≤ Q + 1) (fun i => Q + 1 - (RowKit.intOf i).toNat)
      case atStart => exact ⟨1, rfl, Nat.le_refl _, by omega⟩
      case round =>
        obtain ⟨k, rfl, hk1, hkQ⟩ := hrel
        by_cases hlt : k < s.size
        case neg =>
          have EQ : Hid (oneF s.data.toList = .error 3) := Lib.hid (J4.out (fun h => by omega))
          go_wp2
          exact bodyPost_ret (v := .tuple #[tokV ⟨0, [], 0, 0, 0⟩, .int .i64 0, .int .i64 3]) (by simp [results, Tryz.results63, go_sem, tokV]) rfl ⟨oneR_err EQ.out rfl, (Below.refl _ _).alloc (Nat.le_refl _) _⟩
        case pos =>
          by_cases hq : k ≤ Q
          · have h6 := J1.out k hk1 hq hlt
            have h10 : s[k] ≠ 10 := by intro h; rw [h] at h6; exact absurd h6 (by decide)
            have h34 : s[k] ≠ 34 := by intro h; rw [h] at h6; exact absurd h6 (by decide)
            have m34 : ((s[k].toNat : Int) == 34) = false := u8_ne h34
            have m10' : ((s[k].toNat : Int) != 10) = true := u8_ne' h10
            have hcl := (s[k]).toNat_lt
            clear h6 h10 h34
            go_wp2
            go_round
            case rel => exact ⟨k + 1, by go_num, by omega, by omega⟩
            case measure => simp [RowKit.intOf]; omega
          · obtain rfl : k = Q + 1 := by omega
            have h6 := J2.out hlt
            by_cases h34 : s[Q + 1] = 34
            · have EQ := Lib.hid (J3.out hlt h34)
              have ec : ((Q + 1 : Nat) : Int) = (Q : Int) + 1 := by omega
              have J : ∀ W', (Instr.slice 9 (.string s) (some (.int .i64 1)) (some (.int .i64 ((Q : Int) + 1))) none).run Tryz.prog W' = .ok (.string ⟨(r.take Q).toArray⟩) W' := fun W' => by
                have h7 := J5.out W' (by omega)
                rw [ec] at h7
                exact h7
              have m34 : ((s[Q + 1].toNat : Int) == 34) = true := u8_eq h34
              have m10' : ((s[Q + 1].toNat : Int) != 10) = true := u8_ne' (show s[Q + 1] ≠ 10 by rw [h34]; decide)
              have hcl := (s[Q + 1]).toNat_lt
              clear h6 h34
              go_wp2
              exact bodyPost_ret (v := .tuple #[tokV ⟨4, r.take Q, 0, 0, 0⟩, .int .i64 ((Q : Int) + 2), .int .i64 0]) (by simp [results, Tryz.results63, go_sem, tokV, Int.add_assoc]) rfl ⟨oneR_ok EQ.out (by simp), (Below.refl _ _).alloc (Nat.le_refl _) _⟩
            · have EQ : Hid (oneF s.data.toList = .error 3) := Lib.hid (J4.out (fun h => h34))
              have h10 : s[Q + 1] = 10 := by
                unfold inQ at h6
                simp only [Bool.and_eq_false_iff, bne_eq_false_iff_eq] at h6
                rcases h6 with h | h
                · exact h
                · exact absurd h h34
              have m10' : ((s[Q + 1].toNat : Int) != 10) = false := u8_eq' h10
              have hcl := (s[Q + 1]).toNat_lt
              clear h6 h34 h10
              go_wp2
              exact bodyPost_ret (v := .tuple #[tokV ⟨0, [], 0, 0, 0⟩, .int .i64 0, .int .i64 3]) (by simp [results, Tryz.results63, go_sem, tokV]) rfl ⟨oneR_err EQ.out rfl, (Below.refl _ _).alloc (Nat.le_refl _) _⟩
  case pos =>
    by_cases h45 : c = 45
    case pos =>
      subst h45
      have EQ : Hid (oneF s.data.toList = .error 1) := Lib.hid (by rw [oneF_sw hcr hW (by rw [hhd]; simp), if_neg (by decide), if_neg (by decide)])
      clear S2 S3 hTt hTl hW hT hnT hhd hcr hlen
      go_enter Tryz.func63, Tryz.ntmps63
      go_wp2_with (go_at_call 99; first | (with_reducible refine (KK1.out _).mono ?_; rintro e w1 ⟨rfl, rfl⟩) | (with_reducible refine (KK2.out _).mono ?_; rintro e w2 ⟨rfl, rfl⟩))
      exact bodyPost_ret (v := .tuple #[tokV ⟨0, [], 0, 0, 0⟩, .int .i64 0, .int .i64 1]) (by simp [results, Tryz.results63, go_sem, tokV]) rfl ⟨oneR_err EQ.out rfl, (Below.refl _ _).alloc (Nat.le_refl _) _⟩
    case neg =>
      have m45 : ((c.toNat : Int) != 45) = true := u8_ne' h45
      have hTne : T ≠ [] := by intro h; rw [h] at hnT; simp at hnT; omega
      have HON : Hid (oneF s.data.toList = (if (45 : UInt8) ∈ T then
          match dayOf T with
          | none => .error 13
          | some d => .ok (⟨3, T, 0, d, 0⟩, T.length)
        else if 7 < T.length ∨ (1 < T.length ∧ s.data.toList.head? = some 48) then .error 5
        else .ok (⟨2, T, numL T, 0, 0⟩, T.length))) := Lib.hid (by
        unfold oneF
        rw [hW, hT, if_neg (by simp), if_pos ⟨hTne, by rw [hhd]; simp [h45]⟩]
        rfl)
      rw [hhd, hnT] at HON
      have hTm : ∀ x ∈ T, dimB x = true := fun x hx => tw_mem2 (s := s.data.toList) (by rw [hT]; exact hx)
      have hTh : T.head? = some c := by
        have := tw_head (p := dimB) (s := s.data.toList) (by rw [hT]; exact hTne)
        rw [hT, hhd] at this
        exact this
      obtain ⟨st, hst⟩ : ∃ st : ByteArray, (⟨T.toArray⟩ : ByteArray) = st := ⟨_, rfl⟩
      have hsd : st.data.toList = T := by rw [← hst]
      have hss : st.size = nT := by rw [← hnT, ← hsd]; simp
      rw [hst] at S2
      have K3 := fun W' => Tryz.strings_Contains_one st 45 W'
      rw [hsd] at K3
      clear S3 hTt hW hT hhd hcr hlen
      by_cases hm : (45 : UInt8) ∈ T
      case pos =>
        have h3 : ¬ indexByte T 45 < 0 := fun h => (idx_neg _ _).1 h hm
        have h4 : decide (0 ≤ indexByte T 45) = true := decide_eq_true (by omega)
        rw [h4] at K3
        have KK3 := Lib.hid K3
        have K4 := fun (W' : World) (hI : I W') => day_parse HD.out T W' hI (by omega)
        rw [hst] at K4
        have hON := HON.out
        rw [if_pos hm] at hON
        clear K3 h3 h4 hm HON hTm hTh
        cases hd : dayOf T with
        | none =>
          rw [hd] at hON K4
          have EQ := Lib.hid hON
          have KK4 := Lib.hid K4
          clear hON K4 hd
          have hb1 := (Below.refl w.heap.size w).alloc (Nat.le_refl _) (.cells #[.int .i64 0, .string ⟨#[]⟩, .int .i64 0, .int .i32 0, .int .i64 0] 90)
          have hx : HBox (w.alloc (.cells #[.int .i64 0, .string ⟨#[]⟩, .int .i64 0, .int .i32 0, .int .i64 0] 90)) w.heap.size [.int .i64 0, .string ⟨#[]⟩, .int .i64 0, .int .i32 0, .int .i64 0] 90 := HBox.new w [.int .i64 0, .string ⟨#[]⟩, .int .i64 0, .int .i32 0, .int .i64 0] 90
          go_enter Tryz.func63, Tryz.ntmps63
          go_upto_region 8 with (first | (go_at_call 99; first | (with_reducible refine (KK1.out _).mono ?_; rintro e w1 ⟨rfl, rfl⟩) | (with_reducible refine (KK2.out _).mono ?_; rintro e w2 ⟨rfl, rfl⟩)) | (go_at_call 18; refine (KK3.out _).mono ?_; rintro e w3 ⟨rfl, rfl⟩))
          generalize w.alloc (.cells #[.int .i64 0, .string ⟨#[]⟩, .int .i64 0, .int .i32 0, .int .i64 0] 90) = W1 at hb1 hx ⊢
          obtain ⟨X, hX⟩ : ∃ X, w.heap.size = X := ⟨_, rfl⟩
          rw [hX] at hx hb1 ⊢
          have HXX := Lib.hid hX
          have HX := Lib.hid hx
          have HB1 := Lib.hid hb1
          have HI1 := Lib.hid (HD.out.stay HI.out (by rw [HXX.out]; exact HB1.out))
          have HS1 : Hid (X ≤ W1.heap.size) := Lib.hid (by rw [← HXX.out]; exact HB1.out.size)
          clear hX hx hb1
          go_wp2_with (go_at_call 100; refine (KK4.out _ HI1.out).mono ?_; rintro e w4 ⟨rfl, h4⟩; have HX4 := Lib.hid (HX.out.stay h4); have HB4 := Lib.hid (HB1.out.trans (h4.mono HS1.out)); have HS4 := Lib.hid (Nat.le_trans HS1.out h4.size); have y0 := HX4.out.cell (j := 0) rfl; have y1 := HX4.out.cell (j := 1) rfl; have y2 := HX4.out.cell (j := 2) rfl; have y3 := HX4.out.cell (j := 3) rfl; have y4 := HX4.out.cell (j := 4) rfl; have f0 := HX4.out.frozen 0; have f1 := HX4.out.frozen 1; have f2 := HX4.out.frozen 2; have f3 := HX4.out.frozen 3; have f4 := HX4.out.frozen 4; have hs4 := HX4.out.size; clear h4)
          have HZ := Lib.hid (HBox.set5 HX4.out (.int .i64 0) (.string ⟨#[]⟩) (.int .i64 0) (.int .i32 0) (.int .i64 0))
          have HBZ := Lib.hid (HB4.out.grown (grown_sets5 _ X (.int .i64 0) (.string ⟨#[]⟩) (.int .i64 0) (.int .i32 0) (.int .i64 0)) HS4.out (fun k hk => by cases hk; exact Nat.le_refl _))
          have a0 := HZ.out.cell (j := 0) rfl
          have a1 := HZ.out.cell (j := 1) rfl
          have a2 := HZ.out.cell (j := 2) rfl
          have a3 := HZ.out.cell (j := 3) rfl
          have a4 := HZ.out.cell (j := 4) rfl
          exact bodyPost_ret (v := .tuple #[.agg #[.int .i64 0, .string ⟨#[]⟩, .int .i64 0, .int .i32 0, .int .i64 0], .int .i64 0, .int .i64 13]) (by simp [results, Tryz.results63, go_sem, a0, a1, a2, a3, a4]) rfl ⟨oneR_err EQ.out rfl, by rw [HXX.out]; exact HBZ.out⟩
        | some d =>
          rw [hd] at hON K4
          have EQ := Lib.hid hON
          have KK4 := Lib.hid K4
          clear hON K4 hd
          have hb1 := (Below.refl w.heap.size w).alloc (Nat.le_refl _) (.cells #[.int .i64 0, .string ⟨#[]⟩, .int .i64 0, .int .i32 0, .int .i64 0] 90)
          have hx : HBox (w.alloc (.cells #[.int .i64 0, .string ⟨#[]⟩, .int .i64 0, .int .i32 0, .int .i64 0] 90)) w.heap.size [.int .i64 0, .string ⟨#[]⟩, .int .i64 0, .int .i32 0, .int .i64 0] 90 := HBox.new w [.int .i64 0, .string ⟨#[]⟩, .int .i64 0, .int .i32 0, .int .i64 0] 90
          go_enter Tryz.func63, Tryz.ntmps63
          go_upto_region 8 with (first | (go_at_call 99; first | (with_reducible refine (KK1.out _).mono ?_; rintro e w1 ⟨rfl, rfl⟩) | (with_reducible refine (KK2.out _).mono ?_; rintro e w2 ⟨rfl, rfl⟩)) | (go_at_call 18; refine (KK3.out _).mono ?_; rintro e w3 ⟨rfl, rfl⟩))
          generalize w.alloc (.cells #[.int .i64 0, .string ⟨#[]⟩, .int .i64 0, .int .i32 0, .int .i64 0] 90) = W1 at hb1 hx ⊢
          obtain ⟨X, hX⟩ : ∃ X, w.heap.size = X := ⟨_, rfl⟩
          rw [hX] at hx hb1 ⊢
          have HXX := Lib.hid hX
          have HX := Lib.hid hx
          have HB1 := Lib.hid hb1
          have HI1 := Lib.hid (HD.out.stay HI.out (by rw [HXX.out]; exact HB1.out))
          have HS1 : Hid (X ≤ W1.heap.size) := Lib.hid (by rw [← HXX.out]; exact HB1.out.size)
          clear hX hx hb1
          go_wp2_with (go_at_call 100; refine (KK4.out _ HI1.out).mono ?_; rintro e w4 ⟨rfl, h4⟩; have HX4 := Lib.hid (HX.out.stay h4); have HB4 := Lib.hid (HB1.out.trans (h4.mono HS1.out)); have HS4 := Lib.hid (Nat.le_trans HS1.out h4.size); have y0 := HX4.out.cell (j := 0) rfl; have y1 := HX4.out.cell (j := 1) rfl; have y2 := HX4.out.cell (j := 2) rfl; have y3 := HX4.out.cell (j := 3) rfl; have y4 := HX4.out.cell (j := 4) rfl; have f0 := HX4.out.frozen 0; have f1 := HX4.out.frozen 1; have f2 := HX4.out.frozen 2; have f3 := HX4.out.frozen 3; have f4 := HX4.out.frozen 4; have hs4 := HX4.out.size; clear h4)
          have HZ := Lib.hid (HBox.set5 HX4.out (.int .i64 3) (.string st) (.int .i64 0) (.int .i32 d) (.int .i64 0))
          have HBZ := Lib.hid (HB4.out.grown (grown_sets5 _ X (.int .i64 3) (.string st) (.int .i64 0) (.int .i32 d) (.int .i64 0)) HS4.out (fun k hk => by cases hk; exact Nat.le_refl _))
          have a0 := HZ.out.cell (j := 0) rfl
          have a1 := HZ.out.cell (j := 1) rfl
          have a2 := HZ.out.cell (j := 2) rfl
          have a3 := HZ.out.cell (j := 3) rfl
          have a4 := HZ.out.cell (j := 4) rfl
          exact bodyPost_ret (v := .tuple #[.agg #[.int .i64 3, .string st, .int .i64 0, .int .i32 d, .int .i64 0], .int .i64 (nT : Int), .int .i64 0]) (by simp [results, Tryz.results63, go_sem, a0, a1, a2, a3, a4]) rfl ⟨oneR_ok EQ.out (by rw [← hst]; rfl), by rw [HXX.out]; exact HBZ.out⟩
      case neg =>
        have h3 : indexByte T 45 < 0 := (idx_neg _ _).2 hm
        have h4 : decide (0 ≤ indexByte T 45) = false := decide_eq_false (by omega)
        rw [h4] at K3
        have KK3 := Lib.hid K3
        have hON := HON.out
        rw [if_neg hm] at hON
        have hdg : ∀ x ∈ T, digB x = true := fun x hx => by
          have h5 := hTm x hx
          unfold dimB at h5
          rw [Bool.or_eq_true] at h5
          rcases h5 with h5 | h5
          · exact h5
          · have : x = 45 := by simpa using h5
            subst this; exact absurd hx hm
        have hget : ∀ (k : Nat) (h : k < st.size), T[k]? = some st[k] := fun k h => by
          rw [← hsd, List.getElem?_eq_getElem (by simpa using h)]; rfl
        have hz : 0 < st.size := by omega
        have hs0 : st[0]'hz = c := by
          have h2 := hget 0 hz
          rw [← List.head?_eq_getElem?, hTh] at h2
          exact (Option.some.inj h2).symm
        have HDG := Lib.hid hdg
        have HNT := Lib.hid hnT
        have HDK := Lib.hid (fun (k : Nat) (h : k < st.size) => show 48 ≤ st[k].toNat ∧ st[k].toNat ≤ 57 by
          have h5 := hdg st[k] (List.mem_of_getElem? (hget k h))
          unfold digB at h5
          simp only [Bool.and_eq_true, decide_eq_true_eq, UInt8.le_iff_toNat_le] at h5
          exact h5)
        have HSN := Lib.hid (fun (k : Nat) (h : k < st.size) => show numL (T.take (k + 1)) = numL (T.take k) * 10 + ((st[k].toNat : Int) - 48) by
          obtain ⟨h6, h7⟩ := List.getElem?_eq_some_iff.1 (hget k h)
          rw [List.take_succ_eq_append_getElem h6, h7, numL_snoc])
        clear K3 h3 h4 HON hTm hTh hget hdg hnT hsd
        by_cases h7 : 7 < nT
        · have t7 : decide ((7 : Int) < (nT : Int)) = true := decide_eq_true (by omega)
          have EQ : Hid (oneF s.data.toList = .error 5) := Lib.hid (by rw [hON, if_pos (Or.inl h7)])
          clear hON
          go_enter Tryz.func63, Tryz.ntmps63
          go_wp2_with (first | (go_at_call 99; first | (with_reducible refine (KK1.out _).mono ?_; rintro e w1 ⟨rfl, rfl⟩) | (with_reducible refine (KK2.out _).mono ?_; rintro e w2 ⟨rfl, rfl⟩)) | (go_at_call 18; refine (KK3.out _).mono ?_; rintro e w3 ⟨rfl, rfl⟩))
          exact bodyPost_ret (v := .tuple #[tokV ⟨0, [], 0, 0, 0⟩, .int .i64 0, .int .i64 5]) (by simp [results, Tryz.results63, go_sem, tokV]) rfl ⟨oneR_err EQ.out rfl, (Below.refl _ _).alloc (Nat.le_refl _) _⟩
        have t7 : decide ((7 : Int) < (nT : Int)) = false := decide_eq_false (by omega)
        by_cases h8 : 1 < nT
        case pos =>
          have t8 : decide ((1 : Int) < (nT : Int)) = true := decide_eq_true (by omega)
          by_cases h9 : c = 48
          · have t9 : ((c.toNat : Int) == 48) = true := u8_eq h9
            have EQ : Hid (oneF s.data.toList = .error 5) := Lib.hid (by rw [hON, if_pos (Or.inr ⟨h8, by rw [h9]⟩)])
            clear hON h9
            go_enter Tryz.func63, Tryz.ntmps63
            go_wp2_with (first | (go_at_call 99; first | (with_reducible refine (KK1.out _).mono ?_; rintro e w1 ⟨rfl, rfl⟩) | (with_reducible refine (KK2.out _).mono ?_; rintro e w2 ⟨rfl, rfl⟩)) | (go_at_call 18; refine (KK3.out _).mono ?_; rintro e w3 ⟨rfl, rfl⟩))
            exact bodyPost_ret (v := .tuple #[tokV ⟨0, [], 0, 0, 0⟩, .int .i64 0, .int .i64 5]) (by simp [results, Tryz.results63, go_sem, tokV]) rfl ⟨oneR_err EQ.out rfl, (Below.refl _ _).alloc (Nat.le_refl _) _⟩
          have t9 : ((c.toNat : Int) == 48) = false := u8_ne h9
          have EQ : Hid (oneF s.data.toList = .ok (⟨2, T, numL T, 0, 0⟩, nT)) := Lib.hid (by rw [hON, if_neg (by rintro (h | ⟨_, h⟩); exact h7 h; exact h9 (Option.some.inj h))])
          clear hON h9
          go_enter Tryz.func63, Tryz.ntmps63
          go_wp2_with (first | (go_at_call 99; first | (with_reducible refine (KK1.out _).mono ?_; rintro e w1 ⟨rfl, rfl⟩) | (with_reducible refine (KK2.out _).mono ?_; rintro e w2 ⟨rfl, rfl⟩)) | (go_at_call 18; refine (KK3.out _).mono ?_; rintro e w3 ⟨rfl, rfl⟩))
          go_loop [61, 10] (fun i x => ∃ k : Nat, k ≤ nT ∧ i = .int .i64 (k : Int) ∧ x = .int .i64 (numL (T.take k))) (fun i _ => nT - (RowKit.intOf i).toNat)
          case atStart => exact ⟨0, Nat.zero_le _, rfl, rfl⟩
          case round =>
            obtain ⟨k, hk, rfl, rfl⟩ := hrel
            by_cases hlt : k < nT
            · have hlt2 : k < st.size := by omega
              have hb7 := numL_bd k (T.take k) (by rw [List.length_take]; have := HNT.out; omega) (fun x hx => HDG.out x (List.mem_of_mem_take hx))
              have hp7 : (10 : Int) ^ k ≤ 10000000 := by
                rcases (by omega : k = 0 ∨ k = 1 ∨ k = 2 ∨ k = 3 ∨ k = 4 ∨ k = 5 ∨ k = 6) with rfl | rfl | rfl | rfl | rfl | rfl | rfl <;> decide
              have hdk := HDK.out k hlt2
              have E := Lib.hid (HSN.out k hlt2)
              have hq1 := hb7.1
              have hq2 : numL (T.take k) < 10000000 := by have := hb7.2; omega
              clear hb7 hp7
              generalize numL (T.take k) = q at *
              have u1 : IntKind.u8.wrap ((st[k].toNat : Int) - 48) = (st[k].toNat : Int) - 48 := by rw [IntKind.wrap_u8]; omega
              go_wp2
              go_round
              case rel => exact ⟨k + 1, by omega, by go_num, by rw [E.out]⟩
              case measure => simp [RowKit.intOf]; omega
            · obtain rfl : k = nT := by omega
              have hT9 : T.take k = T := List.take_of_length_le (by have := HNT.out; omega)
              rw [hT9]
              go_wp2
              exact bodyPost_ret (v := .tuple #[tokV ⟨2, T, numL T, 0, 0⟩, .int .i64 (k : Int), .int .i64 0]) (by simp [results, Tryz.results63, go_sem, tokV, hst]) rfl ⟨oneR_ok EQ.out rfl, (Below.refl _ _).alloc (Nat.le_refl _) _⟩
        case neg =>
          have t8 : decide ((1 : Int) < (nT : Int)) = false := decide_eq_false (by omega)
          have EQ : Hid (oneF s.data.toList = .ok (⟨2, T, numL T, 0, 0⟩, nT)) := Lib.hid (by rw [hON, if_neg (by rintro (h | ⟨h, _⟩); exact h7 h; exact h8 h)])
          clear hON
          go_enter Tryz.func63, Tryz.ntmps63
          go_wp2_with (first | (go_at_call 99; first | (with_reducible refine (KK1.out _).mono ?_; rintro e w1 ⟨rfl, rfl⟩) | (with_reducible refine (KK2.out _).mono ?_; rintro e w2 ⟨rfl, rfl⟩)) | (go_at_call 18; refine (KK3.out _).mono ?_; rintro e w3 ⟨rfl, rfl⟩))
          go_loop [61, 10] (fun i x => ∃ k : Nat, k ≤ nT ∧ i = .int .i64 (k : Int) ∧ x = .int .i64 (numL (T.take k))) (fun i _ => nT - (RowKit.intOf i).toNat)
          case atStart => exact ⟨0, Nat.zero_le _, rfl, rfl⟩
          case round =>
            obtain ⟨k, hk, rfl, rfl⟩ := hrel
            by_cases hlt : k < nT
            · have hlt2 : k < st.size := by omega
              have hb7 := numL_bd k (T.take k) (by rw [List.length_take]; have := HNT.out; omega) (fun x hx => HDG.out x (List.mem_of_mem_take hx))
              have hp7 : (10 : Int) ^ k ≤ 10000000 := by
                rcases (by omega : k = 0 ∨ k = 1 ∨ k = 2 ∨ k = 3 ∨ k = 4 ∨ k = 5 ∨ k = 6) with rfl | rfl | rfl | rfl | rfl | rfl | rfl <;> decide
              have hdk := HDK.out k hlt2
              have E := Lib.hid (HSN.out k hlt2)
              have hq1 := hb7.1
              have hq2 : numL (T.take k) < 10000000 := by have := hb7.2; omega
              clear hb7 hp7
              generalize numL (T.take k) = q at *
              have u1 : IntKind.u8.wrap ((st[k].toNat : Int) - 48) = (st[k].toNat : Int) - 48 := by rw [IntKind.wrap_u8]; omega
              go_wp2
              go_round
              case rel => exact ⟨k + 1, by omega, by go_num, by rw [E.out]⟩
              case measure => simp [RowKit.intOf]; omega
            · obtain rfl : k = nT := by omega
              have hT9 : T.take k = T := List.take_of_length_le (by have := HNT.out; omega)
              rw [hT9]
              go_wp2
              exact bodyPost_ret (v := .tuple #[tokV ⟨2, T, numL T, 0, 0⟩, .int .i64 (k : Int), .int .i64 0]) (by simp [results, Tryz.results63, go_sem, tokV, hst]) rfl ⟨oneR_ok EQ.out rfl, (Below.refl _ _).alloc (Nat.le_refl _) _⟩
end Go.Proofs.YtffhnedladiaoaaGreatDoor
/- Law 12's Split: a text's tokens. -/
namespace Go.Proofs.YtffhnedladiaoaaGreatDoor
open Go.RowKit Go.Lib
set_option linter.unusedVariables false
set_option linter.unusedSimpArgs false
set_option maxHeartbeats 8000000 in
set_option maxRecDepth 100000 in
theorem lsplit_c {I : World → Prop} (D : DayC I) (s : ByteArray) (w : World) (hI : I w) (hs : s.size ≤ 10000) :
    Calls Tryz.prog 36 #[.string s] w fun e w' => SplR (splitF s.data.toList) e w w' := by
  obtain ⟨i0, hi, hz0, hz1, hz2⟩ := info_parts info_tk
  obtain ⟨l, hl⟩ : ∃ l, s.data.toList = l := ⟨_, rfl⟩
  have hlen : l.length = s.size := by rw [← hl]; simp
  have hget : ∀ (i : Nat) (h : i < s.size), l[i]? = some s[i] := fun i h => by subst hl; rw [List.getElem?_eq_getElem (by simpa using h)]; rfl
  obtain ⟨RR, hRR⟩ : ∃ r, splitF l = r := ⟨_, rfl⟩
  have hinv0 : preT [] (spl (l.length - 0 + 1) 0 (l.drop 0)) = RR := by
    rw [← hRR]; unfold splitF; rw [Nat.sub_zero, List.drop_zero]
    cases spl (l.length + 1) 0 l with
    | error e => rfl
    | ok us => rfl
  have HINV0 := Lib.hid hinv0
  have HL := Lib.hid hl
  have HLEN := Lib.hid hlen
  have HGET := Lib.hid hget
  have HI := Lib.hid hI
  have HD := Lib.hid D
  have S1 := fun (i : Nat) (h : i ≤ s.size) (W' : World) => slice_l s i h W'
  rw [hl, hRR]
  rw [hl] at S1
  have SS1 := Lib.hid S1
  clear hl hlen hget hRR hinv0 hI D S1
  go_enter Tryz.func36, Tryz.ntmps36
  go_wp2_with fail
  go_loopw [5, 6] (fun o i wr => ∃ (k m : Nat) (r : Option Addr) (cap : Nat) (ts : List Tk), o = .slice r m cap ∧ i = .int .i64 (k : Int) ∧ k ≤ s.size ∧ m ≤ k ∧ Hid (ts.length = m) ∧ Hid (wr.ownsRow w.heap.size 90 5 (.slice r m cap) m (ts.flatMap tkc)) ∧ Hid (preT ts (spl (l.length - k + 1) k (l.drop k)) = RR) ∧ Hid (Below w.heap.size w wr)) (fun _ i _ => s.size - (RowKit.intOf i).toNat)
  case atStart => exact ⟨0, 0, none, 0, [], rfl, rfl, Nat.zero_le _, Nat.le_refl _, Lib.hid rfl, Lib.hid (World.ownsRow_nil _ _ _ _), HINV0, Lib.hid (Below.refl _ _)⟩
  case round =>
    clear HINV0
    obtain ⟨k, m, r, cap, ts, rfl, rfl, hk, hmk, HM, HO, HR, HB⟩ := hrel
    rename World => wr
    by_cases hlt : k < s.size
    case neg =>
      obtain rfl : k = s.size := by omega
      have hE : RR = .ok (ts ++ [⟨0, [], 0, 0, s.size⟩]) := by
        rw [← HR.out, ← HLEN.out, sp_end, preT_ok]
      have HE := Lib.hid hE
      have hsz : w.heap.size ≤ wr.heap.size := HB.out.size
      have HSZ := Lib.hid hsz
      clear hE hsz
      go_wp2_with (at_builtin; refine wpList_append_own _ rfl (.tmp 65) (.tmp 68) 66 rfl w.heap.size 90 i0 (.agg #[.int .i64 0, .string ⟨#[]⟩, .int .i64 0, .int .i32 0, .int .i64 0]) 5 48 Tryz.underlying66 hi hz0 hz1 hz2 rfl (by decide) _ m _ rfl (HO.out.alloc _) ⟨_, 0, none⟩ 1 1 [.int .i64 0, .string ⟨#[]⟩, .int .i64 0, .int .i32 0, .int .i64 (s.size : Int)] rfl rfl (cells_new _ [.int .i64 0, .string ⟨#[]⟩, .int .i64 0, .int .i32 0, .int .i64 (s.size : Int)] _) (fun v hv => by simp at hv; rcases hv with rfl | rfl | rfl | rfl | rfl <;> rfl) (by unfold maxLen; omega) (by omega) (by simp; have := HSZ.out; omega) ?_; intro v9 w9 hown9 hgrow9 _; have HB9 := Lib.hid ((HB.out.alloc (by have := HSZ.out; omega) _).grown hgrow9 (by simp; have := HSZ.out; omega) (fun j hj => (HO.out.lt j hj).1)); have HO9 := Lib.hid hown9; obtain ⟨r9, c9, rfl⟩ := owns_form hown9; clear hgrow9 hown9)
      refine bodyPost_ret (v := .tuple #[.slice r9 (m + 1) c9, .int .i64 0, .int .i64 0]) (by simp [results, Tryz.results36, go_sem]) rfl ⟨HB9.out, ?_⟩
      rw [HE.out]
      exact ⟨_, rfl, recs_of_ownsT tkc_len (by rw [List.flatMap_append]; exact HO9.out) (by simp [HM.out]) (by have := HM.out; simp; omega)⟩
    case pos =>
      have hlt2 : k < l.length := by rw [HLEN.out]; exact hlt
      obtain ⟨c, hc⟩ : ∃ c, s[k] = c := ⟨_, rfl⟩
      have hcl : l[k] = c := by
        have hg := HGET.out k hlt
        rw [List.getElem?_eq_getElem hlt2] at hg
        exact (Option.some.inj hg).trans hc
      have hc8 := c.toNat_lt
      by_cases hbl : c = 32 ∨ c = 10
      · have hst := sp_blank hlt2 hcl hbl
        have HR2 : Hid (preT ts (spl (l.length - (k + 1) + 1) (k + 1) (l.drop (k + 1))) = RR) := Lib.hid (by rw [← hst]; exact HR.out)
        have BL : ((c.toNat : Int) == 32) = true ∨ (((c.toNat : Int) == 32) = false ∧ ((c.toNat : Int) == 10) = true) := by
          rcases hbl with rfl | rfl
          · exact Or.inl (by decide)
          · exact Or.inr ⟨by decide, by decide⟩
        clear hst hbl hcl
        rcases BL with b1 | ⟨b1, b2⟩
        all_goals
          go_wp2_with fail
          go_roundw
          case rel => exact ⟨k + 1, m, r, cap, ts, rfl, by go_num, by omega, by omega, HM, HO, HR2, HB⟩
          case measure => simp [RowKit.intOf]; omega
      have n32 : ((c.toNat : Int) == 32) = false := u8_ne (fun h => hbl (Or.inl h))
      have n10 : ((c.toNat : Int) == 10) = false := u8_ne (fun h => hbl (Or.inr h))
      have J := SS1.out k (by omega)
      by_cases h35 : c = 35
      · subst h35
        obtain ⟨hst, hp, hle⟩ := sp_note hlt2 hcl
        obtain ⟨n, hn⟩ : ∃ n, ((l.drop k).takeWhile notNl).length = n := ⟨_, rfl⟩
        rw [hn] at hst hp hle
        have HR2 : Hid (preT ts (spl (l.length - (k + n) + 1) (k + n) (l.drop (k + n))) = RR) := Lib.hid (by rw [← hst]; exact HR.out)
        have hle2 : k + n ≤ s.size := by rw [← HLEN.out]; exact hle
        have K := fun W' => Tryz.strings_IndexByte ⟨(l.drop k).toArray⟩ 10 W'
        have hix := idx_tw 10 (l.drop k)
        have e10 : (10 : Int).toNat.toUInt8 = 10 := by decide
        have ed : (⟨(l.drop k).toArray⟩ : ByteArray).data.toList = l.drop k := rfl
        rw [e10, ed, hix] at K
        by_cases hm10 : (10 : UInt8) ∈ l.drop k
        · rw [if_pos hm10] at K
          have K2 : Hid (∀ W', Calls Tryz.prog 62 #[.string ⟨(l.drop k).toArray⟩, .int .u8 10] W' fun e w' => e = .returned (.int .i64 (n : Int)) ∧ w' = W') := Lib.hid (by rw [← hn]; exact K)
          have n0 : decide ((n : Int) < 0) = false := decide_eq_false (by omega)
          clear hst hn K hix e10 ed hm10 hcl hle hbl
          go_wp2_with (go_at_call 62; refine (K2.out _).mono ?_; rintro e w1 ⟨rfl, rfl⟩)
          go_roundw
          case rel => exact ⟨k + n, m, r, cap, ts, rfl, by go_num, hle2, by omega, HM, HO, HR2, HB⟩
          case measure => simp [RowKit.intOf]; omega
        · rw [if_neg hm10] at K
          have K2 := Lib.hid K
          have hnn : n = s.size - k := by rw [← hn, show (l.drop k).takeWhile notNl = l.drop k from tw_none hm10, List.length_drop, HLEN.out]
          clear hst hn K hix e10 ed hm10 hcl hle hbl
          go_wp2_with (go_at_call 62; refine (K2.out _).mono ?_; rintro e w1 ⟨rfl, rfl⟩)
          go_roundw
          case rel => exact ⟨k + n, m, r, cap, ts, rfl, by rw [hnn]; go_num, hle2, by omega, HM, HO, HR2, HB⟩
          case measure => simp [RowKit.intOf]; omega
      · have n35 : ((c.toNat : Int) == 35) = false := u8_ne h35
        have hdl : (⟨(l.drop k).toArray⟩ : ByteArray).size = s.size - k := by show (l.drop k).toArray.size = _; simp [HLEN.out]
        have K1 := one_c HD.out ⟨(l.drop k).toArray⟩ wr (HD.out.stay HI.out HB.out) (by omega) (by omega)
        have ed : (⟨(l.drop k).toArray⟩ : ByteArray).data.toList = l.drop k := rfl
        rw [ed] at K1
        have hsz : w.heap.size ≤ wr.heap.size := HB.out.size
        have HSZ := Lib.hid hsz
        cases h1 : oneF (l.drop k) with
        | error e =>
          have hst := sp_bad hlt2 hcl hbl h35 h1
          have HE : Hid (RR = .error (k, e)) := Lib.hid (by rw [← HR.out, hst, preT_err])
          unfold OneR at K1
          rw [h1] at K1
          unfold tokV at K1
          have KK1 := Lib.hid K1
          have hne : e ≠ 0 := oneF_ne h1
          have ne0 : (e != 0) = true := by rw [bne_iff_ne]; exact hne
          clear K1 hst h1 ed hdl hcl hbl h35 hsz hne
          go_wp2_with (go_at_call 63; refine KK1.out.mono ?_; rintro e2 w4 ⟨rfl, h4⟩; have HB4 := Lib.hid (HB.out.trans (h4.mono HB.out.size)); clear h4)
          refine bodyPost_ret (v := .tuple #[.slice none 0 0, .int .i64 (k : Int), .int .i64 e]) (by simp [results, Tryz.results36, go_sem]) rfl ⟨HB4.out.alloc (by have := HB4.out.size; omega) _, ?_⟩
          rw [HE.out]
        | ok p =>
          obtain ⟨t, n⟩ := p
          obtain ⟨hn0, hkn, hst⟩ := sp_tok ts hlt2 hcl hbl h35 h1
          have HR2 : Hid (preT (ts ++ [{ t with at_ := k }]) (spl (l.length - (k + n) + 1) (k + n) (l.drop (k + n))) = RR) := Lib.hid (by rw [← hst]; exact HR.out)
          have hkn2 : k + n ≤ s.size := by rw [← HLEN.out]; exact hkn
          have hat := oneF_zero h1
          unfold OneR at K1
          rw [h1] at K1
          unfold tokV at K1
          have KK1 := Lib.hid K1
          clear K1 hst h1 ed hdl hcl hbl h35 hsz hkn
          go_upto_region 14 with (go_at_call 63; refine KK1.out.mono ?_; rintro e2 w4 ⟨rfl, h4⟩; have HO4 := Lib.hid (owns_stay HO.out h4); have HB4 := Lib.hid (HB.out.trans (h4.mono HB.out.size)); clear h4)
          have hb5 := (Below.refl w4.heap.size w4).alloc (Nat.le_refl _) (.cells #[.int .i64 (t.kind : Int), .string ⟨t.text.toArray⟩, .int .i64 t.num, .int .i32 t.day, .int .i64 0] 90)
          have hx5 : HBox (w4.alloc (.cells #[.int .i64 (t.kind : Int), .string ⟨t.text.toArray⟩, .int .i64 t.num, .int .i32 t.day, .int .i64 0] 90)) w4.heap.size [.int .i64 (t.kind : Int), .string ⟨t.text.toArray⟩, .int .i64 t.num, .int .i32 t.day, .int .i64 0] 90 := HBox.new w4 [.int .i64 (t.kind : Int), .string ⟨t.text.toArray⟩, .int .i64 t.num, .int .i32 t.day, .int .i64 0] 90
          change Hid _ at HO4
          obtain ⟨Y, hY⟩ : ∃ Y, w4.heap.size = Y := ⟨_, rfl⟩
          have hs5 : Y ≤ (w4.alloc (.cells #[.int .i64 (t.kind : Int), .string ⟨t.text.toArray⟩, .int .i64 t.num, .int .i32 t.day, .int .i64 0] 90)).heap.size := by rw [← hY]; simp
          rw [hY] at hb5 hx5 ⊢
          generalize w4.alloc (.cells #[.int .i64 (t.kind : Int), .string ⟨t.text.toArray⟩, .int .i64 t.num, .int .i32 t.day, .int .i64 0] 90) = W5 at hb5 hx5 hs5 ⊢
          have hx6 := hx5.set 4 (.int .i64 (k : Int))
          simp only [List.set_cons_zero, List.set_cons_succ] at hx6
          have hb6 := hb5.grown (grownBy_set W5 ⟨Y, 4, none⟩ (.int .i64 (k : Int))) hs5 (fun j hj => by cases hj; exact Nat.le_refl _)
          have HO6 := Lib.hid (owns_stay HO4.out (by rw [hY]; exact hb6))
          have HB6 := Lib.hid (HB4.out.trans (hb6.mono (by rw [← hY]; exact HB4.out.size)))
          have z4 := hx5.cell (j := 4) rfl
          have zf := hx5.frozen 4
          have zs := hx5.size
          clear hb5 hb6 hs5 hY hat
          go_upto_region 15 with fail
          generalize W5.setCell ⟨Y, 4, none⟩ (.int .i64 (k : Int)) = W6 at hx6 HO6 HB6 ⊢
          have HX6 := Lib.hid hx6
          clear z4 zf zs hx5 hx6
          have z0 := HX6.out.cell (j := 0) rfl
          have z1 := HX6.out.cell (j := 1) rfl
          have z2 := HX6.out.cell (j := 2) rfl
          have z3 := HX6.out.cell (j := 3) rfl
          have z4 := HX6.out.cell (j := 4) rfl
          have hsz6 : w.heap.size ≤ W6.heap.size := HB6.out.size
          have HSZ6 := Lib.hid hsz6
          clear hsz6
          go_wp2_with (at_builtin; refine wpList_append_own _ rfl (.tmp 58) (.tmp 60) 66 rfl w.heap.size 90 i0 (.agg #[.int .i64 0, .string ⟨#[]⟩, .int .i64 0, .int .i32 0, .int .i64 0]) 5 48 Tryz.underlying66 hi hz0 hz1 hz2 rfl (by decide) _ m _ rfl (HO6.out.alloc _) ⟨_, 0, none⟩ 1 1 [.int .i64 (t.kind : Int), .string ⟨t.text.toArray⟩, .int .i64 t.num, .int .i32 t.day, .int .i64 (k : Int)] rfl rfl (cells_new _ [.int .i64 (t.kind : Int), .string ⟨t.text.toArray⟩, .int .i64 t.num, .int .i32 t.day, .int .i64 (k : Int)] _) (fun v hv => by simp at hv; rcases hv with rfl | rfl | rfl | rfl | rfl <;> rfl) (by unfold maxLen; omega) (by omega) (by simp; have := HSZ6.out; omega) ?_; intro v9 w9 hown9 hgrow9 _; have HB9 := Lib.hid ((HB6.out.alloc (by have := HSZ6.out; omega) _).grown hgrow9 (by simp; have := HSZ6.out; omega) (fun j hj => (HO6.out.lt j hj).1)); have HO9 := Lib.hid hown9; obtain ⟨r9, c9, rfl⟩ := owns_form hown9; clear hgrow9 hown9)
          go_roundw
          case rel => exact ⟨k + n, m + 1, r9, c9, ts ++ [{ t with at_ := k }], rfl, by go_num, hkn2, by omega, Lib.hid (by simp [HM.out]), Lib.hid (by rw [List.flatMap_append]; exact HO9.out), HR2, HB9⟩
          case measure => simp [RowKit.intOf]; omega
end Go.Proofs.YtffhnedladiaoaaGreatDoor
/- Law 12's Split, as it is told of the developers'. -/
namespace Go.Proofs.YtffhnedladiaoaaGreatDoor
open Go.RowKit Go.Lib
set_option linter.unusedVariables false
set_option linter.unusedSimpArgs false
theorem lsplit_t {I : World → Prop} (D : DayC I) (s : ByteArray) (w : World) (hI : I w) (hs : s.size ≤ 10000) :
    Calls Tryz.prog 36 #[.string s] w fun e w' => SplT (splT s.data.toList) e w w' := by
  refine (lsplit_c D s w hI hs).mono ?_
  rintro e w' ⟨hb, h⟩
  have hl : ¬ 65536 < s.data.toList.length := by simp; omega
  unfold splT
  rw [if_neg hl]
  cases hr : splitF s.data.toList with
  | error p =>
    rw [hr] at h
    exact ⟨none, 0, h, .inl ⟨_, _, rfl, rfl⟩, hb⟩
  | ok ts =>
    rw [hr] at h
    obtain ⟨v, rfl, h2⟩ := h
    obtain ⟨r, c, rfl, _⟩ := h2.form
    exact ⟨r, c, rfl, h2, hb⟩
end Go.Proofs.YtffhnedladiaoaaGreatDoor

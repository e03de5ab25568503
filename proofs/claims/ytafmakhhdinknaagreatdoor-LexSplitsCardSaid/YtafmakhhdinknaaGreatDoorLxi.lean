/- The walk of law LexAgain. -/
import Derived.Test.YtafmakhhdinknaaGreatDoorLxg
namespace Go.Proofs.YtafmakhhdinknaaGreatDoor
open Go.RowKit Go.Lib
set_option linter.unusedVariables false
set_option linter.unusedSimpArgs false
theorem bapp (a b : ByteArray) : (a ++ b).data.toList = a.data.toList ++ b.data.toList := by simp [ByteArray.data_append]
theorem rend_txt {t : Tk} (h : t.kind = 4) : rendT t = 34 :: (t.text ++ [34, 32]) := by unfold rendT bodyT; rw [if_pos h]; simp
theorem rend_oth {t : Tk} (h : t.kind ≠ 4) : rendT t = t.text ++ [32] := by unfold rendT bodyT; rw [if_neg h]
theorem take_rend {ts : List Tk} {k : Nat} {t : Tk} (h : ts[k]? = some t) : (ts.take (k + 1)).flatMap rendT = (ts.take k).flatMap rendT ++ rendT t := by
  rw [List.take_add_one, h]; simp [List.flatMap_append]
theorem flat_take_le (ts : List Tk) (k : Nat) : ((ts.take k).flatMap rendT).length ≤ (ts.flatMap rendT).length := by
  have h : ts.flatMap rendT = (ts.take k).flatMap rendT ++ (ts.drop k).flatMap rendT := by rw [← List.flatMap_append, List.take_append_drop]
  rw [h, List.length_append]; omega
theorem rend_len (t : Tk) : t.text.length ≤ (rendT t).length := by
  by_cases h : t.kind = 4
  · rw [rend_txt h]; simp; omega
  · rw [rend_oth h]; simp
theorem splT_ok {l : List UInt8} {ts : List Tk} (h : splitF l = .ok ts) (hl : l.length ≤ 65536) : splT l = (ts, 0, 0) := by
  unfold splT; rw [if_neg (by omega), h]
theorem splT_err {l : List UInt8} {p : Nat × Int} (h : splitF l = .error p) (hl : l.length ≤ 65536) : splT l = ([], p.1, p.2) := by
  unfold splT; rw [if_neg (by omega), h]
theorem spl_err : ∀ (f i : Nat) (s : List UInt8) (p : Nat × Int), spl f i s = .error p → p.2 ≠ 0
  | 0, _, _, _, h => by unfold spl at h; cases h
  | _ + 1, _, [], _, h => by unfold spl at h; cases h
  | f + 1, i, c :: r, p, h => by
    unfold spl at h
    split at h
    · exact spl_err f _ _ _ h
    · split at h
      · exact spl_err f _ _ _ h
      · cases h1 : oneF (c :: r) with
        | error e => rw [h1] at h; cases h; exact oneF_ne h1
        | ok q =>
          obtain ⟨t, n⟩ := q
          rw [h1] at h
          dsimp only at h
          cases h2 : spl f (i + n) ((c :: r).drop n) with
          | error e => rw [h2] at h; cases h; exact spl_err f _ _ _ h2
          | ok us => rw [h2] at h; cases h
set_option maxHeartbeats 4000000 in
set_option maxRecDepth 100000 in
theorem lexagain_any {I : World → Prop} (D : DayC I) (LX : LexC I) (A12 : ∀ w, I w → Calls Tryz.prog 7 #[] w fun e w' => e = .returned (.bool true) ∧ Below w.heap.size w w') (s : ByteArray) (w : World) (hI : I w) (hs : s.size ≤ 9223372036854775807) :
    Calls Tryz.prog 6 #[.string s] w fun e w' => e = .returned (.bool true) ∧ Below w.heap.size w w' := by
  have KA := Lib.hid (A12 w hI)
  by_cases h2 : 1000 < s.size
  · have t1 : decide ((1000 : Int) < (s.size : Int)) = true := decide_eq_true (by omega)
    clear D LX A12 hI
    go_enter Tryz.func6, Tryz.ntmps6
    go_wp2_with (go_at_call 7; refine KA.out.mono ?_; rintro e w4 ⟨rfl, h4⟩; have HB4 := Lib.hid h4; clear h4)
    go_ret
    exact ⟨rfl, HB4.out⟩
  have t1 : decide ((1000 : Int) < (s.size : Int)) = false := decide_eq_false (by omega)
  have hlen : s.data.toList.length = s.size := by simp
  have K0 := fun (w' : World) (h : Below w.heap.size w w') => LX.split s w' (D.stay hI h) (by omega)
  have KX := Lib.hid (fun (sk : ByteArray) (hk : sk.size ≤ 100000) (w' : World) (h : Below w.heap.size w w') => LX.split sk w' (D.stay hI h) hk)
  cases hr : splitF s.data.toList with
  | error p =>
    rw [splT_err hr (by omega)] at K0
    have hp := spl_err _ _ _ _ hr
    have t2 : (p.2 != 0) = true := by rw [bne_iff_ne]; exact hp
    obtain ⟨pl, cd⟩ := p
    unfold SplT at K0
    simp only [List.length_nil] at K0 t2
    have K1 := Lib.hid K0
    clear D LX A12 hI K0 KX hr hp hlen
    go_enter Tryz.func6, Tryz.ntmps6
    go_wp2_with (first | (go_at_call 8; refine (K1.out _ HB4.out).mono ?_; rintro e w5 ⟨r5, c5, rfl, hr5, h5⟩; have HR5 := Lib.hid hr5; have HB5 := Lib.hid (HB4.out.trans (h5.mono HB4.out.size)); clear hr5 h5) | (go_at_call 7; refine KA.out.mono ?_; rintro e w4 ⟨rfl, h4⟩; have HB4 := Lib.hid h4; clear h4))
    go_ret
    exact ⟨rfl, HB5.out⟩
  | ok ts =>
    rw [splT_ok hr (by omega)] at K0
    obtain ⟨a1, a2, a3⟩ := spl_again _ _ _ _ (by omega) hr
    obtain ⟨us, b1, b2, b3⟩ := a3 ((ts.flatMap rendT).length + 1) 0 (by omega)
    have hsp : splitF (ts.flatMap rendT) = .ok us := b1
    have hst := splT_ok hsp (by omega)
    obtain ⟨m, hm⟩ : ∃ m, ts.length = m := ⟨_, rfl⟩
    have hmb : m ≤ 2000 := by omega
    rw [hm] at b2
    have HM := Lib.hid hm
    have HU := Lib.hid b2
    have HLK := Lib.hid b3
    have HST := Lib.hid hst
    have HTL := Lib.hid (show (ts.flatMap rendT).length ≤ 2001 by omega)
    unfold SplT at K0
    simp only [hm] at K0
    have K1 := Lib.hid K0
    clear D LX A12 hI K0 hr hlen a1 a2 a3 b1 b2 b3 hsp hst hm
    go_enter Tryz.func6, Tryz.ntmps6
    go_wp2_with (first | (go_at_call 8; refine (K1.out _ HB4.out).mono ?_; rintro e w5 ⟨r5, c5, rfl, hr5, h5⟩; have HR5 := Lib.hid hr5; have HB5 := Lib.hid (HB4.out.trans (h5.mono HB4.out.size)); clear hr5 h5) | (go_at_call 7; refine KA.out.mono ?_; rintro e w4 ⟨rfl, h4⟩; have HB4 := Lib.hid h4; clear h4))
    go_loopw [6, 31] (fun tx i wr => ∃ (k : Nat) (sk : ByteArray), tx = .string sk ∧ i = .int .i64 (k : Int) ∧ k ≤ m ∧ Hid (sk.data.toList = (ts.take k).flatMap rendT) ∧ Hid (Recs tkc 5 wr (.slice r5 m c5) ts) ∧ Hid (Below w.heap.size w wr)) (fun _ i _ => m - (RowKit.intOf i).toNat)
    case atStart => exact ⟨0, ⟨#[]⟩, rfl, rfl, Nat.zero_le _, Lib.hid rfl, HR5, HB5⟩
    case round =>
      clear HR5 HB5 HB4
      obtain ⟨k, sk, rfl, rfl, hk, HS, HR, HB⟩ := hrel
      rename World => wr
      by_cases hlt : k < m
      · obtain ⟨x, hx⟩ : ∃ x, ts[k]? = some x := ⟨ts[k]'(by have := HM.out; omega), List.getElem?_eq_getElem (by have := HM.out; omega)⟩
        obtain ⟨g1, o1, hr1, hg1, c1⟩ := HR.out.at hx
        subst hr1
        have a0 := c1 0 _ rfl
        have a1 := c1 1 _ rfl
        have a2 := c1 2 _ rfl
        have a3 := c1 3 _ rfl
        have a4 := c1 4 _ rfl
        rw [Nat.add_zero] at a0
        have HTR := Lib.hid (take_rend hx)
        have hb2 := (Below.refl wr.heap.size wr).alloc (Nat.le_refl _) (.cells #[.int .i64 (x.kind : Int), .string ⟨x.text.toArray⟩, .int .i64 x.num, .int .i32 x.day, .int .i64 (x.at_ : Int)] 31)
        have HR2 := Lib.hid (HR.out.stay hb2)
        have HB2 := Lib.hid (HB.out.trans (hb2.mono HB.out.size))
        have hx2 : x.text.length + sk.size ≤ 2001 := by
          have h6 := flat_take_le ts (k + 1)
          rw [HTR.out, List.length_append, ← HS.out] at h6
          have h7 := rend_len x
          have h8 : sk.data.toList.length = sk.size := by simp
          have := HTL.out
          omega
        clear c1 hx hb2
        by_cases h4 : x.kind = 4
        · have HRD := Lib.hid (rend_txt h4)
          have t4 : ((x.kind : Int) == 4) = true := by rw [beq_iff_eq]; omega
          clear h4
          go_wp2_with fail
          go_roundw
          case rel => exact ⟨k + 1, _, rfl, by go_num, by omega, Lib.hid (by rw [HTR.out, HRD.out, ← HS.out]; simp [bapp]), HR2, HB2⟩
          case measure => simp [RowKit.intOf]; omega
        · have HRD := Lib.hid (rend_oth h4)
          have t4 : ((x.kind : Int) == 4) = false := by rw [beq_eq_false_iff_ne]; omega
          clear h4
          go_wp2_with fail
          go_roundw
          case rel => exact ⟨k + 1, _, rfl, by go_num, by omega, Lib.hid (by rw [HTR.out, HRD.out, ← HS.out]; simp [bapp]), HR2, HB2⟩
          case measure => simp [RowKit.intOf]; omega
      · obtain rfl : k = m := by omega
        have hs2 : sk.data.toList = ts.flatMap rendT := by rw [HS.out, List.take_of_length_le (by have := HM.out; omega)]
        have hsz : sk.size ≤ 100000 := by
          have h5 : sk.data.toList.length = sk.size := by simp
          rw [hs2] at h5
          have := HTL.out
          omega
        have K6 := KX.out sk hsz
        rw [hs2, HST.out] at K6
        unfold SplT at K6
        simp only [HU.out] at K6
        have K7 := Lib.hid K6
        clear K6 hs2 hsz HS KX
        go_wp2_with (go_at_call 8; refine (K7.out _ HB.out).mono ?_; rintro e w7 ⟨r7, c7, rfl, hr7, h7⟩; have HR7 := Lib.hid hr7; have HR6 := Lib.hid (HR.out.stay h7); have HB7 := Lib.hid (HB.out.trans (h7.mono HB.out.size)); clear hr7 h7)
        go_loopw [67] (fun i wq => ∃ (j : Nat), i = .int .i64 (j : Int) ∧ j ≤ k ∧ Hid (Below w7.heap.size w7 wq)) (fun i _ => k - (RowKit.intOf i).toNat)
        case atStart => exact ⟨0, rfl, Nat.zero_le _, Lib.hid (Below.refl _ _)⟩
        case round =>
          obtain ⟨j, rfl, hj, HQ⟩ := hrel
          rename World => wq
          by_cases hlt2 : j < k
          · obtain ⟨x, hx⟩ : ∃ x, ts[j]? = some x := ⟨ts[j]'(by have := HM.out; omega), List.getElem?_eq_getElem (by have := HM.out; omega)⟩
            obtain ⟨y, hy⟩ : ∃ y, us[j]? = some y := ⟨us[j]'(by have := HU.out; omega), List.getElem?_eq_getElem (by have := HU.out; omega)⟩
            obtain ⟨g1, o1, hr1, _, c1⟩ := (HR6.out.stay HQ.out).at hx
            obtain ⟨g2, o2, hr2, _, c2⟩ := (HR7.out.stay HQ.out).at hy
            subst hr1
            subst hr2
            have a0 := c1 0 _ rfl
            have a1 := c1 1 _ rfl
            have a2 := c1 2 _ rfl
            have a3 := c1 3 _ rfl
            have a4 := c1 4 _ rfl
            rw [Nat.add_zero] at a0
            have b0 := c2 0 _ rfl
            have b1 := c2 1 _ rfl
            have b2 := c2 2 _ rfl
            have b3 := c2 3 _ rfl
            have b4 := c2 4 _ rfl
            rw [Nat.add_zero] at b0
            obtain ⟨e1, e2, e3, e4⟩ := HLK.out j x y hx hy
            rw [← e1] at b0
            rw [← e2] at b1
            rw [← e3] at b2
            rw [← e4] at b3
            clear e1 e2 e3 e4 hx hy c1 c2
            go_wp2_with fail
            go_quiet (fail)
            go_wp2
            go_roundw
            case rel => exact ⟨j + 1, by go_num, by omega, Lib.hid (HQ.out.trans (below_drewT _ _ _))⟩
            case measure => simp [RowKit.intOf]; omega
          · go_wp2
            go_ret
            exact ⟨rfl, HB7.out.trans (HQ.out.mono HB7.out.size)⟩
end Go.Proofs.YtafmakhhdinknaaGreatDoor

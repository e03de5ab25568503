/- What the laws ask of calendar, of the landed calendar. -/
import Derived.Test.YtmbfnbbgphpcgaaGreatDoorJv
import Derived.Test.YtmbfnbbgphpcgaaGreatDoorJc
import Derived.Test.YtmbfnbbgphpcgaaGreatDoorKall
namespace Go.Proofs.YtmbfnbbgphpcgaaGreatDoor
open Go.RowKit
set_option linter.unusedVariables false
set_option linter.unusedSimpArgs false
theorem known_c (n : Int) (w : World) (hI : InI w) (hn : I32 n) :
    Calls Tryz.prog 21 #[.int .i32 n] w fun e w' => e = .returned (.bool (decide (-719162 ≤ n ∧ n ≤ 2932896))) ∧ Below w.heap.size w w' := by
  by_cases h : -719162 ≤ n ∧ n ≤ 2932896
  · obtain ⟨y, m, d, hR, rfl⟩ := num_some h.1 h.2
    have K := Lib.hid (dayC.date_yes y m d w hI hR)
    rw [decide_eq_true h]
    have hy : (y != 0) = true := by have := hR.1; simp; omega
    clear h hR hI hn
    generalize numD y m d = N at *
    go_enter Tryz.func21, Tryz.ntmps21
    go_wp2_with (go_at_call 29; refine K.out.mono ?_; rintro e w1 ⟨rfl, h1⟩)
    go_ret
    exact ⟨rfl, h1⟩
  · have K := Lib.hid (dayC.date_no n w hI (i32_wf (by unfold I32 at hn; omega)) h)
    rw [decide_eq_false h]
    clear h hI hn
    go_enter Tryz.func21, Tryz.ntmps21
    go_wp2_with (go_at_call 29; refine K.out.mono ?_; rintro e w1 ⟨rfl, h1⟩)
    go_ret
    exact ⟨rfl, h1⟩
theorem len_c (r : Option Addr) (n cap : Nat) (E : Int) (w : World) :
    Calls Tryz.prog 12 #[.agg #[.slice r n cap, .int .i32 E]] w fun e w' => e = .returned (.int .i64 (n : Nat)) ∧ Below w.heap.size w w' := by
  have hbx := Box2.new w (.slice r n cap) (.int .i32 E) 27
  have HB := Lib.hid ((Below.refl w.heap.size w).alloc (Nat.le_refl _) (.cells #[.slice r n cap, .int .i32 E] 27))
  go_enter Tryz.func12, Tryz.ntmps12
  go_wp2_with fail
  go_ret
  exact ⟨rfl, HB.out⟩
/-- The day ahead of one in a row. -/
def leadD (l : List Int) : Nat → Option Int
  | 0 => none
  | k + 1 => l[k]?
theorem chkD1_drop {l : List Int} {k : Nat} {x : Int} (hx : l[k]? = some x) :
    chkD1 (leadD l k) (l.drop k) = if x < -719162 ∨ 2932896 < x then 13 else if (∃ b, leadD l k = some b ∧ x ≤ b) then 6 else chkD1 (leadD l (k + 1)) (l.drop (k + 1)) := by
  obtain ⟨hk, e⟩ := List.getElem?_eq_some_iff.1 hx
  have h1 : l.drop k = x :: l.drop (k + 1) := by rw [List.drop_eq_getElem_cons hk, e]
  have h2 : leadD l (k + 1) = some x := hx
  rw [h1, h2]; rfl
theorem chkD1_bad {l : List Int} {k : Nat} {x : Int} (hx : l[k]? = some x) (h : ¬ (-719162 ≤ x ∧ x ≤ 2932896)) : chkD1 (leadD l k) (l.drop k) = 13 := by rw [chkD1_drop hx, if_pos (by omega)]
theorem chkD1_low {l : List Int} {k : Nat} {x y : Int} (hx : l[k + 1]? = some x) (hy : l[k]? = some y) (h : -719162 ≤ x ∧ x ≤ 2932896) (hxy : x ≤ y) : chkD1 (leadD l (k + 1)) (l.drop (k + 1)) = 6 := by
  rw [chkD1_drop hx, if_neg (by omega), if_pos ⟨y, hy, hxy⟩]
theorem chkD1_next {l : List Int} {k : Nat} {x y : Int} (hx : l[k + 1]? = some x) (hy : l[k]? = some y) (h : -719162 ≤ x ∧ x ≤ 2932896) (hxy : y < x) : chkD1 (leadD l (k + 1)) (l.drop (k + 1)) = chkD1 (leadD l (k + 1 + 1)) (l.drop (k + 1 + 1)) := by
  rw [chkD1_drop hx, if_neg (by omega), if_neg]
  rintro ⟨b, e, hb⟩
  have e' : l[k]? = some b := e
  rw [hy] at e'
  cases e'
  omega
theorem chkD1_first {l : List Int} {x : Int} (hx : l[0]? = some x) (h : -719162 ≤ x ∧ x ≤ 2932896) : chkD1 (leadD l 0) (l.drop 0) = chkD1 (leadD l (0 + 1)) (l.drop (0 + 1)) := by
  rw [chkD1_drop hx, if_neg (by omega), if_neg]
  rintro ⟨b, e, hb⟩
  cases e
theorem chkD_of {S : List Int} {E : Int} (h0 : 1 ≤ S.length) (h6 : S.length ≤ 60) : chkD S E = chkD1 (leadD (S ++ [E]) 0) ((S ++ [E]).drop 0) := by
  unfold chkD; rw [if_neg (by omega)]; rfl
theorem chkD_out {S : List Int} {E : Int} (h : S.length < 1 ∨ 60 < S.length) : chkD S E = 2 := by unfold chkD; rw [if_pos h]
set_option maxHeartbeats 2000000 in
set_option maxRecDepth 100000 in
theorem check_c (v : Value) (S : List Int) (E : Int) (w : World) (hI : InI w) (hR : Recs dcl 1 w v S) (hl : S.length ≤ 100) (hS : ∀ x ∈ S, I32 x) (hE : I32 E) :
    Calls Tryz.prog 11 #[.agg #[v, .int .i32 E]] w fun e w' => e = .returned (.int .i64 (chkD S E)) ∧ Below w.heap.size w w' := by
  obtain ⟨r, cap, rfl, hm⟩ := hR.form
  obtain ⟨L, hL⟩ : ∃ L, S.length = L := ⟨_, rfl⟩
  have KL := Lib.hid (fun w => len_c r L cap E w)
  have hbx := Box2.new w (.slice r L cap) (.int .i32 E) 27
  have HBX := Lib.hid ((Below.refl w.heap.size w).alloc (Nat.le_refl _) (.cells #[.slice r L cap, .int .i32 E] 27))
  by_cases hin : 1 ≤ L ∧ L ≤ 60
  · have KC := Lib.hid (fun (w' : World) (h : Below w.heap.size w w') => concat_at (.slice r S.length cap) S E w' (hR.stay h) hl)
    obtain ⟨A, hA⟩ : ∃ A, S ++ [E] = A := ⟨_, rfl⟩
    obtain ⟨C, hC⟩ : ∃ C, chkD S E = C := ⟨_, rfl⟩
    have HC : Hid (C = chkD1 (leadD A 0) (A.drop 0)) := Lib.hid (by rw [← hC, ← hA, chkD_of (by omega) (by omega)])
    have HAl : Hid (A.length = L + 1) := Lib.hid (by rw [← hA]; simp; omega)
    have HA32 : Hid (∀ x ∈ A, I32 x) := Lib.hid (fun x hx => by
      rw [← hA] at hx
      rcases List.mem_append.1 hx with h | h
      · exact hS x h
      · simp at h; subst h; exact hE)
    have KN := Lib.hid (fun (n : Int) (w' : World) (h : Below w.heap.size w w') (hn : I32 n) => known_c n w' (hI.stay h) hn)
    rw [hL, hA] at KC
    rw [hL, hC]
    have e1 : ¬ ((L : Int) < 1) := by omega
    have e2 : ¬ ((60 : Int) < (L : Int)) := by omega
    clear hR hm hS hE hL hA hC hI
    go_enter Tryz.func11, Tryz.ntmps11
    go_upto_region 1 with fail
    generalize w.alloc (.cells #[.slice r L cap, .int .i32 E] 27) = W at *
    have HW := Lib.hid hbx
    obtain ⟨p0, p1, _, _, _⟩ := hbx
    go_wp2_with (first
      | (go_at_call 20; refine (KC.out w2 HB2.out).mono ?_; rintro e w3 ⟨v3, rfl, hA3, h3⟩; have HA3 := Lib.hid hA3; have HB3 := Lib.hid (HB2.out.trans (h3.mono HB2.out.size)); obtain ⟨r3, cap3, rfl, hm3⟩ := hA3.form; clear hA3 h3)
      | (go_at_call 12; refine (KL.out w1).mono ?_; rintro e w2 ⟨rfl, h2⟩; obtain ⟨t0, t1, _, _, _⟩ := HW1.out.stay h2; have HB2 := Lib.hid (HB1.out.trans (h2.mono HB1.out.size)); clear h2)
      | (go_at_call 12; refine (KL.out W).mono ?_; rintro e w1 ⟨rfl, h1⟩; have HW1 := Lib.hid (HW.out.stay h1); obtain ⟨s0, s1, _, _, _⟩ := HW1.out; have HB1 := Lib.hid (HBX.out.trans (h1.mono HBX.out.size)); clear h1))
    rw [HAl.out] at hm3 ⊢
    go_loopw [23] (fun i wr => ∃ k : Nat, k ≤ L + 1 ∧ i = .int .i64 k ∧ Hid (C = chkD1 (leadD A k) (A.drop k)) ∧ Hid (Below w.heap.size w wr) ∧ Hid (Recs dcl 1 wr (.slice r3 (L + 1) cap3) A)) (fun i _ => L + 1 - (intOf i).toNat)
    case atStart => exact ⟨0, Nat.zero_le _, rfl, HC, HB3, Lib.hid (HAl.out ▸ HA3.out)⟩
    case round =>
      clear HA3 HB3 HC
      obtain ⟨k, hk, rfl, HC, HB, HR⟩ := hrel
      rename World => wr
      by_cases hlt : k < L + 1
      · obtain ⟨x, hx⟩ : ∃ x, A[k]? = some x := ⟨A[k]'(by have := HAl.out; omega), List.getElem?_eq_getElem (by have := HAl.out; omega)⟩
        obtain ⟨g, off, rfl, hg, hc⟩ := HR.out.at hx
        have c0 := hc 0 _ rfl
        simp only [Nat.mul_one, Nat.add_zero] at c0
        have K1 := KN.out x wr HB.out (HA32.out x (List.mem_of_getElem? hx))
        by_cases hok : -719162 ≤ x ∧ x ≤ 2932896
        · rw [decide_eq_true hok] at K1
          have HK := Lib.hid K1
          clear K1
          cases k with
          | zero =>
            simp only [Nat.add_zero] at c0
            have HC1 : Hid (C = chkD1 (leadD A (0 + 1)) (A.drop (0 + 1))) := Lib.hid (HC.out.trans (chkD1_first hx hok))
            clear hc hx hok HC
            go_wp2_with (go_at_call 21; refine HK.out.mono ?_; rintro e w5 ⟨rfl, h5⟩; have HB5 := Lib.hid (HB.out.trans (h5.mono HB.out.size)); have HR5 := Lib.hid (HR.out.stay h5); clear h5)
            go_roundw
            case rel => exact ⟨_, _, _, _, _, _, _, _, _, _, _, _, _, _, _, _, _, _, _, _, _, _, _, _, _, ⟨1, by omega, by go_num, HC1, HB5, HR5⟩, rfl⟩
            case measure => simp [intOf]
          | succ j =>
            obtain ⟨y, hy⟩ : ∃ y, A[j]? = some y := ⟨A[j]'(by have := HAl.out; omega), List.getElem?_eq_getElem (by have := HAl.out; omega)⟩
            obtain ⟨g', off', er, _, hc'⟩ := HR.out.at hy
            cases er
            have b0 := hc' 0 _ rfl
            simp only [Nat.mul_one, Nat.add_zero] at b0
            by_cases hxy : x ≤ y
            · have HC6 := HC.out.trans (chkD1_low hx hy hok hxy)
              subst HC6
              clear hc hc' hx hy hok HC
              go_wp2_with (go_at_call 21; refine HK.out.mono ?_; rintro e w5 ⟨rfl, h5⟩; have HB5 := Lib.hid (HB.out.trans (h5.mono HB.out.size)); have b5 := (h5.cell (p := ⟨g, off + j, none⟩) hg).trans b0; clear h5)
              go_ret
              exact ⟨rfl, HB5.out⟩
            · have HC1 := Lib.hid (HC.out.trans (chkD1_next hx hy hok (by omega)))
              clear hc hc' hx hy hok HC
              go_wp2_with (go_at_call 21; refine HK.out.mono ?_; rintro e w5 ⟨rfl, h5⟩; have HB5 := Lib.hid (HB.out.trans (h5.mono HB.out.size)); have HR5 := Lib.hid (HR.out.stay h5); have b5 := (h5.cell (p := ⟨g, off + j, none⟩) hg).trans b0; clear h5)
              go_roundw
              case rel => exact ⟨_, _, _, _, _, _, _, _, _, _, _, _, _, _, _, _, _, _, _, _, _, _, _, _, _, ⟨j + 1 + 1, by omega, by go_num, HC1, HB5, HR5⟩, rfl⟩
              case measure => simp [intOf]; omega
        · have HC13 := HC.out.trans (chkD1_bad hx hok)
          subst HC13
          rw [decide_eq_false hok] at K1
          have HK := Lib.hid K1
          clear K1 hc hx hok HC
          go_wp2_with (go_at_call 21; refine HK.out.mono ?_; rintro e w5 ⟨rfl, h5⟩; have HB5 := Lib.hid (HB.out.trans (h5.mono HB.out.size)); clear h5)
          go_ret
          exact ⟨rfl, HB5.out⟩
      · obtain rfl : k = L + 1 := by omega
        have HC0 : C = 0 := by rw [HC.out, List.drop_of_length_le (by have := HAl.out; omega)]; rfl
        subst HC0
        clear HC
        go_wp2
        go_ret
        exact ⟨rfl, HB.out⟩
  · rw [chkD_out (by omega), hL]
    clear hR hm hS hE hI
    by_cases h1 : L < 1
    · have e1 : ((L : Int) < 1) := by omega
      go_enter Tryz.func11, Tryz.ntmps11
      go_upto_region 1 with fail
      generalize w.alloc (.cells #[.slice r L cap, .int .i32 E] 27) = W at *
      have HW := Lib.hid hbx
      obtain ⟨p0, p1, _, _, _⟩ := hbx
      go_wp2_with (go_at_call 12; refine (KL.out W).mono ?_; rintro e w1 ⟨rfl, h1⟩; have HB1 := Lib.hid (HBX.out.trans (h1.mono HBX.out.size)); clear h1)
      go_ret
      exact ⟨rfl, HB1.out⟩
    · have e1 : ¬ ((L : Int) < 1) := by omega
      have e2 : ((60 : Int) < (L : Int)) := by omega
      go_enter Tryz.func11, Tryz.ntmps11
      go_upto_region 1 with fail
      generalize w.alloc (.cells #[.slice r L cap, .int .i32 E] 27) = W at *
      have HW := Lib.hid hbx
      obtain ⟨p0, p1, _, _, _⟩ := hbx
      go_wp2_with (first
        | (go_at_call 12; refine (KL.out w1).mono ?_; rintro e w2 ⟨rfl, h2⟩; have HB2 := Lib.hid (HB1.out.trans (h2.mono HB1.out.size)); clear h2)
        | (go_at_call 12; refine (KL.out W).mono ?_; rintro e w1 ⟨rfl, h1⟩; have HW1 := Lib.hid (HW.out.stay h1); obtain ⟨s0, s1, _, _, _⟩ := HW1.out; have HB1 := Lib.hid (HBX.out.trans (h1.mono HBX.out.size)); clear h1))
      go_ret
      exact ⟨rfl, HB2.out⟩
set_option maxHeartbeats 2000000 in
set_option maxRecDepth 100000 in
theorem period_c (v : Value) (S : List Int) (E d : Int) (w : World) (hR : Recs dcl 1 w v S) (hr : RiseD S) (hl : S.length ≤ 60) (hx : ∀ x ∈ S, x < E) :
    Calls Tryz.prog 15 #[.agg #[v, .int .i32 E], .int .i32 d] w fun e w' => e = .returned (.tuple #[.int .i64 (max (perI S E d) 0), .bool (decide (0 ≤ perI S E d))]) ∧ Below w.heap.size w w' := by
  obtain ⟨r, cap, rfl, hm⟩ := hR.form
  obtain ⟨L, hL⟩ : ∃ L, S.length = L := ⟨_, rfl⟩
  rw [hL] at hR hl ⊢
  have hbx := Box2.new w (.slice r L cap) (.int .i32 E) 27
  have hb := (Below.refl w.heap.size w).alloc (Nat.le_refl _) (.cells #[.slice r L cap, .int .i32 E] 27)
  have K1 := bsearch_d _ S d _ (hR.stay hb) hr (by omega)
  have HBX := Lib.hid hb
  have hc := cnt_below d hr
  have hp : perI S E d = if d < E ∧ 0 < cntD S d then (cntD S d : Int) - 1 else -1 := rfl
  have hBl : belowD S d ≤ S.length := belowD_le S d
  have hdx := hx d
  clear hR hb hr hx
  rw [hL] at hBl
  clear hL hm
  by_cases hd : d ∈ S
  · rw [decide_eq_true hd] at K1
    rw [if_pos hd] at hc
    have hdE := hdx hd
    rw [if_pos ⟨hdE, by omega⟩] at hp
    generalize belowD S d = B at *
    generalize perI S E d = p at *
    have e1 : max p 0 = (B : Int) := by omega
    have e2 : decide (0 ≤ p) = true := decide_eq_true (by omega)
    rw [e1, e2]
    have K1 := Lib.hid K1
    have f1 : ¬ ((B : Int) < 0) := by omega
    have f2 : ¬ (E ≤ d) := by omega
    clear hd hdx hp hc e1 e2
    go_enter Tryz.func15, Tryz.ntmps15
    go_upto_region 1 with fail
    generalize w.alloc (.cells #[.slice r L cap, .int .i32 E] 27) = W at *
    have HW := Lib.hid hbx
    obtain ⟨p0, p1, _, _, _⟩ := hbx
    go_wp2_with (go_at_call 22; refine K1.out.mono ?_; rintro e w1 ⟨rfl, h1⟩; have HW1 := Lib.hid (HW.out.stay h1); obtain ⟨s0, s1, _, _, _⟩ := HW1.out; have HB1 := Lib.hid (HBX.out.trans (h1.mono HBX.out.size)); clear h1)
    go_ret2
    exact ⟨rfl, HB1.out⟩
  · rw [decide_eq_false hd] at K1
    rw [if_neg hd] at hc
    generalize belowD S d = B at *
    generalize perI S E d = p at *
    by_cases hB : B = 0
    · subst hB
      rw [if_neg (by omega)] at hp
      have e1 : max p 0 = 0 := by omega
      have e2 : decide (0 ≤ p) = false := decide_eq_false (by omega)
      rw [e1, e2]
      have K1 := Lib.hid K1
      clear hd hdx hp hc e1 e2
      go_enter Tryz.func15, Tryz.ntmps15
      go_upto_region 1 with fail
      generalize w.alloc (.cells #[.slice r L cap, .int .i32 E] 27) = W at *
      have HW := Lib.hid hbx
      obtain ⟨p0, p1, _, _, _⟩ := hbx
      go_wp2_with (go_at_call 22; refine K1.out.mono ?_; rintro e w1 ⟨rfl, h1⟩; have HW1 := Lib.hid (HW.out.stay h1); obtain ⟨s0, s1, _, _, _⟩ := HW1.out; have HB1 := Lib.hid (HBX.out.trans (h1.mono HBX.out.size)); clear h1)
      go_ret2
      exact ⟨rfl, HB1.out⟩
    · by_cases hdE : d < E
      · rw [if_pos ⟨hdE, by omega⟩] at hp
        obtain ⟨b, rfl⟩ : ∃ b, B = b + 1 := ⟨B - 1, by omega⟩
        have e1 : max p 0 = (b : Int) := by omega
        have e2 : decide (0 ≤ p) = true := decide_eq_true (by omega)
        rw [e1, e2]
        have K1 := Lib.hid K1
        have f1 : ¬ ((b : Int) < 0) := by omega
        have f2 : ¬ (E ≤ d) := by omega
        clear hd hdx hp hc e1 e2 hB
        go_enter Tryz.func15, Tryz.ntmps15
        go_upto_region 1 with fail
        generalize w.alloc (.cells #[.slice r L cap, .int .i32 E] 27) = W at *
        have HW := Lib.hid hbx
        obtain ⟨p0, p1, _, _, _⟩ := hbx
        go_wp2_with (go_at_call 22; refine K1.out.mono ?_; rintro e w1 ⟨rfl, h1⟩; have HW1 := Lib.hid (HW.out.stay h1); obtain ⟨s0, s1, _, _, _⟩ := HW1.out; have HB1 := Lib.hid (HBX.out.trans (h1.mono HBX.out.size)); clear h1)
        go_ret2
        exact ⟨rfl, HB1.out⟩
      · rw [if_neg (by omega)] at hp
        obtain ⟨b, rfl⟩ : ∃ b, B = b + 1 := ⟨B - 1, by omega⟩
        have e1 : max p 0 = 0 := by omega
        have e2 : decide (0 ≤ p) = false := decide_eq_false (by omega)
        rw [e1, e2]
        have K1 := Lib.hid K1
        have f1 : ¬ ((b : Int) < 0) := by omega
        have f2 : E ≤ d := by omega
        clear hd hdx hp hc e1 e2 hB hdE
        go_enter Tryz.func15, Tryz.ntmps15
        go_upto_region 1 with fail
        generalize w.alloc (.cells #[.slice r L cap, .int .i32 E] 27) = W at *
        have HW := Lib.hid hbx
        obtain ⟨p0, p1, _, _, _⟩ := hbx
        go_wp2_with (go_at_call 22; refine K1.out.mono ?_; rintro e w1 ⟨rfl, h1⟩; have HW1 := Lib.hid (HW.out.stay h1); obtain ⟨s0, s1, _, _, _⟩ := HW1.out; have HB1 := Lib.hid (HBX.out.trans (h1.mono HBX.out.size)); clear h1)
        go_ret2
        exact ⟨rfl, HB1.out⟩
set_option maxHeartbeats 2000000 in
set_option maxRecDepth 100000 in
theorem same_c (v v' : Value) (S S' : List Int) (E E' : Int) (w : World) (h1 : Recs dcl 1 w v S) (h2 : Recs dcl 1 w v' S') :
    Calls Tryz.prog 16 #[.agg #[v, .int .i32 E], .agg #[v', .int .i32 E']] w fun e w' => e = .returned (.bool (decide (S = S' ∧ E = E'))) ∧ Below w.heap.size w w' := by
  have hbx := (Box2.new w v (.int .i32 E) 27).alloc (.cells #[v', .int .i32 E'] 27)
  have hby := Box2.new (w.alloc (.cells #[v, .int .i32 E] 27)) v' (.int .i32 E') 27
  have hs : (w.alloc (.cells #[v, .int .i32 E] 27)).heap.size = w.heap.size + 1 := by simp
  rw [hs] at hby
  have hb : Below w.heap.size w ((w.alloc (.cells #[v, .int .i32 E] 27)).alloc (.cells #[v', .int .i32 E'] 27)) := ((Below.refl _ _).alloc (Nat.le_refl _) _).alloc (by simp) _
  have HBX := Lib.hid hb
  have K1 := Lib.hid (equal_d v v' S S' _ (h1.stay hb) (h2.stay hb))
  have hT : decide (S = S' ∧ E = E') = (decide (S = S') && decide (E = E')) := by simp
  rw [hT]
  generalize decide (S = S') = T at *
  clear h1 h2 hb hs hT
  go_enter Tryz.func16, Tryz.ntmps16
  go_upto_region 1 with fail
  generalize (w.alloc (.cells #[v, .int .i32 E] 27)).alloc (.cells #[v', .int .i32 E'] 27) = W at *
  have HX := Lib.hid hbx
  have HY := Lib.hid hby
  obtain ⟨p0, p1, _, _, _⟩ := hbx
  obtain ⟨q0, q1, _, _, _⟩ := hby
  cases T with
  | true =>
    by_cases hE : E = E'
    · subst hE
      go_wp2_with (go_at_call 23; refine K1.out.mono ?_; rintro e w1 ⟨rfl, h1⟩; obtain ⟨s0, s1, _, _, _⟩ := HX.out.stay h1; obtain ⟨t0, t1, _, _, _⟩ := HY.out.stay h1; have HB1 := Lib.hid (HBX.out.trans (h1.mono HBX.out.size)); clear h1)
      go_ret
      exact ⟨by simp, HB1.out⟩
    · have f1 : (E == E') = false := by simpa using hE
      have f2 : decide (E = E') = false := decide_eq_false hE
      go_wp2_with (go_at_call 23; refine K1.out.mono ?_; rintro e w1 ⟨rfl, h1⟩; obtain ⟨s0, s1, _, _, _⟩ := HX.out.stay h1; obtain ⟨t0, t1, _, _, _⟩ := HY.out.stay h1; have HB1 := Lib.hid (HBX.out.trans (h1.mono HBX.out.size)); clear h1)
      go_ret
      exact ⟨by simp [f2], HB1.out⟩
  | false =>
    go_wp2_with (go_at_call 23; refine K1.out.mono ?_; rintro e w1 ⟨rfl, h1⟩; have HB1 := Lib.hid (HBX.out.trans (h1.mono HBX.out.size)); clear h1)
    go_ret
    exact ⟨by simp, HB1.out⟩
theorem calC : CalC InI where
  check v S E w hI hR hl hS hE := check_c v S E w hI hR hl hS hE
  len v S E w hR hl := by
    obtain ⟨r, cap, rfl, _⟩ := hR.form
    exact len_c r S.length cap E w
  period v S E d w hI hR hr h1 h6 hx hE hd := period_c v S E d w hR hr h6 (fun x h => (hx x h).2)
  same v v' S S' E E' w h1 h2 _ _ := same_c v v' S S' E E' w h1 h2
end Go.Proofs.YtmbfnbbgphpcgaaGreatDoor

/- The walk of law LexJoins. -/
import Derived.Test.YtafmakhhdinknaaGreatDoorLxi
namespace Go.Proofs.YtafmakhhdinknaaGreatDoor
open Go.RowKit Go.Lib
set_option linter.unusedVariables false
set_option linter.unusedSimpArgs false
/-- What the tokens of two texts with a line feed between are, one by one. -/
theorem join_at {l m : List Tk} {K i : Nat} (hl : l ≠ []) (hi : i < l.length + m.length - 1) :
    (l.dropLast ++ m.map (shT K))[i]? = if i < l.length - 1 then l[i]? else (m[i + 1 - l.length]?).map (shT K) := by
  have h0 : 0 < l.length := List.length_pos_iff.2 hl
  by_cases h : i < l.length - 1
  · rw [if_pos h, List.getElem?_append_left (by rw [List.length_dropLast]; exact h), List.dropLast_eq_take, List.getElem?_take, if_pos h]
  · rw [if_neg h, List.getElem?_append_right (by rw [List.length_dropLast]; omega), List.length_dropLast, List.getElem?_map, show i - (l.length - 1) = i + 1 - l.length by omega]
theorem spl_at_le : ∀ (f i : Nat) (s : List UInt8) (ts : List Tk), spl f i s = .ok ts → ∀ t ∈ ts, t.at_ ≤ i + s.length
  | 0, i, s, ts, h, t, ht => by unfold spl at h; cases h; simp at ht; subst ht; show i ≤ _; omega
  | _ + 1, i, [], ts, h, t, ht => by unfold spl at h; cases h; simp at ht; subst ht; show i ≤ _; omega
  | f + 1, i, c :: r, ts, h, t, ht => by
    rw [spl_cons] at h
    split at h
    · have := spl_at_le f _ _ _ h t ht
      simp only [List.length_cons]; omega
    · split at h
      · have := spl_at_le f _ _ _ h t ht
        rw [List.length_drop] at this
        have h2 := tw_len (p := notNl) (c :: r)
        omega
      · cases h1 : oneF (c :: r) with
        | error e => rw [h1] at h; cases h
        | ok q =>
          obtain ⟨u, n⟩ := q
          rw [h1] at h
          dsimp only at h
          have hp := oneF_pos h1
          cases h2 : spl f (i + n) ((c :: r).drop n) with
          | error e => rw [h2] at h; cases h
          | ok us =>
            rw [h2] at h
            cases h
            rcases List.mem_cons.1 ht with rfl | h3
            · show i ≤ _; omega
            · have := spl_at_le f _ _ _ h2 t h3
              rw [List.length_drop] at this
              omega
set_option maxHeartbeats 8000000 in
set_option maxRecDepth 100000 in
theorem lexjoins_any {I : World → Prop} (D : DayC I) (LX : LexC I) (A12 : ∀ w, I w → Calls Tryz.prog 7 #[] w fun e w' => e = .returned (.bool true) ∧ Below w.heap.size w w') (a b : ByteArray) (w : World) (hI : I w) (ha : a.size ≤ 9223372036854775807) (hb : b.size ≤ 9223372036854775807) :
    Calls Tryz.prog 4 #[.string a, .string b] w fun e w' => e = .returned (.bool true) ∧ Below w.heap.size w w' := by
  have KA := Lib.hid (A12 w hI)
  by_cases ha5 : 500 < a.size
  · have t1 : decide ((500 : Int) < (a.size : Int)) = true := decide_eq_true (by omega)
    clear D LX A12 hI
    go_enter Tryz.func4, Tryz.ntmps4
    go_wp2_with (go_at_call 7; refine KA.out.mono ?_; rintro e w4 ⟨rfl, h4⟩; have HB4 := Lib.hid h4; clear h4)
    go_ret
    exact ⟨rfl, HB4.out⟩
  have t1 : decide ((500 : Int) < (a.size : Int)) = false := decide_eq_false (by omega)
  by_cases hb5 : 500 < b.size
  · have t2 : decide ((500 : Int) < (b.size : Int)) = true := decide_eq_true (by omega)
    clear D LX A12 hI
    go_enter Tryz.func4, Tryz.ntmps4
    go_wp2_with (go_at_call 7; refine KA.out.mono ?_; rintro e w4 ⟨rfl, h4⟩; have HB4 := Lib.hid h4; clear h4)
    go_ret
    exact ⟨rfl, HB4.out⟩
  have t2 : decide ((500 : Int) < (b.size : Int)) = false := decide_eq_false (by omega)
  have hla : a.data.toList.length = a.size := by simp
  have hlb : b.data.toList.length = b.size := by simp
  obtain ⟨C, hC⟩ : ∃ C : ByteArray, a ++ ⟨#[10]⟩ ++ b = C := ⟨_, rfl⟩
  have hCd : C.data.toList = a.data.toList ++ 10 :: b.data.toList := by rw [← hC, bapp, bapp]; simp
  have hCs : C.size = a.size + b.size + 1 := by
    have h1 : C.data.toList.length = C.size := by simp
    rw [hCd, List.length_append, List.length_cons] at h1
    omega
  have KK1 := fun (w' : World) (h : Below w.heap.size w w') => LX.split a w' (D.stay hI h) (by omega)
  have KK2 := fun (w' : World) (h : Below w.heap.size w w') => LX.split b w' (D.stay hI h) (by omega)
  have KK3 := fun (w' : World) (h : Below w.heap.size w w') => LX.split C w' (D.stay hI h) (by omega)
  rw [hCd] at KK3
  have hlc : (a.data.toList ++ 10 :: b.data.toList).length ≤ 65536 := by rw [List.length_append, List.length_cons]; omega
  by_cases hbad : (∃ e, splitF a.data.toList = .error e) ∨ (∃ e, splitF b.data.toList = .error e)
  · obtain ⟨q, hq⟩ := join_err hbad
    rw [splT_err hq hlc] at KK3
    have hq0 := spl_err _ _ _ _ hq
    have t5 : (q.2 != 0) = true := by rw [bne_iff_ne]; exact hq0
    have hab : (splT a.data.toList).2.2 ≠ 0 ∨ ((splT a.data.toList).2.2 = 0 ∧ (splT b.data.toList).2.2 ≠ 0) := by
      cases h1 : splitF a.data.toList with
      | error p => left; rw [splT_err h1 (by omega)]; exact spl_err _ _ _ _ h1
      | ok ts =>
        right
        refine ⟨by rw [splT_ok h1 (by omega)], ?_⟩
        rcases hbad with ⟨e, h⟩ | ⟨e, h⟩
        · rw [h1] at h; cases h
        · rw [splT_err h (by omega)]; exact spl_err _ _ _ _ h
    unfold SplT at KK1 KK2 KK3
    generalize splT a.data.toList = pa at KK1 hab
    generalize splT b.data.toList = pb at KK2 hab
    obtain ⟨la, aa, ea⟩ := pa
    obtain ⟨lb, ab, eb⟩ := pb
    obtain ⟨qa, qe⟩ := q
    simp only at KK1 KK2 KK3 hab t5
    have K1 := Lib.hid KK1
    have K2 := Lib.hid KK2
    have K3 := Lib.hid KK3
    clear D LX A12 hI KK1 KK2 KK3 hbad hq hq0 hCd hlc hla hlb
    rw [← hC] at K3
    clear hC
    rcases hab with h | ⟨h0, h⟩
    · have t6 : (ea != 0) = true := by rw [bne_iff_ne]; exact h
      clear h
      go_enter Tryz.func4, Tryz.ntmps4
      go_wp2_with (first | (go_at_call 8; with_reducible refine (K3.out _ HB6.out).mono ?_; rintro e w7 ⟨r7, c7, rfl, hr, h9⟩; have HR7 := Lib.hid hr; have HB7 := Lib.hid (HB6.out.trans (h9.mono HB6.out.size)); have HR5c := Lib.hid (HR5b.out.stay h9); have HR6c := Lib.hid (HR6.out.stay h9); clear hr h9) | (go_at_call 8; with_reducible refine (K2.out _ HB5.out).mono ?_; rintro e w6 ⟨r6, c6, rfl, hr, h9⟩; have HR6 := Lib.hid hr; have HB6 := Lib.hid (HB5.out.trans (h9.mono HB5.out.size)); have HR5b := Lib.hid (HR5.out.stay h9); clear hr h9) | (go_at_call 8; with_reducible refine (K1.out _ HB4.out).mono ?_; rintro e w5 ⟨r5, c5, rfl, hr, h9⟩; have HR5 := Lib.hid hr; have HB5 := Lib.hid (HB4.out.trans (h9.mono HB4.out.size)); clear hr h9) | (go_at_call 7; refine KA.out.mono ?_; rintro e w4 ⟨rfl, h4⟩; have HB4 := Lib.hid h4; clear h4))
      go_ret
      exact ⟨rfl, HB7.out⟩
    · subst h0
      have t6 : (eb != 0) = true := by rw [bne_iff_ne]; exact h
      clear h
      go_enter Tryz.func4, Tryz.ntmps4
      go_wp2_with (first | (go_at_call 8; with_reducible refine (K3.out _ HB6.out).mono ?_; rintro e w7 ⟨r7, c7, rfl, hr, h9⟩; have HR7 := Lib.hid hr; have HB7 := Lib.hid (HB6.out.trans (h9.mono HB6.out.size)); have HR5c := Lib.hid (HR5b.out.stay h9); have HR6c := Lib.hid (HR6.out.stay h9); clear hr h9) | (go_at_call 8; with_reducible refine (K2.out _ HB5.out).mono ?_; rintro e w6 ⟨r6, c6, rfl, hr, h9⟩; have HR6 := Lib.hid hr; have HB6 := Lib.hid (HB5.out.trans (h9.mono HB5.out.size)); have HR5b := Lib.hid (HR5.out.stay h9); clear hr h9) | (go_at_call 8; with_reducible refine (K1.out _ HB4.out).mono ?_; rintro e w5 ⟨r5, c5, rfl, hr, h9⟩; have HR5 := Lib.hid hr; have HB5 := Lib.hid (HB4.out.trans (h9.mono HB4.out.size)); clear hr h9) | (go_at_call 7; refine KA.out.mono ?_; rintro e w4 ⟨rfl, h4⟩; have HB4 := Lib.hid h4; clear h4))
      go_ret
      exact ⟨rfl, HB7.out⟩
  · obtain ⟨l, hl⟩ : ∃ l, splitF a.data.toList = .ok l := by
      cases h1 : splitF a.data.toList with
      | error p => exact absurd (Or.inl ⟨p, h1⟩) hbad
      | ok ts => exact ⟨ts, rfl⟩
    obtain ⟨m, hm⟩ : ∃ m, splitF b.data.toList = .ok m := by
      cases h1 : splitF b.data.toList with
      | error p => exact absurd (Or.inr ⟨p, h1⟩) hbad
      | ok ts => exact ⟨ts, rfl⟩
    have hj := join_ok hl hm
    rw [hla] at hj
    have hln := spl_ne _ _ _ _ hl
    have hlb1 := (spl_again _ _ _ _ (by omega) hl).2.1
    have hlb2 := (spl_again _ _ _ _ (by omega) hm).2.1
    rw [splT_ok hj hlc] at KK3
    rw [splT_ok hl (by omega)] at KK1
    rw [splT_ok hm (by omega)] at KK2
    obtain ⟨nl, hnl⟩ : ∃ n, l.length = n := ⟨_, rfl⟩
    obtain ⟨nm, hnm⟩ : ∃ n, m.length = n := ⟨_, rfl⟩
    have hnl0 : 0 < nl := by rw [← hnl]; exact List.length_pos_iff.2 hln
    obtain ⟨N, hN⟩ : ∃ n, nl + nm - 1 = n := ⟨_, rfl⟩
    have hjl : (l.dropLast ++ m.map (shT (a.size + 1))).length = N := by rw [List.length_append, List.length_dropLast, List.length_map, hnl, hnm]; omega
    have HJ := Lib.hid (fun (i : Nat) (hi : i < N) => join_at (K := a.size + 1) hln (show i < l.length + m.length - 1 by omega))
    generalize l.dropLast ++ m.map (shT (a.size + 1)) = n at KK3 hjl HJ
    unfold SplT at KK1 KK2 KK3
    simp only [hnl] at KK1
    simp only [hnm] at KK2
    simp only [hjl] at KK3
    have K1 := Lib.hid KK1
    have K2 := Lib.hid KK2
    have K3 := Lib.hid KK3
    have HNL := Lib.hid hnl
    have HNM := Lib.hid hnm
    have HJL := Lib.hid hjl
    have HAT := Lib.hid (fun (t : Tk) (ht : t ∈ m) => show t.at_ ≤ 500 by have := spl_at_le _ _ _ _ hm t ht; omega)
    have hbn : nl ≤ 501 ∧ nm ≤ 501 := ⟨by omega, by omega⟩
    have hbn1 := hbn.1
    have hbn2 := hbn.2
    have HN := Lib.hid hN
    have u1 : (nl : Int) + (nm : Int) - 1 = (N : Int) := by omega
    have u2 : ((N : Int) != (N : Int)) = false := by simp
    clear D LX A12 hI KK1 KK2 KK3 hbad hj hln hCd hlc hla hlb hl hm hnl hnm hjl hlb1 hlb2 hN hbn
    rw [← hC] at K3
    clear hC
    go_enter Tryz.func4, Tryz.ntmps4
    go_wp2_with (first | (go_at_call 8; with_reducible refine (K3.out _ HB6.out).mono ?_; rintro e w7 ⟨r7, c7, rfl, hr, h9⟩; have HR7 := Lib.hid hr; have HB7 := Lib.hid (HB6.out.trans (h9.mono HB6.out.size)); have HR5c := Lib.hid (HR5b.out.stay h9); have HR6c := Lib.hid (HR6.out.stay h9); clear hr h9) | (go_at_call 8; with_reducible refine (K2.out _ HB5.out).mono ?_; rintro e w6 ⟨r6, c6, rfl, hr, h9⟩; have HR6 := Lib.hid hr; have HB6 := Lib.hid (HB5.out.trans (h9.mono HB5.out.size)); have HR5b := Lib.hid (HR5.out.stay h9); clear hr h9) | (go_at_call 8; with_reducible refine (K1.out _ HB4.out).mono ?_; rintro e w5 ⟨r5, c5, rfl, hr, h9⟩; have HR5 := Lib.hid hr; have HB5 := Lib.hid (HB4.out.trans (h9.mono HB4.out.size)); clear hr h9) | (go_at_call 7; refine KA.out.mono ?_; rintro e w4 ⟨rfl, h4⟩; have HB4 := Lib.hid h4; clear h4))
    go_loopw [71] (fun i wr => ∃ (k : Nat), i = .int .i64 (k : Int) ∧ k ≤ N ∧ Hid (Below w7.heap.size w7 wr)) (fun i _ => N - (RowKit.intOf i).toNat)
    case atStart => exact ⟨0, rfl, Nat.zero_le _, Lib.hid (Below.refl _ _)⟩
    case round =>
      obtain ⟨k, rfl, hk, HQ⟩ := hrel
      rename World => wr
      by_cases hlt : k < N
      case neg =>
        go_wp2
        go_ret
        exact ⟨rfl, HB7.out.trans (HQ.out.mono HB7.out.size)⟩
      case pos =>
        obtain ⟨x, hx⟩ : ∃ x, n[k]? = some x := ⟨n[k]'(by have := HJL.out; omega), List.getElem?_eq_getElem (by have := HJL.out; omega)⟩
        obtain ⟨g1, o1, hr1, _, c1⟩ := (HR7.out.stay HQ.out).at hx
        subst hr1
        have a0 := c1 0 _ rfl
        have a1 := c1 1 _ rfl
        have a2 := c1 2 _ rfl
        have a3 := c1 3 _ rfl
        have a4 := c1 4 _ rfl
        rw [Nat.add_zero] at a0
        have hjk := HJ.out k hlt
        rw [hx, HNL.out] at hjk
        have hb2 : Below wr.heap.size wr ((wr.alloc (.cells #[.int .i64 (x.kind : Int), .string ⟨x.text.toArray⟩, .int .i64 x.num, .int .i32 x.day, .int .i64 (x.at_ : Int)] 31)).alloc (.cells #[.int .i64 0, .string ⟨#[]⟩, .int .i64 0, .int .i32 0, .int .i64 0] 31)) := ((Below.refl _ _).alloc (Nat.le_refl _) _).alloc (by simp) _
        have hx15 : HBox ((wr.alloc (.cells #[.int .i64 (x.kind : Int), .string ⟨x.text.toArray⟩, .int .i64 x.num, .int .i32 x.day, .int .i64 (x.at_ : Int)] 31)).alloc (.cells #[.int .i64 0, .string ⟨#[]⟩, .int .i64 0, .int .i32 0, .int .i64 0] 31)) wr.heap.size [.int .i64 (x.kind : Int), .string ⟨x.text.toArray⟩, .int .i64 x.num, .int .i32 x.day, .int .i64 (x.at_ : Int)] 31 := (HBox.new wr [.int .i64 (x.kind : Int), .string ⟨x.text.toArray⟩, .int .i64 x.num, .int .i32 x.day, .int .i64 (x.at_ : Int)] 31).alloc (.cells #[.int .i64 0, .string ⟨#[]⟩, .int .i64 0, .int .i32 0, .int .i64 0] 31)
        have hs1 : (wr.alloc (.cells #[.int .i64 (x.kind : Int), .string ⟨x.text.toArray⟩, .int .i64 x.num, .int .i32 x.day, .int .i64 (x.at_ : Int)] 31)).heap.size = wr.heap.size + 1 := by simp
        have hx16 : HBox ((wr.alloc (.cells #[.int .i64 (x.kind : Int), .string ⟨x.text.toArray⟩, .int .i64 x.num, .int .i32 x.day, .int .i64 (x.at_ : Int)] 31)).alloc (.cells #[.int .i64 0, .string ⟨#[]⟩, .int .i64 0, .int .i32 0, .int .i64 0] 31)) (wr.heap.size + 1) [.int .i64 0, .string ⟨#[]⟩, .int .i64 0, .int .i32 0, .int .i64 0] 31 := by
          have h := HBox.new (wr.alloc (.cells #[.int .i64 (x.kind : Int), .string ⟨x.text.toArray⟩, .int .i64 x.num, .int .i32 x.day, .int .i64 (x.at_ : Int)] 31)) [.int .i64 0, .string ⟨#[]⟩, .int .i64 0, .int .i32 0, .int .i64 0] 31
          rw [hs1] at h
          exact h
        clear hs1 c1 hx
        go_upto_region 16 with fail
        obtain ⟨X, hX⟩ : ∃ X, wr.heap.size = X := ⟨_, rfl⟩
        have HXX := Lib.hid hX
        rw [hX] at hb2 hx15 hx16 ⊢
        generalize (wr.alloc (.cells #[.int .i64 (x.kind : Int), .string ⟨x.text.toArray⟩, .int .i64 x.num, .int .i32 x.day, .int .i64 (x.at_ : Int)] 31)).alloc (.cells #[.int .i64 0, .string ⟨#[]⟩, .int .i64 0, .int .i32 0, .int .i64 0] 31) = W2 at hb2 hx15 hx16 ⊢
        have HB2 := Lib.hid hb2
        have HX15 := Lib.hid hx15
        have HX16 := Lib.hid hx16
        have HQ2 : Hid (Below w7.heap.size w7 W2) := Lib.hid (HQ.out.trans (Below.mono (by rw [HXX.out]; exact HB2.out) HQ.out.size))
        clear hX hb2 hx15 hx16 a0 a1 a2 a3 a4
        by_cases hki : k < nl - 1
        · rw [if_pos hki] at hjk
          obtain ⟨g2, o2, hr2, _, c2⟩ := (HR5c.out.stay HQ2.out).at hjk.symm
          subst hr2
          have t7 : decide ((k : Int) < (nl : Int) - 1) = true := decide_eq_true (by omega)
          have t8 : IntKind.i64.wrap ((nl : Int) - 1) = (nl : Int) - 1 := by rw [IntKind.wrap_i64]; omega
          have b0 := c2 0 _ rfl
          have b1 := c2 1 _ rfl
          have b2 := c2 2 _ rfl
          have b3 := c2 3 _ rfl
          have b4 := c2 4 _ rfl
          rw [Nat.add_zero] at b0
          have v0 := HX16.out.cell (j := 0) rfl
          have fv0 := HX16.out.frozen 0
          have v1 := HX16.out.cell (j := 1) rfl
          have fv1 := HX16.out.frozen 1
          have v2 := HX16.out.cell (j := 2) rfl
          have fv2 := HX16.out.frozen 2
          have v3 := HX16.out.cell (j := 3) rfl
          have fv3 := HX16.out.frozen 3
          have v4 := HX16.out.cell (j := 4) rfl
          have fv4 := HX16.out.frozen 4
          have sv := HX16.out.size
          clear c2 hjk
          go_upto_region 20 with fail
          have HZ := Lib.hid (HBox.set5 HX16.out (.int .i64 (x.kind : Int)) (.string ⟨x.text.toArray⟩) (.int .i64 x.num) (.int .i32 x.day) (.int .i64 (x.at_ : Int)))
          have hg5 := grown_sets5 W2 (X + 1) (.int .i64 (x.kind : Int)) (.string ⟨x.text.toArray⟩) (.int .i64 x.num) (.int .i32 x.day) (.int .i64 (x.at_ : Int))
          have HZ15 := Lib.hid (HX15.out.grown hg5 (by intro e; injection e with e; omega))
          have HB3 := Lib.hid (HB2.out.grown hg5 (by have := HX15.out.size; omega) (fun j hj => by cases hj; exact Nat.le_succ _))
          clear hg5 b0 b1 b2 b3 b4 v0 fv0 v1 fv1 v2 fv2 v3 fv3 v4 fv4 sv
          generalize ((((W2.setCell ⟨X + 1, 0, none⟩ (.int .i64 (x.kind : Int))).setCell ⟨X + 1, 1, none⟩ (.string ⟨x.text.toArray⟩)).setCell ⟨X + 1, 2, none⟩ (.int .i64 x.num)).setCell ⟨X + 1, 3, none⟩ (.int .i32 x.day)).setCell ⟨X + 1, 4, none⟩ (.int .i64 (x.at_ : Int)) = W3 at HZ HZ15 HB3 ⊢
          have hne := fun w => neq_tk (x.kind : Int) ⟨x.text.toArray⟩ x.num x.day (x.at_ : Int) w
          have z0 := HZ15.out.cell (j := 0) rfl
          have z1 := HZ15.out.cell (j := 1) rfl
          have z2 := HZ15.out.cell (j := 2) rfl
          have z3 := HZ15.out.cell (j := 3) rfl
          have z4 := HZ15.out.cell (j := 4) rfl
          have v0 := HZ.out.cell (j := 0) rfl
          have v1 := HZ.out.cell (j := 1) rfl
          have v2 := HZ.out.cell (j := 2) rfl
          have v3 := HZ.out.cell (j := 3) rfl
          have v4 := HZ.out.cell (j := 4) rfl
          go_wp2
          go_roundw
          case rel => exact ⟨k + 1, by go_num, by omega, Lib.hid (HQ.out.trans (Below.mono (by rw [HXX.out]; exact HB3.out) HQ.out.size))⟩
          case measure => simp [RowKit.intOf]; omega
        · rw [if_neg hki] at hjk
          obtain ⟨y, hy⟩ : ∃ y, m[k + 1 - nl]? = some y := ⟨m[k + 1 - nl]'(by have := HNM.out; have := HN.out; omega), List.getElem?_eq_getElem (by have := HNM.out; have := HN.out; omega)⟩
          rw [hy] at hjk
          have hxy : x = shT (a.size + 1) y := (Option.some.inj hjk)
          obtain ⟨g2, o2, hr2, _, c2⟩ := (HR6c.out.stay HQ2.out).at hy
          subst hr2
          obtain ⟨d, hd⟩ : ∃ d, k + 1 - nl = d := ⟨_, rfl⟩
          rw [hd] at c2
          have hdm : d < nm := by have := HN.out; omega
          have t7 : decide ((k : Int) < (nl : Int) - 1) = false := decide_eq_false (by omega)
          have t8 : IntKind.i64.wrap ((nl : Int) - 1) = (nl : Int) - 1 := by rw [IntKind.wrap_i64]; omega
          have t9 : (k : Int) - (nl : Int) + 1 = (d : Int) := by omega
          have t10 : IntKind.i64.wrap (d : Int) = (d : Int) := by rw [IntKind.wrap_i64]; omega
          have t11 : IntKind.i64.wrap ((k : Int) - (nl : Int)) = (k : Int) - (nl : Int) := by rw [IntKind.wrap_i64]; omega
          have e1 : x.kind = y.kind := by rw [hxy]; rfl
          have e2 : x.text = y.text := by rw [hxy]; rfl
          have e3 : x.num = y.num := by rw [hxy]; rfl
          have e4 : x.day = y.day := by rw [hxy]; rfl
          have e5 : x.at_ = y.at_ + (a.size + 1) := by rw [hxy]; rfl
          have hyb : y.at_ ≤ 500 := HAT.out y (List.mem_of_getElem? hy)
          obtain ⟨ya, hya⟩ : ∃ n, y.at_ = n := ⟨_, rfl⟩
          obtain ⟨xa, hxa⟩ : ∃ n, x.at_ = n := ⟨_, rfl⟩
          rw [hya] at e5 hyb
          rw [hxa] at e5
          have b0 := c2 0 _ rfl
          have b1 := c2 1 _ rfl
          have b2 := c2 2 _ rfl
          have b3 := c2 3 _ rfl
          have b4 := c2 4 _ rfl
          rw [Nat.add_zero] at b0
          rw [← e1] at b0
          rw [← e2] at b1
          rw [← e3] at b2
          rw [← e4] at b3
          rw [hya] at b4
          rw [hxa] at HX15
          have t12 : (ya : Int) + ((a.size : Int) + 1) = (xa : Int) := by omega
          have t13 : IntKind.i64.wrap (xa : Int) = (xa : Int) := by rw [IntKind.wrap_i64]; omega
          have t14 : IntKind.i64.wrap ((a.size : Int) + 1) = (a.size : Int) + 1 := by rw [IntKind.wrap_i64]; omega
          have v0 := HX16.out.cell (j := 0) rfl
          have fv0 := HX16.out.frozen 0
          have v1 := HX16.out.cell (j := 1) rfl
          have fv1 := HX16.out.frozen 1
          have v2 := HX16.out.cell (j := 2) rfl
          have fv2 := HX16.out.frozen 2
          have v3 := HX16.out.cell (j := 3) rfl
          have fv3 := HX16.out.frozen 3
          have v4 := HX16.out.cell (j := 4) rfl
          have fv4 := HX16.out.frozen 4
          have sv := HX16.out.size
          clear c2 hjk hy hxy hd e1 e2 e3 e4 e5 hyb
          go_upto_region 19 with fail
          have hz3 := HBox.set5 HX16.out (.int .i64 (x.kind : Int)) (.string ⟨x.text.toArray⟩) (.int .i64 x.num) (.int .i32 x.day) (.int .i64 (ya : Int))
          have hg5 := grown_sets5 W2 (X + 1) (.int .i64 (x.kind : Int)) (.string ⟨x.text.toArray⟩) (.int .i64 x.num) (.int .i32 x.day) (.int .i64 (ya : Int))
          have hz15 := HX15.out.grown hg5 (by intro e; injection e with e; omega)
          have hb3 := HB2.out.grown hg5 (by have := HX15.out.size; omega) (fun j hj => by cases hj; exact Nat.le_succ _)
          clear hg5 b0 b1 b2 b3 b4 v0 fv0 v1 fv1 v2 fv2 v3 fv3 v4 fv4 sv
          generalize ((((W2.setCell ⟨X + 1, 0, none⟩ (.int .i64 (x.kind : Int))).setCell ⟨X + 1, 1, none⟩ (.string ⟨x.text.toArray⟩)).setCell ⟨X + 1, 2, none⟩ (.int .i64 x.num)).setCell ⟨X + 1, 3, none⟩ (.int .i32 x.day)).setCell ⟨X + 1, 4, none⟩ (.int .i64 (ya : Int)) = W3 at hz3 hz15 hb3 ⊢
          have HZ3 := Lib.hid hz3
          have HZ315 := Lib.hid hz15
          have HB3a := Lib.hid hb3
          clear hz3 hz15 hb3
          have v0 := HZ3.out.cell (j := 0) rfl
          have fv0 := HZ3.out.frozen 0
          have v1 := HZ3.out.cell (j := 1) rfl
          have fv1 := HZ3.out.frozen 1
          have v2 := HZ3.out.cell (j := 2) rfl
          have fv2 := HZ3.out.frozen 2
          have v3 := HZ3.out.cell (j := 3) rfl
          have fv3 := HZ3.out.frozen 3
          have v4 := HZ3.out.cell (j := 4) rfl
          have fv4 := HZ3.out.frozen 4
          have sv := HZ3.out.size
          go_upto_region 20 with fail
          have HZ := Lib.hid (HZ3.out.set 4 (.int .i64 (xa : Int)))
          have hg6 := grownBy_set W3 ⟨X + 1, 4, none⟩ (.int .i64 (xa : Int))
          have HZ15 := Lib.hid (HZ315.out.grown hg6 (by intro e; injection e with e; have e9 : X = X + 1 := e; omega))
          have HB3 := Lib.hid (HB3a.out.grown hg6 (by have := HZ315.out.size; omega) (fun j hj => by cases hj; exact Nat.le_succ _))
          clear hg6 v0 fv0 v1 fv1 v2 fv2 v3 fv3 v4 fv4 sv
          generalize W3.setCell ⟨X + 1, 4, none⟩ (.int .i64 (xa : Int)) = W4 at HZ HZ15 HB3 ⊢
          have hne := fun w => neq_tk (x.kind : Int) ⟨x.text.toArray⟩ x.num x.day (xa : Int) w
          have z0 := HZ15.out.cell (j := 0) rfl
          have z1 := HZ15.out.cell (j := 1) rfl
          have z2 := HZ15.out.cell (j := 2) rfl
          have z3 := HZ15.out.cell (j := 3) rfl
          have z4 := HZ15.out.cell (j := 4) rfl
          have v0 := HZ.out.cell (j := 0) rfl
          have v1 := HZ.out.cell (j := 1) rfl
          have v2 := HZ.out.cell (j := 2) rfl
          have v3 := HZ.out.cell (j := 3) rfl
          have v4 := HZ.out.cell (j := 4) rfl
          go_wp2
          go_roundw
          case rel => exact ⟨k + 1, by go_num, by omega, Lib.hid (HQ.out.trans (Below.mono (by rw [HXX.out]; exact HB3.out) HQ.out.size))⟩
          case measure => simp [RowKit.intOf]; omega
end Go.Proofs.YtafmakhhdinknaaGreatDoor

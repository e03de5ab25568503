/- The walk of law ChartTurns (written by wip/ctgen.py). -/
import Derived.Test.YtdhgkggcnilgoaaDoorCu
namespace Go.Proofs.YtdhgkggcnilgoaaDoor
open Go.RowKit
set_option linter.unusedVariables false
set_option linter.unusedSimpArgs false
theorem Box4.set0 {w : World} {b : Nat} {c0 c1 c2 c3 : Value} (h : Box4 w b c0 c1 c2 c3) (u : Value) : Box4 (w.setCell ⟨b, 0, none⟩ u) b u c1 c2 c3 := by
  obtain ⟨h0, h1, h2, h3, f0, f1, f2, f3, h4⟩ := h
  exact ⟨by go_simp, by go_simp, by go_simp, by go_simp, by go_simp, by go_simp, by go_simp, by go_simp, by go_simp⟩
theorem owns_capT {w : World} {base : Nat} {e : TypeId} {size : Nat} {r : Option Addr} {n cap : Nat} {xs : List Value} (h : w.ownsRow base e size (.slice r n cap) n xs) : n ≤ cap := by
  rcases h.2 with ⟨h0, h1⟩ | ⟨g, cp, cur, h0, _, _, h1, _⟩
  · omega
  · cases h0; exact h1
/-- With another code. -/
def Ac.at (a : Ac) (n : Nat) (h : n < 4294967296) : Ac := ⟨n, a.name, a.kind, a.par, h, a.hk, a.hp, a.hn⟩
theorem moveA_len (c : List Ac) (f t : Nat) (h : t < 4294967296) : (moveA c f t h).length = c.length := by unfold moveA; rw [List.length_map]
/-- What law ChartTurns keeps behind its loop. -/
structure Trn (w : World) (v vw v1 v2 v3 : Value) (c l1 l2 l3 : List Ac) (x : Nat) (a : Ac) : Prop where
  recs : Recs cc 4 w v c
  was : Recs cc 4 w vw c
  e1 : Recs cc 4 w v1 l1
  e2 : Recs cc 4 w v2 l2
  e3 : Recs cc 4 w v3 l3
  bx : Box4 w x (.int .u32 (a.code : Int)) (.string a.name) (.int .u8 (a.kind : Int)) (.int .u32 (a.par : Int))
theorem Trn.stay {w w' : World} {v vw v1 v2 v3 : Value} {c l1 l2 l3 : List Ac} {x : Nat} {a : Ac} (h : Trn w v vw v1 v2 v3 c l1 l2 l3 x a) (hb : Below w.heap.size w w') : Trn w' v vw v1 v2 v3 c l1 l2 l3 x a :=
  ⟨h.recs.stay hb, h.was.stay hb, h.e1.stay hb, h.e2.stay hb, h.e3.stay hb, h.bx.stay hb⟩
set_option maxHeartbeats 8000000 in
set_option maxRecDepth 100000 in
theorem chartturns_any {I : World → Prop} (C : AllotC) (D : DayC I) (K : KeyC I) (v : Value) (l : List Qt) (n t : Nat) (b : Ac) (w : World) (hI : I w) (hR : Recs qc 4 w v l) (hn : n < 256) (ht : t < 256) :
    Calls Tryd.prog 5 #[v, .int .u8 (n : Int), cv b, .int .u8 (t : Int)] w fun e w' => e = .returned (.bool true) ∧ Below w.heap.size w w' := by
  obtain ⟨i0, hi, hz0, hz1, hz2⟩ := info_parts info35
  obtain ⟨hmade, hml⟩ := mkC_made l
  have hr := hmade.rise
  have hn4 : n < 4294967296 := by omega
  have ht4 : t < 4294967296 := by omega
  obtain ⟨a, hab⟩ : ∃ a, b.at n hn4 = a := ⟨_, rfl⟩
  have hac : a.code = n := by rw [← hab]; rfl
  have HAB : Hid (b.name = a.name ∧ b.kind = a.kind ∧ b.par = a.par) := Lib.hid (by rw [← hab]; exact ⟨rfl, rfl, rfl⟩)
  have hA0 := (Below.refl w.heap.size w).alloc (Nat.le_refl _) (.cells #[.int .u32 (b.code : Int), .string b.name, .int .u8 (b.kind : Int), .int .u32 (b.par : Int)] 35)
  have HX0 := Lib.hid (Box4.new w (.int .u32 (b.code : Int)) (.string b.name) (.int .u8 (b.kind : Int)) (.int .u32 (b.par : Int)) 35)
  have K1 := Lib.hid (awake6_any C D K _ (D.stay hI hA0))
  have HA0 := Lib.hid hA0
  have K2 := Lib.hid (fun (w' : World) (h : Below w.heap.size w w') => make_c v l w' (hR.stay h))
  generalize mkC l = c at *
  obtain ⟨L, hL⟩ : ∃ L, c.length = L := ⟨_, rfl⟩
  have HL := Lib.hid hL
  have hL40 : L ≤ 40 := by omega
  have HR := Lib.hid hr
  have HT0 : Hid (outA (c.take 0) n = [] ∧ wat n a c 0 = ([], false) ∧ moveA (c.take 0) n t ht4 = []) := Lib.hid ⟨rfl, rfl, rfl⟩
  have HTL : Hid (outA (c.take L) n = outA c n ∧ (∀ l2 d, wat n a c L = (l2, d) → (if d = true then l2 else l2 ++ [a]) = withA c a) ∧ moveA (c.take L) n t ht4 = moveA c n t ht4) := Lib.hid (by
    refine ⟨by rw [List.take_of_length_le (by omega)], fun l2 d h => ?_, by rw [List.take_of_length_le (by omega)]⟩
    have := wat_all (n := n) hac hr
    rw [hL, h] at this
    exact this)
  have HACL : Hid (a.code = n) := Lib.hid hac
  rw [hL] at K2
  have F1 := Lib.hid (fun (w' : World) (r : Option Addr) (cap : Nat) (h : Recs cc 4 w' (.slice r L cap) c) (hcap : L ≤ cap) => without_c r L cap c n w' h hcap hr (by omega) hL.symm)
  have F2 := Lib.hid (fun (w' : World) (r : Option Addr) (cap : Nat) (h : Recs cc 4 w' (.slice r L cap) c) (hcap : L ≤ cap) => with_c r L cap c a w' h hcap hr (by omega) hL.symm)
  have F3 := Lib.hid (fun (w' : World) (v : Value) (h : Recs cc 4 w' v c) => moved_c v c n t ht4 w' h (by omega))
  have F4 := Lib.hid (fun (w' : World) (v v' : Value) (ks : List Ac) (h : Recs cc 4 w' v ks) (h' : Recs cc 4 w' v' ks) => equal_c v v' ks w' h h')
  have HOL : Hid ((outA c n).length ≤ 900 ∧ (withA c a).length ≤ 900 ∧ (moveA c n t ht4).length ≤ 900) := Lib.hid (by
    refine ⟨Nat.le_trans (List.length_filter_le _ _) (by omega), ?_, by rw [moveA_len]; omega⟩
    unfold withA
    rw [List.length_append, List.length_cons]
    have g1 := List.length_filter_le (fun b : Ac => decide (b.code < a.code)) c
    have g2 := List.length_filter_le (fun b : Ac => decide (a.code < b.code)) c
    omega)
  clear hR hL hmade hml hr hA0 hab hac
  unfold cv
  go_enter Tryd.func5, Tryd.ntmps5
  go_upto_region 5 with (first
    | (go_at_call 14; refine (K2.out _ HB2.out).mono ?_; rintro e w3 ⟨v3, rfl, ho3, hb3⟩; have HB3 := Lib.hid (HB2.out.trans (hb3.mono HB2.out.size)); have HO2b := Lib.hid (owns_stay HO2.out hb3); have HO3 := Lib.hid ho3; have HX3 := Lib.hid (HX2.out.stay hb3); have HS3 := Lib.hid HX2.out.size; obtain ⟨rw, capw, rfl⟩ := owns_form ho3; clear ho3 hb3)
    | (go_at_call 14; refine (K2.out _ HB1.out).mono ?_; rintro e w2 ⟨v2, rfl, ho2, hb2⟩; have HB2 := Lib.hid (HB1.out.trans (hb2.mono HB1.out.size)); have HO2 := Lib.hid ho2; have HX2 := Lib.hid (HX1.out.stay hb2); have HS2 := Lib.hid HX1.out.size; obtain ⟨rc, capc, rfl⟩ := owns_form ho2; clear ho2 hb2)
    | (go_at_call 8; refine K1.out.mono ?_; rintro e w1 ⟨rfl, hb1⟩; have HB1 := Lib.hid (HA0.out.trans (hb1.mono HA0.out.size)); have HX1 := Lib.hid (HX0.out.stay hb1); clear hb1))
  obtain ⟨g0, g1, g2, g3, f0, f1, f2, f3, gs⟩ := HX3.out
  go_upto_region 8 with fail
  clear g0 g1 g2 g3 f0 f1 f2 f3
  have hc3 : L ≤ capc := owns_capT HO2b.out
  have HC := Lib.hid (recs_of_owns cc_len (owns_set_other HO2b.out ⟨w.heap.size, 0, none⟩ (.int .u32 (n : Int)) (fun e => by have h1 : w1.heap.size ≤ w.heap.size := (HO2b.out.lt _ e).1; have h2 := HS2.out; omega)) HL.out.symm (by omega))
  have HV := Lib.hid (recs_of_owns cc_len (owns_set_other HO3.out ⟨w.heap.size, 0, none⟩ (.int .u32 (n : Int)) (fun e => by have h1 : w2.heap.size ≤ w.heap.size := (HO3.out.lt _ e).1; have h2 := HS3.out; omega)) HL.out.symm (by omega))
  have HA : Hid (Box4 (w3.setCell ⟨w.heap.size, 0, none⟩ (.int .u32 (n : Int))) w.heap.size (.int .u32 (a.code : Int)) (.string a.name) (.int .u8 (a.kind : Int)) (.int .u32 (a.par : Int))) := Lib.hid (by
    rw [HACL.out, ← HAB.out.1, ← HAB.out.2.1, ← HAB.out.2.2]
    exact HX3.out.set0 _)
  have HBW := Lib.hid (HB3.out.setCell (p := ⟨w.heap.size, 0, none⟩) (Nat.le_refl _) (.int .u32 (n : Int)))
  clear HX0 HX1 HX2 HX3 HB1 HB2 HB3 HO2 HO2b HO3 K1 K2 HA0 HAB gs HS2 HS3
  generalize w3.setCell ⟨w.heap.size, 0, none⟩ (.int .u32 (n : Int)) = W at *
  have HBW2 : Hid (∀ w', Below W.heap.size W w' → Below w.heap.size w w') := Lib.hid (fun w' h => HBW.out.trans (h.mono HBW.out.size))
  clear HBW
  generalize w.heap.size = X at HA ⊢
  go_wp2
  go_loopw [12, 13, 14, 15, 30] (fun s12 s13 s14 s15 i wr => ∃ (k m1 m2 m3 : Nat) (r1 : Option Addr) (cap1 : Nat) (r2 : Option Addr) (cap2 : Nat) (r3 : Option Addr) (cap3 : Nat) (l1 l2 l3 : List Ac) (d : Bool), s12 = .slice r1 m1 cap1 ∧ s13 = .slice r2 m2 cap2 ∧ s14 = .slice r3 m3 cap3 ∧ s15 = .bool d ∧ i = .int .i64 k ∧ k ≤ L ∧ l1.length ≤ k ∧ l2.length ≤ 2 * k ∧ l3.length ≤ k ∧ Hid (l1.length = m1 ∧ l2.length = m2 ∧ l3.length = m3) ∧ Hid (outA (c.take k) n = l1 ∧ wat n a c k = (l2, d) ∧ moveA (c.take k) n t ht4 = l3) ∧ Hid (Tri W 35 wr (.slice r1 m1 cap1) (.slice r2 m2 cap2) (.slice r3 m3 cap3) l1 l2 l3)) (fun _ _ _ _ i _ => L - (intOf i).toNat)
  case atStart => exact ⟨0, 0, 0, 0, none, 0, none, 0, none, 0, [], [], [], false, rfl, rfl, rfl, rfl, rfl, Nat.zero_le _, Nat.zero_le _, Nat.zero_le _, Nat.zero_le _, Lib.hid ⟨rfl, rfl, rfl⟩, HT0, Lib.hid ⟨World.ownsRow_nil _ _ _ _, World.ownsRow_nil _ _ _ _, World.ownsRow_nil _ _ _ _, ⟨.inl rfl, .inl rfl⟩, ⟨.inl rfl, .inl rfl⟩, ⟨.inl rfl, .inl rfl⟩, Below.refl _ _⟩⟩
  case round =>
    obtain ⟨k, m1, m2, m3, r1, cap1, r2, cap2, r3, cap3, l1, l2, l3, d, rfl, rfl, rfl, rfl, rfl, hk, hm1, hm2, hm3, HLN, HW, HT⟩ := hrel
    rename World => wr
    by_cases hlt : k < L
    · obtain ⟨y, hy⟩ : ∃ y, c[k]? = some y := ⟨c[k]'(by have := HL.out; omega), List.getElem?_eq_getElem (by have := HL.out; omega)⟩
      have HS : Hid (outA (c.take (k + 1)) n = (if y.code = n then l1 else l1 ++ [y]) ∧ wat n a c (k + 1) = wst n a (l2, d) y ∧ moveA (c.take (k + 1)) n t ht4 = l3 ++ [if y.par = n then y.to t ht4 else y]) := Lib.hid (by
        have h := HW.out
        refine ⟨?_, ?_, ?_⟩
        · rw [← h.1]; exact out_step hy
        · rw [← h.2.1]; exact wat_step hy
        · rw [← h.2.2]; exact move_step ht4 hy)
      obtain ⟨g, off, hcv, hg, hcy⟩ := (HC.out.stay HT.out.below).at hy
      subst hcv
      obtain ⟨c0, c1, c2, c3⟩ := Recs.cells4 (c := c) hcy
      have hbs := HT.out.below.size
      clear hy hcy HW F1 F2 F3 F4 HOL HTL HT0
      go_upto_region 11 with fail
      have HX := Lib.hid (HT.out.rnd (T' := 35) y)
      have HYs : Hid (W.heap.size ≤ wr.heap.size) := Lib.hid hbs
      clear c0 c1 c2 c3 HT
      generalize wr.alloc (.cells #[.int .u32 (y.code : Int), .string y.name, .int .u8 (y.kind : Int), .int .u32 (y.par : Int)] 35) = wx at *
      generalize wr.heap.size = Y at *
      obtain ⟨z0, z1, z2, z3, z4, z5, z6, z7, z8⟩ := HX.out.box
      obtain ⟨u0, u1, u2, u3, _, _, _, _, _⟩ := HA.out.stay HX.out.below
      have sx := HX.out.below.size
      by_cases hp : y.par = n
      · rcases Nat.lt_trichotomy y.code n with hc1 | hc1 | hc1
        · cases d
          · -- lt false True
            have HST : Hid (outA (c.take (k + 1)) n = l1 ++ [y] ∧ wat n a c (k + 1) = (l2 ++ [y], false) ∧ moveA (c.take (k + 1)) n t ht4 = l3 ++ [y.to t ht4]) := Lib.hid (by
              obtain ⟨s1, s2, s3⟩ := HS.out
              refine ⟨?_, ?_, ?_⟩
              · rw [s1, if_neg (by omega)]
              · rw [s2]
                have h3 : ¬ n ≤ y.code := by omega
                have h4 : ¬ y.code = n := by omega
                simp [wst, h3, h4]
              · rw [s3, if_pos hp])
            have e1 :  (y.code : Int) < (n : Int) := by omega
            have e2 : ((y.code : Int) != (n : Int)) = true := by simp; omega
            have e4 : ¬ (n : Int) ≤ (y.code : Int) := by omega
            have e3 : ((y.par : Int) == (n : Int)) = true := by simp; omega
            clear HS hc1 hp
            go_upto_region 19 with (first
              | (at_builtin; refine wpList_append_own_at _ rfl (.tmp 58) (.tmp 60) 30 rfl W.heap.size 35 i0 (.agg #[.int .u32 0, .string ⟨#[]⟩, .int .u8 0, .int .u32 0]) 4 32 Tryd.underlying30 hi hz0 hz1 hz2 rfl (by decide) _ l2.length _ rfl ((HX10.out.sw12).o1.alloc _) ⟨w10.heap.size, 0, none⟩ 1 1 (cc y) rfl rfl (cells_new _ (cc y) _) (cc_one _) (by unfold maxLen; omega) (by omega) (by simp; omega) ?_; intro v11 w11 hown hgrow _ hat; have HX11 := Lib.hid ((HX10.out.sw12).push1 hown hgrow hat).sw12; obtain ⟨r11, cap11, rfl⟩ := owns_form hown; clear hown hgrow hat; obtain ⟨z110, z111, z112, z113, z114, z115, z116, z117, z118⟩ := HX11.out.box; obtain ⟨u110, u111, u112, u113, _, _, _, _, _⟩ := HA.out.stay HX11.out.below; have s11 := HX11.out.below.size)
              | (at_builtin; refine wpList_append_own_at _ rfl (.tmp 38) (.tmp 40) 30 rfl W.heap.size 35 i0 (.agg #[.int .u32 0, .string ⟨#[]⟩, .int .u8 0, .int .u32 0]) 4 32 Tryd.underlying30 hi hz0 hz1 hz2 rfl (by decide) _ l1.length _ rfl ((HX.out).o1.alloc _) ⟨wx.heap.size, 0, none⟩ 1 1 (cc y) rfl rfl (cells_new _ (cc y) _) (cc_one _) (by unfold maxLen; omega) (by omega) (by simp; omega) ?_; intro v10 w10 hown hgrow _ hat; have HX10 := Lib.hid ((HX.out).push1 hown hgrow hat); obtain ⟨r10, cap10, rfl⟩ := owns_form hown; clear hown hgrow hat; obtain ⟨z100, z101, z102, z103, z104, z105, z106, z107, z108⟩ := HX10.out.box; obtain ⟨u100, u101, u102, u103, _, _, _, _, _⟩ := HA.out.stay HX10.out.below; have s10 := HX10.out.below.size))
            have HXs := Lib.hid (HX11.out.setPar t ht4 HYs.out)
            generalize w11.setCell ⟨Y, 3, none⟩ (.int .u32 (t : Int)) = wy at *
            obtain ⟨y0, y1, y2, y3, _, _, _, _, y4⟩ := HXs.out.box
            have sy := HXs.out.below.size
            go_wp2_with (at_builtin; refine wpList_append_own_at _ rfl (.tmp 69) (.tmp 71) 30 rfl W.heap.size 35 i0 (.agg #[.int .u32 0, .string ⟨#[]⟩, .int .u8 0, .int .u32 0]) 4 32 Tryd.underlying30 hi hz0 hz1 hz2 rfl (by decide) _ l3.length _ rfl ((HXs.out.sw13).o1.alloc _) ⟨wy.heap.size, 0, none⟩ 1 1 (cc (y.to t ht4)) rfl rfl (cells_new _ (cc (y.to t ht4)) _) (cc_one _) (by unfold maxLen; omega) (by omega) (by simp; omega) ?_; intro v20 w20 hown hgrow _ hat; have HX20 := Lib.hid ((HXs.out.sw13).push1 hown hgrow hat).sw13; obtain ⟨r20, cap20, rfl⟩ := owns_form hown; clear hown hgrow hat; obtain ⟨z200, z201, z202, z203, z204, z205, z206, z207, z208⟩ := HX20.out.box; obtain ⟨u200, u201, u202, u203, _, _, _, _, _⟩ := HA.out.stay HX20.out.below; have s20 := HX20.out.below.size)
            go_roundw
            case rel => exact ⟨k + 1, _, _, _, r10, cap10, r11, cap11, r20, cap20, l1 ++ [y], l2 ++ [y], l3 ++ [(y.to t ht4)], false, rfl, rfl, rfl, rfl, by go_num, by omega, by simp; omega, by simp; omega, by simp; omega, Lib.hid ⟨by simp, by simp, by simp⟩, HST, Lib.hid (HX20.out.tri)⟩
            case measure => simp [intOf]; omega
          · -- lt true True
            have HST : Hid (outA (c.take (k + 1)) n = l1 ++ [y] ∧ wat n a c (k + 1) = (l2 ++ [y], true) ∧ moveA (c.take (k + 1)) n t ht4 = l3 ++ [y.to t ht4]) := Lib.hid (by
              obtain ⟨s1, s2, s3⟩ := HS.out
              refine ⟨?_, ?_, ?_⟩
              · rw [s1, if_neg (by omega)]
              · rw [s2]
                have h3 : ¬ n ≤ y.code := by omega
                have h4 : ¬ y.code = n := by omega
                simp [wst, h3, h4]
              · rw [s3, if_pos hp])
            have e1 :  (y.code : Int) < (n : Int) := by omega
            have e2 : ((y.code : Int) != (n : Int)) = true := by simp; omega
            have e4 : ¬ (n : Int) ≤ (y.code : Int) := by omega
            have e3 : ((y.par : Int) == (n : Int)) = true := by simp; omega
            clear HS hc1 hp
            go_upto_region 19 with (first
              | (at_builtin; refine wpList_append_own_at _ rfl (.tmp 58) (.tmp 60) 30 rfl W.heap.size 35 i0 (.agg #[.int .u32 0, .string ⟨#[]⟩, .int .u8 0, .int .u32 0]) 4 32 Tryd.underlying30 hi hz0 hz1 hz2 rfl (by decide) _ l2.length _ rfl ((HX10.out.sw12).o1.alloc _) ⟨w10.heap.size, 0, none⟩ 1 1 (cc y) rfl rfl (cells_new _ (cc y) _) (cc_one _) (by unfold maxLen; omega) (by omega) (by simp; omega) ?_; intro v11 w11 hown hgrow _ hat; have HX11 := Lib.hid ((HX10.out.sw12).push1 hown hgrow hat).sw12; obtain ⟨r11, cap11, rfl⟩ := owns_form hown; clear hown hgrow hat; obtain ⟨z110, z111, z112, z113, z114, z115, z116, z117, z118⟩ := HX11.out.box; obtain ⟨u110, u111, u112, u113, _, _, _, _, _⟩ := HA.out.stay HX11.out.below; have s11 := HX11.out.below.size)
              | (at_builtin; refine wpList_append_own_at _ rfl (.tmp 38) (.tmp 40) 30 rfl W.heap.size 35 i0 (.agg #[.int .u32 0, .string ⟨#[]⟩, .int .u8 0, .int .u32 0]) 4 32 Tryd.underlying30 hi hz0 hz1 hz2 rfl (by decide) _ l1.length _ rfl ((HX.out).o1.alloc _) ⟨wx.heap.size, 0, none⟩ 1 1 (cc y) rfl rfl (cells_new _ (cc y) _) (cc_one _) (by unfold maxLen; omega) (by omega) (by simp; omega) ?_; intro v10 w10 hown hgrow _ hat; have HX10 := Lib.hid ((HX.out).push1 hown hgrow hat); obtain ⟨r10, cap10, rfl⟩ := owns_form hown; clear hown hgrow hat; obtain ⟨z100, z101, z102, z103, z104, z105, z106, z107, z108⟩ := HX10.out.box; obtain ⟨u100, u101, u102, u103, _, _, _, _, _⟩ := HA.out.stay HX10.out.below; have s10 := HX10.out.below.size))
            have HXs := Lib.hid (HX11.out.setPar t ht4 HYs.out)
            generalize w11.setCell ⟨Y, 3, none⟩ (.int .u32 (t : Int)) = wy at *
            obtain ⟨y0, y1, y2, y3, _, _, _, _, y4⟩ := HXs.out.box
            have sy := HXs.out.below.size
            go_wp2_with (at_builtin; refine wpList_append_own_at _ rfl (.tmp 69) (.tmp 71) 30 rfl W.heap.size 35 i0 (.agg #[.int .u32 0, .string ⟨#[]⟩, .int .u8 0, .int .u32 0]) 4 32 Tryd.underlying30 hi hz0 hz1 hz2 rfl (by decide) _ l3.length _ rfl ((HXs.out.sw13).o1.alloc _) ⟨wy.heap.size, 0, none⟩ 1 1 (cc (y.to t ht4)) rfl rfl (cells_new _ (cc (y.to t ht4)) _) (cc_one _) (by unfold maxLen; omega) (by omega) (by simp; omega) ?_; intro v20 w20 hown hgrow _ hat; have HX20 := Lib.hid ((HXs.out.sw13).push1 hown hgrow hat).sw13; obtain ⟨r20, cap20, rfl⟩ := owns_form hown; clear hown hgrow hat; obtain ⟨z200, z201, z202, z203, z204, z205, z206, z207, z208⟩ := HX20.out.box; obtain ⟨u200, u201, u202, u203, _, _, _, _, _⟩ := HA.out.stay HX20.out.below; have s20 := HX20.out.below.size)
            go_roundw
            case rel => exact ⟨k + 1, _, _, _, r10, cap10, r11, cap11, r20, cap20, l1 ++ [y], l2 ++ [y], l3 ++ [(y.to t ht4)], true, rfl, rfl, rfl, rfl, by go_num, by omega, by simp; omega, by simp; omega, by simp; omega, Lib.hid ⟨by simp, by simp, by simp⟩, HST, Lib.hid (HX20.out.tri)⟩
            case measure => simp [intOf]; omega
        · cases d
          · -- eq false True
            have HST : Hid (outA (c.take (k + 1)) n = l1 ∧ wat n a c (k + 1) = (l2 ++ [a], true) ∧ moveA (c.take (k + 1)) n t ht4 = l3 ++ [y.to t ht4]) := Lib.hid (by
              obtain ⟨s1, s2, s3⟩ := HS.out
              refine ⟨?_, ?_, ?_⟩
              · rw [s1, if_pos hc1]
              · rw [s2]
                simp [wst, hc1]
              · rw [s3, if_pos hp])
            have e1 : ¬ (y.code : Int) < (n : Int) := by omega
            have e2 : ((y.code : Int) != (n : Int)) = false := by simp; omega
            have e4 :  (n : Int) ≤ (y.code : Int) := by omega
            have e3 : ((y.par : Int) == (n : Int)) = true := by simp; omega
            clear HS hc1 hp
            go_upto_region 19 with (first
              | (at_builtin; refine wpList_append_own_at _ rfl (.tmp 50) (.tmp 52) 30 rfl W.heap.size 35 i0 (.agg #[.int .u32 0, .string ⟨#[]⟩, .int .u8 0, .int .u32 0]) 4 32 Tryd.underlying30 hi hz0 hz1 hz2 rfl (by decide) _ l2.length _ rfl ((HX.out.sw12).o1.alloc _) ⟨wx.heap.size, 0, none⟩ 1 1 (cc a) rfl rfl (cells_new _ (cc a) _) (cc_one _) (by unfold maxLen; omega) (by omega) (by simp; omega) ?_; intro v10 w10 hown hgrow _ hat; have HX10 := Lib.hid ((HX.out.sw12).push1 hown hgrow hat).sw12; obtain ⟨r10, cap10, rfl⟩ := owns_form hown; clear hown hgrow hat; obtain ⟨z100, z101, z102, z103, z104, z105, z106, z107, z108⟩ := HX10.out.box; obtain ⟨u100, u101, u102, u103, _, _, _, _, _⟩ := HA.out.stay HX10.out.below; have s10 := HX10.out.below.size))
            have HXs := Lib.hid (HX10.out.setPar t ht4 HYs.out)
            generalize w10.setCell ⟨Y, 3, none⟩ (.int .u32 (t : Int)) = wy at *
            obtain ⟨y0, y1, y2, y3, _, _, _, _, y4⟩ := HXs.out.box
            have sy := HXs.out.below.size
            go_wp2_with (at_builtin; refine wpList_append_own_at _ rfl (.tmp 69) (.tmp 71) 30 rfl W.heap.size 35 i0 (.agg #[.int .u32 0, .string ⟨#[]⟩, .int .u8 0, .int .u32 0]) 4 32 Tryd.underlying30 hi hz0 hz1 hz2 rfl (by decide) _ l3.length _ rfl ((HXs.out.sw13).o1.alloc _) ⟨wy.heap.size, 0, none⟩ 1 1 (cc (y.to t ht4)) rfl rfl (cells_new _ (cc (y.to t ht4)) _) (cc_one _) (by unfold maxLen; omega) (by omega) (by simp; omega) ?_; intro v20 w20 hown hgrow _ hat; have HX20 := Lib.hid ((HXs.out.sw13).push1 hown hgrow hat).sw13; obtain ⟨r20, cap20, rfl⟩ := owns_form hown; clear hown hgrow hat; obtain ⟨z200, z201, z202, z203, z204, z205, z206, z207, z208⟩ := HX20.out.box; obtain ⟨u200, u201, u202, u203, _, _, _, _, _⟩ := HA.out.stay HX20.out.below; have s20 := HX20.out.below.size)
            go_roundw
            case rel => exact ⟨k + 1, _, _, _, r1, cap1, r10, cap10, r20, cap20, l1, l2 ++ [a], l3 ++ [(y.to t ht4)], true, rfl, rfl, rfl, rfl, by go_num, by omega, by omega, by simp; omega, by simp; omega, Lib.hid ⟨HLN.out.1, by simp, by simp⟩, HST, Lib.hid (HX20.out.tri)⟩
            case measure => simp [intOf]; omega
          · -- eq true True
            have HST : Hid (outA (c.take (k + 1)) n = l1 ∧ wat n a c (k + 1) = (l2, true) ∧ moveA (c.take (k + 1)) n t ht4 = l3 ++ [y.to t ht4]) := Lib.hid (by
              obtain ⟨s1, s2, s3⟩ := HS.out
              refine ⟨?_, ?_, ?_⟩
              · rw [s1, if_pos hc1]
              · rw [s2]
                simp [wst, hc1]
              · rw [s3, if_pos hp])
            have e1 : ¬ (y.code : Int) < (n : Int) := by omega
            have e2 : ((y.code : Int) != (n : Int)) = false := by simp; omega
            have e4 :  (n : Int) ≤ (y.code : Int) := by omega
            have e3 : ((y.par : Int) == (n : Int)) = true := by simp; omega
            clear HS hc1 hp
            go_upto_region 19 with fail
            have HXs := Lib.hid (HX.out.setPar t ht4 HYs.out)
            generalize wx.setCell ⟨Y, 3, none⟩ (.int .u32 (t : Int)) = wy at *
            obtain ⟨y0, y1, y2, y3, _, _, _, _, y4⟩ := HXs.out.box
            have sy := HXs.out.below.size
            go_wp2_with (at_builtin; refine wpList_append_own_at _ rfl (.tmp 69) (.tmp 71) 30 rfl W.heap.size 35 i0 (.agg #[.int .u32 0, .string ⟨#[]⟩, .int .u8 0, .int .u32 0]) 4 32 Tryd.underlying30 hi hz0 hz1 hz2 rfl (by decide) _ l3.length _ rfl ((HXs.out.sw13).o1.alloc _) ⟨wy.heap.size, 0, none⟩ 1 1 (cc (y.to t ht4)) rfl rfl (cells_new _ (cc (y.to t ht4)) _) (cc_one _) (by unfold maxLen; omega) (by omega) (by simp; omega) ?_; intro v20 w20 hown hgrow _ hat; have HX20 := Lib.hid ((HXs.out.sw13).push1 hown hgrow hat).sw13; obtain ⟨r20, cap20, rfl⟩ := owns_form hown; clear hown hgrow hat; obtain ⟨z200, z201, z202, z203, z204, z205, z206, z207, z208⟩ := HX20.out.box; obtain ⟨u200, u201, u202, u203, _, _, _, _, _⟩ := HA.out.stay HX20.out.below; have s20 := HX20.out.below.size)
            go_roundw
            case rel => exact ⟨k + 1, _, _, _, r1, cap1, r2, cap2, r20, cap20, l1, l2, l3 ++ [(y.to t ht4)], true, rfl, rfl, rfl, rfl, by go_num, by omega, by omega, by omega, by simp; omega, Lib.hid ⟨HLN.out.1, HLN.out.2.1, by simp⟩, HST, Lib.hid (HX20.out.tri)⟩
            case measure => simp [intOf]; omega
        · cases d
          · -- gt false True
            have HST : Hid (outA (c.take (k + 1)) n = l1 ++ [y] ∧ wat n a c (k + 1) = (l2 ++ [a] ++ [y], true) ∧ moveA (c.take (k + 1)) n t ht4 = l3 ++ [y.to t ht4]) := Lib.hid (by
              obtain ⟨s1, s2, s3⟩ := HS.out
              refine ⟨?_, ?_, ?_⟩
              · rw [s1, if_neg (by omega)]
              · rw [s2]
                have h3 :  n ≤ y.code := by omega
                have h4 : ¬ y.code = n := by omega
                simp [wst, h3, h4]
              · rw [s3, if_pos hp])
            have e1 : ¬ (y.code : Int) < (n : Int) := by omega
            have e2 : ((y.code : Int) != (n : Int)) = true := by simp; omega
            have e4 :  (n : Int) ≤ (y.code : Int) := by omega
            have e3 : ((y.par : Int) == (n : Int)) = true := by simp; omega
            clear HS hc1 hp
            have hla : (l2 ++ [a]).length = l2.length + 1 := by simp
            go_upto_region 19 with (first
              | (at_builtin; refine wpList_append_own_at _ rfl (.tmp 58) (.tmp 60) 30 rfl W.heap.size 35 i0 (.agg #[.int .u32 0, .string ⟨#[]⟩, .int .u8 0, .int .u32 0]) 4 32 Tryd.underlying30 hi hz0 hz1 hz2 rfl (by decide) _ (l2 ++ [a]).length _ rfl ((HX11.out.sw12).o1.alloc _) ⟨w11.heap.size, 0, none⟩ 1 1 (cc y) rfl rfl (cells_new _ (cc y) _) (cc_one _) (by unfold maxLen; omega) (by omega) (by simp; omega) ?_; intro v12 w12 hown hgrow _ hat; have HX12 := Lib.hid ((HX11.out.sw12).push1 hown hgrow hat).sw12; obtain ⟨r12, cap12, rfl⟩ := owns_form hown; clear hown hgrow hat; obtain ⟨z120, z121, z122, z123, z124, z125, z126, z127, z128⟩ := HX12.out.box; obtain ⟨u120, u121, u122, u123, _, _, _, _, _⟩ := HA.out.stay HX12.out.below; have s12 := HX12.out.below.size)
              | (at_builtin; refine wpList_append_own_at _ rfl (.tmp 50) (.tmp 52) 30 rfl W.heap.size 35 i0 (.agg #[.int .u32 0, .string ⟨#[]⟩, .int .u8 0, .int .u32 0]) 4 32 Tryd.underlying30 hi hz0 hz1 hz2 rfl (by decide) _ l2.length _ rfl ((HX10.out.sw12).o1.alloc _) ⟨w10.heap.size, 0, none⟩ 1 1 (cc a) rfl rfl (cells_new _ (cc a) _) (cc_one _) (by unfold maxLen; omega) (by omega) (by simp; omega) ?_; intro v11 w11 hown hgrow _ hat; have HX11 := Lib.hid ((HX10.out.sw12).push1 hown hgrow hat).sw12; obtain ⟨r11, cap11, rfl⟩ := owns_form hown; clear hown hgrow hat; obtain ⟨z110, z111, z112, z113, z114, z115, z116, z117, z118⟩ := HX11.out.box; obtain ⟨u110, u111, u112, u113, _, _, _, _, _⟩ := HA.out.stay HX11.out.below; have s11 := HX11.out.below.size)
              | (at_builtin; refine wpList_append_own_at _ rfl (.tmp 38) (.tmp 40) 30 rfl W.heap.size 35 i0 (.agg #[.int .u32 0, .string ⟨#[]⟩, .int .u8 0, .int .u32 0]) 4 32 Tryd.underlying30 hi hz0 hz1 hz2 rfl (by decide) _ l1.length _ rfl ((HX.out).o1.alloc _) ⟨wx.heap.size, 0, none⟩ 1 1 (cc y) rfl rfl (cells_new _ (cc y) _) (cc_one _) (by unfold maxLen; omega) (by omega) (by simp; omega) ?_; intro v10 w10 hown hgrow _ hat; have HX10 := Lib.hid ((HX.out).push1 hown hgrow hat); obtain ⟨r10, cap10, rfl⟩ := owns_form hown; clear hown hgrow hat; obtain ⟨z100, z101, z102, z103, z104, z105, z106, z107, z108⟩ := HX10.out.box; obtain ⟨u100, u101, u102, u103, _, _, _, _, _⟩ := HA.out.stay HX10.out.below; have s10 := HX10.out.below.size))
            have HXs := Lib.hid (HX12.out.setPar t ht4 HYs.out)
            generalize w12.setCell ⟨Y, 3, none⟩ (.int .u32 (t : Int)) = wy at *
            obtain ⟨y0, y1, y2, y3, _, _, _, _, y4⟩ := HXs.out.box
            have sy := HXs.out.below.size
            go_wp2_with (at_builtin; refine wpList_append_own_at _ rfl (.tmp 69) (.tmp 71) 30 rfl W.heap.size 35 i0 (.agg #[.int .u32 0, .string ⟨#[]⟩, .int .u8 0, .int .u32 0]) 4 32 Tryd.underlying30 hi hz0 hz1 hz2 rfl (by decide) _ l3.length _ rfl ((HXs.out.sw13).o1.alloc _) ⟨wy.heap.size, 0, none⟩ 1 1 (cc (y.to t ht4)) rfl rfl (cells_new _ (cc (y.to t ht4)) _) (cc_one _) (by unfold maxLen; omega) (by omega) (by simp; omega) ?_; intro v20 w20 hown hgrow _ hat; have HX20 := Lib.hid ((HXs.out.sw13).push1 hown hgrow hat).sw13; obtain ⟨r20, cap20, rfl⟩ := owns_form hown; clear hown hgrow hat; obtain ⟨z200, z201, z202, z203, z204, z205, z206, z207, z208⟩ := HX20.out.box; obtain ⟨u200, u201, u202, u203, _, _, _, _, _⟩ := HA.out.stay HX20.out.below; have s20 := HX20.out.below.size)
            go_roundw
            case rel => exact ⟨k + 1, _, _, _, r10, cap10, r12, cap12, r20, cap20, l1 ++ [y], l2 ++ [a] ++ [y], l3 ++ [(y.to t ht4)], true, rfl, rfl, rfl, rfl, by go_num, by omega, by simp; omega, by simp; omega, by simp; omega, Lib.hid ⟨by simp, by simp, by simp⟩, HST, Lib.hid (by have := HX20.out.tri; rw [hla] at this; exact this)⟩
            case measure => simp [intOf]; omega
          · -- gt true True
            have HST : Hid (outA (c.take (k + 1)) n = l1 ++ [y] ∧ wat n a c (k + 1) = (l2 ++ [y], true) ∧ moveA (c.take (k + 1)) n t ht4 = l3 ++ [y.to t ht4]) := Lib.hid (by
              obtain ⟨s1, s2, s3⟩ := HS.out
              refine ⟨?_, ?_, ?_⟩
              · rw [s1, if_neg (by omega)]
              · rw [s2]
                have h3 :  n ≤ y.code := by omega
                have h4 : ¬ y.code = n := by omega
                simp [wst, h3, h4]
              · rw [s3, if_pos hp])
            have e1 : ¬ (y.code : Int) < (n : Int) := by omega
            have e2 : ((y.code : Int) != (n : Int)) = true := by simp; omega
            have e4 :  (n : Int) ≤ (y.code : Int) := by omega
            have e3 : ((y.par : Int) == (n : Int)) = true := by simp; omega
            clear HS hc1 hp
            go_upto_region 19 with (first
              | (at_builtin; refine wpList_append_own_at _ rfl (.tmp 58) (.tmp 60) 30 rfl W.heap.size 35 i0 (.agg #[.int .u32 0, .string ⟨#[]⟩, .int .u8 0, .int .u32 0]) 4 32 Tryd.underlying30 hi hz0 hz1 hz2 rfl (by decide) _ l2.length _ rfl ((HX10.out.sw12).o1.alloc _) ⟨w10.heap.size, 0, none⟩ 1 1 (cc y) rfl rfl (cells_new _ (cc y) _) (cc_one _) (by unfold maxLen; omega) (by omega) (by simp; omega) ?_; intro v11 w11 hown hgrow _ hat; have HX11 := Lib.hid ((HX10.out.sw12).push1 hown hgrow hat).sw12; obtain ⟨r11, cap11, rfl⟩ := owns_form hown; clear hown hgrow hat; obtain ⟨z110, z111, z112, z113, z114, z115, z116, z117, z118⟩ := HX11.out.box; obtain ⟨u110, u111, u112, u113, _, _, _, _, _⟩ := HA.out.stay HX11.out.below; have s11 := HX11.out.below.size)
              | (at_builtin; refine wpList_append_own_at _ rfl (.tmp 38) (.tmp 40) 30 rfl W.heap.size 35 i0 (.agg #[.int .u32 0, .string ⟨#[]⟩, .int .u8 0, .int .u32 0]) 4 32 Tryd.underlying30 hi hz0 hz1 hz2 rfl (by decide) _ l1.length _ rfl ((HX.out).o1.alloc _) ⟨wx.heap.size, 0, none⟩ 1 1 (cc y) rfl rfl (cells_new _ (cc y) _) (cc_one _) (by unfold maxLen; omega) (by omega) (by simp; omega) ?_; intro v10 w10 hown hgrow _ hat; have HX10 := Lib.hid ((HX.out).push1 hown hgrow hat); obtain ⟨r10, cap10, rfl⟩ := owns_form hown; clear hown hgrow hat; obtain ⟨z100, z101, z102, z103, z104, z105, z106, z107, z108⟩ := HX10.out.box; obtain ⟨u100, u101, u102, u103, _, _, _, _, _⟩ := HA.out.stay HX10.out.below; have s10 := HX10.out.below.size))
            have HXs := Lib.hid (HX11.out.setPar t ht4 HYs.out)
            generalize w11.setCell ⟨Y, 3, none⟩ (.int .u32 (t : Int)) = wy at *
            obtain ⟨y0, y1, y2, y3, _, _, _, _, y4⟩ := HXs.out.box
            have sy := HXs.out.below.size
            go_wp2_with (at_builtin; refine wpList_append_own_at _ rfl (.tmp 69) (.tmp 71) 30 rfl W.heap.size 35 i0 (.agg #[.int .u32 0, .string ⟨#[]⟩, .int .u8 0, .int .u32 0]) 4 32 Tryd.underlying30 hi hz0 hz1 hz2 rfl (by decide) _ l3.length _ rfl ((HXs.out.sw13).o1.alloc _) ⟨wy.heap.size, 0, none⟩ 1 1 (cc (y.to t ht4)) rfl rfl (cells_new _ (cc (y.to t ht4)) _) (cc_one _) (by unfold maxLen; omega) (by omega) (by simp; omega) ?_; intro v20 w20 hown hgrow _ hat; have HX20 := Lib.hid ((HXs.out.sw13).push1 hown hgrow hat).sw13; obtain ⟨r20, cap20, rfl⟩ := owns_form hown; clear hown hgrow hat; obtain ⟨z200, z201, z202, z203, z204, z205, z206, z207, z208⟩ := HX20.out.box; obtain ⟨u200, u201, u202, u203, _, _, _, _, _⟩ := HA.out.stay HX20.out.below; have s20 := HX20.out.below.size)
            go_roundw
            case rel => exact ⟨k + 1, _, _, _, r10, cap10, r11, cap11, r20, cap20, l1 ++ [y], l2 ++ [y], l3 ++ [(y.to t ht4)], true, rfl, rfl, rfl, rfl, by go_num, by omega, by simp; omega, by simp; omega, by simp; omega, Lib.hid ⟨by simp, by simp, by simp⟩, HST, Lib.hid (HX20.out.tri)⟩
            case measure => simp [intOf]; omega
      · rcases Nat.lt_trichotomy y.code n with hc1 | hc1 | hc1
        · cases d
          · -- lt false False
            have HST : Hid (outA (c.take (k + 1)) n = l1 ++ [y] ∧ wat n a c (k + 1) = (l2 ++ [y], false) ∧ moveA (c.take (k + 1)) n t ht4 = l3 ++ [y]) := Lib.hid (by
              obtain ⟨s1, s2, s3⟩ := HS.out
              refine ⟨?_, ?_, ?_⟩
              · rw [s1, if_neg (by omega)]
              · rw [s2]
                have h3 : ¬ n ≤ y.code := by omega
                have h4 : ¬ y.code = n := by omega
                simp [wst, h3, h4]
              · rw [s3, if_neg hp])
            have e1 :  (y.code : Int) < (n : Int) := by omega
            have e2 : ((y.code : Int) != (n : Int)) = true := by simp; omega
            have e4 : ¬ (n : Int) ≤ (y.code : Int) := by omega
            have e3 : ((y.par : Int) == (n : Int)) = false := by simp; omega
            clear HS hc1 hp
            go_upto_region 19 with (first
              | (at_builtin; refine wpList_append_own_at _ rfl (.tmp 58) (.tmp 60) 30 rfl W.heap.size 35 i0 (.agg #[.int .u32 0, .string ⟨#[]⟩, .int .u8 0, .int .u32 0]) 4 32 Tryd.underlying30 hi hz0 hz1 hz2 rfl (by decide) _ l2.length _ rfl ((HX10.out.sw12).o1.alloc _) ⟨w10.heap.size, 0, none⟩ 1 1 (cc y) rfl rfl (cells_new _ (cc y) _) (cc_one _) (by unfold maxLen; omega) (by omega) (by simp; omega) ?_; intro v11 w11 hown hgrow _ hat; have HX11 := Lib.hid ((HX10.out.sw12).push1 hown hgrow hat).sw12; obtain ⟨r11, cap11, rfl⟩ := owns_form hown; clear hown hgrow hat; obtain ⟨z110, z111, z112, z113, z114, z115, z116, z117, z118⟩ := HX11.out.box; obtain ⟨u110, u111, u112, u113, _, _, _, _, _⟩ := HA.out.stay HX11.out.below; have s11 := HX11.out.below.size)
              | (at_builtin; refine wpList_append_own_at _ rfl (.tmp 38) (.tmp 40) 30 rfl W.heap.size 35 i0 (.agg #[.int .u32 0, .string ⟨#[]⟩, .int .u8 0, .int .u32 0]) 4 32 Tryd.underlying30 hi hz0 hz1 hz2 rfl (by decide) _ l1.length _ rfl ((HX.out).o1.alloc _) ⟨wx.heap.size, 0, none⟩ 1 1 (cc y) rfl rfl (cells_new _ (cc y) _) (cc_one _) (by unfold maxLen; omega) (by omega) (by simp; omega) ?_; intro v10 w10 hown hgrow _ hat; have HX10 := Lib.hid ((HX.out).push1 hown hgrow hat); obtain ⟨r10, cap10, rfl⟩ := owns_form hown; clear hown hgrow hat; obtain ⟨z100, z101, z102, z103, z104, z105, z106, z107, z108⟩ := HX10.out.box; obtain ⟨u100, u101, u102, u103, _, _, _, _, _⟩ := HA.out.stay HX10.out.below; have s10 := HX10.out.below.size))
            go_wp2_with (at_builtin; refine wpList_append_own_at _ rfl (.tmp 69) (.tmp 71) 30 rfl W.heap.size 35 i0 (.agg #[.int .u32 0, .string ⟨#[]⟩, .int .u8 0, .int .u32 0]) 4 32 Tryd.underlying30 hi hz0 hz1 hz2 rfl (by decide) _ l3.length _ rfl ((HX11.out.sw13).o1.alloc _) ⟨w11.heap.size, 0, none⟩ 1 1 (cc y) rfl rfl (cells_new _ (cc y) _) (cc_one _) (by unfold maxLen; omega) (by omega) (by simp; omega) ?_; intro v20 w20 hown hgrow _ hat; have HX20 := Lib.hid ((HX11.out.sw13).push1 hown hgrow hat).sw13; obtain ⟨r20, cap20, rfl⟩ := owns_form hown; clear hown hgrow hat; obtain ⟨z200, z201, z202, z203, z204, z205, z206, z207, z208⟩ := HX20.out.box; obtain ⟨u200, u201, u202, u203, _, _, _, _, _⟩ := HA.out.stay HX20.out.below; have s20 := HX20.out.below.size)
            go_roundw
            case rel => exact ⟨k + 1, _, _, _, r10, cap10, r11, cap11, r20, cap20, l1 ++ [y], l2 ++ [y], l3 ++ [y], false, rfl, rfl, rfl, rfl, by go_num, by omega, by simp; omega, by simp; omega, by simp; omega, Lib.hid ⟨by simp, by simp, by simp⟩, HST, Lib.hid (HX20.out.tri)⟩
            case measure => simp [intOf]; omega
          · -- lt true False
            have HST : Hid (outA (c.take (k + 1)) n = l1 ++ [y] ∧ wat n a c (k + 1) = (l2 ++ [y], true) ∧ moveA (c.take (k + 1)) n t ht4 = l3 ++ [y]) := Lib.hid (by
              obtain ⟨s1, s2, s3⟩ := HS.out
              refine ⟨?_, ?_, ?_⟩
              · rw [s1, if_neg (by omega)]
              · rw [s2]
                have h3 : ¬ n ≤ y.code := by omega
                have h4 : ¬ y.code = n := by omega
                simp [wst, h3, h4]
              · rw [s3, if_neg hp])
            have e1 :  (y.code : Int) < (n : Int) := by omega
            have e2 : ((y.code : Int) != (n : Int)) = true := by simp; omega
            have e4 : ¬ (n : Int) ≤ (y.code : Int) := by omega
            have e3 : ((y.par : Int) == (n : Int)) = false := by simp; omega
            clear HS hc1 hp
            go_upto_region 19 with (first
              | (at_builtin; refine wpList_append_own_at _ rfl (.tmp 58) (.tmp 60) 30 rfl W.heap.size 35 i0 (.agg #[.int .u32 0, .string ⟨#[]⟩, .int .u8 0, .int .u32 0]) 4 32 Tryd.underlying30 hi hz0 hz1 hz2 rfl (by decide) _ l2.length _ rfl ((HX10.out.sw12).o1.alloc _) ⟨w10.heap.size, 0, none⟩ 1 1 (cc y) rfl rfl (cells_new _ (cc y) _) (cc_one _) (by unfold maxLen; omega) (by omega) (by simp; omega) ?_; intro v11 w11 hown hgrow _ hat; have HX11 := Lib.hid ((HX10.out.sw12).push1 hown hgrow hat).sw12; obtain ⟨r11, cap11, rfl⟩ := owns_form hown; clear hown hgrow hat; obtain ⟨z110, z111, z112, z113, z114, z115, z116, z117, z118⟩ := HX11.out.box; obtain ⟨u110, u111, u112, u113, _, _, _, _, _⟩ := HA.out.stay HX11.out.below; have s11 := HX11.out.below.size)
              | (at_builtin; refine wpList_append_own_at _ rfl (.tmp 38) (.tmp 40) 30 rfl W.heap.size 35 i0 (.agg #[.int .u32 0, .string ⟨#[]⟩, .int .u8 0, .int .u32 0]) 4 32 Tryd.underlying30 hi hz0 hz1 hz2 rfl (by decide) _ l1.length _ rfl ((HX.out).o1.alloc _) ⟨wx.heap.size, 0, none⟩ 1 1 (cc y) rfl rfl (cells_new _ (cc y) _) (cc_one _) (by unfold maxLen; omega) (by omega) (by simp; omega) ?_; intro v10 w10 hown hgrow _ hat; have HX10 := Lib.hid ((HX.out).push1 hown hgrow hat); obtain ⟨r10, cap10, rfl⟩ := owns_form hown; clear hown hgrow hat; obtain ⟨z100, z101, z102, z103, z104, z105, z106, z107, z108⟩ := HX10.out.box; obtain ⟨u100, u101, u102, u103, _, _, _, _, _⟩ := HA.out.stay HX10.out.below; have s10 := HX10.out.below.size))
            go_wp2_with (at_builtin; refine wpList_append_own_at _ rfl (.tmp 69) (.tmp 71) 30 rfl W.heap.size 35 i0 (.agg #[.int .u32 0, .string ⟨#[]⟩, .int .u8 0, .int .u32 0]) 4 32 Tryd.underlying30 hi hz0 hz1 hz2 rfl (by decide) _ l3.length _ rfl ((HX11.out.sw13).o1.alloc _) ⟨w11.heap.size, 0, none⟩ 1 1 (cc y) rfl rfl (cells_new _ (cc y) _) (cc_one _) (by unfold maxLen; omega) (by omega) (by simp; omega) ?_; intro v20 w20 hown hgrow _ hat; have HX20 := Lib.hid ((HX11.out.sw13).push1 hown hgrow hat).sw13; obtain ⟨r20, cap20, rfl⟩ := owns_form hown; clear hown hgrow hat; obtain ⟨z200, z201, z202, z203, z204, z205, z206, z207, z208⟩ := HX20.out.box; obtain ⟨u200, u201, u202, u203, _, _, _, _, _⟩ := HA.out.stay HX20.out.below; have s20 := HX20.out.below.size)
            go_roundw
            case rel => exact ⟨k + 1, _, _, _, r10, cap10, r11, cap11, r20, cap20, l1 ++ [y], l2 ++ [y], l3 ++ [y], true, rfl, rfl, rfl, rfl, by go_num, by omega, by simp; omega, by simp; omega, by simp; omega, Lib.hid ⟨by simp, by simp, by simp⟩, HST, Lib.hid (HX20.out.tri)⟩
            case measure => simp [intOf]; omega
        · cases d
          · -- eq false False
            have HST : Hid (outA (c.take (k + 1)) n = l1 ∧ wat n a c (k + 1) = (l2 ++ [a], true) ∧ moveA (c.take (k + 1)) n t ht4 = l3 ++ [y]) := Lib.hid (by
              obtain ⟨s1, s2, s3⟩ := HS.out
              refine ⟨?_, ?_, ?_⟩
              · rw [s1, if_pos hc1]
              · rw [s2]
                simp [wst, hc1]
              · rw [s3, if_neg hp])
            have e1 : ¬ (y.code : Int) < (n : Int) := by omega
            have e2 : ((y.code : Int) != (n : Int)) = false := by simp; omega
            have e4 :  (n : Int) ≤ (y.code : Int) := by omega
            have e3 : ((y.par : Int) == (n : Int)) = false := by simp; omega
            clear HS hc1 hp
            go_upto_region 19 with (first
              | (at_builtin; refine wpList_append_own_at _ rfl (.tmp 50) (.tmp 52) 30 rfl W.heap.size 35 i0 (.agg #[.int .u32 0, .string ⟨#[]⟩, .int .u8 0, .int .u32 0]) 4 32 Tryd.underlying30 hi hz0 hz1 hz2 rfl (by decide) _ l2.length _ rfl ((HX.out.sw12).o1.alloc _) ⟨wx.heap.size, 0, none⟩ 1 1 (cc a) rfl rfl (cells_new _ (cc a) _) (cc_one _) (by unfold maxLen; omega) (by omega) (by simp; omega) ?_; intro v10 w10 hown hgrow _ hat; have HX10 := Lib.hid ((HX.out.sw12).push1 hown hgrow hat).sw12; obtain ⟨r10, cap10, rfl⟩ := owns_form hown; clear hown hgrow hat; obtain ⟨z100, z101, z102, z103, z104, z105, z106, z107, z108⟩ := HX10.out.box; obtain ⟨u100, u101, u102, u103, _, _, _, _, _⟩ := HA.out.stay HX10.out.below; have s10 := HX10.out.below.size))
            go_wp2_with (at_builtin; refine wpList_append_own_at _ rfl (.tmp 69) (.tmp 71) 30 rfl W.heap.size 35 i0 (.agg #[.int .u32 0, .string ⟨#[]⟩, .int .u8 0, .int .u32 0]) 4 32 Tryd.underlying30 hi hz0 hz1 hz2 rfl (by decide) _ l3.length _ rfl ((HX10.out.sw13).o1.alloc _) ⟨w10.heap.size, 0, none⟩ 1 1 (cc y) rfl rfl (cells_new _ (cc y) _) (cc_one _) (by unfold maxLen; omega) (by omega) (by simp; omega) ?_; intro v20 w20 hown hgrow _ hat; have HX20 := Lib.hid ((HX10.out.sw13).push1 hown hgrow hat).sw13; obtain ⟨r20, cap20, rfl⟩ := owns_form hown; clear hown hgrow hat; obtain ⟨z200, z201, z202, z203, z204, z205, z206, z207, z208⟩ := HX20.out.box; obtain ⟨u200, u201, u202, u203, _, _, _, _, _⟩ := HA.out.stay HX20.out.below; have s20 := HX20.out.below.size)
            go_roundw
            case rel => exact ⟨k + 1, _, _, _, r1, cap1, r10, cap10, r20, cap20, l1, l2 ++ [a], l3 ++ [y], true, rfl, rfl, rfl, rfl, by go_num, by omega, by omega, by simp; omega, by simp; omega, Lib.hid ⟨HLN.out.1, by simp, by simp⟩, HST, Lib.hid (HX20.out.tri)⟩
            case measure => simp [intOf]; omega
          · -- eq true False
            have HST : Hid (outA (c.take (k + 1)) n = l1 ∧ wat n a c (k + 1) = (l2, true) ∧ moveA (c.take (k + 1)) n t ht4 = l3 ++ [y]) := Lib.hid (by
              obtain ⟨s1, s2, s3⟩ := HS.out
              refine ⟨?_, ?_, ?_⟩
              · rw [s1, if_pos hc1]
              · rw [s2]
                simp [wst, hc1]
              · rw [s3, if_neg hp])
            have e1 : ¬ (y.code : Int) < (n : Int) := by omega
            have e2 : ((y.code : Int) != (n : Int)) = false := by simp; omega
            have e4 :  (n : Int) ≤ (y.code : Int) := by omega
            have e3 : ((y.par : Int) == (n : Int)) = false := by simp; omega
            clear HS hc1 hp
            go_upto_region 19 with fail
            go_wp2_with (at_builtin; refine wpList_append_own_at _ rfl (.tmp 69) (.tmp 71) 30 rfl W.heap.size 35 i0 (.agg #[.int .u32 0, .string ⟨#[]⟩, .int .u8 0, .int .u32 0]) 4 32 Tryd.underlying30 hi hz0 hz1 hz2 rfl (by decide) _ l3.length _ rfl ((HX.out.sw13).o1.alloc _) ⟨wx.heap.size, 0, none⟩ 1 1 (cc y) rfl rfl (cells_new _ (cc y) _) (cc_one _) (by unfold maxLen; omega) (by omega) (by simp; omega) ?_; intro v20 w20 hown hgrow _ hat; have HX20 := Lib.hid ((HX.out.sw13).push1 hown hgrow hat).sw13; obtain ⟨r20, cap20, rfl⟩ := owns_form hown; clear hown hgrow hat; obtain ⟨z200, z201, z202, z203, z204, z205, z206, z207, z208⟩ := HX20.out.box; obtain ⟨u200, u201, u202, u203, _, _, _, _, _⟩ := HA.out.stay HX20.out.below; have s20 := HX20.out.below.size)
            go_roundw
            case rel => exact ⟨k + 1, _, _, _, r1, cap1, r2, cap2, r20, cap20, l1, l2, l3 ++ [y], true, rfl, rfl, rfl, rfl, by go_num, by omega, by omega, by omega, by simp; omega, Lib.hid ⟨HLN.out.1, HLN.out.2.1, by simp⟩, HST, Lib.hid (HX20.out.tri)⟩
            case measure => simp [intOf]; omega
        · cases d
          · -- gt false False
            have HST : Hid (outA (c.take (k + 1)) n = l1 ++ [y] ∧ wat n a c (k + 1) = (l2 ++ [a] ++ [y], true) ∧ moveA (c.take (k + 1)) n t ht4 = l3 ++ [y]) := Lib.hid (by
              obtain ⟨s1, s2, s3⟩ := HS.out
              refine ⟨?_, ?_, ?_⟩
              · rw [s1, if_neg (by omega)]
              · rw [s2]
                have h3 :  n ≤ y.code := by omega
                have h4 : ¬ y.code = n := by omega
                simp [wst, h3, h4]
              · rw [s3, if_neg hp])
            have e1 : ¬ (y.code : Int) < (n : Int) := by omega
            have e2 : ((y.code : Int) != (n : Int)) = true := by simp; omega
            have e4 :  (n : Int) ≤ (y.code : Int) := by omega
            have e3 : ((y.par : Int) == (n : Int)) = false := by simp; omega
            clear HS hc1 hp
            have hla : (l2 ++ [a]).length = l2.length + 1 := by simp
            go_upto_region 19 with (first
              | (at_builtin; refine wpList_append_own_at _ rfl (.tmp 58) (.tmp 60) 30 rfl W.heap.size 35 i0 (.agg #[.int .u32 0, .string ⟨#[]⟩, .int .u8 0, .int .u32 0]) 4 32 Tryd.underlying30 hi hz0 hz1 hz2 rfl (by decide) _ (l2 ++ [a]).length _ rfl ((HX11.out.sw12).o1.alloc _) ⟨w11.heap.size, 0, none⟩ 1 1 (cc y) rfl rfl (cells_new _ (cc y) _) (cc_one _) (by unfold maxLen; omega) (by omega) (by simp; omega) ?_; intro v12 w12 hown hgrow _ hat; have HX12 := Lib.hid ((HX11.out.sw12).push1 hown hgrow hat).sw12; obtain ⟨r12, cap12, rfl⟩ := owns_form hown; clear hown hgrow hat; obtain ⟨z120, z121, z122, z123, z124, z125, z126, z127, z128⟩ := HX12.out.box; obtain ⟨u120, u121, u122, u123, _, _, _, _, _⟩ := HA.out.stay HX12.out.below; have s12 := HX12.out.below.size)
              | (at_builtin; refine wpList_append_own_at _ rfl (.tmp 50) (.tmp 52) 30 rfl W.heap.size 35 i0 (.agg #[.int .u32 0, .string ⟨#[]⟩, .int .u8 0, .int .u32 0]) 4 32 Tryd.underlying30 hi hz0 hz1 hz2 rfl (by decide) _ l2.length _ rfl ((HX10.out.sw12).o1.alloc _) ⟨w10.heap.size, 0, none⟩ 1 1 (cc a) rfl rfl (cells_new _ (cc a) _) (cc_one _) (by unfold maxLen; omega) (by omega) (by simp; omega) ?_; intro v11 w11 hown hgrow _ hat; have HX11 := Lib.hid ((HX10.out.sw12).push1 hown hgrow hat).sw12; obtain ⟨r11, cap11, rfl⟩ := owns_form hown; clear hown hgrow hat; obtain ⟨z110, z111, z112, z113, z114, z115, z116, z117, z118⟩ := HX11.out.box; obtain ⟨u110, u111, u112, u113, _, _, _, _, _⟩ := HA.out.stay HX11.out.below; have s11 := HX11.out.below.size)
              | (at_builtin; refine wpList_append_own_at _ rfl (.tmp 38) (.tmp 40) 30 rfl W.heap.size 35 i0 (.agg #[.int .u32 0, .string ⟨#[]⟩, .int .u8 0, .int .u32 0]) 4 32 Tryd.underlying30 hi hz0 hz1 hz2 rfl (by decide) _ l1.length _ rfl ((HX.out).o1.alloc _) ⟨wx.heap.size, 0, none⟩ 1 1 (cc y) rfl rfl (cells_new _ (cc y) _) (cc_one _) (by unfold maxLen; omega) (by omega) (by simp; omega) ?_; intro v10 w10 hown hgrow _ hat; have HX10 := Lib.hid ((HX.out).push1 hown hgrow hat); obtain ⟨r10, cap10, rfl⟩ := owns_form hown; clear hown hgrow hat; obtain ⟨z100, z101, z102, z103, z104, z105, z106, z107, z108⟩ := HX10.out.box; obtain ⟨u100, u101, u102, u103, _, _, _, _, _⟩ := HA.out.stay HX10.out.below; have s10 := HX10.out.below.size))
            go_wp2_with (at_builtin; refine wpList_append_own_at _ rfl (.tmp 69) (.tmp 71) 30 rfl W.heap.size 35 i0 (.agg #[.int .u32 0, .string ⟨#[]⟩, .int .u8 0, .int .u32 0]) 4 32 Tryd.underlying30 hi hz0 hz1 hz2 rfl (by decide) _ l3.length _ rfl ((HX12.out.sw13).o1.alloc _) ⟨w12.heap.size, 0, none⟩ 1 1 (cc y) rfl rfl (cells_new _ (cc y) _) (cc_one _) (by unfold maxLen; omega) (by omega) (by simp; omega) ?_; intro v20 w20 hown hgrow _ hat; have HX20 := Lib.hid ((HX12.out.sw13).push1 hown hgrow hat).sw13; obtain ⟨r20, cap20, rfl⟩ := owns_form hown; clear hown hgrow hat; obtain ⟨z200, z201, z202, z203, z204, z205, z206, z207, z208⟩ := HX20.out.box; obtain ⟨u200, u201, u202, u203, _, _, _, _, _⟩ := HA.out.stay HX20.out.below; have s20 := HX20.out.below.size)
            go_roundw
            case rel => exact ⟨k + 1, _, _, _, r10, cap10, r12, cap12, r20, cap20, l1 ++ [y], l2 ++ [a] ++ [y], l3 ++ [y], true, rfl, rfl, rfl, rfl, by go_num, by omega, by simp; omega, by simp; omega, by simp; omega, Lib.hid ⟨by simp, by simp, by simp⟩, HST, Lib.hid (by have := HX20.out.tri; rw [hla] at this; exact this)⟩
            case measure => simp [intOf]; omega
          · -- gt true False
            have HST : Hid (outA (c.take (k + 1)) n = l1 ++ [y] ∧ wat n a c (k + 1) = (l2 ++ [y], true) ∧ moveA (c.take (k + 1)) n t ht4 = l3 ++ [y]) := Lib.hid (by
              obtain ⟨s1, s2, s3⟩ := HS.out
              refine ⟨?_, ?_, ?_⟩
              · rw [s1, if_neg (by omega)]
              · rw [s2]
                have h3 :  n ≤ y.code := by omega
                have h4 : ¬ y.code = n := by omega
                simp [wst, h3, h4]
              · rw [s3, if_neg hp])
            have e1 : ¬ (y.code : Int) < (n : Int) := by omega
            have e2 : ((y.code : Int) != (n : Int)) = true := by simp; omega
            have e4 :  (n : Int) ≤ (y.code : Int) := by omega
            have e3 : ((y.par : Int) == (n : Int)) = false := by simp; omega
            clear HS hc1 hp
            go_upto_region 19 with (first
              | (at_builtin; refine wpList_append_own_at _ rfl (.tmp 58) (.tmp 60) 30 rfl W.heap.size 35 i0 (.agg #[.int .u32 0, .string ⟨#[]⟩, .int .u8 0, .int .u32 0]) 4 32 Tryd.underlying30 hi hz0 hz1 hz2 rfl (by decide) _ l2.length _ rfl ((HX10.out.sw12).o1.alloc _) ⟨w10.heap.size, 0, none⟩ 1 1 (cc y) rfl rfl (cells_new _ (cc y) _) (cc_one _) (by unfold maxLen; omega) (by omega) (by simp; omega) ?_; intro v11 w11 hown hgrow _ hat; have HX11 := Lib.hid ((HX10.out.sw12).push1 hown hgrow hat).sw12; obtain ⟨r11, cap11, rfl⟩ := owns_form hown; clear hown hgrow hat; obtain ⟨z110, z111, z112, z113, z114, z115, z116, z117, z118⟩ := HX11.out.box; obtain ⟨u110, u111, u112, u113, _, _, _, _, _⟩ := HA.out.stay HX11.out.below; have s11 := HX11.out.below.size)
              | (at_builtin; refine wpList_append_own_at _ rfl (.tmp 38) (.tmp 40) 30 rfl W.heap.size 35 i0 (.agg #[.int .u32 0, .string ⟨#[]⟩, .int .u8 0, .int .u32 0]) 4 32 Tryd.underlying30 hi hz0 hz1 hz2 rfl (by decide) _ l1.length _ rfl ((HX.out).o1.alloc _) ⟨wx.heap.size, 0, none⟩ 1 1 (cc y) rfl rfl (cells_new _ (cc y) _) (cc_one _) (by unfold maxLen; omega) (by omega) (by simp; omega) ?_; intro v10 w10 hown hgrow _ hat; have HX10 := Lib.hid ((HX.out).push1 hown hgrow hat); obtain ⟨r10, cap10, rfl⟩ := owns_form hown; clear hown hgrow hat; obtain ⟨z100, z101, z102, z103, z104, z105, z106, z107, z108⟩ := HX10.out.box; obtain ⟨u100, u101, u102, u103, _, _, _, _, _⟩ := HA.out.stay HX10.out.below; have s10 := HX10.out.below.size))
            go_wp2_with (at_builtin; refine wpList_append_own_at _ rfl (.tmp 69) (.tmp 71) 30 rfl W.heap.size 35 i0 (.agg #[.int .u32 0, .string ⟨#[]⟩, .int .u8 0, .int .u32 0]) 4 32 Tryd.underlying30 hi hz0 hz1 hz2 rfl (by decide) _ l3.length _ rfl ((HX11.out.sw13).o1.alloc _) ⟨w11.heap.size, 0, none⟩ 1 1 (cc y) rfl rfl (cells_new _ (cc y) _) (cc_one _) (by unfold maxLen; omega) (by omega) (by simp; omega) ?_; intro v20 w20 hown hgrow _ hat; have HX20 := Lib.hid ((HX11.out.sw13).push1 hown hgrow hat).sw13; obtain ⟨r20, cap20, rfl⟩ := owns_form hown; clear hown hgrow hat; obtain ⟨z200, z201, z202, z203, z204, z205, z206, z207, z208⟩ := HX20.out.box; obtain ⟨u200, u201, u202, u203, _, _, _, _, _⟩ := HA.out.stay HX20.out.below; have s20 := HX20.out.below.size)
            go_roundw
            case rel => exact ⟨k + 1, _, _, _, r10, cap10, r11, cap11, r20, cap20, l1 ++ [y], l2 ++ [y], l3 ++ [y], true, rfl, rfl, rfl, rfl, by go_num, by omega, by simp; omega, by simp; omega, by simp; omega, Lib.hid ⟨by simp, by simp, by simp⟩, HST, Lib.hid (HX20.out.tri)⟩
            case measure => simp [intOf]; omega
    · obtain rfl : k = L := by omega
      have HO1 : Hid (outA c n = l1) := Lib.hid (by rw [← HTL.out.1]; exact HW.out.1)
      have HO3 : Hid (moveA c n t ht4 = l3) := Lib.hid (by rw [← HTL.out.2.2]; exact HW.out.2.2)
      have HO2 := Lib.hid (HTL.out.2.1 l2 d HW.out.2.1)
      have HB := Lib.hid HT.out.below
      rw [HO1.out] at F1 HOL
      rw [HO3.out] at F3 HOL
      cases d
      · have HO2' : Hid (l2 ++ [a] = withA c a) := Lib.hid (by have := HO2.out; simpa using this)
        rw [← HO2'.out] at F2 HOL
        obtain ⟨u0, u1, u2, u3, _, _, _, _, _⟩ := HA.out.stay HB.out
        have hs := HB.out.size
        clear HO1 HO2 HO3 HTL HT0 HW HLN
        go_upto_region 23 with (at_builtin; refine wpList_append_own_at _ rfl (.tmp 76) (.tmp 78) 30 rfl W.heap.size 35 i0 (.agg #[.int .u32 0, .string ⟨#[]⟩, .int .u8 0, .int .u32 0]) 4 32 Tryd.underlying30 hi hz0 hz1 hz2 rfl (by decide) _ l2.length _ rfl (HT.out.o2.alloc _) ⟨wr.heap.size, 0, none⟩ 1 1 (cc a) rfl rfl (cells_new _ (cc a) _) (cc_one _) (by unfold maxLen; omega) (by omega) (by simp; omega) ?_; intro v9 w9 hown hgrow _ hat; obtain ⟨r9, cap9, rfl⟩ := owns_form hown; have HO9 := Lib.hid hown; have HG9 := Lib.hid hgrow; clear hown hgrow hat)
        have HB9 : Hid (Below W.heap.size W w9) := Lib.hid ((HB.out.alloc hs _).grown HG9.out (by simp; omega) (fun j hj => (HT.out.o2.lt j hj).1))
        have HTN : Hid (Trn w9 (.slice rc k capc) (.slice rw k capw) (.slice r1 m1 cap1) (.slice r9 (l2.length + 1) cap9) (.slice r3 m3 cap3) c l1 (l2 ++ [a]) l3 X a) := Lib.hid ⟨HC.out.stay HB9.out, HV.out.stay HB9.out, recs_of_owns cc_len ((HT.out.o1.alloc _).kept HG9.out HT.out.a12.1) rfl (by omega), recs_of_owns cc_len (show w9.ownsRow W.heap.size 35 4 (.slice r9 (l2.length + 1) cap9) (l2.length + 1) ((l2 ++ [a]).flatMap cc) by rw [flat_snoc]; exact HO9.out) (by simp) (by omega), recs_of_owns cc_len ((HT.out.o3.alloc _).kept HG9.out HT.out.a23.2) rfl (by omega), HA.out.stay HB9.out⟩
        have HBB := Lib.hid (HBW2.out _ HB9.out)
        clear HT HB HB9 HG9 HO9 HA HC HV u0 u1 u2 u3 hs HBW2 HO2'
        generalize l2 ++ [a] = l4 at *
        generalize l2.length + 1 = m4 at *
        go_wp2_with (first
          | (go_at_call 24; refine (F4.out _ _ _ _ HT6.out.recs HT6.out.was).mono ?_; rintro e q7 ⟨rfl, hb⟩; have HB7 := Lib.hid (HB6.out.trans (hb.mono HB6.out.size)); clear hb)
          | (go_at_call 24; refine (F4.out _ _ _ _ HE5.out HT5.out.e3).mono ?_; rintro e q6 ⟨rfl, hb⟩; have HT6 := Lib.hid (HT5.out.stay hb); have HB6 := Lib.hid (HB5.out.trans (hb.mono HB5.out.size)); clear hb)
          | (go_at_call 27; refine (F3.out _ _ HT4.out.recs).mono ?_; rintro e q5 ⟨x5, rfl, ho, hb⟩; have HE5 := Lib.hid (recs_of_owns cc_len ho rfl (by have := HOL.out; omega)); have HT5 := Lib.hid (HT4.out.stay hb); have HB5 := Lib.hid (HB4.out.trans (hb.mono HB4.out.size)); clear ho hb)
          | (go_at_call 24; refine (F4.out _ _ _ _ HE3.out HT3.out.e2).mono ?_; rintro e q4 ⟨rfl, hb⟩; have HT4 := Lib.hid (HT3.out.stay hb); have HB4 := Lib.hid (HB3.out.trans (hb.mono HB3.out.size)); clear hb)
          | (go_at_call 26; refine (F2.out _ _ _ HT2.out.recs hc3).mono ?_; rintro e q3 ⟨x3, rfl, ho, hb⟩; have HE3 := Lib.hid (recs_of_owns cc_len ho rfl (by have := HOL.out; omega)); have HT3 := Lib.hid (HT2.out.stay hb); have HB3 := Lib.hid (HB2.out.trans (hb.mono HB2.out.size)); clear ho hb)
          | (go_at_call 24; refine (F4.out _ _ _ _ HE1.out HT1.out.e1).mono ?_; rintro e q2 ⟨rfl, hb⟩; have HT2 := Lib.hid (HT1.out.stay hb); have HB2 := Lib.hid (HB1.out.trans (hb.mono HB1.out.size)); obtain ⟨p0, p1, p2, p3, _, _, _, _, _⟩ := HT2.out.bx; clear hb)
          | (go_at_call 25; refine (F1.out _ _ _ HTN.out.recs hc3).mono ?_; rintro e q1 ⟨x1, rfl, ho, hb⟩; have HE1 := Lib.hid (recs_of_owns cc_len ho rfl (by have := HOL.out; omega)); have HT1 := Lib.hid (HTN.out.stay hb); have HB1 := Lib.hid (HBB.out.trans (hb.mono HBB.out.size)); clear ho hb))
        go_ret
        exact ⟨by simp, HB7.out⟩
      · have HO2' : Hid (l2 = withA c a) := Lib.hid (by have := HO2.out; simpa using this)
        rw [← HO2'.out] at F2 HOL
        have HTN : Hid (Trn wr (.slice rc k capc) (.slice rw k capw) (.slice r1 m1 cap1) (.slice r2 m2 cap2) (.slice r3 m3 cap3) c l1 l2 l3 X a) := Lib.hid ⟨HC.out.stay HB.out, HV.out.stay HB.out, recs_of_owns cc_len HT.out.o1 rfl (by omega), recs_of_owns cc_len HT.out.o2 rfl (by omega), recs_of_owns cc_len HT.out.o3 rfl (by omega), HA.out.stay HB.out⟩
        have HBB := Lib.hid (HBW2.out _ HB.out)
        clear HT HB HA HC HV HBW2 HO1 HO2 HO3 HTL HT0 HW HLN HO2'
        go_wp2_with (first
          | (go_at_call 24; refine (F4.out _ _ _ _ HT6.out.recs HT6.out.was).mono ?_; rintro e q7 ⟨rfl, hb⟩; have HB7 := Lib.hid (HB6.out.trans (hb.mono HB6.out.size)); clear hb)
          | (go_at_call 24; refine (F4.out _ _ _ _ HE5.out HT5.out.e3).mono ?_; rintro e q6 ⟨rfl, hb⟩; have HT6 := Lib.hid (HT5.out.stay hb); have HB6 := Lib.hid (HB5.out.trans (hb.mono HB5.out.size)); clear hb)
          | (go_at_call 27; refine (F3.out _ _ HT4.out.recs).mono ?_; rintro e q5 ⟨x5, rfl, ho, hb⟩; have HE5 := Lib.hid (recs_of_owns cc_len ho rfl (by have := HOL.out; omega)); have HT5 := Lib.hid (HT4.out.stay hb); have HB5 := Lib.hid (HB4.out.trans (hb.mono HB4.out.size)); clear ho hb)
          | (go_at_call 24; refine (F4.out _ _ _ _ HE3.out HT3.out.e2).mono ?_; rintro e q4 ⟨rfl, hb⟩; have HT4 := Lib.hid (HT3.out.stay hb); have HB4 := Lib.hid (HB3.out.trans (hb.mono HB3.out.size)); clear hb)
          | (go_at_call 26; refine (F2.out _ _ _ HT2.out.recs hc3).mono ?_; rintro e q3 ⟨x3, rfl, ho, hb⟩; have HE3 := Lib.hid (recs_of_owns cc_len ho rfl (by have := HOL.out; omega)); have HT3 := Lib.hid (HT2.out.stay hb); have HB3 := Lib.hid (HB2.out.trans (hb.mono HB2.out.size)); clear ho hb)
          | (go_at_call 24; refine (F4.out _ _ _ _ HE1.out HT1.out.e1).mono ?_; rintro e q2 ⟨rfl, hb⟩; have HT2 := Lib.hid (HT1.out.stay hb); have HB2 := Lib.hid (HB1.out.trans (hb.mono HB1.out.size)); obtain ⟨p0, p1, p2, p3, _, _, _, _, _⟩ := HT2.out.bx; clear hb)
          | (go_at_call 25; refine (F1.out _ _ _ HTN.out.recs hc3).mono ?_; rintro e q1 ⟨x1, rfl, ho, hb⟩; have HE1 := Lib.hid (recs_of_owns cc_len ho rfl (by have := HOL.out; omega)); have HT1 := Lib.hid (HTN.out.stay hb); have HB1 := Lib.hid (HBB.out.trans (hb.mono HBB.out.size)); clear ho hb))
        go_ret
        exact ⟨by simp, HB7.out⟩
end Go.Proofs.YtdhgkggcnilgoaaDoor

/- The walk of law CalendarChecks; written by a program (jhgen.py). -/
import Derived.Test.YtmbfnbbgphpcgaaGreatDoorJc
import Derived.Test.YtmbfnbbgphpcgaaGreatDoorOb
import Derived.Test.YtmbfnbbgphpcgaaGreatDoorKb
import Derived.Maps.AppendAt
import Derived.Deep.CutBlock
import Derived.Deep.DeepCutAuto
import Derived.Lib.SliceRun
namespace Go.Proofs.YtmbfnbbgphpcgaaGreatDoor
open Go.RowKit
set_option linter.unusedVariables false
set_option linter.unusedSimpArgs false
theorem owns_down {w : World} {base base' : Nat} {e : TypeId} {size : Nat} {v : Value} {n : Nat} {xs : List Value} (h : w.ownsRow base e size v n xs) (hb : base' ≤ base) : w.ownsRow base' e size v n xs := by
  refine ⟨h.1, ?_⟩
  rcases h.2 with h0 | ⟨g, cap, cur, h1, h2, h3⟩
  · exact .inl h0
  · exact .inr ⟨g, cap, cur, h1, Nat.le_trans hb h2, h3⟩
theorem below_at {w w' : World} (hb : Below w.heap.size w w') {p : Addr} {u : Value} (h : w.cell? p = some u) : w'.cell? p = some u := by
  rw [hb.cell (World.block_lt_of_cell? w p h)]; exact h
theorem load_sl (w : World) (b o : Nat) (v : Value) (h : w.cell? ⟨b, o, none⟩ = some v) : (Instr.loadAt 24 (.pointer (some ⟨b, o, none⟩))).run Tryz.prog w = .ok v w := by
  go_simp
theorem load_d (w : World) (b o : Nat) (v : Value) (h : w.cell? ⟨b, o, none⟩ = some v) : (Instr.loadAt 25 (.pointer (some ⟨b, o, none⟩))).run Tryz.prog w = .ok v w := by
  go_simp
theorem op_one {ops : Array Oper} {Q : Exit → Act → World → Prop} {i : Nat} {K : Act → World → Prop} {a : Act} {w : World} (dst : Option Tmp) (t : Tmp) (ho : opIs ops i (.buildSlice 24 1 #[(0, .tmp t)]) dst) (E : Int) (hx : a.eval (.tmp t) = .int .i32 E)
    (hk : K (a.put dst (.slice (some ⟨w.heap.size, 0, none⟩) 1 1)) (w.alloc (.cells #[.int .i32 E] 25))) : wpOp Tryz.prog ops Q i K a w := by
  have hx2 : a.tmps[t]?.getD undef = .int .i32 E := by simpa [go_sem] using hx
  refine op_any ho (fun o h1 h2 => ?_)
  subst h2
  unfold Oper.wp execOp
  simp only [h1]
  go_simp
  exact hk
set_option maxHeartbeats 1000000 in
set_option maxRecDepth 100000 in
theorem clone_d (xs : List Int) (r : Option Addr) (n cap : Nat) (w : World) (hR : Recs dcl 1 w (.slice r n cap) xs) (hn : xs.length = n) (hl : n ≤ 1000) :
    Calls Tryz.prog 9 #[.slice r n cap] w fun e w' => ∃ v', e = .returned v' ∧ w'.ownsRow w.heap.size 25 1 v' n (xs.flatMap dcl) ∧ Below w.heap.size w w' := by
  obtain ⟨i0, hi, hz0, hz1, hz2⟩ := info_parts infoD
  have q22 : ∀ (w : World) (a : Option Addr) (n c n' c' : Nat), (binOp .eql 24 (.slice a n c) (.slice none n' c')).run Tryz.prog w = .ok (.bool a.isNone) w := fun w a n c n' c' => Lib.run_eql_slice_nil w _ _ a n c n' c' Tryz.underlying24
  have hlen : (xs.flatMap dcl).length = n * 1 := by rw [flat_len dcl_len, hn]
  cases r with
  | none =>
    have h0 : n = 0 := by
      rcases hR with ⟨_, _, h1, h2⟩ | ⟨_, _, _, h1, _⟩
      · cases h1; rfl
      · cases h1
    subst h0
    have hx : xs.flatMap dcl = [] := List.eq_nil_of_length_eq_zero (by simpa using hlen)
    rw [hx]
    clear hR hlen hx
    go_enter Tryz.func9, Tryz.ntmps9
    go_wp2
    go_ret
    exact ⟨_, rfl, World.ownsRow_nil _ _ _ _, Below.refl _ _⟩
  | some ad =>
    have HC := Lib.hid (show ∀ j u, (xs.flatMap dcl)[j]? = some u → (w.alloc (.cells #[] 25)).cell? (ad.add j) = some u from fun j u hu => by
      rcases hR with ⟨_, _, h1, h2⟩ | ⟨g, off, c, h1, hg, h3, h4, h5⟩
      · rw [h2] at hu; simp at hu
      · cases h1
        have e : (⟨g, off, none⟩ : Addr).add j = ⟨g, off + j, none⟩ := by unfold Addr.add; split <;> simp_all
        rw [e, World.cell?_alloc_lt _ _ _ hg]
        exact recs_flat dcl_len (by omega) (.inr ⟨g, off, cap, rfl, hg, h3, h4, h5⟩) j u hu)
    have h1 := flat_one dcl_one xs
    clear hR
    generalize xs.flatMap dcl = zs at *
    go_enter Tryz.func9, Tryz.ntmps9
    go_wp2_with (at_builtin; refine wpList_append_own _ rfl (.tmp 5) (.tmp 6) 24 rfl w.heap.size 25 i0 (.int .i32 0) 1 4 Tryz.underlying24 hi hz0 hz1 hz2 rfl (by decide) _ 0 [] rfl (World.ownsRow_made w #[] 0 (Nat.le_refl _) (by decide) (by simp)) ad n cap zs rfl hlen HC.out h1 (by unfold maxLen; omega) (by omega) (by simp) ?_; intro v3 w3 hown3 hgrow3 _)
    go_ret
    refine ⟨_, rfl, by simpa using hown3, ((Below.refl _ _).alloc (Nat.le_refl _) _).grown hgrow3 (by simp) (fun k hk => by have e : some w.heap.size = some k := hk; injection e with e; omega)⟩
/-- Where the search for what is wrong stands. -/
def ChkD (us : List Int) (k : Nat) : Prop := ∃ h : Option Int, chkD1 none us = chkD1 h (us.drop k) ∧ (k = 0 → h = none) ∧ ∀ p, p + 1 = k → h = us[p]?
theorem ChkD.start (us : List Int) : ChkD us 0 := ⟨none, rfl, fun _ => rfl, fun p h => by omega⟩
theorem drop_at' {α : Type} {l : List α} {k : Nat} {x : α} (h : l[k]? = some x) : l.drop k = x :: l.drop (k + 1) := by
  obtain ⟨hk, e⟩ := List.getElem?_eq_some_iff.1 h
  rw [List.drop_eq_getElem_cons hk, e]
theorem ChkD.range {us : List Int} {k : Nat} {x : Int} (h : ChkD us k) (hx : us[k]? = some x) (hr : x < -719162 ∨ 2932896 < x) : chkD1 none us = 13 := by
  obtain ⟨h0, h1, _⟩ := h
  rw [h1, drop_at' hx, chkD1, if_pos hr]
theorem ChkD.order {us : List Int} {p q : Nat} {x y : Int} (h : ChkD us q) (hq : p + 1 = q) (hy : us[p]? = some y) (hx : us[q]? = some x) (hr : ¬ (x < -719162 ∨ 2932896 < x)) (hyx : x ≤ y) : chkD1 none us = 6 := by
  obtain ⟨h0, h1, _, h3⟩ := h
  have := h3 p hq
  rw [hy] at this
  subst this
  rw [h1, drop_at' hx, chkD1, if_neg hr, if_pos ⟨y, rfl, hyx⟩]
theorem ChkD.step {us : List Int} {k : Nat} {x : Int} (h : ChkD us k) (hx : us[k]? = some x) (hr : ¬ (x < -719162 ∨ 2932896 < x)) (hy : ∀ p y, p + 1 = k → us[p]? = some y → y < x) : ChkD us (k + 1) := by
  obtain ⟨h0, h1, h2, h3⟩ := h
  refine ⟨some x, ?_, fun e => by omega, fun p hp => by
    obtain rfl : p = k := by omega
    exact hx.symm⟩
  rw [h1, drop_at' hx, chkD1, if_neg hr, if_neg]
  rintro ⟨b, hb, hxb⟩
  by_cases hk : k = 0
  · rw [h2 hk] at hb; cases hb
  · obtain ⟨p, rfl⟩ : ∃ p, k = p + 1 := ⟨k - 1, by omega⟩
    have := hy p b rfl ((h3 p rfl).symm.trans hb)
    omega
theorem ChkD.done {us : List Int} {k : Nat} (h : ChkD us k) (hk : us.length ≤ k) : chkD1 none us = 0 := by
  obtain ⟨h0, h1, _⟩ := h
  rw [h1, List.drop_eq_nil_of_le hk]; rfl
def cutD (big : Bool) (n : Int) : Int := if big then n else n.tmod 100000
theorem cutD_range {big : Bool} {n : Int} (h : I32 n) : I32 (cutD big n) := by
  unfold cutD
  split
  · exact h
  · have h1 := Int.lt_tmod_of_pos n (show (0 : Int) < 100000 by omega)
    have h2 := Int.tmod_lt_of_pos n (show (0 : Int) < 100000 by omega)
    unfold I32
    omega
theorem num_ex1 : numD 1 1 1 = -719162 := by decide
theorem num_ex2 : numD 9999 12 31 = 2932896 := by decide
set_option maxHeartbeats 8000000 in
set_option maxRecDepth 100000 in
theorem calchecks_any {I : World → Prop} (C : AllotC) (D : DayC I) (K : KeyC I) (U : UnitC) (LC : CalC I) (v : Value) (l : List Int) (E : Int) (big : Bool) (w : World) (hI : I w) (hR : Recs dcl 1 w v l) (hl : ∀ x ∈ l, I32 x) (hE : I32 E) :
    Calls Tryz.prog 3 #[v, .int .i32 E, .bool big] w fun e w' => e = .returned (.bool true) ∧ Below w.heap.size w w' := by
  obtain ⟨i0, hi, hz0, hz1, hz2⟩ := info_parts infoD
  obtain ⟨r0, cap0, rfl, hm⟩ := hR.form
  have HW := Lib.hid (awake8_any C D K U LC w hI)
  have HI := Lib.hid (fun (w' : World) (h : Below w.heap.size w w') => D.stay hI h)
  have HR := Lib.hid hR
  have HLC := Lib.hid LC
  have HLl := Lib.hid hl
  have HE := Lib.hid hE
  have KN1 : Hid (∀ w, Calls Tryz.prog 10 #[.int .i64 1, .int .i64 1, .int .i64 1] w fun e w' => e = .returned (.int .i64 (-719162)) ∧ w' = w) := Lib.hid (fun w => (number_of 1 1 1 w (by omega) (by omega) (by omega) (by omega) (by omega) (by omega)).mono fun e w' ⟨h1, h2⟩ => ⟨by rw [h1, num_ex1], h2.symm⟩)
  have KN2 : Hid (∀ w, Calls Tryz.prog 10 #[.int .i64 9999, .int .i64 12, .int .i64 31] w fun e w' => e = .returned (.int .i64 2932896) ∧ w' = w) := Lib.hid (fun w => (number_of 9999 12 31 w (by omega) (by omega) (by omega) (by omega) (by omega) (by omega)).mono fun e w' ⟨h1, h2⟩ => ⟨by rw [h1, num_ex2], h2.symm⟩)
  obtain ⟨L, hL⟩ : ∃ L, l.length = L := ⟨_, rfl⟩
  have HL := Lib.hid hL
  rw [hL] at HR hm ⊢
  unfold I32 at hE
  clear hR hl hL C D K U LC hI
  go_enter Tryz.func3, Tryz.ntmps3
  by_cases hbig : 70 < L
  · have e1 : (70 : Int) < (L : Int) := by omega
    go_wp2_with (go_at_call 8; refine HW.out.mono ?_; rintro e w1 ⟨rfl, h1⟩; have HB1 := Lib.hid h1; clear h1)
    go_ret
    exact ⟨rfl, HB1.out⟩
  · have e1 : ¬ (70 : Int) < (L : Int) := by omega
    go_upto_region 6 with (go_at_call 8; refine HW.out.mono ?_; rintro e w1 ⟨rfl, h1⟩; have HB1 := Lib.hid h1; clear h1)
    have hby := Box2.new w1 (.slice none 0 0) (.int .i32 0) 27
    have hba := (Below.refl w1.heap.size w1).alloc (Nat.le_refl _) (.cells #[.slice none 0 0, .int .i32 0] 27)
    have HBY := Lib.hid hby
    have HBV := Lib.hid hba
    have HRl := Lib.hid (HR.out.stay HB1.out)
    clear hby hba HR
    generalize w1.alloc (.cells #[.slice none 0 0, .int .i32 0] 27) = W at HBY HBV ⊢
    go_wp2_with fail
    go_loopw [21] (fun i wr => ∃ (k : Nat) (r : Option Addr) (cap : Nat), i = .int .i64 k ∧ k ≤ L ∧ Hid (wr.ownsRow w1.heap.size 25 1 (.slice r k cap) k (((l.take k).map (cutD big)).flatMap dcl)) ∧ Hid ((Value.slice r k cap).ownBlock ≠ some w1.heap.size) ∧ Hid (Box2 wr w1.heap.size (.slice r k cap) (.int .i32 0)) ∧ Hid (Below w1.heap.size w1 wr)) (fun i _ => L - (intOf i).toNat)
    case atStart => exact ⟨0, none, 0, rfl, Nat.zero_le _, Lib.hid (World.ownsRow_nil _ _ _ _), Lib.hid (fun e => by cases e), HBY, HBV⟩
    case round =>
      clear HBY HBV
      obtain ⟨k, r, cap, rfl, hk, HO, HN, HY, HBk⟩ := hrel
      rename World => wr
      have hbs := HBk.out.size
      obtain ⟨y0, y1, y2, y3, hYs⟩ := HY.out
      by_cases hlt : k < L
      · obtain ⟨x, hx⟩ : ∃ x, l[k]? = some x := ⟨l[k]'(by have := HL.out; omega), List.getElem?_eq_getElem (by have := HL.out; omega)⟩
        obtain ⟨g, off, rfl, hg, hc⟩ := (HRl.out.stay HBk.out).at hx
        have c0 := hc 0 _ rfl
        simp only [Nat.mul_one, Nat.add_zero] at c0
        have hxr := HLl.out x (List.mem_of_getElem? hx)
        obtain ⟨z, hz⟩ : ∃ z, cutD big x = z := ⟨_, rfl⟩
        have hzr := hz ▸ cutD_range (big := big) hxr
        unfold I32 at hzr hxr
        have e5 : IntKind.i32.wrap z = z := by rw [IntKind.wrap_i32]; omega
        have HOL := Lib.hid HO.out.lt
        have HXZ := Lib.hid (And.intro hx hz)
        clear hc hx
        cases big
        all_goals
          simp only [cutD, if_true, Bool.false_eq_true, if_false] at hz
          first | subst hz | skip
          go_wp2_with (at_builtin; refine wpList_append_own_at _ rfl (.tmp 30) (.tmp 32) 24 rfl w1.heap.size 25 i0 (.int .i32 0) 1 4 Tryz.underlying24 hi hz0 hz1 hz2 rfl (by decide) _ k _ rfl (HO.out.alloc _) ⟨_, 0, none⟩ 1 1 (dcl _) rfl rfl (cells_new _ (dcl _) _) (dcl_one _) (by unfold maxLen; omega) (by omega) (by simp; omega) ?_; intro v3 w3 hown3 hgrow3 _ hat3; have HB3 := Lib.hid ((HBk.out.alloc hbs _).grown hgrow3 (by simp; omega) (fun j hj => (HOL.out j hj).1)); have HO3 := Lib.hid hown3; have HY3 := Lib.hid ((HY.out.alloc _).grown hgrow3 (fun e => HN.out e.symm)); obtain ⟨r3, cap3, rfl⟩ := owns_form hown3; obtain ⟨q0, q1, q2, q3, q4⟩ := HY3.out; have HAT := Lib.hid hat3; clear hgrow3 hown3 hat3)
          go_roundw
          case rel =>
            have hl := (List.getElem?_eq_some_iff.1 HXZ.out.1).1
            have ne1 : (Value.slice r3 (k + 1) cap3).ownBlock ≠ some w1.heap.size := fun e => by
              rcases HAT.out with h | h
              · exact HN.out (h.symm.trans e)
              · rw [h] at e
                have := Option.some.inj e
                rw [World.size_alloc] at this
                omega
            have et := List.take_succ_eq_append_getElem hl
            have ex := HXZ.out.1
            rw [List.getElem?_eq_getElem hl] at ex
            have ex := Option.some.inj ex
            refine ⟨k + 1, r3, cap3, by go_num, by omega, Lib.hid (owns_set_far ?_ _ _ ne1), Lib.hid ne1, Lib.hid (HY3.out.set0 _), Lib.hid (HB3.out.setCell (Nat.le_refl _) _)⟩
            rw [et, ex, List.map_append, List.flatMap_append]
            have h9 := HO3.out
            rw [List.map_cons, HXZ.out.2]
            simpa using h9
          case measure => simp [intOf]; omega
      · obtain rfl : k = L := by omega
        have hfull : (l.take k) = l := List.take_of_length_le (by rw [HL.out]; exact Nat.le_refl _)
        rw [hfull] at HO
        go_upto_region 15 with fail
        have HU := Lib.hid (HY.out.set1 (.int .i32 E))
        have HOU := Lib.hid (owns_set_far HO.out ⟨w1.heap.size, 1, none⟩ (.int .i32 E) HN.out)
        have HBU := Lib.hid (HBk.out.setCell (p := ⟨w1.heap.size, 1, none⟩) (Nat.le_refl _) (.int .i32 E))
        clear y0 y1 y2 y3 hYs HY HO HN HBk hfull hbs
        generalize wr.setCell ⟨w1.heap.size, 1, none⟩ (.int .i32 E) = U at HU HOU HBU ⊢
        have hUs := HBU.out.size
        generalize hXe : w1.heap.size = X at HU ⊢
        obtain ⟨ds, hds⟩ : ∃ ds, l.map (cutD big) = ds := ⟨_, rfl⟩
        have HDL : Hid (ds.length = k ∧ ∀ x ∈ ds, I32 x) := Lib.hid ⟨by rw [← hds, List.length_map, HL.out], fun x hx => by
          rw [← hds] at hx
          obtain ⟨y, hy, rfl⟩ := List.mem_map.1 hx
          exact cutD_range (HLl.out y hy)⟩
        rw [hds] at HOU
        have HRU := Lib.hid (recs_of_owns dcl_len HOU.out HDL.out.1.symm (by omega))
        have HKC := Lib.hid (fun (w' : World) (h : Below U.heap.size U w') => clone_d ds r k cap w' (HRU.out.stay h) HDL.out.1 (by omega))
        clear hds hXe
        go_cut [11] (fun s11 wx => ∃ (r9 : Option Addr) (cap9 : Nat), s11 = .slice r9 (k + 1) cap9 ∧ Hid (wx.ownsRow U.heap.size 25 1 (.slice r9 (k + 1) cap9) (k + 1) ((ds ++ [E]).flatMap dcl)) ∧ Hid (Below U.heap.size U wx))
        case first =>
          refine wp_region_any (by kernel_rfl) ?_
          change wpAny _ _ _ _ _ _ _ (World.drew _)
          have bl0 : Below U.heap.size U U.drew := (Below.refl _ _).drew
          refine wpAny_take (i := 0) (v := .pointer (some ⟨X, 0, none⟩)) rfl (by kernel_rfl) (by kernel_rfl) (by kernel_rfl) (fun _ _ _ h => h) (Or.inl ⟨by rfl, ?_⟩) ?_
          · intro w'; go_simp
          refine wpAny_take (i := 3) (v := .pointer (some ⟨X, 1, none⟩)) rfl (by kernel_rfl) (by kernel_rfl) (by kernel_rfl) (fun _ _ _ h => h) (Or.inl ⟨by rfl, ?_⟩) ?_
          · intro w'; go_simp
          simp only [Act.put, List.getElem_toArray, List.getElem_cons_zero, List.getElem_cons_succ, List.setIfInBounds_toArray, List.set_cons_zero, List.set_cons_succ]
          refine any2 1 4 (by kernel_rfl) ?_ ?_
          · skip
            refine op_load 24 (.tmp 38) (some 39) (by unfold opIs; kernel_rfl) (.pointer (some ⟨X, 0, none⟩)) (.slice r k cap) (by kernel_rfl) (load_sl _ _ _ _ (HU.out.stay bl0).a0) ?_
            simp only [Act.put, List.getElem_toArray, List.getElem_cons_zero, List.getElem_cons_succ, List.setIfInBounds_toArray, List.set_cons_zero, List.set_cons_succ]
            refine any2 2 4 (by kernel_rfl) ?_ ?_
            · skip
              refine op_call (.call { callee := .value (.func 9), args := #[.tmp 39], argTypes := #[24] }) (some 40) (by unfold opIs; kernel_rfl) 9 #[.slice r k cap] (fun o ho => by unfold execOp; rw [ho]; kernel_rfl) (HKC.out _ bl0) ?_
              rintro e x1 ⟨v1, rfl, ho1, hb1⟩
              refine ⟨_, rfl, ?_⟩
              have bl1 := bel_call bl0 hb1
              have ow1 := owns_down ho1 bl0.size
              simp only [Act.put, List.getElem_toArray, List.getElem_cons_zero, List.getElem_cons_succ, List.setIfInBounds_toArray, List.set_cons_zero, List.set_cons_succ]
              refine any1 4 (by kernel_rfl) ?_
              refine op_load 25 (.tmp 41) (some 42) (by unfold opIs; kernel_rfl) (.pointer (some ⟨X, 1, none⟩)) (.int .i32 E) (by kernel_rfl) (load_d _ _ _ _ (HU.out.stay bl1).a1) ?_
              simp only [Act.put, List.getElem_toArray, List.getElem_cons_zero, List.getElem_cons_succ, List.setIfInBounds_toArray, List.set_cons_zero, List.set_cons_succ]
              refine any1 5 (by kernel_rfl) ?_
              refine op_one (some 43) 42 (by unfold opIs; kernel_rfl) E (by kernel_rfl) ?_
              simp only [Act.put, List.getElem_toArray, List.getElem_cons_zero, List.getElem_cons_succ, List.setIfInBounds_toArray, List.set_cons_zero, List.set_cons_succ]
              have bl2 := bel_new bl1 (.cells #[.int .i32 E] 25)
              refine any1 6 (by kernel_rfl) ?_
              refine op_any (op := .call { callee := .builtin .append, args := #[.tmp 40, .tmp 43], argTypes := #[24, 24] }) (dst := some 44) (by unfold opIs; kernel_rfl) (fun o h1 h2 => ?_)
              refine wp_append_own _ (.tmp 40) (.tmp 43) 24 h1 U.heap.size 25 i0 (.int .i32 0) 1 4 Tryz.underlying24 hi hz0 hz1 hz2 rfl (by decide) v1 k _ (by kernel_rfl) (ow1.alloc _) ⟨_, 0, none⟩ 1 1 (dcl E) (by kernel_rfl) rfl (cells_new _ (dcl E) _) (dcl_one E) (by unfold maxLen; omega) (by omega) bl2.size (fun v9 x9 hown9 hgr9 _ => ?_)
              rw [h2]
              simp only [Act.put, List.getElem_toArray, List.getElem_cons_zero, List.getElem_cons_succ, List.setIfInBounds_toArray, List.set_cons_zero, List.set_cons_succ]
              have bl9 := bl2.grown hgr9 bl2.size (fun q hq => (ow1.lt q hq).1)
              refine any1 7 (by kernel_rfl) ?_
              refine op_any (op := .assign (.tmp 44)) (dst := some 11) (by unfold opIs; kernel_rfl) (fun o h3 h4 => ?_)
              unfold Oper.wp execOp
              simp only [h3, h4]
              go_simp
              try simp only [Act.put, List.getElem_toArray, List.getElem_cons_zero, List.getElem_cons_succ, List.setIfInBounds_toArray, List.set_cons_zero, List.set_cons_succ]
              refine wpAny_done (by kernel_rfl) ?_ _
              go_wp2_with fail
              obtain ⟨r9, cap9, rfl⟩ := owns_form hown9
              go_meet
              exact ⟨r9, cap9, rfl, Lib.hid (by rw [List.flatMap_append]; simpa using hown9), Lib.hid bl9⟩
            · skip
              refine op_load 25 (.tmp 41) (some 42) (by unfold opIs; kernel_rfl) (.pointer (some ⟨X, 1, none⟩)) (.int .i32 E) (by kernel_rfl) (load_d _ _ _ _ (HU.out.stay bl0).a1) ?_
              simp only [Act.put, List.getElem_toArray, List.getElem_cons_zero, List.getElem_cons_succ, List.setIfInBounds_toArray, List.set_cons_zero, List.set_cons_succ]
              refine any2 2 5 (by kernel_rfl) ?_ ?_
              · skip
                refine op_call (.call { callee := .value (.func 9), args := #[.tmp 39], argTypes := #[24] }) (some 40) (by unfold opIs; kernel_rfl) 9 #[.slice r k cap] (fun o ho => by unfold execOp; rw [ho]; kernel_rfl) (HKC.out _ bl0) ?_
                rintro e x3 ⟨v3, rfl, ho3, hb3⟩
                refine ⟨_, rfl, ?_⟩
                have bl3 := bel_call bl0 hb3
                have ow3 := owns_down ho3 bl0.size
                simp only [Act.put, List.getElem_toArray, List.getElem_cons_zero, List.getElem_cons_succ, List.setIfInBounds_toArray, List.set_cons_zero, List.set_cons_succ]
                refine any1 5 (by kernel_rfl) ?_
                refine op_one (some 43) 42 (by unfold opIs; kernel_rfl) E (by kernel_rfl) ?_
                simp only [Act.put, List.getElem_toArray, List.getElem_cons_zero, List.getElem_cons_succ, List.setIfInBounds_toArray, List.set_cons_zero, List.set_cons_succ]
                have bl4 := bel_new bl3 (.cells #[.int .i32 E] 25)
                refine any1 6 (by kernel_rfl) ?_
                refine op_any (op := .call { callee := .builtin .append, args := #[.tmp 40, .tmp 43], argTypes := #[24, 24] }) (dst := some 44) (by unfold opIs; kernel_rfl) (fun o h1 h2 => ?_)
                refine wp_append_own _ (.tmp 40) (.tmp 43) 24 h1 U.heap.size 25 i0 (.int .i32 0) 1 4 Tryz.underlying24 hi hz0 hz1 hz2 rfl (by decide) v3 k _ (by kernel_rfl) (ow3.alloc _) ⟨_, 0, none⟩ 1 1 (dcl E) (by kernel_rfl) rfl (cells_new _ (dcl E) _) (dcl_one E) (by unfold maxLen; omega) (by omega) bl4.size (fun v9 x9 hown9 hgr9 _ => ?_)
                rw [h2]
                simp only [Act.put, List.getElem_toArray, List.getElem_cons_zero, List.getElem_cons_succ, List.setIfInBounds_toArray, List.set_cons_zero, List.set_cons_succ]
                have bl9 := bl4.grown hgr9 bl4.size (fun q hq => (ow3.lt q hq).1)
                refine any1 7 (by kernel_rfl) ?_
                refine op_any (op := .assign (.tmp 44)) (dst := some 11) (by unfold opIs; kernel_rfl) (fun o h3 h4 => ?_)
                unfold Oper.wp execOp
                simp only [h3, h4]
                go_simp
                try simp only [Act.put, List.getElem_toArray, List.getElem_cons_zero, List.getElem_cons_succ, List.setIfInBounds_toArray, List.set_cons_zero, List.set_cons_succ]
                refine wpAny_done (by kernel_rfl) ?_ _
                go_wp2_with fail
                obtain ⟨r9, cap9, rfl⟩ := owns_form hown9
                go_meet
                exact ⟨r9, cap9, rfl, Lib.hid (by rw [List.flatMap_append]; simpa using hown9), Lib.hid bl9⟩
              · skip
                refine op_one (some 43) 42 (by unfold opIs; kernel_rfl) E (by kernel_rfl) ?_
                simp only [Act.put, List.getElem_toArray, List.getElem_cons_zero, List.getElem_cons_succ, List.setIfInBounds_toArray, List.set_cons_zero, List.set_cons_succ]
                have bl5 := bel_new bl0 (.cells #[.int .i32 E] 25)
                refine any1 2 (by kernel_rfl) ?_
                refine op_call (.call { callee := .value (.func 9), args := #[.tmp 39], argTypes := #[24] }) (some 40) (by unfold opIs; kernel_rfl) 9 #[.slice r k cap] (fun o ho => by unfold execOp; rw [ho]; kernel_rfl) (HKC.out _ bl5) ?_
                rintro e x6 ⟨v6, rfl, ho6, hb6⟩
                refine ⟨_, rfl, ?_⟩
                have bl6 := bel_call bl5 hb6
                have ow6 := owns_down ho6 bl5.size
                simp only [Act.put, List.getElem_toArray, List.getElem_cons_zero, List.getElem_cons_succ, List.setIfInBounds_toArray, List.set_cons_zero, List.set_cons_succ]
                refine any1 6 (by kernel_rfl) ?_
                refine op_any (op := .call { callee := .builtin .append, args := #[.tmp 40, .tmp 43], argTypes := #[24, 24] }) (dst := some 44) (by unfold opIs; kernel_rfl) (fun o h1 h2 => ?_)
                refine wp_append_own _ (.tmp 40) (.tmp 43) 24 h1 U.heap.size 25 i0 (.int .i32 0) 1 4 Tryz.underlying24 hi hz0 hz1 hz2 rfl (by decide) v6 k _ (by kernel_rfl) ow6 ⟨_, 0, none⟩ 1 1 (dcl E) (by kernel_rfl) rfl (fun q u hq => below_at hb6 (cells_new _ (dcl E) 25 q u hq)) (dcl_one E) (by unfold maxLen; omega) (by omega) bl6.size (fun v9 x9 hown9 hgr9 _ => ?_)
                rw [h2]
                simp only [Act.put, List.getElem_toArray, List.getElem_cons_zero, List.getElem_cons_succ, List.setIfInBounds_toArray, List.set_cons_zero, List.set_cons_succ]
                have bl9 := bl6.grown hgr9 bl6.size (fun q hq => (ow6.lt q hq).1)
                refine any1 7 (by kernel_rfl) ?_
                refine op_any (op := .assign (.tmp 44)) (dst := some 11) (by unfold opIs; kernel_rfl) (fun o h3 h4 => ?_)
                unfold Oper.wp execOp
                simp only [h3, h4]
                go_simp
                try simp only [Act.put, List.getElem_toArray, List.getElem_cons_zero, List.getElem_cons_succ, List.setIfInBounds_toArray, List.set_cons_zero, List.set_cons_succ]
                refine wpAny_done (by kernel_rfl) ?_ _
                go_wp2_with fail
                obtain ⟨r9, cap9, rfl⟩ := owns_form hown9
                go_meet
                exact ⟨r9, cap9, rfl, Lib.hid (by rw [List.flatMap_append]; simpa using hown9), Lib.hid bl9⟩
          · skip
            refine op_load 25 (.tmp 41) (some 42) (by unfold opIs; kernel_rfl) (.pointer (some ⟨X, 1, none⟩)) (.int .i32 E) (by kernel_rfl) (load_d _ _ _ _ (HU.out.stay bl0).a1) ?_
            simp only [Act.put, List.getElem_toArray, List.getElem_cons_zero, List.getElem_cons_succ, List.setIfInBounds_toArray, List.set_cons_zero, List.set_cons_succ]
            refine any2 1 5 (by kernel_rfl) ?_ ?_
            · skip
              refine op_load 24 (.tmp 38) (some 39) (by unfold opIs; kernel_rfl) (.pointer (some ⟨X, 0, none⟩)) (.slice r k cap) (by kernel_rfl) (load_sl _ _ _ _ (HU.out.stay bl0).a0) ?_
              simp only [Act.put, List.getElem_toArray, List.getElem_cons_zero, List.getElem_cons_succ, List.setIfInBounds_toArray, List.set_cons_zero, List.set_cons_succ]
              refine any2 2 5 (by kernel_rfl) ?_ ?_
              · skip
                refine op_call (.call { callee := .value (.func 9), args := #[.tmp 39], argTypes := #[24] }) (some 40) (by unfold opIs; kernel_rfl) 9 #[.slice r k cap] (fun o ho => by unfold execOp; rw [ho]; kernel_rfl) (HKC.out _ bl0) ?_
                rintro e x7 ⟨v7, rfl, ho7, hb7⟩
                refine ⟨_, rfl, ?_⟩
                have bl7 := bel_call bl0 hb7
                have ow7 := owns_down ho7 bl0.size
                simp only [Act.put, List.getElem_toArray, List.getElem_cons_zero, List.getElem_cons_succ, List.setIfInBounds_toArray, List.set_cons_zero, List.set_cons_succ]
                refine any1 5 (by kernel_rfl) ?_
                refine op_one (some 43) 42 (by unfold opIs; kernel_rfl) E (by kernel_rfl) ?_
                simp only [Act.put, List.getElem_toArray, List.getElem_cons_zero, List.getElem_cons_succ, List.setIfInBounds_toArray, List.set_cons_zero, List.set_cons_succ]
                have bl8 := bel_new bl7 (.cells #[.int .i32 E] 25)
                refine any1 6 (by kernel_rfl) ?_
                refine op_any (op := .call { callee := .builtin .append, args := #[.tmp 40, .tmp 43], argTypes := #[24, 24] }) (dst := some 44) (by unfold opIs; kernel_rfl) (fun o h1 h2 => ?_)
                refine wp_append_own _ (.tmp 40) (.tmp 43) 24 h1 U.heap.size 25 i0 (.int .i32 0) 1 4 Tryz.underlying24 hi hz0 hz1 hz2 rfl (by decide) v7 k _ (by kernel_rfl) (ow7.alloc _) ⟨_, 0, none⟩ 1 1 (dcl E) (by kernel_rfl) rfl (cells_new _ (dcl E) _) (dcl_one E) (by unfold maxLen; omega) (by omega) bl8.size (fun v9 x9 hown9 hgr9 _ => ?_)
                rw [h2]
                simp only [Act.put, List.getElem_toArray, List.getElem_cons_zero, List.getElem_cons_succ, List.setIfInBounds_toArray, List.set_cons_zero, List.set_cons_succ]
                have bl9 := bl8.grown hgr9 bl8.size (fun q hq => (ow7.lt q hq).1)
                refine any1 7 (by kernel_rfl) ?_
                refine op_any (op := .assign (.tmp 44)) (dst := some 11) (by unfold opIs; kernel_rfl) (fun o h3 h4 => ?_)
                unfold Oper.wp execOp
                simp only [h3, h4]
                go_simp
                try simp only [Act.put, List.getElem_toArray, List.getElem_cons_zero, List.getElem_cons_succ, List.setIfInBounds_toArray, List.set_cons_zero, List.set_cons_succ]
                refine wpAny_done (by kernel_rfl) ?_ _
                go_wp2_with fail
                obtain ⟨r9, cap9, rfl⟩ := owns_form hown9
                go_meet
                exact ⟨r9, cap9, rfl, Lib.hid (by rw [List.flatMap_append]; simpa using hown9), Lib.hid bl9⟩
              · skip
                refine op_one (some 43) 42 (by unfold opIs; kernel_rfl) E (by kernel_rfl) ?_
                simp only [Act.put, List.getElem_toArray, List.getElem_cons_zero, List.getElem_cons_succ, List.setIfInBounds_toArray, List.set_cons_zero, List.set_cons_succ]
                have bl9 := bel_new bl0 (.cells #[.int .i32 E] 25)
                refine any1 2 (by kernel_rfl) ?_
                refine op_call (.call { callee := .value (.func 9), args := #[.tmp 39], argTypes := #[24] }) (some 40) (by unfold opIs; kernel_rfl) 9 #[.slice r k cap] (fun o ho => by unfold execOp; rw [ho]; kernel_rfl) (HKC.out _ bl9) ?_
                rintro e x10 ⟨v10, rfl, ho10, hb10⟩
                refine ⟨_, rfl, ?_⟩
                have bl10 := bel_call bl9 hb10
                have ow10 := owns_down ho10 bl9.size
                simp only [Act.put, List.getElem_toArray, List.getElem_cons_zero, List.getElem_cons_succ, List.setIfInBounds_toArray, List.set_cons_zero, List.set_cons_succ]
                refine any1 6 (by kernel_rfl) ?_
                refine op_any (op := .call { callee := .builtin .append, args := #[.tmp 40, .tmp 43], argTypes := #[24, 24] }) (dst := some 44) (by unfold opIs; kernel_rfl) (fun o h1 h2 => ?_)
                refine wp_append_own _ (.tmp 40) (.tmp 43) 24 h1 U.heap.size 25 i0 (.int .i32 0) 1 4 Tryz.underlying24 hi hz0 hz1 hz2 rfl (by decide) v10 k _ (by kernel_rfl) ow10 ⟨_, 0, none⟩ 1 1 (dcl E) (by kernel_rfl) rfl (fun q u hq => below_at hb10 (cells_new _ (dcl E) 25 q u hq)) (dcl_one E) (by unfold maxLen; omega) (by omega) bl10.size (fun v9 x9 hown9 hgr9 _ => ?_)
                rw [h2]
                simp only [Act.put, List.getElem_toArray, List.getElem_cons_zero, List.getElem_cons_succ, List.setIfInBounds_toArray, List.set_cons_zero, List.set_cons_succ]
                have bl9 := bl10.grown hgr9 bl10.size (fun q hq => (ow10.lt q hq).1)
                refine any1 7 (by kernel_rfl) ?_
                refine op_any (op := .assign (.tmp 44)) (dst := some 11) (by unfold opIs; kernel_rfl) (fun o h3 h4 => ?_)
                unfold Oper.wp execOp
                simp only [h3, h4]
                go_simp
                try simp only [Act.put, List.getElem_toArray, List.getElem_cons_zero, List.getElem_cons_succ, List.setIfInBounds_toArray, List.set_cons_zero, List.set_cons_succ]
                refine wpAny_done (by kernel_rfl) ?_ _
                go_wp2_with fail
                obtain ⟨r9, cap9, rfl⟩ := owns_form hown9
                go_meet
                exact ⟨r9, cap9, rfl, Lib.hid (by rw [List.flatMap_append]; simpa using hown9), Lib.hid bl9⟩
            · skip
              refine op_one (some 43) 42 (by unfold opIs; kernel_rfl) E (by kernel_rfl) ?_
              simp only [Act.put, List.getElem_toArray, List.getElem_cons_zero, List.getElem_cons_succ, List.setIfInBounds_toArray, List.set_cons_zero, List.set_cons_succ]
              have bl11 := bel_new bl0 (.cells #[.int .i32 E] 25)
              refine any1 1 (by kernel_rfl) ?_
              refine op_load 24 (.tmp 38) (some 39) (by unfold opIs; kernel_rfl) (.pointer (some ⟨X, 0, none⟩)) (.slice r k cap) (by kernel_rfl) (load_sl _ _ _ _ (HU.out.stay bl11).a0) ?_
              simp only [Act.put, List.getElem_toArray, List.getElem_cons_zero, List.getElem_cons_succ, List.setIfInBounds_toArray, List.set_cons_zero, List.set_cons_succ]
              refine any1 2 (by kernel_rfl) ?_
              refine op_call (.call { callee := .value (.func 9), args := #[.tmp 39], argTypes := #[24] }) (some 40) (by unfold opIs; kernel_rfl) 9 #[.slice r k cap] (fun o ho => by unfold execOp; rw [ho]; kernel_rfl) (HKC.out _ bl11) ?_
              rintro e x12 ⟨v12, rfl, ho12, hb12⟩
              refine ⟨_, rfl, ?_⟩
              have bl12 := bel_call bl11 hb12
              have ow12 := owns_down ho12 bl11.size
              simp only [Act.put, List.getElem_toArray, List.getElem_cons_zero, List.getElem_cons_succ, List.setIfInBounds_toArray, List.set_cons_zero, List.set_cons_succ]
              refine any1 6 (by kernel_rfl) ?_
              refine op_any (op := .call { callee := .builtin .append, args := #[.tmp 40, .tmp 43], argTypes := #[24, 24] }) (dst := some 44) (by unfold opIs; kernel_rfl) (fun o h1 h2 => ?_)
              refine wp_append_own _ (.tmp 40) (.tmp 43) 24 h1 U.heap.size 25 i0 (.int .i32 0) 1 4 Tryz.underlying24 hi hz0 hz1 hz2 rfl (by decide) v12 k _ (by kernel_rfl) ow12 ⟨_, 0, none⟩ 1 1 (dcl E) (by kernel_rfl) rfl (fun q u hq => below_at hb12 (cells_new _ (dcl E) 25 q u hq)) (dcl_one E) (by unfold maxLen; omega) (by omega) bl12.size (fun v9 x9 hown9 hgr9 _ => ?_)
              rw [h2]
              simp only [Act.put, List.getElem_toArray, List.getElem_cons_zero, List.getElem_cons_succ, List.setIfInBounds_toArray, List.set_cons_zero, List.set_cons_succ]
              have bl9 := bl12.grown hgr9 bl12.size (fun q hq => (ow12.lt q hq).1)
              refine any1 7 (by kernel_rfl) ?_
              refine op_any (op := .assign (.tmp 44)) (dst := some 11) (by unfold opIs; kernel_rfl) (fun o h3 h4 => ?_)
              unfold Oper.wp execOp
              simp only [h3, h4]
              go_simp
              try simp only [Act.put, List.getElem_toArray, List.getElem_cons_zero, List.getElem_cons_succ, List.setIfInBounds_toArray, List.set_cons_zero, List.set_cons_succ]
              refine wpAny_done (by kernel_rfl) ?_ _
              go_wp2_with fail
              obtain ⟨r9, cap9, rfl⟩ := owns_form hown9
              go_meet
              exact ⟨r9, cap9, rfl, Lib.hid (by rw [List.flatMap_append]; simpa using hown9), Lib.hid bl9⟩
        case rest =>
          obtain ⟨r9, cap9, rfl, HO9, HB9⟩ := hcut
          have hM : (ds ++ [E]).length = k + 1 := by rw [List.length_append, HDL.out.1]; rfl
          have HR9 := Lib.hid (recs_of_owns dcl_len HO9.out hM.symm (by omega))
          have HUs : Hid ((ds ++ [E]).length = k + 1 ∧ ∀ x ∈ ds ++ [E], I32 x) := Lib.hid ⟨hM, fun x hx => by
            rcases List.mem_append.1 hx with h | h
            · exact HDL.out.2 x h
            · simp at h; subst h; exact HE.out⟩
          have HB0 := Lib.hid (HB1.out.trans ((HBU.out.trans (HB9.out.mono hUs)).mono HB1.out.size))
          have HX9 := Lib.hid (HU.out.stay HB9.out)
          have HRU9 := Lib.hid (HRU.out.stay HB9.out)
          have HIw := Lib.hid (HI.out _ HB0.out)
          have HQ := Lib.hid (HLC.out.check _ ds E wc HIw.out HRU9.out (by rw [HDL.out.1]; omega) HDL.out.2 HE.out)
          have HN9 := Lib.hid (fun w' (h : Below wc.heap.size wc w') => HLC.out.len _ ds E w' (HRU9.out.stay h) (by rw [HDL.out.1]; omega))
          have HC1 := Lib.hid (show chkD ds E = if k < 1 ∨ 60 < k then 2 else chkD1 none (ds ++ [E]) by rw [chkD, HDL.out.1])
          rw [HDL.out.1] at HN9
          clear hM
          generalize ds ++ [E] = us at HR9 HUs HC1
          go_upto_block 2 with fail
          obtain ⟨W, hW⟩ : ∃ W, wc = W := ⟨_, rfl⟩
          go_cut [10] (fun s10 wx => s10 = .int .i64 (chkD1 none us) ∧ wx = W)
          case first =>
            subst hW
            go_wp2_with fail
            go_loop [10, 47] (fun s8 i => ∃ j : Nat, s8 = .int .i64 0 ∧ i = .int .i64 j ∧ j ≤ k + 1 ∧ Hid (ChkD us j)) (fun _ i => k + 1 - (intOf i).toNat)
            case atStart => exact ⟨0, rfl, rfl, Nat.zero_le _, Lib.hid (ChkD.start us)⟩
            case round =>
              obtain ⟨j, rfl, rfl, hj, HC⟩ := hrel
              by_cases hlt : j < k + 1
              · obtain ⟨x, hx⟩ : ∃ x, us[j]? = some x := ⟨us[j]'(by have := HUs.out.1; omega), List.getElem?_eq_getElem (by have := HUs.out.1; omega)⟩
                obtain ⟨g, off, rfl, hg, hc⟩ := HR9.out.at hx
                have c0 := hc 0 _ rfl
                simp only [Nat.mul_one, Nat.add_zero] at c0
                have hxr := HUs.out.2 x (List.mem_of_getElem? hx)
                unfold I32 at hxr
                have hjk : (j : Int) < (k : Int) + 1 := by omega
                clear hc
                by_cases hx0 : x < -719162
                · have E9 := Lib.hid (HC.out.range hx (.inl hx0))
                  clear hx
                  go_wp2_with (first | (have HM2 := HMK; go_at_call 10; refine (KN2.out _).mono ?_; rintro e wz ⟨rfl, rfl⟩) | (go_at_call 10; refine (KN1.out _).mono ?_; rintro e wz ⟨rfl, rfl⟩; have HMK := Lib.hid True.intro))
                  go_meet
                  exact ⟨by rw [E9.out], rfl⟩
                · by_cases hx9 : 2932896 < x
                  · have E9 := Lib.hid (HC.out.range hx (.inr hx9))
                    clear hx
                    go_wp2_with (first | (have HM2 := HMK; go_at_call 10; refine (KN2.out _).mono ?_; rintro e wz ⟨rfl, rfl⟩) | (go_at_call 10; refine (KN1.out _).mono ?_; rintro e wz ⟨rfl, rfl⟩; have HMK := Lib.hid True.intro))
                    go_meet
                    exact ⟨by rw [E9.out], rfl⟩
                  · by_cases hk0 : j = 0
                    · have E9 := Lib.hid (HC.out.step hx (by omega) (fun p y hp => by omega))
                      subst hk0
                      simp only [Nat.add_zero] at c0
                      clear hx
                      go_wp2_with (first | (have HM2 := HMK; go_at_call 10; refine (KN2.out _).mono ?_; rintro e wz ⟨rfl, rfl⟩) | (go_at_call 10; refine (KN1.out _).mono ?_; rintro e wz ⟨rfl, rfl⟩; have HMK := Lib.hid True.intro))
                      go_round
                      case rel => exact ⟨1, rfl, by go_num, by omega, E9⟩
                      case measure => simp [intOf] <;> omega
                    · obtain ⟨p, hp⟩ : ∃ p, p + 1 = j := ⟨j - 1, by omega⟩
                      obtain ⟨y, hy⟩ : ∃ y, us[p]? = some y := ⟨us[p]'(by have := HUs.out.1; omega), List.getElem?_eq_getElem (by have := HUs.out.1; omega)⟩
                      obtain ⟨g', off', er, _, hc'⟩ := HR9.out.at hy
                      cases er
                      have d0 := hc' 0 _ rfl
                      simp only [Nat.mul_one, Nat.add_zero] at d0
                      clear hc'
                      have n0 : 0 < j := by omega
                      have e2 : (j : Int) - 1 = (p : Int) := by omega
                      have y0 : (0 : Int) ≤ (p : Int) := by omega
                      have y1 : (p : Int) < (k : Int) + 1 := by omega
                      have y2 : p < k + 1 := by omega
                      by_cases hyx : x ≤ y
                      · have E9 := Lib.hid (HC.out.order hp hy hx (by omega) hyx)
                        clear hx hy hp
                        go_wp2_with (first | (have HM2 := HMK; go_at_call 10; refine (KN2.out _).mono ?_; rintro e wz ⟨rfl, rfl⟩) | (go_at_call 10; refine (KN1.out _).mono ?_; rintro e wz ⟨rfl, rfl⟩; have HMK := Lib.hid True.intro))
                        go_meet
                        exact ⟨by rw [E9.out], rfl⟩
                      · have E9 := Lib.hid (HC.out.step hx (by omega) (fun q z hq hz => by
                          obtain rfl : q = p := by omega
                          rw [hy] at hz; cases hz; omega))
                        clear hx hy hp
                        go_wp2_with (first | (have HM2 := HMK; go_at_call 10; refine (KN2.out _).mono ?_; rintro e wz ⟨rfl, rfl⟩) | (go_at_call 10; refine (KN1.out _).mono ?_; rintro e wz ⟨rfl, rfl⟩; have HMK := Lib.hid True.intro))
                        go_round
                        case rel => exact ⟨j + 1, rfl, by go_num, by omega, E9⟩
                        case measure => simp [intOf]; omega
              · obtain rfl : j = k + 1 := by omega
                have E9 := Lib.hid (HC.out.done (by rw [HUs.out.1]; exact Nat.le_refl _))
                go_wp2
                go_meet
                exact ⟨by rw [E9.out], rfl⟩
          case rest =>
            obtain ⟨rfl, rfl⟩ := hcut
            subst hW
            obtain ⟨a, ha⟩ : ∃ a, chkD1 none us = a := ⟨_, rfl⟩
            obtain ⟨b, hb⟩ : ∃ b, chkD ds E = b := ⟨_, rfl⟩
            have hab := HC1.out
            rw [ha, hb] at hab
            rw [ha]
            rw [hb] at HQ
            obtain ⟨p0, p1, _, _, _⟩ := HX9.out
            clear ha hb HC1 HO9 HR9 HUs HKC HRU HOU
            by_cases hk1 : k < 1
            · obtain rfl : k = 0 := by omega
              rw [if_pos (.inl hk1)] at hab
              subst hab
              go_wp2_with (first
                | (go_at_call 12; refine (HN9.out _ HB3.out).mono ?_; rintro e w4 ⟨rfl, h4⟩; have HB4 := Lib.hid (HB3.out.trans (h4.mono HB3.out.size)); clear h4)
                | (go_at_call 11; refine HQ.out.mono ?_; rintro e w3 ⟨rfl, h3⟩; have HB3 := Lib.hid h3; obtain ⟨s0, s1, _, _, _⟩ := HX9.out.stay h3; clear h3))
              go_ret
              exact ⟨by simp, HB0.out.trans (HB4.out.mono HB0.out.size)⟩
            · have t1 : ¬ (k : Int) < 1 := by omega
              by_cases hk6 : 60 < k
              · have t2 : (60 : Int) < (k : Int) := by omega
                rw [if_pos (.inr hk6)] at hab
                subst hab
                go_wp2_with (first
                  | (go_at_call 12; refine (HN9.out _ HB3.out).mono ?_; rintro e w4 ⟨rfl, h4⟩; have HB4 := Lib.hid (HB3.out.trans (h4.mono HB3.out.size)); clear h4)
                  | (go_at_call 11; refine HQ.out.mono ?_; rintro e w3 ⟨rfl, h3⟩; have HB3 := Lib.hid h3; obtain ⟨s0, s1, _, _, _⟩ := HX9.out.stay h3; clear h3))
                go_ret
                exact ⟨by simp, HB0.out.trans (HB4.out.mono HB0.out.size)⟩
              · have t2 : ¬ (60 : Int) < (k : Int) := by omega
                rw [if_neg (by omega)] at hab
                subst hab
                go_wp2_with (first
                  | (go_at_call 12; refine (HN9.out _ HB3.out).mono ?_; rintro e w4 ⟨rfl, h4⟩; have HB4 := Lib.hid (HB3.out.trans (h4.mono HB3.out.size)); clear h4)
                  | (go_at_call 11; refine HQ.out.mono ?_; rintro e w3 ⟨rfl, h3⟩; have HB3 := Lib.hid h3; obtain ⟨s0, s1, _, _, _⟩ := HX9.out.stay h3; clear h3))
                go_ret
                exact ⟨by simp, HB0.out.trans (HB4.out.mono HB0.out.size)⟩
end Go.Proofs.YtmbfnbbgphpcgaaGreatDoor

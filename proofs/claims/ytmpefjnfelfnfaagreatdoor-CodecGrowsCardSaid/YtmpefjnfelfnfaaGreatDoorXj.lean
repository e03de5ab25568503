/- Law 10's Awake. -/
import Derived.Test.YtmpefjnfelfnfaaGreatDoorXh
namespace Go.Proofs.YtmpefjnfelfnfaaGreatDoor
open Go.RowKit
set_option linter.unusedVariables false
set_option linter.unusedSimpArgs false
def bk0 : Bk := ⟨[], [], 0, [], [], by omega⟩
theorem bk0_mem (w : World) : BkM bk0 (.slice none 0 0) (.slice none 0 0) (.slice none 0 0) (.slice none 0 0) [] w :=
  ⟨.inl ⟨_, _, rfl, rfl⟩, .inl ⟨_, _, rfl, rfl⟩, .inl ⟨_, _, rfl, rfl⟩, .inl ⟨_, _, rfl, rfl⟩, fun p hp => (by cases hp), rfl⟩
theorem frB_lens (x : Bk) : (frB x).C.length ≤ 40 ∧ (frB x).U.length ≤ 9 ∧ (frB x).S.length ≤ 13 ∧ 1 ≤ (frB x).S.length := ⟨(frC_made x.chart).2.1, (frU_ok x.units).2.2.1, (mkS_lens x.first x.long).2, (mkS_lens x.first x.long).1⟩
theorem frM_owns {x : Bk} {base : Nat} {vC vU vS : Value} {w : World} (h1 : w.ownsRow base 76 4 vC (frB x).C.length ((frB x).C.flatMap cc)) (h2 : w.ownsRow base 52 1 vU (frB x).U.length ((frB x).U.flatMap uc)) (h3 : w.ownsRow base 34 1 vS (frB x).S.length ((frB x).S.flatMap dcl)) : FrM (frB x) vC vU vS w := by
  obtain ⟨a, b, c, _⟩ := frB_lens x
  exact ⟨recs_of_owns cc_len h1 rfl (by omega), recs_of_owns uc_len h2 rfl (by omega), recs_of_owns dcl_len h3 rfl (by omega)⟩
/-- A made book in memory. -/
structure MadeM (x : Bk) (w : World) (vC vU vS vJ : Value) (vs : List Jm) : Prop where
  fr : FrM (frB x) vC vU vS w
  jr : JRow w vJ vs
  js : vs.map jOf = makeJ x
theorem MadeM.stay {x : Bk} {w w' : World} {vC vU vS vJ : Value} {vs : List Jm} (h : MadeM x w vC vU vS vJ vs) (hb : Below w.heap.size w w') : MadeM x w' vC vU vS vJ vs := ⟨h.fr.stay hb, h.jr.stay hb, h.js⟩
theorem linesB_len {C : List Ac} {U : List Nat} {xs : List Sm} : (linesB C U xs).length ≤ xs.length + U.length := by
  unfold linesB
  have := pads_len C U (sumZ (xs.map (lnA C U))) U.length
  rw [List.length_append, List.length_map]
  omega
theorem stJ_lens (x : Bk) (h8 : ∀ j ∈ x.journals, j.lines.length ≤ 8) : ∀ k, k ≤ x.journals.length → ∀ p ∈ (stJ x k).2, p.2.length ≤ 17
  | 0, _, p, hp => by simp [stJ] at hp
  | k + 1, hk, p, hp => by
    have hx := List.getElem?_eq_getElem (l := x.journals) (i := k) (by omega)
    rw [stJ_step hx] at hp
    unfold stepJ at hp
    have hj8 := h8 _ (List.getElem_mem (by omega : k < x.journals.length))
    split at hp
    · exact stJ_lens x h8 k (by omega) p hp
    · rcases List.mem_append.1 hp with h | h
      · exact stJ_lens x h8 k (by omega) p h
      · simp at h
        subst h
        have := linesB_len (C := (frB x).C) (U := (frB x).U) (xs := (x.journals[k]'(by omega)).lines)
        have := (frB_lens x).2.1
        show (linesB _ _ _).length ≤ 17
        omega
/-- What the laws ask of a made book's journals. -/
theorem made_lens {x : Bk} {vs : List Jm} (h8 : ∀ j ∈ x.journals, j.lines.length ≤ 8) (hl : x.journals.length ≤ 100) (h : vs.map jOf = makeJ x) : vs.length ≤ x.journals.length ∧ ∀ p ∈ vs, p.2.2.length ≤ 17 ∧ -2147483648 ≤ p.1 ∧ p.1 ≤ 2147483647 := by
  obtain ⟨_, b, c, d⟩ := stJ_ok x h8 x.journals.length (Nat.le_refl _)
  have hE := mkE_le x.first x.long
  have hf := x.hf
  obtain ⟨a, _⟩ := stJ_ok x h8 x.journals.length (Nat.le_refl _)
  refine ⟨?_, fun p hp => ?_⟩
  · have e : vs.length = (makeJ x).length := by rw [← h, List.length_map]
    rw [e]; exact d
  · have hm : jOf p ∈ makeJ x := by rw [← h]; exact List.mem_map.2 ⟨p, hp, rfl⟩
    have h1 := b _ hm
    have h2 := stJ_lens x h8 x.journals.length (Nat.le_refl _) _ hm
    have hp1 := h1.1.per
    have h3 : (jOf p).1 = p.1 := rfl
    have h4 : (jOf p).2.length = p.2.2.length := rfl
    have h5 : (frB x).E = mkE x.first x.long := rfl
    rw [h3] at h1 hp1
    rw [h4] at h2
    refine ⟨h2, ?_, ?_⟩
    · unfold perI at hp1
      split at hp1
      · rename_i hc
        have hS0 : 0 < cntD (frB x).S p.1 := hc.2
        obtain ⟨s0, hs0⟩ : ∃ s, (frB x).S[0]? = some s := ⟨_, mkS_head x.first x.long⟩
        have := (cnt_iff (d := p.1) (mkS_rise x.first x.long) hs0).2 hS0
        have := mkS_mem (List.mem_of_getElem? hs0)
        omega
      · omega
    · omega
theorem JOwn.made {x : Bk} {base : Nat} {w : World} {vC vU vS vJ : Value} {vs : List Jm} (h8 : ∀ j ∈ x.journals, j.lines.length ≤ 8) (hl : x.journals.length ≤ 100) (h1 : w.ownsRow base 76 4 vC (frB x).C.length ((frB x).C.flatMap cc)) (h2 : w.ownsRow base 52 1 vU (frB x).U.length ((frB x).U.flatMap uc)) (h3 : w.ownsRow base 34 1 vS (frB x).S.length ((frB x).S.flatMap dcl)) (hJ : JOwn base w vJ vs) (hm : vs.map jOf = makeJ x) : MadeM x w vC vU vS vJ vs := by
  obtain ⟨a, b⟩ := made_lens h8 hl hm
  exact ⟨frM_owns h1 h2 h3, hJ.jrow (by omega) (fun p hp => by have := b p hp; omega), hm⟩
/-- Check of a made book. -/
theorem BookC.made {I : World → Prop} (B : BookC I) {x : Bk} {w : World} {vC vU vS vJ : Value} {vs : List Jm} (hI : I w) (hM : MadeM x w vC vU vS vJ vs) (h8 : ∀ j ∈ x.journals, j.lines.length ≤ 8) (hl : x.journals.length ≤ 100) :
    Calls Tryz.prog 20 #[bkV vC vU vS (frB x).E vJ] w fun e w' => e = .returned (.int .i64 0) ∧ Below w.heap.size w w' := by
  obtain ⟨a, b⟩ := made_lens h8 hl hM.js
  have := B.check vC vU vS vJ (frB x) vs w hI hM.fr (frB_in x) hM.jr (by omega) (fun p hp => by have := b p hp; omega)
  rw [hM.js, made_ok x h8 (by omega)] at this
  exact this
set_option maxHeartbeats 4000000 in
set_option maxRecDepth 100000 in
theorem awake10_any {I : World → Prop} (C : AllotC) (D : DayC I) (K : KeyC I) (U : UnitC) (LC : CalC I) (EC : EntryC I) (B : BookC I) (w : World) (hI : I w) :
    Calls Tryz.prog 22 #[] w fun e w' => e = .returned (.bool true) ∧ Below w.heap.size w w' := by
  have h8 : ∀ j ∈ bk0.journals, j.lines.length ≤ 8 := fun j hj => by cases hj
  have KM := makeB_c bk0 _ _ _ _ [] w (bk0_mem w) h8 (by decide)
  unfold bV at KM
  have KC := Lib.hid (fun (w' : World) (vC vU vS vJ : Value) (vs : List Jm) (h : Below w.heap.size w w') (hM : MadeM bk0 w' vC vU vS vJ vs) => B.made (D.stay hI h) hM h8 (by decide))
  have KD := Lib.hid (fun (w' : World) (vC vU vS vJ : Value) (hJ : JRow w' vJ []) => B.days vC vU vS vJ (frB bk0) [] w' hJ (by simp))
  have KA := Lib.hid (fun (w' : World) (h : Below w.heap.size w w') => awake9_any C D K U LC EC w' (D.stay hI h))
  have HMK : Hid (∀ {base : Nat} {w' : World} {vC vU vS vJ : Value} {vs : List Jm}, w'.ownsRow base 76 4 vC (frB bk0).C.length ((frB bk0).C.flatMap cc) → w'.ownsRow base 52 1 vU (frB bk0).U.length ((frB bk0).U.flatMap uc) → w'.ownsRow base 34 1 vS (frB bk0).S.length ((frB bk0).S.flatMap dcl) → JOwn base w' vJ vs → vs.map jOf = makeJ bk0 → MadeM bk0 w' vC vU vS vJ vs) := Lib.hid (fun h1 h2 h3 hJ hm => JOwn.made h8 (by decide) h1 h2 h3 hJ hm)
  unfold bkV at KM KC KD
  obtain ⟨EE, hEE⟩ : ∃ n, (frB bk0).E = n := ⟨_, rfl⟩
  rw [hEE] at KM KC KD
  have K1 := Lib.hid KM
  clear KM C D K U LC EC B hI h8 hEE
  go_enter Tryz.func22, Tryz.ntmps22
  go_upto_region 2 with (go_at_call 11; refine K1.out.mono ?_; rintro e w2 ⟨vC, vU, vS, vJ, vs, rfl, oC, oU, oS, hJ, hm, hb2⟩; have hvs : vs = [] := List.map_eq_nil_iff.1 (hm.trans rfl); subst hvs; have HMM := Lib.hid (HMK.out oC oU oS hJ hm); obtain ⟨r1, c1, rfl⟩ := owns_form oC; obtain ⟨r2, c2, rfl⟩ := owns_form oU; obtain ⟨r3, c3, rfl⟩ := owns_form oS; obtain ⟨r4, c4, rfl⟩ := owns_form hJ.row; have HB2 := Lib.hid hb2; clear oC oU oS hJ hm hb2)
  have hbw := (Below.refl w2.heap.size w2).alloc (Nat.le_refl _) (.cells #[.slice r1 (frB bk0).C.length c1, .slice r2 (frB bk0).U.length c2, .slice r3 (frB bk0).S.length c3, .int .i32 EE, .slice r4 0 c4] 41)
  have bx := HBox.new w2 [.slice r1 (frB bk0).C.length c1, .slice r2 (frB bk0).U.length c2, .slice r3 (frB bk0).S.length c3, .int .i32 EE, .slice r4 0 c4] 41
  change HBox (w2.alloc (.cells #[.slice r1 (frB bk0).C.length c1, .slice r2 (frB bk0).U.length c2, .slice r3 (frB bk0).S.length c3, .int .i32 EE, .slice r4 0 c4] 41)) _ _ _ at bx
  have HX := Lib.hid bx
  have HMW := Lib.hid (HMM.out.stay hbw)
  have HBW := Lib.hid (HB2.out.trans (hbw.mono HB2.out.size))
  clear hbw HB2 HMM K1 HMK
  generalize w2.alloc (.cells #[.slice r1 (frB bk0).C.length c1, .slice r2 (frB bk0).U.length c2, .slice r3 (frB bk0).S.length c3, .int .i32 EE, .slice r4 0 c4] 41) = W at *
  generalize w2.heap.size = Y at *
  have x0 := bx.cell (j := 0) rfl
  have x1 := bx.cell (j := 1) rfl
  have x2 := bx.cell (j := 2) rfl
  have x3 := bx.cell (j := 3) rfl
  have x4 := bx.cell (j := 4) rfl
  clear bx
  go_wp2_with (first
    | (go_at_call 56; refine (KA.out _ HB4.out).mono ?_; rintro e w5 ⟨rfl, h5⟩; have HB5 := Lib.hid (HB4.out.trans (h5.mono HB4.out.size)); clear h5)
    | (go_at_call 20; refine (KC.out w3 _ _ _ _ _ HB3.out HM3.out).mono ?_; rintro e w4 ⟨rfl, h4⟩; have HB4 := Lib.hid (HB3.out.trans (h4.mono HB3.out.size)); clear h4)
    | (go_at_call 55; refine (KD.out W _ _ _ _ HMW.out.jr).mono ?_; rintro e w3 ⟨rfl, h3⟩; have hx3 := HX.out.stay h3; have y0 := hx3.cell (j := 0) rfl; have y1 := hx3.cell (j := 1) rfl; have y2 := hx3.cell (j := 2) rfl; have y3 := hx3.cell (j := 3) rfl; have y4 := hx3.cell (j := 4) rfl; have HM3 := Lib.hid (HMW.out.stay h3); have HB3 := Lib.hid (HBW.out.trans (h3.mono HBW.out.size)); clear h3 hx3))
  go_ret
  exact ⟨by simp, HB5.out⟩
end Go.Proofs.YtmpefjnfelfnfaaGreatDoor

/- The walk of law ChartBack (written by wip/csgen.py). -/
import Derived.Test.YtdhgkggcnilgoaaDoorCl
import Derived.Test.YtdhgkggcnilgoaaDoorCr
namespace Go.Proofs.YtdhgkggcnilgoaaDoor
open Go.RowKit
set_option linter.unusedVariables false
set_option linter.unusedSimpArgs false
theorem owns_cap {w : World} {base : Nat} {e : TypeId} {size : Nat} {r : Option Addr} {n cap : Nat} {xs : List Value} (h : w.ownsRow base e size (.slice r n cap) n xs) : n ≤ cap := by
  rcases h.2 with ⟨h0, h1⟩ | ⟨g, cp, cur, h0, _, _, h1, _⟩
  · omega
  · cases h0; exact h1
theorem turn_mod {k : Nat} {n : Nat} (hk : k < 256) : (wrap64 (k : Int)).tmod (n : Int) = ((k % n : Nat) : Int) := by
  have e : wrap64 (k : Int) = k := by unfold wrap64; omega
  rw [e, Int.tmod_eq_emod_of_nonneg (by omega)]
  simp
/-- What law ChartBack keeps: a chart, the moved one, a box with an account. -/
structure Bck (w : World) (v m : Value) (c d : List Ac) (x : Nat) (a : Ac) : Prop where
  recs : Recs cc 4 w v c
  mov : Recs cc 4 w m d
  bx : Box4 w x (.int .u32 (a.code : Int)) (.string a.name) (.int .u8 (a.kind : Int)) (.int .u32 (a.par : Int))
theorem Bck.stay {w w' : World} {v m : Value} {c d : List Ac} {x : Nat} {a : Ac} (h : Bck w v m c d x a) (hb : Below w.heap.size w w') : Bck w' v m c d x a := ⟨h.recs.stay hb, h.mov.stay hb, h.bx.stay hb⟩
theorem Bck.drew {w : World} {v m : Value} {c d : List Ac} {x : Nat} {a : Ac} (h : Bck w v m c d x a) : Bck w.drew v m c d x a := h.stay ((Below.refl _ _).drew)
theorem Bck.code {w : World} {v m : Value} {c d : List Ac} {x : Nat} {a : Ac} (h : Bck w v m c d x a) : (Instr.loadAt 22 (.pointer (some ⟨x, 0, none⟩))).run Tryd.prog w = .ok (.int .u32 (a.code : Int)) w := by
  have h0 := h.bx.a0
  go_simp
theorem Bck.acc {w : World} {v m : Value} {c d : List Ac} {x : Nat} {a : Ac} (h : Bck w v m c d x a) : (Instr.loadAt 35 (.pointer (some ⟨x, 0, none⟩))).run Tryd.prog w = .ok (cv a) w := by
  obtain ⟨h0, h1, h2, h3, _, _, _, _, _⟩ := h.bx
  unfold cv
  go_simp
set_option maxHeartbeats 8000000 in
set_option maxRecDepth 100000 in
theorem chartback_any {I : World → Prop} (C : AllotC) (D : DayC I) (K : KeyC I) (v : Value) (l : List Qt) (n : Nat) (w : World) (hI : I w) (hR : Recs qc 4 w v l) (hn : n < 256) :
    Calls Tryd.prog 7 #[v, .int .u8 (n : Int)] w fun e w' => e = .returned (.bool true) ∧ Below w.heap.size w w' := by
  obtain ⟨hmade, hml⟩ := mkC_made l
  have K1 := Lib.hid (awake6_any C D K w hI)
  have K2 := Lib.hid (fun (w' : World) (h : Below w.heap.size w w') => make_c v l w' (hR.stay h))
  generalize mkC l = c at *
  obtain ⟨L, hL⟩ : ∃ L, c.length = L := ⟨_, rfl⟩
  have HL := Lib.hid hL
  have hL40 : L ≤ 40 := by omega
  rw [hL] at K2
  by_cases h0 : L = 0
  · have hd : ((L : Int) == 0) = true := by simp [h0]
    clear hR hL hmade hml h0
    go_enter Tryd.func7, Tryd.ntmps7
    go_wp2_with (first
      | (go_at_call 14; refine (K2.out _ HB1.out).mono ?_; rintro e w2 ⟨v2, rfl, ho2, hb2⟩; have HB2 := Lib.hid (HB1.out.trans (hb2.mono HB1.out.size)); obtain ⟨r, cap, rfl⟩ := owns_form ho2; clear hb2 ho2)
      | (go_at_call 8; refine K1.out.mono ?_; rintro e w1 ⟨rfl, hb1⟩; have HB1 := Lib.hid hb1; clear hb1))
    go_ret
    exact ⟨rfl, HB2.out⟩
  · have hd : ((L : Int) == 0) = false := by simp; omega
    have hL1 : 0 < L := by omega
    have e1 := turn_mod (n := L) hn
    have hpk : n % L < L := Nat.mod_lt _ hL1
    generalize n % L = i at e1 hpk
    obtain ⟨a, ha⟩ : ∃ a, c[i]? = some a := ⟨c[i]'(by omega), List.getElem?_eq_getElem (by omega)⟩
    have ham := List.mem_of_getElem? ha
    have hpar : ∀ b ∈ c, b.par ≠ 99999 := fun b hb e => by
      rcases hmade.up b hb with h | ⟨p, hp, h1, _, _⟩
      · omega
      · have := (hmade.pos p hp).2; omega
    have hac : a.code ≠ 99999 := by have := (hmade.pos a ham).2; omega
    have hwo := with_out hmade.rise ham
    have hmb := move_back (c := c) (f := a.code) (t := 99999) (by omega) a.hc hpar
    obtain ⟨hk1, hk2⟩ := move_kids (c := c) (f := a.code) (t := 99999) (by omega) hac hpar
    have hr := hmade.rise
    have hro := outA_rise hr a.code
    have hlo : (outA c a.code).length ≤ 900 := Nat.le_trans (List.length_filter_le _ _) (by omega)
    obtain ⟨d, hd0⟩ : ∃ d, moveA c a.code 99999 (by omega) = d := ⟨_, rfl⟩
    have hdl : d.length = L := by rw [← hd0, ← hL]; unfold moveA; rw [List.length_map]
    have M0 := Lib.hid (fun (w' : World) (v : Value) (h : Recs cc 4 w' v c) => moved_c v c a.code 99999 (by omega) w' h (by omega))
    rw [hd0] at M0 hmb hk1 hk2
    rw [hdl] at M0
    have F1 := Lib.hid (fun (w' : World) (r : Option Addr) (cap : Nat) (h : Recs cc 4 w' (.slice r L cap) c) (hcap : L ≤ cap) => without_c r L cap c a.code w' h hcap hr (by omega) hL.symm)
    obtain ⟨o, ho⟩ : ∃ o, outA c a.code = o := ⟨_, rfl⟩
    rw [ho] at F1 hwo hro hlo
    have F2 := Lib.hid (fun (w' : World) (r : Option Addr) (N cap : Nat) (h : Recs cc 4 w' (.slice r N cap) o) (hcap : N ≤ cap) (hN : N = o.length) => hwo ▸ with_c r N cap o a w' h hcap hro (by omega) hN)
    have F3 := Lib.hid (fun (w' : World) (v v' : Value) (h : Recs cc 4 w' v c) (h' : Recs cc 4 w' v' c) => equal_c v v' c w' h h')
    have F4 := Lib.hid (fun (w' : World) (v : Value) (h : Recs cc 4 w' v d) => hmb ▸ moved_c v d 99999 a.code a.hc w' h (by omega))
    have F6 : Hid (∀ (w' : World) (v : Value), Recs cc 4 w' v d → Calls Tryd.prog 23 #[v, .int .u32 (a.code : Int)] w' fun e w'' => ∃ r cap, e = .returned (.slice r 0 cap) ∧ Below w'.heap.size w' w'') := Lib.hid (fun w' v h => (kids_c v d a.code w' h (by omega)).mono fun e w'' ⟨v', h1, h2, h3⟩ => by
      rw [hk1] at h2
      obtain ⟨r, cap, hv, _⟩ := h2.form
      exact ⟨r, cap, by rw [h1, hv]; rfl, h3⟩)
    have F7 := Lib.hid (fun (w' : World) (v : Value) (h : Recs cc 4 w' v d) => hk2 ▸ kids_c v d 99999 w' h (by omega))
    have F8 := Lib.hid (fun (w' : World) (v : Value) (h : Recs cc 4 w' v c) => kids_c v c a.code w' h (by omega))
    have F9 := Lib.hid (fun (w' : World) (v v' : Value) (h : Recs nc 1 w' v (kidsA c a.code)) (h' : Recs nc 1 w' v' (kidsA c a.code)) => equal_n v v' _ w' h h')
    have HA := Lib.hid ha
    have HDL := Lib.hid hdl
    have HOL := Lib.hid hlo
    rw [hL] at F2 F4
    clear hR hL hmade hml h0 ha ham hpar hac hwo hmb hk1 hk2 hr hro hlo hd0 hdl ho hn
    go_enter Tryd.func7, Tryd.ntmps7
    go_wp2_with (first
      | (go_at_call 27; refine (M0.out _ _ HRM.out).mono ?_; rintro e w3 ⟨v3, rfl, ho3, hb3⟩; have HV := Lib.hid (Bck.mk (HRM.out.stay hb3) (recs_of_owns cc_len ho3 HDL.out.symm (by omega)) (HXM.out.stay hb3)); have HB3 := Lib.hid (HB2A.out.trans (hb3.mono HB2A.out.size)); obtain ⟨r3, cap3, rfl⟩ := owns_form ho3; clear hb3 ho3)
      | (go_at_call 14; refine (K2.out _ HB1.out).mono ?_; rintro e w2 ⟨v2, rfl, ho2, hb2⟩; have HR2 := Lib.hid (recs_of_owns cc_len ho2 HL.out.symm (by omega)); have HB2 := Lib.hid (HB1.out.trans (hb2.mono HB1.out.size)); obtain ⟨r, cap, rfl⟩ := owns_form ho2; have hcap := owns_cap ho2; obtain ⟨g, off, rfl, hg, hc⟩ := HR2.out.at HA.out; obtain ⟨c0, c1, c2, c3⟩ := Recs.cells4 (c := c) hc; have hbA := (Below.refl w2.heap.size w2).alloc (Nat.le_refl _) (.cells #[.int .u32 (a.code : Int), .string a.name, .int .u8 (a.kind : Int), .int .u32 (a.par : Int)] 35); have HRM := Lib.hid (HR2.out.stay hbA); have HXM := Lib.hid (Box4.new w2 (.int .u32 (a.code : Int)) (.string a.name) (.int .u8 (a.kind : Int)) (.int .u32 (a.par : Int)) 35); have HB2A := Lib.hid (HB2.out.trans (hbA.mono HB2.out.size)); clear hb2 ho2 hc hbA)
      | (go_at_call 8; refine K1.out.mono ?_; rintro e w1 ⟨rfl, hb1⟩; have HB1 := Lib.hid hb1; clear hb1))
    generalize w2.heap.size = X at *
    refine wp_region_any (by kernel_rfl) ?_
    change wpAny _ _ _ _ _ _ _ (World.drew _)
    have bl0 : Below w3.heap.size w3 w3.drew := (Below.refl _ _).drew
    have hv0 := HV.out.drew
    refine take_op (i := 0) (.move (.tmp 5)) (some 27) (.slice (some ⟨g, off, none⟩) L cap) (by unfold opWants; kernel_rfl) (by kernel_rfl) (by kernel_rfl) (by kernel_rfl) (fun _ _ _ h => h) (fun o ho w' => ?_) ?_
    · unfold execOp; simp only [ho]; go_simp
    simp only [Act.put, List.setIfInBounds_toArray, List.set_cons_zero, List.set_cons_succ]
    refine take_op (i := 1) (.fieldAddr 35 (.tmp 6) 0) (some 28) (.pointer (some ⟨X, 0, none⟩)) (by unfold opWants; kernel_rfl) (by kernel_rfl) (by kernel_rfl) (by kernel_rfl) (fun _ _ _ h => h) (fun o ho w' => ?_) ?_
    · unfold execOp; simp only [ho]; go_simp
    simp only [Act.put, List.setIfInBounds_toArray, List.set_cons_zero, List.set_cons_succ]
    refine take_op (i := 6) (.move (.tmp 5)) (some 33) (.slice (some ⟨g, off, none⟩) L cap) (by unfold opWants; kernel_rfl) (by kernel_rfl) (by kernel_rfl) (by kernel_rfl) (fun _ _ _ h => h) (fun o ho w' => ?_) ?_
    · unfold execOp; simp only [ho]; go_simp
    simp only [Act.put, List.setIfInBounds_toArray, List.set_cons_zero, List.set_cons_succ]
    refine any2 2 4 (by kernel_rfl) ?_ ?_
    · skip
      refine opw_load 22 (.tmp 28) (some 29) (by unfold opWants; kernel_rfl) (.pointer (some ⟨X, 0, none⟩)) (.int .u32 (a.code : Int)) (by kernel_rfl) hv0.code ?_
      simp only [Act.put, List.setIfInBounds_toArray, List.set_cons_zero, List.set_cons_succ]
      refine any2 3 4 (by kernel_rfl) ?_ ?_
      · skip
        refine opw_call (.call { callee := .value (.func 25), args := #[.tmp 27, .tmp 29], argTypes := #[30, 22] }) (some 30) (by unfold opWants; kernel_rfl) 25 #[.slice (some ⟨g, off, none⟩) L cap, .int .u32 (a.code : Int)] (fun o ho => by unfold execOp; rw [ho]; kernel_rfl) (F1.out _ _ _ hv0.recs hcap) ?_
        rintro e z2 ⟨x30, rfl, ho2, hb2⟩
        obtain ⟨r30, cap30, rfl⟩ := owns_form ho2
        have hc30 := owns_cap ho2
        have R30 := recs_of_owns cc_len ho2 rfl (by have := HOL.out; omega)
        refine ⟨_, rfl, ?_⟩
        have bl2 := bel_call bl0 hb2
        have hv2 := hv0.stay hb2
        simp only [Act.put, List.setIfInBounds_toArray, List.set_cons_zero, List.set_cons_succ]
        refine any1 4 (by kernel_rfl) ?_
        · skip
          refine opw_load 35 (.tmp 6) (some 31) (by unfold opWants; kernel_rfl) (.pointer (some ⟨X, 0, none⟩)) (cv a) (by kernel_rfl) hv2.acc ?_
          simp only [Act.put, List.setIfInBounds_toArray, List.set_cons_zero, List.set_cons_succ]
          refine any1 5 (by kernel_rfl) ?_
          · skip
            refine opw_call (.call { callee := .value (.func 26), args := #[.tmp 30, .tmp 31], argTypes := #[30, 35] }) (some 32) (by unfold opWants; kernel_rfl) 26 #[.slice r30 o.length cap30, cv a] (fun o ho => by unfold execOp; rw [ho]; kernel_rfl) (F2.out _ r30 o.length cap30 R30 hc30 rfl) ?_
            rintro e z4 ⟨x32, rfl, ho4, hb4⟩
            have R32 := recs_of_owns cc_len ho4 HL.out.symm (by omega)
            refine ⟨_, rfl, ?_⟩
            have bl4 := bel_call bl2 hb4
            have hv4 := hv2.stay hb4
            simp only [Act.put, List.setIfInBounds_toArray, List.set_cons_zero, List.set_cons_succ]
            refine any1 7 (by kernel_rfl) ?_
            · skip
              refine opw_call (.call { callee := .value (.func 24), args := #[.tmp 32, .tmp 33], argTypes := #[30, 30] }) (some 34) (by unfold opWants; kernel_rfl) 24 #[x32, .slice (some ⟨g, off, none⟩) L cap] (fun o ho => by unfold execOp; rw [ho]; kernel_rfl) (F3.out _ _ _ R32 hv4.recs) ?_
              rintro e z5 ⟨rfl, hb5⟩
              refine ⟨_, rfl, ?_⟩
              have bl5 := bel_call bl4 hb5
              have hv5 := hv4.stay hb5
              simp only [Act.put, List.setIfInBounds_toArray, List.set_cons_zero, List.set_cons_succ]
              refine take_op (i := 8) (.move (.tmp 34)) (some 35) (.bool true) (by unfold opWants; kernel_rfl) (by kernel_rfl) (by kernel_rfl) (by kernel_rfl) (fun _ _ _ h => h) (fun o ho w' => ?_) ?_
              · unfold execOp; simp only [ho]; go_simp
              simp only [Act.put, List.setIfInBounds_toArray, List.set_cons_zero, List.set_cons_succ]
              refine take_op (i := 9) (.move (.tmp 7)) (some 36) (.slice r3 L cap3) (by unfold opWants; kernel_rfl) (by kernel_rfl) (by kernel_rfl) (by kernel_rfl) (fun _ _ _ h => h) (fun o ho w' => ?_) ?_
              · unfold execOp; simp only [ho]; go_simp
              simp only [Act.put, List.setIfInBounds_toArray, List.set_cons_zero, List.set_cons_succ]
              refine take_op (i := 10) (.fieldAddr 35 (.tmp 6) 0) (some 37) (.pointer (some ⟨X, 0, none⟩)) (by unfold opWants; kernel_rfl) (by kernel_rfl) (by kernel_rfl) (by kernel_rfl) (fun _ _ _ h => h) (fun o ho w' => ?_) ?_
              · unfold execOp; simp only [ho]; go_simp
              simp only [Act.put, List.setIfInBounds_toArray, List.set_cons_zero, List.set_cons_succ]
              refine take_op (i := 13) (.move (.tmp 5)) (some 40) (.slice (some ⟨g, off, none⟩) L cap) (by unfold opWants; kernel_rfl) (by kernel_rfl) (by kernel_rfl) (by kernel_rfl) (fun _ _ _ h => h) (fun o ho w' => ?_) ?_
              · unfold execOp; simp only [ho]; go_simp
              simp only [Act.put, List.setIfInBounds_toArray, List.set_cons_zero, List.set_cons_succ]
              refine any1 11 (by kernel_rfl) ?_
              · skip
                refine opw_load 22 (.tmp 37) (some 38) (by unfold opWants; kernel_rfl) (.pointer (some ⟨X, 0, none⟩)) (.int .u32 (a.code : Int)) (by kernel_rfl) hv5.code ?_
                simp only [Act.put, List.setIfInBounds_toArray, List.set_cons_zero, List.set_cons_succ]
                refine any1 12 (by kernel_rfl) ?_
                · skip
                  refine opw_call (.call { callee := .value (.func 27), args := #[.tmp 36, .const (.int .u32 99999), .tmp 38], argTypes := #[30, 22, 22] }) (some 39) (by unfold opWants; kernel_rfl) 27 #[.slice r3 L cap3, .int .u32 99999, .int .u32 (a.code : Int)] (fun o ho => by unfold execOp; rw [ho]; kernel_rfl) (F4.out _ _ hv5.mov) ?_
                  rintro e z7 ⟨x39, rfl, ho7, hb7⟩
                  have R39 := recs_of_owns cc_len ho7 HL.out.symm (by omega)
                  refine ⟨_, rfl, ?_⟩
                  have bl7 := bel_call bl5 hb7
                  have hv7 := hv5.stay hb7
                  simp only [Act.put, List.setIfInBounds_toArray, List.set_cons_zero, List.set_cons_succ]
                  refine any1 14 (by kernel_rfl) ?_
                  · skip
                    refine opw_call (.call { callee := .value (.func 24), args := #[.tmp 39, .tmp 40], argTypes := #[30, 30] }) (some 41) (by unfold opWants; kernel_rfl) 24 #[x39, .slice (some ⟨g, off, none⟩) L cap] (fun o ho => by unfold execOp; rw [ho]; kernel_rfl) (F3.out _ _ _ R39 hv7.recs) ?_
                    rintro e z8 ⟨rfl, hb8⟩
                    refine ⟨_, rfl, ?_⟩
                    have bl8 := bel_call bl7 hb8
                    have hv8 := hv7.stay hb8
                    simp only [Act.put, List.setIfInBounds_toArray, List.set_cons_zero, List.set_cons_succ]
                    refine take_op (i := 15) (.pick (.tmp 35) (.tmp 41) (.const (.bool false))) (some 42) (.bool true) (by unfold opWants; kernel_rfl) (by kernel_rfl) (by kernel_rfl) (by kernel_rfl) (fun _ _ _ h => h) (fun o ho w' => ?_) ?_
                    · unfold execOp; simp only [ho]; go_simp
                    simp only [Act.put, List.setIfInBounds_toArray, List.set_cons_zero, List.set_cons_succ]
                    refine take_op (i := 16) (.move (.tmp 42)) (some 43) (.bool true) (by unfold opWants; kernel_rfl) (by kernel_rfl) (by kernel_rfl) (by kernel_rfl) (fun _ _ _ h => h) (fun o ho w' => ?_) ?_
                    · unfold execOp; simp only [ho]; go_simp
                    simp only [Act.put, List.setIfInBounds_toArray, List.set_cons_zero, List.set_cons_succ]
                    refine take_op (i := 17) (.move (.tmp 7)) (some 44) (.slice r3 L cap3) (by unfold opWants; kernel_rfl) (by kernel_rfl) (by kernel_rfl) (by kernel_rfl) (fun _ _ _ h => h) (fun o ho w' => ?_) ?_
                    · unfold execOp; simp only [ho]; go_simp
                    simp only [Act.put, List.setIfInBounds_toArray, List.set_cons_zero, List.set_cons_succ]
                    refine take_op (i := 18) (.fieldAddr 35 (.tmp 6) 0) (some 45) (.pointer (some ⟨X, 0, none⟩)) (by unfold opWants; kernel_rfl) (by kernel_rfl) (by kernel_rfl) (by kernel_rfl) (fun _ _ _ h => h) (fun o ho w' => ?_) ?_
                    · unfold execOp; simp only [ho]; go_simp
                    simp only [Act.put, List.setIfInBounds_toArray, List.set_cons_zero, List.set_cons_succ]
                    refine any1 19 (by kernel_rfl) ?_
                    · skip
                      refine opw_load 22 (.tmp 45) (some 46) (by unfold opWants; kernel_rfl) (.pointer (some ⟨X, 0, none⟩)) (.int .u32 (a.code : Int)) (by kernel_rfl) hv8.code ?_
                      simp only [Act.put, List.setIfInBounds_toArray, List.set_cons_zero, List.set_cons_succ]
                      refine any1 20 (by kernel_rfl) ?_
                      · skip
                        refine opw_call (.call { callee := .value (.func 23), args := #[.tmp 44, .tmp 46], argTypes := #[30, 22] }) (some 47) (by unfold opWants; kernel_rfl) 23 #[.slice r3 L cap3, .int .u32 (a.code : Int)] (fun o ho => by unfold execOp; rw [ho]; kernel_rfl) (F6.out _ _ hv8.mov) ?_
                        rintro e z10 ⟨r47, cap47, rfl, hb10⟩
                        refine ⟨_, rfl, ?_⟩
                        have bl10 := bel_call bl8 hb10
                        have hv10 := hv8.stay hb10
                        simp only [Act.put, List.setIfInBounds_toArray, List.set_cons_zero, List.set_cons_succ]
                        refine take_op (i := 21) (.call { callee := .builtin .len, args := #[.tmp 47], argTypes := #[39] }) (some 48) (.int .i64 0) (by unfold opWants; kernel_rfl) (by kernel_rfl) (by kernel_rfl) (by kernel_rfl) (fun _ _ _ h => h) (fun o ho w' => ?_) ?_
                        · unfold execOp; simp only [ho]; go_simp
                        simp only [Act.put, List.setIfInBounds_toArray, List.set_cons_zero, List.set_cons_succ]
                        refine take_op (i := 22) (.binOp .eql 3 (.tmp 48) (.const (.int .i64 0)) 3) (some 49) (.bool true) (by unfold opWants; kernel_rfl) (by kernel_rfl) (by kernel_rfl) (by kernel_rfl) (fun _ _ _ h => h) (fun o ho w' => ?_) ?_
                        · unfold execOp; simp only [ho]; go_simp
                        simp only [Act.put, List.setIfInBounds_toArray, List.set_cons_zero, List.set_cons_succ]
                        refine take_op (i := 23) (.pick (.tmp 43) (.tmp 49) (.const (.bool false))) (some 50) (.bool true) (by unfold opWants; kernel_rfl) (by kernel_rfl) (by kernel_rfl) (by kernel_rfl) (fun _ _ _ h => h) (fun o ho w' => ?_) ?_
                        · unfold execOp; simp only [ho]; go_simp
                        simp only [Act.put, List.setIfInBounds_toArray, List.set_cons_zero, List.set_cons_succ]
                        refine take_op (i := 24) (.move (.tmp 50)) (some 51) (.bool true) (by unfold opWants; kernel_rfl) (by kernel_rfl) (by kernel_rfl) (by kernel_rfl) (fun _ _ _ h => h) (fun o ho w' => ?_) ?_
                        · unfold execOp; simp only [ho]; go_simp
                        simp only [Act.put, List.setIfInBounds_toArray, List.set_cons_zero, List.set_cons_succ]
                        refine take_op (i := 25) (.move (.tmp 7)) (some 52) (.slice r3 L cap3) (by unfold opWants; kernel_rfl) (by kernel_rfl) (by kernel_rfl) (by kernel_rfl) (fun _ _ _ h => h) (fun o ho w' => ?_) ?_
                        · unfold execOp; simp only [ho]; go_simp
                        simp only [Act.put, List.setIfInBounds_toArray, List.set_cons_zero, List.set_cons_succ]
                        refine take_op (i := 27) (.move (.tmp 5)) (some 54) (.slice (some ⟨g, off, none⟩) L cap) (by unfold opWants; kernel_rfl) (by kernel_rfl) (by kernel_rfl) (by kernel_rfl) (fun _ _ _ h => h) (fun o ho w' => ?_) ?_
                        · unfold execOp; simp only [ho]; go_simp
                        simp only [Act.put, List.setIfInBounds_toArray, List.set_cons_zero, List.set_cons_succ]
                        refine take_op (i := 28) (.fieldAddr 35 (.tmp 6) 0) (some 55) (.pointer (some ⟨X, 0, none⟩)) (by unfold opWants; kernel_rfl) (by kernel_rfl) (by kernel_rfl) (by kernel_rfl) (fun _ _ _ h => h) (fun o ho w' => ?_) ?_
                        · unfold execOp; simp only [ho]; go_simp
                        simp only [Act.put, List.setIfInBounds_toArray, List.set_cons_zero, List.set_cons_succ]
                        refine any2 26 29 (by kernel_rfl) ?_ ?_
                        · skip
                          refine opw_call (.call { callee := .value (.func 23), args := #[.tmp 52, .const (.int .u32 99999)], argTypes := #[30, 22] }) (some 53) (by unfold opWants; kernel_rfl) 23 #[.slice r3 L cap3, .int .u32 99999] (fun o ho => by unfold execOp; rw [ho]; kernel_rfl) (F7.out _ _ hv10.mov) ?_
                          rintro e z11 ⟨x53, rfl, R53, hb11⟩
                          refine ⟨_, rfl, ?_⟩
                          have bl11 := bel_call bl10 hb11
                          have hv11 := hv10.stay hb11
                          simp only [Act.put, List.setIfInBounds_toArray, List.set_cons_zero, List.set_cons_succ]
                          refine any1 29 (by kernel_rfl) ?_
                          · skip
                            refine opw_load 22 (.tmp 55) (some 56) (by unfold opWants; kernel_rfl) (.pointer (some ⟨X, 0, none⟩)) (.int .u32 (a.code : Int)) (by kernel_rfl) hv11.code ?_
                            simp only [Act.put, List.setIfInBounds_toArray, List.set_cons_zero, List.set_cons_succ]
                            refine any1 30 (by kernel_rfl) ?_
                            · skip
                              refine opw_call (.call { callee := .value (.func 23), args := #[.tmp 54, .tmp 56], argTypes := #[30, 22] }) (some 57) (by unfold opWants; kernel_rfl) 23 #[.slice (some ⟨g, off, none⟩) L cap, .int .u32 (a.code : Int)] (fun o ho => by unfold execOp; rw [ho]; kernel_rfl) (F8.out _ _ hv11.recs) ?_
                              rintro e z13 ⟨x57, rfl, R57, hb13⟩
                              have R53' := R53.stay hb13
                              refine ⟨_, rfl, ?_⟩
                              have bl13 := bel_call bl11 hb13
                              have hv13 := hv11.stay hb13
                              simp only [Act.put, List.setIfInBounds_toArray, List.set_cons_zero, List.set_cons_succ]
                              refine any1 31 (by kernel_rfl) ?_
                              · skip
                                refine opw_call (.call { callee := .value (.func 19), args := #[.tmp 53, .tmp 57], argTypes := #[39, 39] }) (some 58) (by unfold opWants; kernel_rfl) 19 #[x53, x57] (fun o ho => by unfold execOp; rw [ho]; kernel_rfl) (F9.out _ _ _ R53' R57) ?_
                                rintro e z14 ⟨rfl, hb14⟩
                                refine ⟨_, rfl, ?_⟩
                                have bl14 := bel_call bl13 hb14
                                have hv14 := hv13.stay hb14
                                simp only [Act.put, List.setIfInBounds_toArray, List.set_cons_zero, List.set_cons_succ]
                                refine take_op (i := 32) (.pick (.tmp 51) (.tmp 58) (.const (.bool false))) (some 59) (.bool true) (by unfold opWants; kernel_rfl) (by kernel_rfl) (by kernel_rfl) (by kernel_rfl) (fun _ _ _ h => h) (fun o ho w' => ?_) ?_
                                · unfold execOp; simp only [ho]; go_simp
                                simp only [Act.put, List.setIfInBounds_toArray, List.set_cons_zero, List.set_cons_succ]
                                refine take_op (i := 33) (.assign (.tmp 59)) (some 4) (.bool true) (by unfold opWants; kernel_rfl) (by kernel_rfl) (by kernel_rfl) (by kernel_rfl) (fun _ _ _ h => h) (fun o ho w' => ?_) ?_
                                · unfold execOp; simp only [ho]; go_simp
                                simp only [Act.put, List.setIfInBounds_toArray, List.set_cons_zero, List.set_cons_succ]
                                refine wpAny_done (by kernel_rfl) ?_ _
                                go_wp2
                                go_ret
                                exact ⟨rfl, HB3.out.trans (bl14.mono HB3.out.size)⟩
                        · skip
                          refine opw_load 22 (.tmp 55) (some 56) (by unfold opWants; kernel_rfl) (.pointer (some ⟨X, 0, none⟩)) (.int .u32 (a.code : Int)) (by kernel_rfl) hv10.code ?_
                          simp only [Act.put, List.setIfInBounds_toArray, List.set_cons_zero, List.set_cons_succ]
                          refine any1 26 (by kernel_rfl) ?_
                          · skip
                            refine opw_call (.call { callee := .value (.func 23), args := #[.tmp 52, .const (.int .u32 99999)], argTypes := #[30, 22] }) (some 53) (by unfold opWants; kernel_rfl) 23 #[.slice r3 L cap3, .int .u32 99999] (fun o ho => by unfold execOp; rw [ho]; kernel_rfl) (F7.out _ _ hv10.mov) ?_
                            rintro e z12 ⟨x53, rfl, R53, hb12⟩
                            refine ⟨_, rfl, ?_⟩
                            have bl12 := bel_call bl10 hb12
                            have hv12 := hv10.stay hb12
                            simp only [Act.put, List.setIfInBounds_toArray, List.set_cons_zero, List.set_cons_succ]
                            refine any1 30 (by kernel_rfl) ?_
                            · skip
                              refine opw_call (.call { callee := .value (.func 23), args := #[.tmp 54, .tmp 56], argTypes := #[30, 22] }) (some 57) (by unfold opWants; kernel_rfl) 23 #[.slice (some ⟨g, off, none⟩) L cap, .int .u32 (a.code : Int)] (fun o ho => by unfold execOp; rw [ho]; kernel_rfl) (F8.out _ _ hv12.recs) ?_
                              rintro e z13 ⟨x57, rfl, R57, hb13⟩
                              have R53' := R53.stay hb13
                              refine ⟨_, rfl, ?_⟩
                              have bl13 := bel_call bl12 hb13
                              have hv13 := hv12.stay hb13
                              simp only [Act.put, List.setIfInBounds_toArray, List.set_cons_zero, List.set_cons_succ]
                              refine any1 31 (by kernel_rfl) ?_
                              · skip
                                refine opw_call (.call { callee := .value (.func 19), args := #[.tmp 53, .tmp 57], argTypes := #[39, 39] }) (some 58) (by unfold opWants; kernel_rfl) 19 #[x53, x57] (fun o ho => by unfold execOp; rw [ho]; kernel_rfl) (F9.out _ _ _ R53' R57) ?_
                                rintro e z14 ⟨rfl, hb14⟩
                                refine ⟨_, rfl, ?_⟩
                                have bl14 := bel_call bl13 hb14
                                have hv14 := hv13.stay hb14
                                simp only [Act.put, List.setIfInBounds_toArray, List.set_cons_zero, List.set_cons_succ]
                                refine take_op (i := 32) (.pick (.tmp 51) (.tmp 58) (.const (.bool false))) (some 59) (.bool true) (by unfold opWants; kernel_rfl) (by kernel_rfl) (by kernel_rfl) (by kernel_rfl) (fun _ _ _ h => h) (fun o ho w' => ?_) ?_
                                · unfold execOp; simp only [ho]; go_simp
                                simp only [Act.put, List.setIfInBounds_toArray, List.set_cons_zero, List.set_cons_succ]
                                refine take_op (i := 33) (.assign (.tmp 59)) (some 4) (.bool true) (by unfold opWants; kernel_rfl) (by kernel_rfl) (by kernel_rfl) (by kernel_rfl) (fun _ _ _ h => h) (fun o ho w' => ?_) ?_
                                · unfold execOp; simp only [ho]; go_simp
                                simp only [Act.put, List.setIfInBounds_toArray, List.set_cons_zero, List.set_cons_succ]
                                refine wpAny_done (by kernel_rfl) ?_ _
                                go_wp2
                                go_ret
                                exact ⟨rfl, HB3.out.trans (bl14.mono HB3.out.size)⟩
      · skip
        refine opw_load 35 (.tmp 6) (some 31) (by unfold opWants; kernel_rfl) (.pointer (some ⟨X, 0, none⟩)) (cv a) (by kernel_rfl) hv0.acc ?_
        simp only [Act.put, List.setIfInBounds_toArray, List.set_cons_zero, List.set_cons_succ]
        refine any1 3 (by kernel_rfl) ?_
        · skip
          refine opw_call (.call { callee := .value (.func 25), args := #[.tmp 27, .tmp 29], argTypes := #[30, 22] }) (some 30) (by unfold opWants; kernel_rfl) 25 #[.slice (some ⟨g, off, none⟩) L cap, .int .u32 (a.code : Int)] (fun o ho => by unfold execOp; rw [ho]; kernel_rfl) (F1.out _ _ _ hv0.recs hcap) ?_
          rintro e z3 ⟨x30, rfl, ho3, hb3⟩
          obtain ⟨r30, cap30, rfl⟩ := owns_form ho3
          have hc30 := owns_cap ho3
          have R30 := recs_of_owns cc_len ho3 rfl (by have := HOL.out; omega)
          refine ⟨_, rfl, ?_⟩
          have bl3 := bel_call bl0 hb3
          have hv3 := hv0.stay hb3
          simp only [Act.put, List.setIfInBounds_toArray, List.set_cons_zero, List.set_cons_succ]
          refine any1 5 (by kernel_rfl) ?_
          · skip
            refine opw_call (.call { callee := .value (.func 26), args := #[.tmp 30, .tmp 31], argTypes := #[30, 35] }) (some 32) (by unfold opWants; kernel_rfl) 26 #[.slice r30 o.length cap30, cv a] (fun o ho => by unfold execOp; rw [ho]; kernel_rfl) (F2.out _ r30 o.length cap30 R30 hc30 rfl) ?_
            rintro e z4 ⟨x32, rfl, ho4, hb4⟩
            have R32 := recs_of_owns cc_len ho4 HL.out.symm (by omega)
            refine ⟨_, rfl, ?_⟩
            have bl4 := bel_call bl3 hb4
            have hv4 := hv3.stay hb4
            simp only [Act.put, List.setIfInBounds_toArray, List.set_cons_zero, List.set_cons_succ]
            refine any1 7 (by kernel_rfl) ?_
            · skip
              refine opw_call (.call { callee := .value (.func 24), args := #[.tmp 32, .tmp 33], argTypes := #[30, 30] }) (some 34) (by unfold opWants; kernel_rfl) 24 #[x32, .slice (some ⟨g, off, none⟩) L cap] (fun o ho => by unfold execOp; rw [ho]; kernel_rfl) (F3.out _ _ _ R32 hv4.recs) ?_
              rintro e z5 ⟨rfl, hb5⟩
              refine ⟨_, rfl, ?_⟩
              have bl5 := bel_call bl4 hb5
              have hv5 := hv4.stay hb5
              simp only [Act.put, List.setIfInBounds_toArray, List.set_cons_zero, List.set_cons_succ]
              refine take_op (i := 8) (.move (.tmp 34)) (some 35) (.bool true) (by unfold opWants; kernel_rfl) (by kernel_rfl) (by kernel_rfl) (by kernel_rfl) (fun _ _ _ h => h) (fun o ho w' => ?_) ?_
              · unfold execOp; simp only [ho]; go_simp
              simp only [Act.put, List.setIfInBounds_toArray, List.set_cons_zero, List.set_cons_succ]
              refine take_op (i := 9) (.move (.tmp 7)) (some 36) (.slice r3 L cap3) (by unfold opWants; kernel_rfl) (by kernel_rfl) (by kernel_rfl) (by kernel_rfl) (fun _ _ _ h => h) (fun o ho w' => ?_) ?_
              · unfold execOp; simp only [ho]; go_simp
              simp only [Act.put, List.setIfInBounds_toArray, List.set_cons_zero, List.set_cons_succ]
              refine take_op (i := 10) (.fieldAddr 35 (.tmp 6) 0) (some 37) (.pointer (some ⟨X, 0, none⟩)) (by unfold opWants; kernel_rfl) (by kernel_rfl) (by kernel_rfl) (by kernel_rfl) (fun _ _ _ h => h) (fun o ho w' => ?_) ?_
              · unfold execOp; simp only [ho]; go_simp
              simp only [Act.put, List.setIfInBounds_toArray, List.set_cons_zero, List.set_cons_succ]
              refine take_op (i := 13) (.move (.tmp 5)) (some 40) (.slice (some ⟨g, off, none⟩) L cap) (by unfold opWants; kernel_rfl) (by kernel_rfl) (by kernel_rfl) (by kernel_rfl) (fun _ _ _ h => h) (fun o ho w' => ?_) ?_
              · unfold execOp; simp only [ho]; go_simp
              simp only [Act.put, List.setIfInBounds_toArray, List.set_cons_zero, List.set_cons_succ]
              refine any1 11 (by kernel_rfl) ?_
              · skip
                refine opw_load 22 (.tmp 37) (some 38) (by unfold opWants; kernel_rfl) (.pointer (some ⟨X, 0, none⟩)) (.int .u32 (a.code : Int)) (by kernel_rfl) hv5.code ?_
                simp only [Act.put, List.setIfInBounds_toArray, List.set_cons_zero, List.set_cons_succ]
                refine any1 12 (by kernel_rfl) ?_
                · skip
                  refine opw_call (.call { callee := .value (.func 27), args := #[.tmp 36, .const (.int .u32 99999), .tmp 38], argTypes := #[30, 22, 22] }) (some 39) (by unfold opWants; kernel_rfl) 27 #[.slice r3 L cap3, .int .u32 99999, .int .u32 (a.code : Int)] (fun o ho => by unfold execOp; rw [ho]; kernel_rfl) (F4.out _ _ hv5.mov) ?_
                  rintro e z7 ⟨x39, rfl, ho7, hb7⟩
                  have R39 := recs_of_owns cc_len ho7 HL.out.symm (by omega)
                  refine ⟨_, rfl, ?_⟩
                  have bl7 := bel_call bl5 hb7
                  have hv7 := hv5.stay hb7
                  simp only [Act.put, List.setIfInBounds_toArray, List.set_cons_zero, List.set_cons_succ]
                  refine any1 14 (by kernel_rfl) ?_
                  · skip
                    refine opw_call (.call { callee := .value (.func 24), args := #[.tmp 39, .tmp 40], argTypes := #[30, 30] }) (some 41) (by unfold opWants; kernel_rfl) 24 #[x39, .slice (some ⟨g, off, none⟩) L cap] (fun o ho => by unfold execOp; rw [ho]; kernel_rfl) (F3.out _ _ _ R39 hv7.recs) ?_
                    rintro e z8 ⟨rfl, hb8⟩
                    refine ⟨_, rfl, ?_⟩
                    have bl8 := bel_call bl7 hb8
                    have hv8 := hv7.stay hb8
                    simp only [Act.put, List.setIfInBounds_toArray, List.set_cons_zero, List.set_cons_succ]
                    refine take_op (i := 15) (.pick (.tmp 35) (.tmp 41) (.const (.bool false))) (some 42) (.bool true) (by unfold opWants; kernel_rfl) (by kernel_rfl) (by kernel_rfl) (by kernel_rfl) (fun _ _ _ h => h) (fun o ho w' => ?_) ?_
                    · unfold execOp; simp only [ho]; go_simp
                    simp only [Act.put, List.setIfInBounds_toArray, List.set_cons_zero, List.set_cons_succ]
                    refine take_op (i := 16) (.move (.tmp 42)) (some 43) (.bool true) (by unfold opWants; kernel_rfl) (by kernel_rfl) (by kernel_rfl) (by kernel_rfl) (fun _ _ _ h => h) (fun o ho w' => ?_) ?_
                    · unfold execOp; simp only [ho]; go_simp
                    simp only [Act.put, List.setIfInBounds_toArray, List.set_cons_zero, List.set_cons_succ]
                    refine take_op (i := 17) (.move (.tmp 7)) (some 44) (.slice r3 L cap3) (by unfold opWants; kernel_rfl) (by kernel_rfl) (by kernel_rfl) (by kernel_rfl) (fun _ _ _ h => h) (fun o ho w' => ?_) ?_
                    · unfold execOp; simp only [ho]; go_simp
                    simp only [Act.put, List.setIfInBounds_toArray, List.set_cons_zero, List.set_cons_succ]
                    refine take_op (i := 18) (.fieldAddr 35 (.tmp 6) 0) (some 45) (.pointer (some ⟨X, 0, none⟩)) (by unfold opWants; kernel_rfl) (by kernel_rfl) (by kernel_rfl) (by kernel_rfl) (fun _ _ _ h => h) (fun o ho w' => ?_) ?_
                    · unfold execOp; simp only [ho]; go_simp
                    simp only [Act.put, List.setIfInBounds_toArray, List.set_cons_zero, List.set_cons_succ]
                    refine any1 19 (by kernel_rfl) ?_
                    · skip
                      refine opw_load 22 (.tmp 45) (some 46) (by unfold opWants; kernel_rfl) (.pointer (some ⟨X, 0, none⟩)) (.int .u32 (a.code : Int)) (by kernel_rfl) hv8.code ?_
                      simp only [Act.put, List.setIfInBounds_toArray, List.set_cons_zero, List.set_cons_succ]
                      refine any1 20 (by kernel_rfl) ?_
                      · skip
                        refine opw_call (.call { callee := .value (.func 23), args := #[.tmp 44, .tmp 46], argTypes := #[30, 22] }) (some 47) (by unfold opWants; kernel_rfl) 23 #[.slice r3 L cap3, .int .u32 (a.code : Int)] (fun o ho => by unfold execOp; rw [ho]; kernel_rfl) (F6.out _ _ hv8.mov) ?_
                        rintro e z10 ⟨r47, cap47, rfl, hb10⟩
                        refine ⟨_, rfl, ?_⟩
                        have bl10 := bel_call bl8 hb10
                        have hv10 := hv8.stay hb10
                        simp only [Act.put, List.setIfInBounds_toArray, List.set_cons_zero, List.set_cons_succ]
                        refine take_op (i := 21) (.call { callee := .builtin .len, args := #[.tmp 47], argTypes := #[39] }) (some 48) (.int .i64 0) (by unfold opWants; kernel_rfl) (by kernel_rfl) (by kernel_rfl) (by kernel_rfl) (fun _ _ _ h => h) (fun o ho w' => ?_) ?_
                        · unfold execOp; simp only [ho]; go_simp
                        simp only [Act.put, List.setIfInBounds_toArray, List.set_cons_zero, List.set_cons_succ]
                        refine take_op (i := 22) (.binOp .eql 3 (.tmp 48) (.const (.int .i64 0)) 3) (some 49) (.bool true) (by unfold opWants; kernel_rfl) (by kernel_rfl) (by kernel_rfl) (by kernel_rfl) (fun _ _ _ h => h) (fun o ho w' => ?_) ?_
                        · unfold execOp; simp only [ho]; go_simp
                        simp only [Act.put, List.setIfInBounds_toArray, List.set_cons_zero, List.set_cons_succ]
                        refine take_op (i := 23) (.pick (.tmp 43) (.tmp 49) (.const (.bool false))) (some 50) (.bool true) (by unfold opWants; kernel_rfl) (by kernel_rfl) (by kernel_rfl) (by kernel_rfl) (fun _ _ _ h => h) (fun o ho w' => ?_) ?_
                        · unfold execOp; simp only [ho]; go_simp
                        simp only [Act.put, List.setIfInBounds_toArray, List.set_cons_zero, List.set_cons_succ]
                        refine take_op (i := 24) (.move (.tmp 50)) (some 51) (.bool true) (by unfold opWants; kernel_rfl) (by kernel_rfl) (by kernel_rfl) (by kernel_rfl) (fun _ _ _ h => h) (fun o ho w' => ?_) ?_
                        · unfold execOp; simp only [ho]; go_simp
                        simp only [Act.put, List.setIfInBounds_toArray, List.set_cons_zero, List.set_cons_succ]
                        refine take_op (i := 25) (.move (.tmp 7)) (some 52) (.slice r3 L cap3) (by unfold opWants; kernel_rfl) (by kernel_rfl) (by kernel_rfl) (by kernel_rfl) (fun _ _ _ h => h) (fun o ho w' => ?_) ?_
                        · unfold execOp; simp only [ho]; go_simp
                        simp only [Act.put, List.setIfInBounds_toArray, List.set_cons_zero, List.set_cons_succ]
                        refine take_op (i := 27) (.move (.tmp 5)) (some 54) (.slice (some ⟨g, off, none⟩) L cap) (by unfold opWants; kernel_rfl) (by kernel_rfl) (by kernel_rfl) (by kernel_rfl) (fun _ _ _ h => h) (fun o ho w' => ?_) ?_
                        · unfold execOp; simp only [ho]; go_simp
                        simp only [Act.put, List.setIfInBounds_toArray, List.set_cons_zero, List.set_cons_succ]
                        refine take_op (i := 28) (.fieldAddr 35 (.tmp 6) 0) (some 55) (.pointer (some ⟨X, 0, none⟩)) (by unfold opWants; kernel_rfl) (by kernel_rfl) (by kernel_rfl) (by kernel_rfl) (fun _ _ _ h => h) (fun o ho w' => ?_) ?_
                        · unfold execOp; simp only [ho]; go_simp
                        simp only [Act.put, List.setIfInBounds_toArray, List.set_cons_zero, List.set_cons_succ]
                        refine any2 26 29 (by kernel_rfl) ?_ ?_
                        · skip
                          refine opw_call (.call { callee := .value (.func 23), args := #[.tmp 52, .const (.int .u32 99999)], argTypes := #[30, 22] }) (some 53) (by unfold opWants; kernel_rfl) 23 #[.slice r3 L cap3, .int .u32 99999] (fun o ho => by unfold execOp; rw [ho]; kernel_rfl) (F7.out _ _ hv10.mov) ?_
                          rintro e z11 ⟨x53, rfl, R53, hb11⟩
                          refine ⟨_, rfl, ?_⟩
                          have bl11 := bel_call bl10 hb11
                          have hv11 := hv10.stay hb11
                          simp only [Act.put, List.setIfInBounds_toArray, List.set_cons_zero, List.set_cons_succ]
                          refine any1 29 (by kernel_rfl) ?_
                          · skip
                            refine opw_load 22 (.tmp 55) (some 56) (by unfold opWants; kernel_rfl) (.pointer (some ⟨X, 0, none⟩)) (.int .u32 (a.code : Int)) (by kernel_rfl) hv11.code ?_
                            simp only [Act.put, List.setIfInBounds_toArray, List.set_cons_zero, List.set_cons_succ]
                            refine any1 30 (by kernel_rfl) ?_
                            · skip
                              refine opw_call (.call { callee := .value (.func 23), args := #[.tmp 54, .tmp 56], argTypes := #[30, 22] }) (some 57) (by unfold opWants; kernel_rfl) 23 #[.slice (some ⟨g, off, none⟩) L cap, .int .u32 (a.code : Int)] (fun o ho => by unfold execOp; rw [ho]; kernel_rfl) (F8.out _ _ hv11.recs) ?_
                              rintro e z13 ⟨x57, rfl, R57, hb13⟩
                              have R53' := R53.stay hb13
                              refine ⟨_, rfl, ?_⟩
                              have bl13 := bel_call bl11 hb13
                              have hv13 := hv11.stay hb13
                              simp only [Act.put, List.setIfInBounds_toArray, List.set_cons_zero, List.set_cons_succ]
                              refine any1 31 (by kernel_rfl) ?_
                              · skip
                                refine opw_call (.call { callee := .value (.func 19), args := #[.tmp 53, .tmp 57], argTypes := #[39, 39] }) (some 58) (by unfold opWants; kernel_rfl) 19 #[x53, x57] (fun o ho => by unfold execOp; rw [ho]; kernel_rfl) (F9.out _ _ _ R53' R57) ?_
                                rintro e z14 ⟨rfl, hb14⟩
                                refine ⟨_, rfl, ?_⟩
                                have bl14 := bel_call bl13 hb14
                                have hv14 := hv13.stay hb14
                                simp only [Act.put, List.setIfInBounds_toArray, List.set_cons_zero, List.set_cons_succ]
                                refine take_op (i := 32) (.pick (.tmp 51) (.tmp 58) (.const (.bool false))) (some 59) (.bool true) (by unfold opWants; kernel_rfl) (by kernel_rfl) (by kernel_rfl) (by kernel_rfl) (fun _ _ _ h => h) (fun o ho w' => ?_) ?_
                                · unfold execOp; simp only [ho]; go_simp
                                simp only [Act.put, List.setIfInBounds_toArray, List.set_cons_zero, List.set_cons_succ]
                                refine take_op (i := 33) (.assign (.tmp 59)) (some 4) (.bool true) (by unfold opWants; kernel_rfl) (by kernel_rfl) (by kernel_rfl) (by kernel_rfl) (fun _ _ _ h => h) (fun o ho w' => ?_) ?_
                                · unfold execOp; simp only [ho]; go_simp
                                simp only [Act.put, List.setIfInBounds_toArray, List.set_cons_zero, List.set_cons_succ]
                                refine wpAny_done (by kernel_rfl) ?_ _
                                go_wp2
                                go_ret
                                exact ⟨rfl, HB3.out.trans (bl14.mono HB3.out.size)⟩
                        · skip
                          refine opw_load 22 (.tmp 55) (some 56) (by unfold opWants; kernel_rfl) (.pointer (some ⟨X, 0, none⟩)) (.int .u32 (a.code : Int)) (by kernel_rfl) hv10.code ?_
                          simp only [Act.put, List.setIfInBounds_toArray, List.set_cons_zero, List.set_cons_succ]
                          refine any1 26 (by kernel_rfl) ?_
                          · skip
                            refine opw_call (.call { callee := .value (.func 23), args := #[.tmp 52, .const (.int .u32 99999)], argTypes := #[30, 22] }) (some 53) (by unfold opWants; kernel_rfl) 23 #[.slice r3 L cap3, .int .u32 99999] (fun o ho => by unfold execOp; rw [ho]; kernel_rfl) (F7.out _ _ hv10.mov) ?_
                            rintro e z12 ⟨x53, rfl, R53, hb12⟩
                            refine ⟨_, rfl, ?_⟩
                            have bl12 := bel_call bl10 hb12
                            have hv12 := hv10.stay hb12
                            simp only [Act.put, List.setIfInBounds_toArray, List.set_cons_zero, List.set_cons_succ]
                            refine any1 30 (by kernel_rfl) ?_
                            · skip
                              refine opw_call (.call { callee := .value (.func 23), args := #[.tmp 54, .tmp 56], argTypes := #[30, 22] }) (some 57) (by unfold opWants; kernel_rfl) 23 #[.slice (some ⟨g, off, none⟩) L cap, .int .u32 (a.code : Int)] (fun o ho => by unfold execOp; rw [ho]; kernel_rfl) (F8.out _ _ hv12.recs) ?_
                              rintro e z13 ⟨x57, rfl, R57, hb13⟩
                              have R53' := R53.stay hb13
                              refine ⟨_, rfl, ?_⟩
                              have bl13 := bel_call bl12 hb13
                              have hv13 := hv12.stay hb13
                              simp only [Act.put, List.setIfInBounds_toArray, List.set_cons_zero, List.set_cons_succ]
                              refine any1 31 (by kernel_rfl) ?_
                              · skip
                                refine opw_call (.call { callee := .value (.func 19), args := #[.tmp 53, .tmp 57], argTypes := #[39, 39] }) (some 58) (by unfold opWants; kernel_rfl) 19 #[x53, x57] (fun o ho => by unfold execOp; rw [ho]; kernel_rfl) (F9.out _ _ _ R53' R57) ?_
                                rintro e z14 ⟨rfl, hb14⟩
                                refine ⟨_, rfl, ?_⟩
                                have bl14 := bel_call bl13 hb14
                                have hv14 := hv13.stay hb14
                                simp only [Act.put, List.setIfInBounds_toArray, List.set_cons_zero, List.set_cons_succ]
                                refine take_op (i := 32) (.pick (.tmp 51) (.tmp 58) (.const (.bool false))) (some 59) (.bool true) (by unfold opWants; kernel_rfl) (by kernel_rfl) (by kernel_rfl) (by kernel_rfl) (fun _ _ _ h => h) (fun o ho w' => ?_) ?_
                                · unfold execOp; simp only [ho]; go_simp
                                simp only [Act.put, List.setIfInBounds_toArray, List.set_cons_zero, List.set_cons_succ]
                                refine take_op (i := 33) (.assign (.tmp 59)) (some 4) (.bool true) (by unfold opWants; kernel_rfl) (by kernel_rfl) (by kernel_rfl) (by kernel_rfl) (fun _ _ _ h => h) (fun o ho w' => ?_) ?_
                                · unfold execOp; simp only [ho]; go_simp
                                simp only [Act.put, List.setIfInBounds_toArray, List.set_cons_zero, List.set_cons_succ]
                                refine wpAny_done (by kernel_rfl) ?_ _
                                go_wp2
                                go_ret
                                exact ⟨rfl, HB3.out.trans (bl14.mono HB3.out.size)⟩
    · skip
      refine opw_load 35 (.tmp 6) (some 31) (by unfold opWants; kernel_rfl) (.pointer (some ⟨X, 0, none⟩)) (cv a) (by kernel_rfl) hv0.acc ?_
      simp only [Act.put, List.setIfInBounds_toArray, List.set_cons_zero, List.set_cons_succ]
      refine any1 2 (by kernel_rfl) ?_
      · skip
        refine opw_load 22 (.tmp 28) (some 29) (by unfold opWants; kernel_rfl) (.pointer (some ⟨X, 0, none⟩)) (.int .u32 (a.code : Int)) (by kernel_rfl) hv0.code ?_
        simp only [Act.put, List.setIfInBounds_toArray, List.set_cons_zero, List.set_cons_succ]
        refine any1 3 (by kernel_rfl) ?_
        · skip
          refine opw_call (.call { callee := .value (.func 25), args := #[.tmp 27, .tmp 29], argTypes := #[30, 22] }) (some 30) (by unfold opWants; kernel_rfl) 25 #[.slice (some ⟨g, off, none⟩) L cap, .int .u32 (a.code : Int)] (fun o ho => by unfold execOp; rw [ho]; kernel_rfl) (F1.out _ _ _ hv0.recs hcap) ?_
          rintro e z3 ⟨x30, rfl, ho3, hb3⟩
          obtain ⟨r30, cap30, rfl⟩ := owns_form ho3
          have hc30 := owns_cap ho3
          have R30 := recs_of_owns cc_len ho3 rfl (by have := HOL.out; omega)
          refine ⟨_, rfl, ?_⟩
          have bl3 := bel_call bl0 hb3
          have hv3 := hv0.stay hb3
          simp only [Act.put, List.setIfInBounds_toArray, List.set_cons_zero, List.set_cons_succ]
          refine any1 5 (by kernel_rfl) ?_
          · skip
            refine opw_call (.call { callee := .value (.func 26), args := #[.tmp 30, .tmp 31], argTypes := #[30, 35] }) (some 32) (by unfold opWants; kernel_rfl) 26 #[.slice r30 o.length cap30, cv a] (fun o ho => by unfold execOp; rw [ho]; kernel_rfl) (F2.out _ r30 o.length cap30 R30 hc30 rfl) ?_
            rintro e z4 ⟨x32, rfl, ho4, hb4⟩
            have R32 := recs_of_owns cc_len ho4 HL.out.symm (by omega)
            refine ⟨_, rfl, ?_⟩
            have bl4 := bel_call bl3 hb4
            have hv4 := hv3.stay hb4
            simp only [Act.put, List.setIfInBounds_toArray, List.set_cons_zero, List.set_cons_succ]
            refine any1 7 (by kernel_rfl) ?_
            · skip
              refine opw_call (.call { callee := .value (.func 24), args := #[.tmp 32, .tmp 33], argTypes := #[30, 30] }) (some 34) (by unfold opWants; kernel_rfl) 24 #[x32, .slice (some ⟨g, off, none⟩) L cap] (fun o ho => by unfold execOp; rw [ho]; kernel_rfl) (F3.out _ _ _ R32 hv4.recs) ?_
              rintro e z5 ⟨rfl, hb5⟩
              refine ⟨_, rfl, ?_⟩
              have bl5 := bel_call bl4 hb5
              have hv5 := hv4.stay hb5
              simp only [Act.put, List.setIfInBounds_toArray, List.set_cons_zero, List.set_cons_succ]
              refine take_op (i := 8) (.move (.tmp 34)) (some 35) (.bool true) (by unfold opWants; kernel_rfl) (by kernel_rfl) (by kernel_rfl) (by kernel_rfl) (fun _ _ _ h => h) (fun o ho w' => ?_) ?_
              · unfold execOp; simp only [ho]; go_simp
              simp only [Act.put, List.setIfInBounds_toArray, List.set_cons_zero, List.set_cons_succ]
              refine take_op (i := 9) (.move (.tmp 7)) (some 36) (.slice r3 L cap3) (by unfold opWants; kernel_rfl) (by kernel_rfl) (by kernel_rfl) (by kernel_rfl) (fun _ _ _ h => h) (fun o ho w' => ?_) ?_
              · unfold execOp; simp only [ho]; go_simp
              simp only [Act.put, List.setIfInBounds_toArray, List.set_cons_zero, List.set_cons_succ]
              refine take_op (i := 10) (.fieldAddr 35 (.tmp 6) 0) (some 37) (.pointer (some ⟨X, 0, none⟩)) (by unfold opWants; kernel_rfl) (by kernel_rfl) (by kernel_rfl) (by kernel_rfl) (fun _ _ _ h => h) (fun o ho w' => ?_) ?_
              · unfold execOp; simp only [ho]; go_simp
              simp only [Act.put, List.setIfInBounds_toArray, List.set_cons_zero, List.set_cons_succ]
              refine take_op (i := 13) (.move (.tmp 5)) (some 40) (.slice (some ⟨g, off, none⟩) L cap) (by unfold opWants; kernel_rfl) (by kernel_rfl) (by kernel_rfl) (by kernel_rfl) (fun _ _ _ h => h) (fun o ho w' => ?_) ?_
              · unfold execOp; simp only [ho]; go_simp
              simp only [Act.put, List.setIfInBounds_toArray, List.set_cons_zero, List.set_cons_succ]
              refine any1 11 (by kernel_rfl) ?_
              · skip
                refine opw_load 22 (.tmp 37) (some 38) (by unfold opWants; kernel_rfl) (.pointer (some ⟨X, 0, none⟩)) (.int .u32 (a.code : Int)) (by kernel_rfl) hv5.code ?_
                simp only [Act.put, List.setIfInBounds_toArray, List.set_cons_zero, List.set_cons_succ]
                refine any1 12 (by kernel_rfl) ?_
                · skip
                  refine opw_call (.call { callee := .value (.func 27), args := #[.tmp 36, .const (.int .u32 99999), .tmp 38], argTypes := #[30, 22, 22] }) (some 39) (by unfold opWants; kernel_rfl) 27 #[.slice r3 L cap3, .int .u32 99999, .int .u32 (a.code : Int)] (fun o ho => by unfold execOp; rw [ho]; kernel_rfl) (F4.out _ _ hv5.mov) ?_
                  rintro e z7 ⟨x39, rfl, ho7, hb7⟩
                  have R39 := recs_of_owns cc_len ho7 HL.out.symm (by omega)
                  refine ⟨_, rfl, ?_⟩
                  have bl7 := bel_call bl5 hb7
                  have hv7 := hv5.stay hb7
                  simp only [Act.put, List.setIfInBounds_toArray, List.set_cons_zero, List.set_cons_succ]
                  refine any1 14 (by kernel_rfl) ?_
                  · skip
                    refine opw_call (.call { callee := .value (.func 24), args := #[.tmp 39, .tmp 40], argTypes := #[30, 30] }) (some 41) (by unfold opWants; kernel_rfl) 24 #[x39, .slice (some ⟨g, off, none⟩) L cap] (fun o ho => by unfold execOp; rw [ho]; kernel_rfl) (F3.out _ _ _ R39 hv7.recs) ?_
                    rintro e z8 ⟨rfl, hb8⟩
                    refine ⟨_, rfl, ?_⟩
                    have bl8 := bel_call bl7 hb8
                    have hv8 := hv7.stay hb8
                    simp only [Act.put, List.setIfInBounds_toArray, List.set_cons_zero, List.set_cons_succ]
                    refine take_op (i := 15) (.pick (.tmp 35) (.tmp 41) (.const (.bool false))) (some 42) (.bool true) (by unfold opWants; kernel_rfl) (by kernel_rfl) (by kernel_rfl) (by kernel_rfl) (fun _ _ _ h => h) (fun o ho w' => ?_) ?_
                    · unfold execOp; simp only [ho]; go_simp
                    simp only [Act.put, List.setIfInBounds_toArray, List.set_cons_zero, List.set_cons_succ]
                    refine take_op (i := 16) (.move (.tmp 42)) (some 43) (.bool true) (by unfold opWants; kernel_rfl) (by kernel_rfl) (by kernel_rfl) (by kernel_rfl) (fun _ _ _ h => h) (fun o ho w' => ?_) ?_
                    · unfold execOp; simp only [ho]; go_simp
                    simp only [Act.put, List.setIfInBounds_toArray, List.set_cons_zero, List.set_cons_succ]
                    refine take_op (i := 17) (.move (.tmp 7)) (some 44) (.slice r3 L cap3) (by unfold opWants; kernel_rfl) (by kernel_rfl) (by kernel_rfl) (by kernel_rfl) (fun _ _ _ h => h) (fun o ho w' => ?_) ?_
                    · unfold execOp; simp only [ho]; go_simp
                    simp only [Act.put, List.setIfInBounds_toArray, List.set_cons_zero, List.set_cons_succ]
                    refine take_op (i := 18) (.fieldAddr 35 (.tmp 6) 0) (some 45) (.pointer (some ⟨X, 0, none⟩)) (by unfold opWants; kernel_rfl) (by kernel_rfl) (by kernel_rfl) (by kernel_rfl) (fun _ _ _ h => h) (fun o ho w' => ?_) ?_
                    · unfold execOp; simp only [ho]; go_simp
                    simp only [Act.put, List.setIfInBounds_toArray, List.set_cons_zero, List.set_cons_succ]
                    refine any1 19 (by kernel_rfl) ?_
                    · skip
                      refine opw_load 22 (.tmp 45) (some 46) (by unfold opWants; kernel_rfl) (.pointer (some ⟨X, 0, none⟩)) (.int .u32 (a.code : Int)) (by kernel_rfl) hv8.code ?_
                      simp only [Act.put, List.setIfInBounds_toArray, List.set_cons_zero, List.set_cons_succ]
                      refine any1 20 (by kernel_rfl) ?_
                      · skip
                        refine opw_call (.call { callee := .value (.func 23), args := #[.tmp 44, .tmp 46], argTypes := #[30, 22] }) (some 47) (by unfold opWants; kernel_rfl) 23 #[.slice r3 L cap3, .int .u32 (a.code : Int)] (fun o ho => by unfold execOp; rw [ho]; kernel_rfl) (F6.out _ _ hv8.mov) ?_
                        rintro e z10 ⟨r47, cap47, rfl, hb10⟩
                        refine ⟨_, rfl, ?_⟩
                        have bl10 := bel_call bl8 hb10
                        have hv10 := hv8.stay hb10
                        simp only [Act.put, List.setIfInBounds_toArray, List.set_cons_zero, List.set_cons_succ]
                        refine take_op (i := 21) (.call { callee := .builtin .len, args := #[.tmp 47], argTypes := #[39] }) (some 48) (.int .i64 0) (by unfold opWants; kernel_rfl) (by kernel_rfl) (by kernel_rfl) (by kernel_rfl) (fun _ _ _ h => h) (fun o ho w' => ?_) ?_
                        · unfold execOp; simp only [ho]; go_simp
                        simp only [Act.put, List.setIfInBounds_toArray, List.set_cons_zero, List.set_cons_succ]
                        refine take_op (i := 22) (.binOp .eql 3 (.tmp 48) (.const (.int .i64 0)) 3) (some 49) (.bool true) (by unfold opWants; kernel_rfl) (by kernel_rfl) (by kernel_rfl) (by kernel_rfl) (fun _ _ _ h => h) (fun o ho w' => ?_) ?_
                        · unfold execOp; simp only [ho]; go_simp
                        simp only [Act.put, List.setIfInBounds_toArray, List.set_cons_zero, List.set_cons_succ]
                        refine take_op (i := 23) (.pick (.tmp 43) (.tmp 49) (.const (.bool false))) (some 50) (.bool true) (by unfold opWants; kernel_rfl) (by kernel_rfl) (by kernel_rfl) (by kernel_rfl) (fun _ _ _ h => h) (fun o ho w' => ?_) ?_
                        · unfold execOp; simp only [ho]; go_simp
                        simp only [Act.put, List.setIfInBounds_toArray, List.set_cons_zero, List.set_cons_succ]
                        refine take_op (i := 24) (.move (.tmp 50)) (some 51) (.bool true) (by unfold opWants; kernel_rfl) (by kernel_rfl) (by kernel_rfl) (by kernel_rfl) (fun _ _ _ h => h) (fun o ho w' => ?_) ?_
                        · unfold execOp; simp only [ho]; go_simp
                        simp only [Act.put, List.setIfInBounds_toArray, List.set_cons_zero, List.set_cons_succ]
                        refine take_op (i := 25) (.move (.tmp 7)) (some 52) (.slice r3 L cap3) (by unfold opWants; kernel_rfl) (by kernel_rfl) (by kernel_rfl) (by kernel_rfl) (fun _ _ _ h => h) (fun o ho w' => ?_) ?_
                        · unfold execOp; simp only [ho]; go_simp
                        simp only [Act.put, List.setIfInBounds_toArray, List.set_cons_zero, List.set_cons_succ]
                        refine take_op (i := 27) (.move (.tmp 5)) (some 54) (.slice (some ⟨g, off, none⟩) L cap) (by unfold opWants; kernel_rfl) (by kernel_rfl) (by kernel_rfl) (by kernel_rfl) (fun _ _ _ h => h) (fun o ho w' => ?_) ?_
                        · unfold execOp; simp only [ho]; go_simp
                        simp only [Act.put, List.setIfInBounds_toArray, List.set_cons_zero, List.set_cons_succ]
                        refine take_op (i := 28) (.fieldAddr 35 (.tmp 6) 0) (some 55) (.pointer (some ⟨X, 0, none⟩)) (by unfold opWants; kernel_rfl) (by kernel_rfl) (by kernel_rfl) (by kernel_rfl) (fun _ _ _ h => h) (fun o ho w' => ?_) ?_
                        · unfold execOp; simp only [ho]; go_simp
                        simp only [Act.put, List.setIfInBounds_toArray, List.set_cons_zero, List.set_cons_succ]
                        refine any2 26 29 (by kernel_rfl) ?_ ?_
                        · skip
                          refine opw_call (.call { callee := .value (.func 23), args := #[.tmp 52, .const (.int .u32 99999)], argTypes := #[30, 22] }) (some 53) (by unfold opWants; kernel_rfl) 23 #[.slice r3 L cap3, .int .u32 99999] (fun o ho => by unfold execOp; rw [ho]; kernel_rfl) (F7.out _ _ hv10.mov) ?_
                          rintro e z11 ⟨x53, rfl, R53, hb11⟩
                          refine ⟨_, rfl, ?_⟩
                          have bl11 := bel_call bl10 hb11
                          have hv11 := hv10.stay hb11
                          simp only [Act.put, List.setIfInBounds_toArray, List.set_cons_zero, List.set_cons_succ]
                          refine any1 29 (by kernel_rfl) ?_
                          · skip
                            refine opw_load 22 (.tmp 55) (some 56) (by unfold opWants; kernel_rfl) (.pointer (some ⟨X, 0, none⟩)) (.int .u32 (a.code : Int)) (by kernel_rfl) hv11.code ?_
                            simp only [Act.put, List.setIfInBounds_toArray, List.set_cons_zero, List.set_cons_succ]
                            refine any1 30 (by kernel_rfl) ?_
                            · skip
                              refine opw_call (.call { callee := .value (.func 23), args := #[.tmp 54, .tmp 56], argTypes := #[30, 22] }) (some 57) (by unfold opWants; kernel_rfl) 23 #[.slice (some ⟨g, off, none⟩) L cap, .int .u32 (a.code : Int)] (fun o ho => by unfold execOp; rw [ho]; kernel_rfl) (F8.out _ _ hv11.recs) ?_
                              rintro e z13 ⟨x57, rfl, R57, hb13⟩
                              have R53' := R53.stay hb13
                              refine ⟨_, rfl, ?_⟩
                              have bl13 := bel_call bl11 hb13
                              have hv13 := hv11.stay hb13
                              simp only [Act.put, List.setIfInBounds_toArray, List.set_cons_zero, List.set_cons_succ]
                              refine any1 31 (by kernel_rfl) ?_
                              · skip
                                refine opw_call (.call { callee := .value (.func 19), args := #[.tmp 53, .tmp 57], argTypes := #[39, 39] }) (some 58) (by unfold opWants; kernel_rfl) 19 #[x53, x57] (fun o ho => by unfold execOp; rw [ho]; kernel_rfl) (F9.out _ _ _ R53' R57) ?_
                                rintro e z14 ⟨rfl, hb14⟩
                                refine ⟨_, rfl, ?_⟩
                                have bl14 := bel_call bl13 hb14
                                have hv14 := hv13.stay hb14
                                simp only [Act.put, List.setIfInBounds_toArray, List.set_cons_zero, List.set_cons_succ]
                                refine take_op (i := 32) (.pick (.tmp 51) (.tmp 58) (.const (.bool false))) (some 59) (.bool true) (by unfold opWants; kernel_rfl) (by kernel_rfl) (by kernel_rfl) (by kernel_rfl) (fun _ _ _ h => h) (fun o ho w' => ?_) ?_
                                · unfold execOp; simp only [ho]; go_simp
                                simp only [Act.put, List.setIfInBounds_toArray, List.set_cons_zero, List.set_cons_succ]
                                refine take_op (i := 33) (.assign (.tmp 59)) (some 4) (.bool true) (by unfold opWants; kernel_rfl) (by kernel_rfl) (by kernel_rfl) (by kernel_rfl) (fun _ _ _ h => h) (fun o ho w' => ?_) ?_
                                · unfold execOp; simp only [ho]; go_simp
                                simp only [Act.put, List.setIfInBounds_toArray, List.set_cons_zero, List.set_cons_succ]
                                refine wpAny_done (by kernel_rfl) ?_ _
                                go_wp2
                                go_ret
                                exact ⟨rfl, HB3.out.trans (bl14.mono HB3.out.size)⟩
                        · skip
                          refine opw_load 22 (.tmp 55) (some 56) (by unfold opWants; kernel_rfl) (.pointer (some ⟨X, 0, none⟩)) (.int .u32 (a.code : Int)) (by kernel_rfl) hv10.code ?_
                          simp only [Act.put, List.setIfInBounds_toArray, List.set_cons_zero, List.set_cons_succ]
                          refine any1 26 (by kernel_rfl) ?_
                          · skip
                            refine opw_call (.call { callee := .value (.func 23), args := #[.tmp 52, .const (.int .u32 99999)], argTypes := #[30, 22] }) (some 53) (by unfold opWants; kernel_rfl) 23 #[.slice r3 L cap3, .int .u32 99999] (fun o ho => by unfold execOp; rw [ho]; kernel_rfl) (F7.out _ _ hv10.mov) ?_
                            rintro e z12 ⟨x53, rfl, R53, hb12⟩
                            refine ⟨_, rfl, ?_⟩
                            have bl12 := bel_call bl10 hb12
                            have hv12 := hv10.stay hb12
                            simp only [Act.put, List.setIfInBounds_toArray, List.set_cons_zero, List.set_cons_succ]
                            refine any1 30 (by kernel_rfl) ?_
                            · skip
                              refine opw_call (.call { callee := .value (.func 23), args := #[.tmp 54, .tmp 56], argTypes := #[30, 22] }) (some 57) (by unfold opWants; kernel_rfl) 23 #[.slice (some ⟨g, off, none⟩) L cap, .int .u32 (a.code : Int)] (fun o ho => by unfold execOp; rw [ho]; kernel_rfl) (F8.out _ _ hv12.recs) ?_
                              rintro e z13 ⟨x57, rfl, R57, hb13⟩
                              have R53' := R53.stay hb13
                              refine ⟨_, rfl, ?_⟩
                              have bl13 := bel_call bl12 hb13
                              have hv13 := hv12.stay hb13
                              simp only [Act.put, List.setIfInBounds_toArray, List.set_cons_zero, List.set_cons_succ]
                              refine any1 31 (by kernel_rfl) ?_
                              · skip
                                refine opw_call (.call { callee := .value (.func 19), args := #[.tmp 53, .tmp 57], argTypes := #[39, 39] }) (some 58) (by unfold opWants; kernel_rfl) 19 #[x53, x57] (fun o ho => by unfold execOp; rw [ho]; kernel_rfl) (F9.out _ _ _ R53' R57) ?_
                                rintro e z14 ⟨rfl, hb14⟩
                                refine ⟨_, rfl, ?_⟩
                                have bl14 := bel_call bl13 hb14
                                have hv14 := hv13.stay hb14
                                simp only [Act.put, List.setIfInBounds_toArray, List.set_cons_zero, List.set_cons_succ]
                                refine take_op (i := 32) (.pick (.tmp 51) (.tmp 58) (.const (.bool false))) (some 59) (.bool true) (by unfold opWants; kernel_rfl) (by kernel_rfl) (by kernel_rfl) (by kernel_rfl) (fun _ _ _ h => h) (fun o ho w' => ?_) ?_
                                · unfold execOp; simp only [ho]; go_simp
                                simp only [Act.put, List.setIfInBounds_toArray, List.set_cons_zero, List.set_cons_succ]
                                refine take_op (i := 33) (.assign (.tmp 59)) (some 4) (.bool true) (by unfold opWants; kernel_rfl) (by kernel_rfl) (by kernel_rfl) (by kernel_rfl) (fun _ _ _ h => h) (fun o ho w' => ?_) ?_
                                · unfold execOp; simp only [ho]; go_simp
                                simp only [Act.put, List.setIfInBounds_toArray, List.set_cons_zero, List.set_cons_succ]
                                refine wpAny_done (by kernel_rfl) ?_ _
                                go_wp2
                                go_ret
                                exact ⟨rfl, HB3.out.trans (bl14.mono HB3.out.size)⟩
end Go.Proofs.YtdhgkggcnilgoaaDoor

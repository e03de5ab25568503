/- Law 11's CodecApart: two books that may be have the same bytes just if they are the same. -/
import Derived.Test.YtmpefjnfelfnfaaGreatDoorLall
import Derived.Test.YtmpefjnfelfnfaaGreatDoorChfy
namespace Go.Proofs.YtmpefjnfelfnfaaGreatDoor.codecApart
open Go.ChangeShapes Go.WideShapes Go.ChangeAt Go.RowKit Go.Joins
set_option linter.unusedVariables false
set_option linter.unusedSimpArgs false
set_option maxRecDepth 100000 in
theorem lifted (os : Os) (started : os.Started) (H : Type) (enc : TypeId × Value → H) :
    ReturnsInHanded {} Tryz.checked os 6 .any (fun w args => (Rows.codecApartSpec.pre enc Tryz.prog Tryz.f6 [] false w args ∧ laidMetH Tryz.prog Rows.codecApartRow.laid w) ∧ sizedMet enc Tryz.prog Tryz.f6 (OpenSpec.ofChange Rows.codecApartSpec) false w args)
      (Rows.codecApartSpec.post enc Tryz.prog Tryz.f6 false true false false) := by
  refine returnsInHanded_of_change_and (C := Tryz.checked) (X := fun w _ => laidMetH Tryz.prog Rows.codecApartRow.laid w) (fun _ _ _ hh h => h.of_heap hh) own started (by kernel_rfl) Tryz.func6
    (ChangeSpec.witness_shaped (enc := enc) (C := Tryz.checked) (os := os) (X := fun w _ => laidMetH Tryz.prog Rows.codecApartRow.laid w) false (World.laidAll Tryz.prog os Rows.codecApartRow.laid) #[.agg #[.slice none 0 0, .slice none 0 0, .int .i16 0, .slice none 0 0, .slice none 0 0], .agg #[.slice none 0 0, .slice none 0 0, .int .i16 0, .slice none 0 0, .slice none 0 0], .int .u8 0, .int .u8 0, .int .i64 0, .bool false] 8 (World.laidAll_os _ _ _)
      (World.shaped_of_ZipB (by kernel_rfl) (by kernel_rfl)) (by kernel_rfl) (by kernel_rfl) (by kernel_rfl)
      (by rw [MakeChecks.laidMetH_plain _ _ _ (by kernel_rfl)]; exact laidMet_laidAll _ (by kernel_rfl) (by kernel_rfl))) ?_
  intro W base args ds gs before hval0 hW _ hreach hL _
  have hval : ∀ (j : Nat) t v, Tryz.f6.params[j]? = some t → args[j]? = some v → Value.okWide Tryz.prog W .any base t v := hval0
  have hW' := hW
  obtain ⟨p, q, hA0, hV, rfl, hfz, hnd⟩ := hW
  have hA' := hA0
  have hA : DataW.TrodAll enc Tryz.prog W 0 (fun _ => true) true Tryz.f6.params.toList args.toList ds p := hA0
  obtain ⟨rfl, rfl⟩ := trodVars_none hV
  simp only [List.append_nil] at hW' hfz
  have hlt : ∀ x ∈ p, x.block < W.heap.size := fun x hx => hW'.lt x hx
  rw [Tryz.params6] at hA hval
  obtain ⟨v0, vs0, d0, ds0, p0, q0, hargs, rfl, rfl, h0, r0⟩ := trodAll_cons hA
  obtain ⟨v1, vs1, d1, ds1, p1, q1, rfl, rfl, rfl, h1, r1⟩ := trodAll_cons r0
  obtain ⟨v2, vs2, d2, ds2, p2, q2, rfl, rfl, rfl, h2, r2⟩ := trodAll_cons r1
  obtain ⟨v3, vs3, d3, ds3, p3, q3, rfl, rfl, rfl, h3, r3⟩ := trodAll_cons r2
  obtain ⟨v4, vs4, d4, ds4, p4, q4, rfl, rfl, rfl, h4, r4⟩ := trodAll_cons r3
  obtain ⟨v5, vs5, d5, ds5, p5, q5, rfl, rfl, rfl, h5, r5⟩ := trodAll_cons r4
  obtain ⟨rfl, rfl, rfl⟩ := trodAll_nil r5
  obtain rfl : args = #[v0, v1, v2, v3, v4, v5] := by cases args; simp_all
  obtain ⟨x0, vc0, vu0, vl0, vj0, js0, rfl, w0⟩ := bk_open (hval 0 28 v0 rfl rfl) h0
  obtain ⟨x1, vc1, vu1, vl1, vj1, js1, rfl, w1⟩ := bk_open (hval 1 28 v1 rfl rfl) h1
  obtain ⟨a2, rfl, rfl, rfl, w2⟩ := open_int Tryz.underlying5 (hval 2 5 v2 rfl rfl) h2
  obtain ⟨a3, rfl, rfl, rfl, w3⟩ := open_int Tryz.underlying5 (hval 3 5 v3 rfl rfl) h3
  obtain ⟨a4, rfl, rfl, rfl, w4⟩ := open_int Tryz.underlying2 (hval 4 2 v4 rfl rfl) h4
  obtain ⟨a5, rfl, rfl, rfl⟩ := open_bool Tryz.underlying4 (hval 5 4 v5 rfl rfl) h5
  clear hA0 hval0
  have hP : InI W := by first | exact ini_of (by kernel_rfl) hL 2 3 rfl rfl | exact ini_of (by kernel_rfl) hL 2 1 rfl rfl | exact ini_of (by kernel_rfl) hL 2 4 rfl rfl | exact ini_of (by kernel_rfl) hL 2 5 rfl rfl | exact ini_of (by kernel_rfl) hL 2 6 rfl rfl | exact ini_of (by kernel_rfl) hL 2 7 rfl rfl | exact ini_of (by kernel_rfl) hL 2 8 rfl rfl | exact ini_of (by kernel_rfl) hL 1 2 rfl rfl | exact ini_of (by kernel_rfl) hL 1 3 rfl rfl | exact ini_of (by kernel_rfl) hL 1 4 rfl rfl | exact ini_of (by kernel_rfl) hL 1 5 rfl rfl | exact ini_of (by kernel_rfl) hL 1 6 rfl rfl | exact ini_of (by kernel_rfl) hL 1 7 rfl rfl | exact ini_of (by kernel_rfl) hL 1 8 rfl rfl | exact ini_of (by kernel_rfl) hL 3 1 rfl rfl | exact ini_of (by kernel_rfl) hL 3 2 rfl rfl | exact ini_of (by kernel_rfl) hL 3 4 rfl rfl | exact ini_of (by kernel_rfl) hL 3 5 rfl rfl | exact ini_of (by kernel_rfl) hL 3 6 rfl rfl | exact ini_of (by kernel_rfl) hL 3 7 rfl rfl | exact ini_of (by kernel_rfl) hL 3 8 rfl rfl | exact ini_of (by kernel_rfl) hL 0 1 rfl rfl | exact ini_of (by kernel_rfl) hL 0 2 rfl rfl | exact ini_of (by kernel_rfl) hL 0 3 rfl rfl | exact ini_of (by kernel_rfl) hL 0 4 rfl rfl | exact ini_of (by kernel_rfl) hL 0 5 rfl rfl | exact ini_of (by kernel_rfl) hL 0 6 rfl rfl | exact ini_of (by kernel_rfl) hL 0 7 rfl rfl | exact ini_of (by kernel_rfl) hL 0 8 rfl rfl | exact ini_of (by kernel_rfl) hL 4 1 rfl rfl | exact ini_of (by kernel_rfl) hL 4 2 rfl rfl | exact ini_of (by kernel_rfl) hL 4 3 rfl rfl | exact ini_of (by kernel_rfl) hL 4 5 rfl rfl | exact ini_of (by kernel_rfl) hL 4 6 rfl rfl | exact ini_of (by kernel_rfl) hL 4 7 rfl rfl | exact ini_of (by kernel_rfl) hL 4 8 rfl rfl
  refine (codecapart_row x0 vc0 vu0 vl0 vj0 js0 x1 vc1 vu1 vl1 vj1 js1 a2 a3 a4 a5 W hP w0 w1 w2 w3 w4).mono fun e W' ⟨he, hb⟩ => ?_
  subst he
  exact ⟨_, rfl, law_end laidOut (by kernel_rfl) hW' hA' rfl rfl rfl (fun _ _ _ => (trodAll_cons_mk (shut_bool Tryz.underlying4 _) trodAll_mk0)) hb⟩

theorem over : Rows.codecApartRow.holds Tryz.pinned (OpenSpec.ofChange Rows.codecApartSpec) :=
  OpenClaim.holds_of_wide 6 Tryz.f6 rfl rfl rfl rfl rfl rfl rfl ⟨rfl, rfl, rfl, rfl, rfl⟩ rfl rfl rfl rfl rfl (by kernel_rfl) Tryz.func6 (by kernel_rfl)
    (of_decide_eq_true (by kernel_rfl)) (by unfold Func.isWrapper; first | (rw [if_pos (by decide +kernel)]; kernel_rfl) | (rw [if_neg (by decide +kernel)]; exact ⟨rfl, rfl⟩))
    (fun os started H enc _ => lifted os started H enc)

/-- The statement. -/
theorem proved : Rows.CodecApartCardSaid :=
  Claim7.holds_tied_plain_at .later [] _ true _ false over (fun _ h => by cases h) (by kernel_rfl) (fun _ h => by cases h) codecApart_row_tie rfl ⟨rfl, rfl⟩ (by kernel_rfl) rfl
    (fun f fn hf hfn => by
      obtain rfl : f = 6 := Option.some.inj ((show Tryz.prog.funcNamed "transposal/transposallaw11.CodecApart" = some 6 by kernel_rfl).symm.trans hf) |>.symm
      obtain rfl : fn = Tryz.f6 := (Option.some.inj (Tryz.func6.symm.trans hfn)).symm
      exact ⟨by kernel_rfl, fun j t ht => by
        rw [Tryz.params6] at ht
        have hm : t ∈ [28, 28, 5, 5, 2, 4] := by simpa using Array.mem_of_getElem? ht
        have hall : ([28, 28, 5, 5, 2, 4].all fun u => !Tryz.prog.wantsStandIn u) = true := by kernel_rfl
        exact (show Tryz.prog.wantsStandIn t = false by simpa using List.all_eq_true.1 hall t hm)⟩)
    (by kernel_rfl)
#print axioms proved
end Go.Proofs.YtmpefjnfelfnfaaGreatDoor.codecApart

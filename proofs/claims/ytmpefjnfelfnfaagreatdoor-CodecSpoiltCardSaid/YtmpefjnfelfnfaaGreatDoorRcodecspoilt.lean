/- Law 11's CodecSpoilt: a book's bytes with some in the place of others, and those of a book that may not be, are decoded as the document says. -/
import Derived.Test.YtmpefjnfelfnfaaGreatDoorLall
import Derived.Test.YtmpefjnfelfnfaaGreatDoorGyf
set_option maxRecDepth 100000
namespace Go.Proofs.YtmpefjnfelfnfaaGreatDoor.codecSpoilt
open Go.ChangeShapes Go.WideShapes Go.ChangeAt Go.RowKit Go.Joins
set_option linter.unusedVariables false
set_option linter.unusedSimpArgs false
theorem lifted (os:Os) (started:os.Started) (H:Type) (enc:TypeId × Value→H) :
 ReturnsInHanded {} Tryz.checked os 5 .any (fun w args=>(Rows.codecSpoiltSpec.pre enc Tryz.prog Tryz.f5 [] false w args∧laidMetH Tryz.prog Rows.codecSpoiltRow.laid w)∧sizedMet enc Tryz.prog Tryz.f5 (OpenSpec.ofChange Rows.codecSpoiltSpec) false w args)
  (Rows.codecSpoiltSpec.post enc Tryz.prog Tryz.f5 false true false false):=by
 refine returnsInHanded_of_change_and (C:=Tryz.checked) (X:=fun w _=>laidMetH Tryz.prog Rows.codecSpoiltRow.laid w) (fun _ _ _ hh h=>h.of_heap hh) own started (by kernel_rfl) Tryz.func5
  (ChangeSpec.witness_shaped (enc:=enc) (C:=Tryz.checked) (os:=os) (X:=fun w _=>laidMetH Tryz.prog Rows.codecSpoiltRow.laid w) false (World.laidAll Tryz.prog os Rows.codecSpoiltRow.laid) #[.agg #[.slice none 0 0,.slice none 0 0,.int .i16 0,.slice none 0 0,.slice none 0 0],.int .u16 0,.int .u8 0,.slice none 0 0,.int .u8 0,.int .i64 0] 8 (World.laidAll_os _ _ _)
   (World.shaped_of_ZipB (by kernel_rfl) (by kernel_rfl)) (by kernel_rfl) (by kernel_rfl) (by kernel_rfl)
   (by rw [MakeChecks.laidMetH_plain _ _ _ (by kernel_rfl)];exact laidMet_laidAll _ (by kernel_rfl) (by kernel_rfl))) ?_
 intro W base args ds gs before hval0 hW _ hreach hL _
 have hval:∀ (j:Nat) t v,Tryz.f5.params[j]?=some t→args[j]?=some v→Value.okWide Tryz.prog W .any base t v:=hval0
 have hW':=hW
 obtain ⟨p,q,hA0,hV,rfl,hfz,hnd⟩:=hW
 have hA':=hA0
 have hA:DataW.TrodAll enc Tryz.prog W 0 (fun _=>true) true Tryz.f5.params.toList args.toList ds p:=hA0
 obtain ⟨rfl,rfl⟩:=trodVars_none hV
 simp only [List.append_nil] at hW' hfz
 have hlt:∀ x ∈ p,x.block<W.heap.size:=fun x hx=>hW'.lt x hx
 rw [Tryz.params5] at hA hval
 obtain ⟨v0,vs0,d0,ds0,p0,q0,hargs,rfl,rfl,h0,r0⟩:=trodAll_cons hA
 obtain ⟨v1,vs1,d1,ds1,p1,q1,rfl,rfl,rfl,h1,r1⟩:=trodAll_cons r0
 obtain ⟨v2,vs2,d2,ds2,p2,q2,rfl,rfl,rfl,h2,r2⟩:=trodAll_cons r1
 obtain ⟨v3,vs3,d3,ds3,p3,q3,rfl,rfl,rfl,h3,r3⟩:=trodAll_cons r2
 obtain ⟨v4,vs4,d4,ds4,p4,q4,rfl,rfl,rfl,h4,r4⟩:=trodAll_cons r3
 obtain ⟨v5,vs5,d5,ds5,p5,q5,rfl,rfl,rfl,h5,r5⟩:=trodAll_cons r4
 obtain ⟨rfl,rfl,rfl⟩:=trodAll_nil r5
 obtain rfl:args=#[v0,v1,v2,v3,v4,v5]:=by cases args;simp_all
 obtain ⟨x0,vc0,vu0,vl0,vj0,js0,rfl,w0⟩:=bk_open (hval 0 28 v0 rfl rfl) h0
 obtain ⟨a1,rfl,rfl,rfl,w1⟩:=open_int Tryz.underlying52 (hval 1 52 v1 rfl rfl) h1
 obtain ⟨a2,rfl,rfl,rfl,w2⟩:=open_int Tryz.underlying5 (hval 2 5 v2 rfl rfl) h2
 obtain ⟨z3,w3⟩:=u8s_open Tryz.underlying25 Tryz.underlying5 (by kernel_rfl) (hval 3 25 v3 rfl rfl) h3
 obtain ⟨a4,rfl,rfl,rfl,w4⟩:=open_int Tryz.underlying5 (hval 4 5 v4 rfl rfl) h4
 obtain ⟨a5,rfl,rfl,rfl,w5⟩:=open_int Tryz.underlying2 (hval 5 2 v5 rfl rfl) h5
 clear hA0 hval0
 have hP:InI W:=by first | exact ini_of (by kernel_rfl) hL 2 3 rfl rfl | exact ini_of (by kernel_rfl) hL 2 1 rfl rfl | exact ini_of (by kernel_rfl) hL 2 4 rfl rfl | exact ini_of (by kernel_rfl) hL 2 5 rfl rfl | exact ini_of (by kernel_rfl) hL 2 6 rfl rfl | exact ini_of (by kernel_rfl) hL 2 7 rfl rfl | exact ini_of (by kernel_rfl) hL 2 8 rfl rfl | exact ini_of (by kernel_rfl) hL 1 2 rfl rfl | exact ini_of (by kernel_rfl) hL 1 3 rfl rfl | exact ini_of (by kernel_rfl) hL 1 4 rfl rfl | exact ini_of (by kernel_rfl) hL 1 5 rfl rfl | exact ini_of (by kernel_rfl) hL 1 6 rfl rfl | exact ini_of (by kernel_rfl) hL 1 7 rfl rfl | exact ini_of (by kernel_rfl) hL 1 8 rfl rfl | exact ini_of (by kernel_rfl) hL 3 1 rfl rfl | exact ini_of (by kernel_rfl) hL 3 2 rfl rfl | exact ini_of (by kernel_rfl) hL 3 4 rfl rfl | exact ini_of (by kernel_rfl) hL 3 5 rfl rfl | exact ini_of (by kernel_rfl) hL 3 6 rfl rfl | exact ini_of (by kernel_rfl) hL 3 7 rfl rfl | exact ini_of (by kernel_rfl) hL 3 8 rfl rfl | exact ini_of (by kernel_rfl) hL 0 1 rfl rfl | exact ini_of (by kernel_rfl) hL 0 2 rfl rfl | exact ini_of (by kernel_rfl) hL 0 3 rfl rfl | exact ini_of (by kernel_rfl) hL 0 4 rfl rfl | exact ini_of (by kernel_rfl) hL 0 5 rfl rfl | exact ini_of (by kernel_rfl) hL 0 6 rfl rfl | exact ini_of (by kernel_rfl) hL 0 7 rfl rfl | exact ini_of (by kernel_rfl) hL 0 8 rfl rfl | exact ini_of (by kernel_rfl) hL 4 1 rfl rfl | exact ini_of (by kernel_rfl) hL 4 2 rfl rfl | exact ini_of (by kernel_rfl) hL 4 3 rfl rfl | exact ini_of (by kernel_rfl) hL 4 5 rfl rfl | exact ini_of (by kernel_rfl) hL 4 6 rfl rfl | exact ini_of (by kernel_rfl) hL 4 7 rfl rfl | exact ini_of (by kernel_rfl) hL 4 8 rfl rfl
 refine (codecspoilt_row x0 vc0 vu0 vl0 vj0 js0 a1 a2 v3 z3 a4 a5 W hP w0 w1 w2 w3 w4 w5).mono fun e W' ⟨he,hb⟩=>?_
 subst he
 exact ⟨_,rfl,law_end laidOut (by kernel_rfl) hW' hA' rfl rfl rfl (fun _ _ _=>(trodAll_cons_mk (shut_bool Tryz.underlying4 _) trodAll_mk0)) hb⟩
theorem over:Rows.codecSpoiltRow.holds Tryz.pinned (OpenSpec.ofChange Rows.codecSpoiltSpec) :=
 OpenClaim.holds_of_wide 5 Tryz.f5 rfl rfl rfl rfl rfl rfl rfl ⟨rfl,rfl,rfl,rfl,rfl⟩ rfl rfl rfl rfl rfl (by kernel_rfl) Tryz.func5 (by kernel_rfl)
  (of_decide_eq_true (by kernel_rfl)) (by unfold Func.isWrapper;first | (rw [if_pos (by decide +kernel)];kernel_rfl) | (rw [if_neg (by decide +kernel)];exact ⟨rfl,rfl⟩))
  (fun os started H enc _=>lifted os started H enc)
theorem proved:Rows.CodecSpoiltCardSaid :=
 Claim7.holds_tied_plain_at .later [] _ true _ false over (fun _ h=>by cases h) (by kernel_rfl) (fun _ h=>by cases h) codecSpoilt_row_tie rfl ⟨rfl,rfl⟩ (by kernel_rfl) rfl
  (fun f fn hf hfn=>by
   obtain rfl : f = 5 := Option.some.inj ((show Tryz.prog.funcNamed "transposal/transposallaw11.CodecSpoilt" = some 5 by kernel_rfl).symm.trans hf) |>.symm
   obtain rfl:fn=Tryz.f5:=(Option.some.inj (Tryz.func5.symm.trans hfn)).symm
   exact ⟨by kernel_rfl,fun j t ht=>by
    rw [Tryz.params5] at ht
    have hm:t ∈ [28,52,5,25,5,2]:=by simpa using Array.mem_of_getElem? ht
    have hall:([28,52,5,25,5,2].all fun u=>!Tryz.prog.wantsStandIn u)=true:=by kernel_rfl
    exact (show Tryz.prog.wantsStandIn t=false by simpa using List.all_eq_true.1 hall t hm)⟩)
  (by kernel_rfl)
#print axioms proved
end Go.Proofs.YtmpefjnfelfnfaaGreatDoor.codecSpoilt

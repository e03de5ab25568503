/- Contract of law 9's Check. -/
import Derived.Test.YtmpefjnfelfnfaaGreatDoorLawa
import Derived.Test.YtmpefjnfelfnfaaGreatDoorKb
import Derived.Laws.StructEq
import Derived.Deep.DeepCutAuto
import Derived.Deep.CutBlock
set_option maxRecDepth 100000
set_option maxHeartbeats 8000000
namespace Go.Proofs.YtmpefjnfelfnfaaGreatDoor
open Go.RowKit
set_option linter.unusedVariables false
set_option linter.unusedSimpArgs false
theorem run_items (f g:Nat→Int) (w:World):∀ is:List Nat,(∀ i ∈ is,i<128)→(Op.eqItems 9999 3 1 (arr f) (arr g) is).run Tryz.prog w = .ok (decide (∀ i ∈ is,f i=g i)) w
 | [],_=>by simp [Op.eqItems]
 | i :: r,h=>by
  have hi:=h i (List.mem_cons_self ..)
  have hp:Tryz.prog.plainKey 3=true:=by kernel_rfl
  have p1:(part 3 (arr f) (i * 1)).run Tryz.prog w = .ok (.int .i64 (f i)) w:=run_part_plain w hp (by rw [Nat.mul_one];exact arr_get hi)
  have p2:(part 3 (arr g) (i * 1)).run Tryz.prog w = .ok (.int .i64 (g i)) w:=run_part_plain w hp (by rw [Nat.mul_one];exact arr_get hi)
  have p3:(Op.equalIn 9999 3 (.int .i64 (f i)) (.int .i64 (g i))).run Tryz.prog w = .ok (f i == g i) w:=by
   generalize f i=a
   generalize g i=b
   clear p1 p2 hi h hp
   rw [show (9999:Nat)=9998+1 from rfl]
   generalize 9998=d
   simp [Op.equalIn,run_underlying Tryz.underlying3]
  have ih:=run_items f g w r (fun j hj=>h j (List.mem_cons_of_mem _ hj))
  simp only [Op.eqItems,Sem.run_bind,p1,p2,p3,Result.andThen_ok]
  by_cases e:f i=g i
  ·have hb:(!(f i == g i))=false:=by rw [beq_iff_eq.2 e];rfl
   have hd:decide (∀ j ∈ i :: r,f j=g j)=decide (∀ j ∈ r,f j=g j):=decide_eq_decide.2 ⟨fun h j hj=>h j (List.mem_cons_of_mem _ hj),fun h j hj=>(List.mem_cons.1 hj).elim (fun x=>x ▸ e) (h j)⟩
   rw [hb,hd,if_neg (by decide),ih]
  ·have hb:(!(f i == g i))=true:=by rw [beq_eq_false_iff_ne.2 e];rfl
   have hd:decide (∀ j ∈ i :: r,f j=g j)=false:=decide_eq_false (fun hh=>e (hh i (List.mem_cons_self ..)))
   rw [hb,hd,if_pos rfl];rfl
theorem neq_arr (f g:Nat→Int) (w:World):(binOp .neq 193 (.agg (arr f)) (.agg (arr g))).run Tryz.prog w = .ok (.bool (!decide (∀ i ∈ List.range 128,f i=g i))) w:=by
 obtain ⟨i,hi⟩:∃ i,Tryz.prog.info? 3=some i:=by
  cases h:Tryz.prog.info? 3 with
  | none=>exact absurd (show (Tryz.prog.info? 3).isSome=true by kernel_rfl) (by rw [h];simp)
  | some i=>exact ⟨i,rfl⟩
 have hc:Tryz.prog.cellsOf 3=1:=by kernel_rfl
 have:=run_equalIn_array (P:=Tryz.prog) w 9999 (t:=193) (arr f) (arr g) Tryz.underlying193 hi
 rw [hc,run_items f g w _ (fun i hi=>List.mem_range.1 hi)] at this
 rw [run_neq_struct,show (10000:Nat)=9999+1 from rfl,this]
 rfl
theorem bits_zero (s:Int):decide (∀ i ∈ List.range 128,bitZ s i=0)=decide (s % 340282366920938463463374607431768211456=0):=by
 apply decide_eq_decide.2
 constructor
 ·intro h
  have hk:∀ k,k≤128→s % 2 ^ k=0:=by
   intro k
   induction k with
   | zero=>intro _;simp
   | succ k ih =>
    intro hk
    rw [mod_step,ih (by omega),h k (List.mem_range.2 (by omega))]
    simp
  have:=hk 128 (Nat.le_refl _)
  simpa using this
 ·intro h i hi
  have hb:=bit_mod s 128 i (List.mem_range.1 hi)
  have h2:s % 2 ^ 128=0:=by simpa using h
  rw [h2] at hb
  unfold bitZ
  rw [← hb]
  simp
theorem build_arr (w:World):(Instr.build 193 #[]).run Tryz.prog w = .ok (.agg (arr fun _=>0)) w:=by kernel_rfl
theorem numl_ex1:numD 1 1 1 = -719162:=by decide
theorem numl_ex2:numD 9999 12 31=2932896:=by decide
theorem lcheck_c (v:Value) (ls:List Ln) (d:Int) (w:World) (hR:Recs lc 4 w v ls) (hl:ls.length≤100) (hd:I32 d) :
 Calls Tryz.prog 105 #[.agg #[.int .i32 d,v]] w fun e w'=>e = .returned (.int .i64 (chkJ d ls))∧Below w.heap.size w w':=by
 obtain ⟨r,cap,rfl,_⟩:=hR.form
 obtain ⟨L,hL⟩:∃ L,ls.length=L:=⟨_,rfl⟩
 have HL:=Lib.hid hL
 rw [hL] at hR hl ⊢
 have KN1:Hid (∀ w,Calls Tryz.prog 129 #[.int .i64 1,.int .i64 1,.int .i64 1] w fun e w'=>e = .returned (.int .i64 (-719162))∧w'=w):=Lib.hid (fun w=>(number_of 1 1 1 w (by omega) (by omega) (by omega) (by omega) (by omega) (by omega)).mono fun e w' ⟨h1,h2⟩=>⟨by rw [h1,numl_ex1],h2.symm⟩)
 have KN2:Hid (∀ w,Calls Tryz.prog 129 #[.int .i64 9999,.int .i64 12,.int .i64 31] w fun e w'=>e = .returned (.int .i64 2932896)∧w'=w):=Lib.hid (fun w=>(number_of 9999 12 31 w (by omega) (by omega) (by omega) (by omega) (by omega) (by omega)).mono fun e w' ⟨h1,h2⟩=>⟨by rw [h1,numl_ex2],h2.symm⟩)
 have HBX:=Lib.hid (Box2.new w (.int .i32 d) (.slice r L cap) 67)
 have HB0:=Lib.hid ((Below.refl w.heap.size w).alloc (Nat.le_refl _) (.cells #[.int .i32 d,.slice r L cap] 67))
 have HR:=Lib.hid (hR.stay HB0.out)
 have HCJ:=Lib.hid (show chkJ d ls=if d < -719162∨2932896<d then 13 else if L<1∨60<L then 2 else if (ls.any fun x=>decide (x.amt=0∨x.amt = -9223372036854775808))=true then 5 else if badB ls=true then 14 else 0 by unfold chkJ;rw [hL])
 obtain ⟨res,hres⟩:∃ a,chkJ d ls=a:=⟨_,rfl⟩
 rw [hres] at HCJ ⊢
 unfold I32 at hd
 clear hR hL hres
 go_enter Tryz.func105,Tryz.ntmps105
 go_upto_region 1 with fail
 generalize w.alloc (.cells #[.int .i32 d,.slice r L cap] 67)=W at HBX HB0 HR ⊢
 obtain ⟨p0,p1,_,_,_⟩:=HBX.out
 go_cut [18] (fun s18 wx=>s18 = .bool (decide (d < -719162∨2932896<d)) ∧ ∃ q,wx=W.drewN q)
 case first =>
  by_cases h1:d < -719162
  ·have t1:decide (d < -719162)=true:=decide_eq_true h1
   go_quiet (first | (go_at_call 129;with_reducible exact Calls.quiet_of_same (KN1.out _)) | (go_at_call 129;with_reducible exact Calls.quiet_of_same (KN2.out _)))
   go_wp2
   go_meet
   exact ⟨by rw [decide_eq_true (.inl h1)],_,rfl⟩
  ·have t1:decide (d < -719162)=false:=decide_eq_false h1
   have HN1:=Lib.hid h1
   go_quiet (first | (go_at_call 129;with_reducible exact Calls.quiet_of_same (KN1.out _)) | (go_at_call 129;with_reducible exact Calls.quiet_of_same (KN2.out _)))
   go_wp2
   go_meet
   exact ⟨congrArg Value.bool (decide_eq_decide.2 (by have:=HN1.out;omega)),_,rfl⟩
 case rest =>
  obtain ⟨rfl,q,rfl⟩:=hcut
  have hbd:Below W.heap.size W (W.drewN q):=⟨rfl,rfl,rfl,Nat.le_refl _,fun _ _=>rfl⟩
  have HBX1:=Lib.hid (HBX.out.stay hbd)
  have HR1:=Lib.hid (HR.out.stay hbd)
  have HB1:=Lib.hid (HB0.out.trans (hbd.mono HB0.out.size))
  clear hbd p0 p1
  generalize W.drewN q=V at HBX1 HR1 HB1 ⊢
  obtain ⟨p0,p1,_,_,_⟩:=HBX1.out
  by_cases hday:d < -719162∨2932896<d
  ·have hr:=HCJ.out
   rw [if_pos hday] at hr
   subst hr
   rw [decide_eq_true hday]
   go_wp2_with fail
   go_ret
   exact ⟨rfl,HB1.out⟩
  ·have hr:=HCJ.out
   rw [if_neg hday] at hr
   rw [decide_eq_false hday]
   by_cases hL1:L<1
   ·obtain rfl:L=0:=by omega
    rw [if_pos (.inl hL1)] at hr
    subst hr
    go_wp2_with fail
    go_ret
    exact ⟨rfl,HB1.out⟩
   ·have t1:¬ (L:Int)<1:=by omega
    by_cases hL6:60<L
    ·have t2:(60:Int)<(L:Int):=by omega
     rw [if_pos (.inr hL6)] at hr
     subst hr
     go_wp2_with fail
     go_ret
     exact ⟨rfl,HB1.out⟩
    ·have t2:¬ (60:Int)<(L:Int):=by omega
     rw [if_neg (by omega)] at hr
     have HRS:=Lib.hid hr
     clear hr
     go_wp2_with fail
     go_loopw [32] (fun i wr=>∃ k:Nat,i = .int .i64 k∧k≤L∧Hid (∀ j x,j<k→ls[j]?=some x → ¬ (x.amt=0∨x.amt = -9223372036854775808))∧Hid (Below V.heap.size V wr)) (fun i _=>L-(intOf i).toNat)
     case atStart=>exact ⟨0,rfl,Nat.zero_le _,Lib.hid (fun j x h=>by omega),Lib.hid (Below.refl _ _)⟩
     case round =>
      clear p0 p1
      obtain ⟨k,rfl,hk,HA,HB⟩:=hrel
      rename World=>wr
      obtain ⟨p0,p1,_,_,_⟩:=HBX1.out.stay HB.out
      by_cases hlt:k<L
      ·obtain ⟨x,hx⟩:∃ x,ls[k]?=some x:=⟨ls[k]'(by have:=HL.out;omega),List.getElem?_eq_getElem (by have:=HL.out;omega)⟩
       obtain ⟨g,off,rfl,hg,hc⟩:=(HR1.out.stay HB.out).at hx
       obtain ⟨c0,c1,c2,c3⟩:=Recs.cellsL hc
       have HX:=Lib.hid hx
       have HBW:=Lib.hid (HB.out.alloc HB.out.size (.cells #[.int .u32 (x.acc:Int),.int .u16 (x.ent.n:Int),.int .u16 (x.ctr:Int),.int .i64 x.amt] 89))
       clear hc hx
       by_cases ha:x.amt=0
       ·have hr:=HRS.out
        rw [if_pos (List.any_eq_true.2 ⟨x,List.mem_of_getElem? HX.out,decide_eq_true (.inl ha)⟩)] at hr
        subst hr
        have a1:(x.amt == 0)=true:=by simp [ha]
        clear ha
        go_wp2_with fail
        go_ret
        exact ⟨rfl,HB1.out.trans (HBW.out.mono HB1.out.size)⟩
       ·have a1:(x.amt == 0)=false:=by simp [ha]
        by_cases hb:x.amt = -9223372036854775808
        ·have hr:=HRS.out
         rw [if_pos (List.any_eq_true.2 ⟨x,List.mem_of_getElem? HX.out,decide_eq_true (.inr hb)⟩)] at hr
         subst hr
         have a2:(x.amt == -9223372036854775808)=true:=by simp [hb]
         clear ha hb
         go_wp2_with fail
         go_ret
         exact ⟨rfl,HB1.out.trans (HBW.out.mono HB1.out.size)⟩
        ·have a2:(x.amt == -9223372036854775808)=false:=by simp [hb]
         have HN:=Lib.hid (show ¬ (x.amt=0∨x.amt = -9223372036854775808) from fun h=>h.elim ha hb)
         clear ha hb
         go_wp2_with fail
         go_roundw
         case rel =>
          refine ⟨k+1,by go_num,by omega,Lib.hid (fun j y hj hy=>?_),HBW⟩
          by_cases e:j=k
          ·subst e
           rw [HX.out] at hy
           cases hy
           exact HN.out
          ·exact HA.out j y (by omega) hy
         case measure=>simp [intOf];omega
      ·obtain rfl:k=L:=by omega
       have hr:=HRS.out
       rw [if_neg (by
        rw [List.any_eq_true]
        rintro ⟨x,hx,h⟩
        obtain ⟨j,hj,e⟩:=List.getElem_of_mem hx
        exact HA.out j x (by rw [← HL.out];exact hj) (by rw [List.getElem?_eq_getElem hj,e]) (of_decide_eq_true h))] at hr
       have HRT:=Lib.hid hr
       have KS:=Lib.hid (lsums_c _ ls wr (HR1.out.stay HB.out))
       clear hr HA HRS
       go_wp2_with (first
        | (at_range;refine wpList_range_of _ map_b rfl _ rfl b5 M5 rfl HM5.out ?_;intro w6 hR6 hb6 hs6;have HB6:=Lib.hid hb6)
        | (go_at_call 130;refine KS.out.mono ?_;rintro e w5 ⟨b5,M5,rfl,hM,hs,hl5,hb0,hb⟩;have HM5:=Lib.hid hM;have HS5:=Lib.hid hs;have HB5:=Lib.hid hb;clear hM hs hl5 hb))
       have HBW:=Lib.hid (HB1.out.trans ((HB.out.trans (HB5.out.mono HB.out.size)).mono HB1.out.size))
       have HND:=Lib.hid HM5.out.nodup
       have HR6:=Lib.hid hR6
       clear hR6 hb6 hs6 HM5 KS p0 p1
       obtain ⟨rr,hrr⟩:∃ r,w5.heap.size=r:=⟨_,rfl⟩
       have HRE:=Lib.hid hrr
       rw [hrr] at HR6 ⊢
       clear hrr
       simp only [Act.put,List.getElem_toArray,List.getElem_cons_zero,List.getElem_cons_succ,List.setIfInBounds_toArray,List.set_cons_zero,List.set_cons_succ]
       go_loopw [49] (fun _ wr=>∃ left:List (En × Int),Hid (RangeOf ec bv b5 rr M5 left wr)∧Hid (∀ q ∈ left,q ∈ M5)∧Hid (∀ q ∈ M5,q ∈ left∨q.2 % 340282366920938463463374607431768211456=0)∧Hid (Below w5.heap.size w5 wr)) (fun _ wr=>wr.rangeLeft b5 rr)
       case atStart=>exact ⟨M5,HR6,Lib.hid (fun q h=>h),Lib.hid (fun q h=>.inl h),HB6⟩
       case round =>
        clear HR6 HB6
        obtain ⟨left,HRO,HLM,HZ,HBr⟩:=hrel
        rename World=>wq
        go_wp2_with (at_next;refine wpList_next_of _ map_b rfl _ rfl b5 rr M5 left rfl HRO.out ?_ ?_)
        ·intro hleft
         subst hleft
         have hr:=HRT.out
         rw [badB_not HS5.out (fun q hq=>(HZ.out q hq).resolve_left (by simp)),if_neg (by simp)] at hr
         subst hr
         go_wp2_with fail
         go_ret
         exact ⟨rfl,HBW.out.trans (HBr.out.mono HBW.out.size)⟩
        ·intro A qe qs B w7 hleft hR7 hg7 hs7 hen
         have hqM:=HLM.out (qe,qs) (by rw [hleft];simp)
         have hB7:Below w5.heap.size w5 w7:=HBr.out.grown hg7 HBr.out.size (fun j hj=>by cases hj;have:=HRE.out;omega)
         have HB7:=Lib.hid hB7
         have HR7:=Lib.hid hR7
         have HLQ:=Lib.hid hleft
         have HQM:=Lib.hid hqM
         unfold bv ec at hen ⊢
         have hza:=zeroArr
         have hba:=build_arr
         have hne:=fun w=>neq_arr (bitZ qs) (fun _=>0) w
         rw [bits_zero qs] at hne
         have N1:=Lib.hid (IsArr.new w7 (fun _=>0))
         have N2:=Lib.hid ((IsArr.new w7 (fun _=>0)).setRow (bitZ qs))
         have HD7:=Lib.hid (below_setRow ((Below.refl w7.heap.size w7).alloc (Nat.le_refl _) (.cells (arr fun _=>0) 193)) (Nat.le_refl _) (arr (bitZ qs)))
         clear hqM hB7 hR7 hleft hs7 hg7
         by_cases hz:qs % 340282366920938463463374607431768211456=0
         ·rw [decide_eq_true hz] at hne
          have HZ1:=Lib.hid hz
          clear hz
          go_wp2_with (first
           | refine wpList_store_row rfl 193 _ _ rfl w7.heap.size _ rfl rfl 193 _ N1.out (infoArr _) (by rw [arr_size,arr_size]) (arr_one _) ?_
           | refine wpList_load_row rfl 193 _ rfl w7.heap.size rfl 193 _ (0,0) _ N2.out Tryz.underlying193 rfl (infoArr _) ?_)
          go_roundw
          case rel =>
           refine ⟨A ++ B,Lib.hid (HR7.out.same (HD7.out.block b5 HR7.out.owns.lt) (HD7.out.block rr HR7.out.lt)),Lib.hid (fun q hq=>HLM.out q (by rw [HLQ.out];rcases List.mem_append.1 hq with h | h <;> simp [h])),Lib.hid (fun q hq=>?_),Lib.hid (HB7.out.trans (HD7.out.mono HB7.out.size))⟩
           rcases HZ.out q hq with h | h
           ·rw [HLQ.out] at h
            rcases List.mem_append.1 h with h | h
            ·exact .inl (List.mem_append.2 (.inl h))
            ·rcases List.mem_cons.1 h with h | h
             ·subst h;exact .inr HZ1.out
             ·exact .inl (List.mem_append.2 (.inr h))
           ·exact .inr h
          case measure =>
           have h9:=HR7.out.same (HD7.out.block b5 HR7.out.owns.lt) (HD7.out.block rr HR7.out.lt)
           rw [h9.left_eq,HRO.out.left_eq,HLQ.out]
           simp
         ·rw [decide_eq_false hz] at hne
          have hr:=HRT.out
          rw [badB_of HND.out HS5.out HQM.out hz,if_pos rfl] at hr
          subst hr
          clear hz
          go_wp2_with (first
           | refine wpList_store_row rfl 193 _ _ rfl w7.heap.size _ rfl rfl 193 _ N1.out (infoArr _) (by rw [arr_size,arr_size]) (arr_one _) ?_
           | refine wpList_load_row rfl 193 _ rfl w7.heap.size rfl 193 _ (0,0) _ N2.out Tryz.underlying193 rfl (infoArr _) ?_)
          go_ret
          exact ⟨rfl,HBW.out.trans ((HB7.out.trans (HD7.out.mono HB7.out.size)).mono HBW.out.size)⟩
end Go.Proofs.YtmpefjnfelfnfaaGreatDoor

/- Contract of law 6's Name; words for its Make. -/
import Derived.Test.YtjgmbjfijpmhdaaGreatDoorZCj
import Derived.Test.YtjgmbjfijpmhdaaGreatDoorZMtx
import Derived.Test.YtjgmbjfijpmhdaaGreatDoorZOb
import Derived.Test.YtjgmbjfijpmhdaaGreatDoorZOw
import Derived.Deep.Heap
import Derived.Deep.RegionHeld3
import Derived.Deep.RegionWith
import Derived.Test.YtjgmbjfijpmhdaaGreatDoorZOne
import Derived.Deep.DeepCutAuto
set_option maxRecDepth 100000
set_option maxHeartbeats 4000000
namespace Go.Proofs.YtjgmbjfijpmhdaaGreatDoor
open Go.RowKit
set_option linter.unusedVariables false
set_option linter.unusedSimpArgs false
structure Box4 (w:World) (b:Nat) (c0 c1 c2 c3:Value):Prop where
 a0:w.cell? ⟨b,0,none⟩=some c0
 a1:w.cell? ⟨b,1,none⟩=some c1
 a2:w.cell? ⟨b,2,none⟩=some c2
 a3:w.cell? ⟨b,3,none⟩=some c3
 f0:w.frozen? ⟨b,0,none⟩=false
 f1:w.frozen? ⟨b,1,none⟩=false
 f2:w.frozen? ⟨b,2,none⟩=false
 f3:w.frozen? ⟨b,3,none⟩=false
 size:b<w.heap.size
theorem Box4.stay {w w':World} {b:Nat} {c0 c1 c2 c3:Value} (h:Box4 w b c0 c1 c2 c3) (hb:Below w.heap.size w w'):Box4 w' b c0 c1 c2 c3 :=
 ⟨(hb.cell (p:=⟨b,0,none⟩) h.size).trans h.a0,(hb.cell (p:=⟨b,1,none⟩) h.size).trans h.a1,(hb.cell (p:=⟨b,2,none⟩) h.size).trans h.a2,(hb.cell (p:=⟨b,3,none⟩) h.size).trans h.a3,
  (hb.frozen (p:=⟨b,0,none⟩) h.size).trans h.f0,(hb.frozen (p:=⟨b,1,none⟩) h.size).trans h.f1,(hb.frozen (p:=⟨b,2,none⟩) h.size).trans h.f2,(hb.frozen (p:=⟨b,3,none⟩) h.size).trans h.f3,Nat.lt_of_lt_of_le h.size hb.size⟩
theorem Box4.new (w:World) (c0 c1 c2 c3:Value) (T:TypeId):Box4 (w.alloc (.cells #[c0,c1,c2,c3] T)) w.heap.size c0 c1 c2 c3:=by
 refine ⟨box_cell w _ T 0 _ rfl,box_cell w _ T 1 _ rfl,box_cell w _ T 2 _ rfl,box_cell w _ T 3 _ rfl,?_,?_,?_,?_,?_⟩ <;> simp
theorem Box4.of {B:Nat} {w0 w:World} (h:Below B w0 w) (c0 c1 c2 c3:Value) (T:TypeId):Box4 (w.alloc (.cells #[c0,c1,c2,c3] T)) w.heap.size c0 c1 c2 c3:=Box4.new w c0 c1 c2 c3 T
theorem Box4.set2 {w:World} {b:Nat} {c0 c1 c2 c3:Value} (h:Box4 w b c0 c1 c2 c3) (u:Value):Box4 (w.setCell ⟨b,2,none⟩ u) b c0 c1 u c3:=by
 obtain ⟨h0,h1,h2,h3,f0,f1,f2,f3,h4⟩:=h
 exact ⟨by go_simp,by go_simp,by go_simp,by go_simp,by go_simp,by go_simp,by go_simp,by go_simp,by go_simp⟩
theorem Box4.set3 {w:World} {b:Nat} {c0 c1 c2 c3:Value} (h:Box4 w b c0 c1 c2 c3) (u:Value):Box4 (w.setCell ⟨b,3,none⟩ u) b c0 c1 c2 u:=by
 obtain ⟨h0,h1,h2,h3,f0,f1,f2,f3,h4⟩:=h
 exact ⟨by go_simp,by go_simp,by go_simp,by go_simp,by go_simp,by go_simp,by go_simp,by go_simp,by go_simp⟩
theorem Box4.drew {w:World} {b:Nat} {c0 c1 c2 c3:Value} (h:Box4 w b c0 c1 c2 c3):Box4 w.drew b c0 c1 c2 c3:=⟨h.a0,h.a1,h.a2,h.a3,h.f0,h.f1,h.f2,h.f3,h.size⟩
theorem owns_set_other {w:World} {base:Nat} {e:TypeId} {size:Nat} {v:Value} {n:Nat} {xs:List Value} (h:w.ownsRow base e size v n xs) (a:Addr) (u:Value) (hne:v.ownBlock≠some a.block):(w.setCell a u).ownsRow base e size v n xs :=
 h.kept (grownBy_set w a u) (.inr hne)
theorem load_u8 (w:World) (b o:Nat) (y:Int) (h:w.cell? ⟨b,o,none⟩=some (.int .u8 y)):(Instr.loadAt 5 (.pointer (some ⟨b,o,none⟩))).run Tryz.prog w = .ok (.int .u8 y) w:=by
 go_simp
theorem store_A {w:World} {b:Nat} {c0 c1 c2 c3:Value} (h:Box4 w b c0 c1 c2 c3) (d e:Int) (s:ByteArray) (k:Int):(Instr.storeAt 82 (.pointer (some ⟨b,0,none⟩)) (.agg #[.int .u32 d,.string s,.int .u8 k,.int .u32 e])).run Tryz.prog w =
 .ok () ((((w.setCell ⟨b,0,none⟩ (.int .u32 d)).setCell ⟨b,1,none⟩ (.string s)).setCell ⟨b,2,none⟩ (.int .u8 k)).setCell ⟨b,3,none⟩ (.int .u32 e)):=by
 obtain ⟨h0,h1,h2,h3,f0,f1,f2,f3,h4⟩:=h
 go_simp
theorem Box4.sets {w:World} {b:Nat} {c0 c1 c2 c3:Value} (h:Box4 w b c0 c1 c2 c3) (d0 d1 d2 d3:Value):Box4 ((((w.setCell ⟨b,0,none⟩ d0).setCell ⟨b,1,none⟩ d1).setCell ⟨b,2,none⟩ d2).setCell ⟨b,3,none⟩ d3) b d0 d1 d2 d3:=by
 obtain ⟨h0,h1,h2,h3,f0,f1,f2,f3,h4⟩:=h
 exact ⟨by go_simp,by go_simp,by go_simp,by go_simp,by go_simp,by go_simp,by go_simp,by go_simp,by go_simp⟩
theorem below_sets {B b:Nat} {w0 w:World} (h:Below B w0 w) (hb:B≤b) (d0 d1 d2 d3:Value):Below B w0 ((((w.setCell ⟨b,0,none⟩ d0).setCell ⟨b,1,none⟩ d1).setCell ⟨b,2,none⟩ d2).setCell ⟨b,3,none⟩ d3) :=
 (((h.setCell hb _).setCell hb _).setCell hb _).setCell hb _
theorem opw_newA {ops:Array Oper} {Q:Exit→Act→World→Prop} {i:Nat} {K:Act→World→Prop} {a:Act} {w:World} (dst:Option Tmp) (ho:opWants ops a i (.alloc 82) dst)
 (hk:K (a.put dst (.pointer (some ⟨w.heap.size,0,none⟩))) (w.alloc (.cells #[.int .u32 0,.string ⟨#[]⟩,.int .u8 0,.int .u32 0] 82))):wpOp Tryz.prog ops Q i K a w:=by
 refine opw_any ho (fun o h1 h2=>?_)
 subst h2
 unfold Oper.wp execOp
 simp only [h1]
 go_simp
 exact hk
theorem stI_step {l:List Qt} {i:Nat} {x:Qt} (h:l[i]?=some x):(stI l (i+1)).1=(stI l i).1 ++ [newA (stI l i).1 (stI l i).2 x]∧(stI l (i+1)).2=(stI l i).2+1+x.code % 4:=by
 simp [stI,h]
theorem info35:(Tryz.prog.info? 82).map (fun i=>(i.zero,i.size,i.bytes))=some (some (.agg #[.int .u32 0,.string ⟨#[]⟩,.int .u8 0,.int .u32 0]),4,32):=by kernel_rfl
theorem Recs.cellsQ {w:World} {g off i:Nat} {x:Qt} (h:∀ j u,(qc x)[j]?=some u→w.cell? ⟨g,off+i * 4+j,none⟩=some u) :
 w.cell? ⟨g,off+i * 4,none⟩=some (.int .u8 (x.code:Int))∧w.cell? ⟨g,off+i * 4+1,none⟩=some (.int .u8 (x.kind:Int))∧w.cell? ⟨g,off+i * 4+2,none⟩=some (.int .u8 (x.par:Int))∧w.cell? ⟨g,off+i * 4+3,none⟩=some (.int .u8 (x.name:Int)) :=
 ⟨h 0 _ rfl,h 1 _ rfl,h 2 _ rfl,h 3 _ rfl⟩
theorem cell_on {W w1:World} (hb:Below W.heap.size W w1) {p:Addr} {v:Value} (h:W.cell? p=some v):w1.cell? p=some v:=by
 rw [hb.cell (World.block_lt_of_cell? W p h)];exact h
theorem make_c (v:Value) (l:List Qt) (w:World) (hR:Recs qc 4 w v l) :
 Calls Tryz.prog 29 #[v] w fun e w'=>∃ v',e = .returned v'∧w'.ownsRow w.heap.size 82 4 v' (mkC l).length ((mkC l).flatMap cc)∧Below w.heap.size w w':=by
 obtain ⟨i0,hi,hz0,hz1,hz2⟩:=info_parts info35
 obtain ⟨r0,cap0,rfl,hm⟩:=hR.form
 have HR:=Lib.hid hR
 obtain ⟨L,hL⟩:∃ L,l.length=L:=⟨_,rfl⟩
 have HL:=Lib.hid hL
 obtain ⟨M,hM⟩:∃ M,mkC l=M:=⟨_,rfl⟩
 have HM:=Lib.hid (show (stI l (min 40 L)).1=M by rw [← hM,← hL];rfl)
 rw [hM]
 rw [hL] at HR hm ⊢
 clear hR hL hM
 go_enter Tryz.func29,Tryz.ntmps29
 go_wp2
 go_loopw [3,4,11] (fun s3 s4 i wr=>∃ (k C:Nat) (r:Option Addr) (cap:Nat) (c:List Ac),s3 = .slice r k cap∧s4 = .int .u32 (C:Int)∧i = .int .i64 k∧k≤L∧k≤40∧C≤4 * k∧wr.ownsRow w.heap.size 82 4 (.slice r k cap) k (c.flatMap cc)∧Hid (c.length=k∧stI l k=(c,C))∧Below w.heap.size w wr) (fun _ _ i _=>L-(intOf i).toNat)
 case atStart=>exact ⟨0,0,none,0,[],rfl,rfl,rfl,Nat.zero_le _,Nat.zero_le _,Nat.le_refl _,World.ownsRow_nil _ _ _ _,Lib.hid ⟨rfl,rfl⟩,Below.refl _ _⟩
 case round =>
  obtain ⟨k,C,r,cap,c,rfl,rfl,rfl,hk,hk4,hC,hown,HC,hb⟩:=hrel
  rename World=>wr
  have hbs:=hb.size
  by_cases hlt:k<L
  ·obtain ⟨x,hx⟩:∃ x,l[k]?=some x:=⟨l[k]'(by have:=HL.out;omega),List.getElem?_eq_getElem (by have:=HL.out;omega)⟩
   obtain ⟨g,off,rfl,hg,hc⟩:=(HR.out.stay hb).at hx
   obtain ⟨c0,c1,c2,c3⟩:=Recs.cellsQ hc
   by_cases h40:k=40
   ·have hd:((k:Int) == 40)=true:=by simp;omega
    have HE:Hid (c=M):=Lib.hid (by rw [← HM.out,show min 40 L=k by omega,HC.out.2])
    have HB:=Lib.hid hb
    have HO:=Lib.hid hown
    clear hb hown hx hc h40
    go_wp2
    go_ret
    refine ⟨_,rfl,?_,HB.out.alloc (by omega) _⟩
    rw [← HE.out,HC.out.1]
    exact HO.out.alloc _
   ·have hd:((k:Int) == 40)=false:=by simp;omega
    have hk41:k+1≤40:=by omega
    have hQ:x.code % 4<4:=Nat.mod_lt _ (by omega)
    obtain ⟨C',hC'⟩:∃ C',C+1+x.code % 4=C':=⟨_,rfl⟩
    have e1:(C:Int)+(1+(x.code:Int) % 4)=(C':Int):=by omega
    have hC4:C'≤4 * (k+1):=by omega
    obtain ⟨kd,hkd⟩:∃ kd,x.kind % 5=kd:=⟨_,rfl⟩
    have e2:(x.kind:Int) % 5=(kd:Int):=by omega
    have HX:=Lib.hid (And.intro hx (And.intro hC' hkd))
    have HB:=Lib.hid hb
    have HO:=Lib.hid hown
    have KN:=Lib.hid (fun w=>lname_c x.name w)
    clear hb hown hx hc h40 hQ hC' hkd
    go_upto_region 8 with fail
    have hX:wr.heap.size<(wr.alloc (.cells #[.int .u8 (x.code:Int),.int .u8 (x.kind:Int),.int .u8 (x.par:Int),.int .u8 (x.name:Int)] 116)).heap.size:=by simp
    have x0:=box_cell wr #[.int .u8 (x.code:Int),.int .u8 (x.kind:Int),.int .u8 (x.par:Int),.int .u8 (x.name:Int)] 116 0 _ rfl
    have x1:=box_cell wr #[.int .u8 (x.code:Int),.int .u8 (x.kind:Int),.int .u8 (x.par:Int),.int .u8 (x.name:Int)] 116 1 _ rfl
    have x2:=box_cell wr #[.int .u8 (x.code:Int),.int .u8 (x.kind:Int),.int .u8 (x.par:Int),.int .u8 (x.name:Int)] 116 2 _ rfl
    have x3:=box_cell wr #[.int .u8 (x.code:Int),.int .u8 (x.kind:Int),.int .u8 (x.par:Int),.int .u8 (x.name:Int)] 116 3 _ rfl
    have HB1:=Lib.hid (HB.out.alloc hbs (.cells #[.int .u8 (x.code:Int),.int .u8 (x.kind:Int),.int .u8 (x.par:Int),.int .u8 (x.name:Int)] 116))
    have HO1:=Lib.hid (HO.out.alloc (.cells #[.int .u8 (x.code:Int),.int .u8 (x.kind:Int),.int .u8 (x.par:Int),.int .u8 (x.name:Int)] 116))
    generalize wr.alloc (.cells #[.int .u8 (x.code:Int),.int .u8 (x.kind:Int),.int .u8 (x.par:Int),.int .u8 (x.name:Int)] 116)=W1 at *
    generalize wr.heap.size=X at *
    go_cut [7] (fun s7 wx=>∃ G:Nat,s7 = .pointer (some ⟨G,0,none⟩)∧W1.heap.size≤G∧Box4 wx G (.int .u32 (C':Int)) (.string (nm5 (x.name % 5))) (.int .u8 (kd:Int)) (.int .u32 0)∧Below W1.heap.size W1 wx)
    case first =>
     clear HB HO HX HR HC HM HB1 HO1
     generalize nm5 (x.name % 5)=NM at *
     refine wp_region_any (by kernel_rfl) ?_
     change wpAny _ _ _ _ _ _ _ (World.drew _)
     have bl0:Below W1.heap.size W1 W1.drew:=(Below.refl _ _).drew
     refine take_op (i:=0) (.move (.tmp 4)) (some 25) (.int .u32 (C':Int)) (by unfold opWants;kernel_rfl) (by kernel_rfl) (by kernel_rfl) (by kernel_rfl) (fun _ _ _ h=>h) (fun o ho w'=>?_) ?_
     ·unfold execOp;simp only [ho];go_simp
     simp only [Act.put,List.setIfInBounds_toArray,List.set_cons_zero,List.set_cons_succ]
     refine take_op (i:=1) (.fieldAddr 116 (.tmp 6) 3) (some 26) (.pointer (some ⟨X,3,none⟩)) (by unfold opWants;kernel_rfl) (by kernel_rfl) (by kernel_rfl) (by kernel_rfl) (fun _ _ _ h=>h) (fun o ho w'=>?_) ?_
     ·unfold execOp;simp only [ho];go_simp
     simp only [Act.put,List.setIfInBounds_toArray,List.set_cons_zero,List.set_cons_succ]
     refine take_op (i:=4) (.fieldAddr 116 (.tmp 6) 1) (some 29) (.pointer (some ⟨X,1,none⟩)) (by unfold opWants;kernel_rfl) (by kernel_rfl) (by kernel_rfl) (by kernel_rfl) (fun _ _ _ h=>h) (fun o ho w'=>?_) ?_
     ·unfold execOp;simp only [ho];go_simp
     simp only [Act.put,List.setIfInBounds_toArray,List.set_cons_zero,List.set_cons_succ]
     refine any3 2 5 8 (by kernel_rfl) ?_ ?_ ?_
     ·skip
      refine op_load 5 (.tmp 26) (some 27) (by unfold opIs;kernel_rfl) (.pointer (some ⟨X,3,none⟩)) (.int .u8 (x.name:Int)) (by kernel_rfl) (load_u8 _ _ _ _ ((bl0.cell (p:=⟨X,3,none⟩) hX).trans x3)) ?_
      simp only [Act.put,List.setIfInBounds_toArray,List.set_cons_zero,List.set_cons_succ]
      refine any3 3 5 8 (by kernel_rfl) ?_ ?_ ?_
      ·skip
       refine op_call (.call { callee:=.value (.func 32),args:=#[.tmp 27],argTypes:=#[5] }) (some 28) (by unfold opIs;kernel_rfl) 32 #[.int .u8 (x.name:Int)] (fun o ho=>by unfold execOp;rw [ho];kernel_rfl) (KN.out _) ?_
       rintro e v2 ⟨rfl,hb2⟩
       refine ⟨_,rfl,?_⟩
       have bl2:=bel_call bl0 hb2
       simp only [Act.put,List.setIfInBounds_toArray,List.set_cons_zero,List.set_cons_succ]
       refine any2 5 8 (by kernel_rfl) ?_ ?_
       ·skip
        refine op_load 5 (.tmp 29) (some 30) (by unfold opIs;kernel_rfl) (.pointer (some ⟨X,1,none⟩)) (.int .u8 (x.kind:Int)) (by kernel_rfl) (load_u8 _ _ _ _ ((bl2.cell (p:=⟨X,1,none⟩) hX).trans x1)) ?_
        simp only [Act.put,List.setIfInBounds_toArray,List.set_cons_zero,List.set_cons_succ]
        refine take_op (i:=6) (.binOp .rem 5 (.tmp 30) (.const (.int .u8 5)) 5) (some 31) (.int .u8 (kd:Int)) (by unfold opWants;kernel_rfl) (by kernel_rfl) (by kernel_rfl) (by kernel_rfl) (fun _ _ _ h=>h) (fun o ho w'=>?_) ?_
        ·unfold execOp;simp only [ho];(go_simp;rw [Int.tmod_eq_emod_of_nonneg (by omega)];exact e2)
        simp only [Act.put,List.setIfInBounds_toArray,List.set_cons_zero,List.set_cons_succ]
        refine take_op (i:=7) (.build 82 #[(0,.tmp 25),(1,.tmp 28),(2,.tmp 31)]) (some 32) (.agg #[.int .u32 (C':Int),.string NM,.int .u8 (kd:Int),.int .u32 0]) (by unfold opWants;kernel_rfl) (by kernel_rfl) (by kernel_rfl) (by kernel_rfl) (fun _ _ _ h=>h) (fun o ho w'=>?_) ?_
        ·unfold execOp;simp only [ho];(first | kernel_rfl | go_simp)
        simp only [Act.put,List.setIfInBounds_toArray,List.set_cons_zero,List.set_cons_succ]
        refine any1 8 (by kernel_rfl) ?_
        ·skip
         refine opw_newA (some 7) (by unfold opWants;kernel_rfl) ?_
         have hQ4:=bl2.size
         have pr4:=Box4.of bl2 (.int .u32 0) (.string ⟨#[]⟩) (.int .u8 0) (.int .u32 0) 82
         have bl4:=bel_new bl2 (.cells #[.int .u32 0,.string ⟨#[]⟩,.int .u8 0,.int .u32 0] 82)
         simp only [Act.put,List.setIfInBounds_toArray,List.set_cons_zero,List.set_cons_succ]
         refine any1 9 (by kernel_rfl) ?_
         ·skip
          refine op_store 82 (.tmp 7) (.tmp 32) none (by unfold opIs;kernel_rfl) (.pointer (some ⟨_,0,none⟩)) (.agg #[.int .u32 (C':Int),.string NM,.int .u8 (kd:Int),.int .u32 0]) (by kernel_rfl) (by kernel_rfl) (store_A pr4 _ _ _ _) ?_
          have bl5:=below_sets bl4 hQ4 (.int .u32 (C':Int)) (.string NM) (.int .u8 (kd:Int)) (.int .u32 0)
          have pr5:=pr4.sets (.int .u32 (C':Int)) (.string NM) (.int .u8 (kd:Int)) (.int .u32 0)
          simp only [Act.put]
          refine wpAny_done (by kernel_rfl) ?_ _
          go_wp2
          go_meet
          exact ⟨_,rfl,hQ4,pr5,bl5⟩
       ·skip
        refine opw_newA (some 7) (by unfold opWants;kernel_rfl) ?_
        have hQ3:=bl2.size
        have pr3:=Box4.of bl2 (.int .u32 0) (.string ⟨#[]⟩) (.int .u8 0) (.int .u32 0) 82
        have bl3:=bel_new bl2 (.cells #[.int .u32 0,.string ⟨#[]⟩,.int .u8 0,.int .u32 0] 82)
        simp only [Act.put,List.setIfInBounds_toArray,List.set_cons_zero,List.set_cons_succ]
        refine any1 5 (by kernel_rfl) ?_
        ·skip
         refine op_load 5 (.tmp 29) (some 30) (by unfold opIs;kernel_rfl) (.pointer (some ⟨X,1,none⟩)) (.int .u8 (x.kind:Int)) (by kernel_rfl) (load_u8 _ _ _ _ ((bl3.cell (p:=⟨X,1,none⟩) hX).trans x1)) ?_
         simp only [Act.put,List.setIfInBounds_toArray,List.set_cons_zero,List.set_cons_succ]
         refine take_op (i:=6) (.binOp .rem 5 (.tmp 30) (.const (.int .u8 5)) 5) (some 31) (.int .u8 (kd:Int)) (by unfold opWants;kernel_rfl) (by kernel_rfl) (by kernel_rfl) (by kernel_rfl) (fun _ _ _ h=>h) (fun o ho w'=>?_) ?_
         ·unfold execOp;simp only [ho];(go_simp;rw [Int.tmod_eq_emod_of_nonneg (by omega)];exact e2)
         simp only [Act.put,List.setIfInBounds_toArray,List.set_cons_zero,List.set_cons_succ]
         refine take_op (i:=7) (.build 82 #[(0,.tmp 25),(1,.tmp 28),(2,.tmp 31)]) (some 32) (.agg #[.int .u32 (C':Int),.string NM,.int .u8 (kd:Int),.int .u32 0]) (by unfold opWants;kernel_rfl) (by kernel_rfl) (by kernel_rfl) (by kernel_rfl) (fun _ _ _ h=>h) (fun o ho w'=>?_) ?_
         ·unfold execOp;simp only [ho];(first | kernel_rfl | go_simp)
         simp only [Act.put,List.setIfInBounds_toArray,List.set_cons_zero,List.set_cons_succ]
         refine any1 9 (by kernel_rfl) ?_
         ·skip
          refine op_store 82 (.tmp 7) (.tmp 32) none (by unfold opIs;kernel_rfl) (.pointer (some ⟨_,0,none⟩)) (.agg #[.int .u32 (C':Int),.string NM,.int .u8 (kd:Int),.int .u32 0]) (by kernel_rfl) (by kernel_rfl) (store_A pr3 _ _ _ _) ?_
          have bl5:=below_sets bl3 hQ3 (.int .u32 (C':Int)) (.string NM) (.int .u8 (kd:Int)) (.int .u32 0)
          have pr5:=pr3.sets (.int .u32 (C':Int)) (.string NM) (.int .u8 (kd:Int)) (.int .u32 0)
          simp only [Act.put]
          refine wpAny_done (by kernel_rfl) ?_ _
          go_wp2
          go_meet
          exact ⟨_,rfl,hQ3,pr5,bl5⟩
      ·skip
       refine op_load 5 (.tmp 29) (some 30) (by unfold opIs;kernel_rfl) (.pointer (some ⟨X,1,none⟩)) (.int .u8 (x.kind:Int)) (by kernel_rfl) (load_u8 _ _ _ _ ((bl0.cell (p:=⟨X,1,none⟩) hX).trans x1)) ?_
       simp only [Act.put,List.setIfInBounds_toArray,List.set_cons_zero,List.set_cons_succ]
       refine take_op (i:=6) (.binOp .rem 5 (.tmp 30) (.const (.int .u8 5)) 5) (some 31) (.int .u8 (kd:Int)) (by unfold opWants;kernel_rfl) (by kernel_rfl) (by kernel_rfl) (by kernel_rfl) (fun _ _ _ h=>h) (fun o ho w'=>?_) ?_
       ·unfold execOp;simp only [ho];(go_simp;rw [Int.tmod_eq_emod_of_nonneg (by omega)];exact e2)
       simp only [Act.put,List.setIfInBounds_toArray,List.set_cons_zero,List.set_cons_succ]
       refine any2 3 8 (by kernel_rfl) ?_ ?_
       ·skip
        refine op_call (.call { callee:=.value (.func 32),args:=#[.tmp 27],argTypes:=#[5] }) (some 28) (by unfold opIs;kernel_rfl) 32 #[.int .u8 (x.name:Int)] (fun o ho=>by unfold execOp;rw [ho];kernel_rfl) (KN.out _) ?_
        rintro e v3 ⟨rfl,hb3⟩
        refine ⟨_,rfl,?_⟩
        have bl3:=bel_call bl0 hb3
        simp only [Act.put,List.setIfInBounds_toArray,List.set_cons_zero,List.set_cons_succ]
        refine take_op (i:=7) (.build 82 #[(0,.tmp 25),(1,.tmp 28),(2,.tmp 31)]) (some 32) (.agg #[.int .u32 (C':Int),.string NM,.int .u8 (kd:Int),.int .u32 0]) (by unfold opWants;kernel_rfl) (by kernel_rfl) (by kernel_rfl) (by kernel_rfl) (fun _ _ _ h=>h) (fun o ho w'=>?_) ?_
        ·unfold execOp;simp only [ho];(first | kernel_rfl | go_simp)
        simp only [Act.put,List.setIfInBounds_toArray,List.set_cons_zero,List.set_cons_succ]
        refine any1 8 (by kernel_rfl) ?_
        ·skip
         refine opw_newA (some 7) (by unfold opWants;kernel_rfl) ?_
         have hQ4:=bl3.size
         have pr4:=Box4.of bl3 (.int .u32 0) (.string ⟨#[]⟩) (.int .u8 0) (.int .u32 0) 82
         have bl4:=bel_new bl3 (.cells #[.int .u32 0,.string ⟨#[]⟩,.int .u8 0,.int .u32 0] 82)
         simp only [Act.put,List.setIfInBounds_toArray,List.set_cons_zero,List.set_cons_succ]
         refine any1 9 (by kernel_rfl) ?_
         ·skip
          refine op_store 82 (.tmp 7) (.tmp 32) none (by unfold opIs;kernel_rfl) (.pointer (some ⟨_,0,none⟩)) (.agg #[.int .u32 (C':Int),.string NM,.int .u8 (kd:Int),.int .u32 0]) (by kernel_rfl) (by kernel_rfl) (store_A pr4 _ _ _ _) ?_
          have bl5:=below_sets bl4 hQ4 (.int .u32 (C':Int)) (.string NM) (.int .u8 (kd:Int)) (.int .u32 0)
          have pr5:=pr4.sets (.int .u32 (C':Int)) (.string NM) (.int .u8 (kd:Int)) (.int .u32 0)
          simp only [Act.put]
          refine wpAny_done (by kernel_rfl) ?_ _
          go_wp2
          go_meet
          exact ⟨_,rfl,hQ4,pr5,bl5⟩
       ·skip
        refine opw_newA (some 7) (by unfold opWants;kernel_rfl) ?_
        have hQ3:=bl0.size
        have pr3:=Box4.of bl0 (.int .u32 0) (.string ⟨#[]⟩) (.int .u8 0) (.int .u32 0) 82
        have bl3:=bel_new bl0 (.cells #[.int .u32 0,.string ⟨#[]⟩,.int .u8 0,.int .u32 0] 82)
        simp only [Act.put,List.setIfInBounds_toArray,List.set_cons_zero,List.set_cons_succ]
        refine any1 3 (by kernel_rfl) ?_
        ·skip
         refine op_call (.call { callee:=.value (.func 32),args:=#[.tmp 27],argTypes:=#[5] }) (some 28) (by unfold opIs;kernel_rfl) 32 #[.int .u8 (x.name:Int)] (fun o ho=>by unfold execOp;rw [ho];kernel_rfl) (KN.out _) ?_
         rintro e v4 ⟨rfl,hb4⟩
         refine ⟨_,rfl,?_⟩
         have bl4:=bel_call bl3 hb4
         have pr4:=pr3.stay hb4
         simp only [Act.put,List.setIfInBounds_toArray,List.set_cons_zero,List.set_cons_succ]
         refine take_op (i:=7) (.build 82 #[(0,.tmp 25),(1,.tmp 28),(2,.tmp 31)]) (some 32) (.agg #[.int .u32 (C':Int),.string NM,.int .u8 (kd:Int),.int .u32 0]) (by unfold opWants;kernel_rfl) (by kernel_rfl) (by kernel_rfl) (by kernel_rfl) (fun _ _ _ h=>h) (fun o ho w'=>?_) ?_
         ·unfold execOp;simp only [ho];(first | kernel_rfl | go_simp)
         simp only [Act.put,List.setIfInBounds_toArray,List.set_cons_zero,List.set_cons_succ]
         refine any1 9 (by kernel_rfl) ?_
         ·skip
          refine op_store 82 (.tmp 7) (.tmp 32) none (by unfold opIs;kernel_rfl) (.pointer (some ⟨_,0,none⟩)) (.agg #[.int .u32 (C':Int),.string NM,.int .u8 (kd:Int),.int .u32 0]) (by kernel_rfl) (by kernel_rfl) (store_A pr4 _ _ _ _) ?_
          have bl5:=below_sets bl4 hQ3 (.int .u32 (C':Int)) (.string NM) (.int .u8 (kd:Int)) (.int .u32 0)
          have pr5:=pr4.sets (.int .u32 (C':Int)) (.string NM) (.int .u8 (kd:Int)) (.int .u32 0)
          simp only [Act.put]
          refine wpAny_done (by kernel_rfl) ?_ _
          go_wp2
          go_meet
          exact ⟨_,rfl,hQ3,pr5,bl5⟩
      ·skip
       refine opw_newA (some 7) (by unfold opWants;kernel_rfl) ?_
       have hQ2:=bl0.size
       have pr2:=Box4.of bl0 (.int .u32 0) (.string ⟨#[]⟩) (.int .u8 0) (.int .u32 0) 82
       have bl2:=bel_new bl0 (.cells #[.int .u32 0,.string ⟨#[]⟩,.int .u8 0,.int .u32 0] 82)
       simp only [Act.put,List.setIfInBounds_toArray,List.set_cons_zero,List.set_cons_succ]
       refine any2 3 5 (by kernel_rfl) ?_ ?_
       ·skip
        refine op_call (.call { callee:=.value (.func 32),args:=#[.tmp 27],argTypes:=#[5] }) (some 28) (by unfold opIs;kernel_rfl) 32 #[.int .u8 (x.name:Int)] (fun o ho=>by unfold execOp;rw [ho];kernel_rfl) (KN.out _) ?_
        rintro e v3 ⟨rfl,hb3⟩
        refine ⟨_,rfl,?_⟩
        have bl3:=bel_call bl2 hb3
        have pr3:=pr2.stay hb3
        simp only [Act.put,List.setIfInBounds_toArray,List.set_cons_zero,List.set_cons_succ]
        refine any1 5 (by kernel_rfl) ?_
        ·skip
         refine op_load 5 (.tmp 29) (some 30) (by unfold opIs;kernel_rfl) (.pointer (some ⟨X,1,none⟩)) (.int .u8 (x.kind:Int)) (by kernel_rfl) (load_u8 _ _ _ _ ((bl3.cell (p:=⟨X,1,none⟩) hX).trans x1)) ?_
         simp only [Act.put,List.setIfInBounds_toArray,List.set_cons_zero,List.set_cons_succ]
         refine take_op (i:=6) (.binOp .rem 5 (.tmp 30) (.const (.int .u8 5)) 5) (some 31) (.int .u8 (kd:Int)) (by unfold opWants;kernel_rfl) (by kernel_rfl) (by kernel_rfl) (by kernel_rfl) (fun _ _ _ h=>h) (fun o ho w'=>?_) ?_
         ·unfold execOp;simp only [ho];(go_simp;rw [Int.tmod_eq_emod_of_nonneg (by omega)];exact e2)
         simp only [Act.put,List.setIfInBounds_toArray,List.set_cons_zero,List.set_cons_succ]
         refine take_op (i:=7) (.build 82 #[(0,.tmp 25),(1,.tmp 28),(2,.tmp 31)]) (some 32) (.agg #[.int .u32 (C':Int),.string NM,.int .u8 (kd:Int),.int .u32 0]) (by unfold opWants;kernel_rfl) (by kernel_rfl) (by kernel_rfl) (by kernel_rfl) (fun _ _ _ h=>h) (fun o ho w'=>?_) ?_
         ·unfold execOp;simp only [ho];(first | kernel_rfl | go_simp)
         simp only [Act.put,List.setIfInBounds_toArray,List.set_cons_zero,List.set_cons_succ]
         refine any1 9 (by kernel_rfl) ?_
         ·skip
          refine op_store 82 (.tmp 7) (.tmp 32) none (by unfold opIs;kernel_rfl) (.pointer (some ⟨_,0,none⟩)) (.agg #[.int .u32 (C':Int),.string NM,.int .u8 (kd:Int),.int .u32 0]) (by kernel_rfl) (by kernel_rfl) (store_A pr3 _ _ _ _) ?_
          have bl5:=below_sets bl3 hQ2 (.int .u32 (C':Int)) (.string NM) (.int .u8 (kd:Int)) (.int .u32 0)
          have pr5:=pr3.sets (.int .u32 (C':Int)) (.string NM) (.int .u8 (kd:Int)) (.int .u32 0)
          simp only [Act.put]
          refine wpAny_done (by kernel_rfl) ?_ _
          go_wp2
          go_meet
          exact ⟨_,rfl,hQ2,pr5,bl5⟩
       ·skip
        refine op_load 5 (.tmp 29) (some 30) (by unfold opIs;kernel_rfl) (.pointer (some ⟨X,1,none⟩)) (.int .u8 (x.kind:Int)) (by kernel_rfl) (load_u8 _ _ _ _ ((bl2.cell (p:=⟨X,1,none⟩) hX).trans x1)) ?_
        simp only [Act.put,List.setIfInBounds_toArray,List.set_cons_zero,List.set_cons_succ]
        refine take_op (i:=6) (.binOp .rem 5 (.tmp 30) (.const (.int .u8 5)) 5) (some 31) (.int .u8 (kd:Int)) (by unfold opWants;kernel_rfl) (by kernel_rfl) (by kernel_rfl) (by kernel_rfl) (fun _ _ _ h=>h) (fun o ho w'=>?_) ?_
        ·unfold execOp;simp only [ho];(go_simp;rw [Int.tmod_eq_emod_of_nonneg (by omega)];exact e2)
        simp only [Act.put,List.setIfInBounds_toArray,List.set_cons_zero,List.set_cons_succ]
        refine any1 3 (by kernel_rfl) ?_
        ·skip
         refine op_call (.call { callee:=.value (.func 32),args:=#[.tmp 27],argTypes:=#[5] }) (some 28) (by unfold opIs;kernel_rfl) 32 #[.int .u8 (x.name:Int)] (fun o ho=>by unfold execOp;rw [ho];kernel_rfl) (KN.out _) ?_
         rintro e v4 ⟨rfl,hb4⟩
         refine ⟨_,rfl,?_⟩
         have bl4:=bel_call bl2 hb4
         have pr4:=pr2.stay hb4
         simp only [Act.put,List.setIfInBounds_toArray,List.set_cons_zero,List.set_cons_succ]
         refine take_op (i:=7) (.build 82 #[(0,.tmp 25),(1,.tmp 28),(2,.tmp 31)]) (some 32) (.agg #[.int .u32 (C':Int),.string NM,.int .u8 (kd:Int),.int .u32 0]) (by unfold opWants;kernel_rfl) (by kernel_rfl) (by kernel_rfl) (by kernel_rfl) (fun _ _ _ h=>h) (fun o ho w'=>?_) ?_
         ·unfold execOp;simp only [ho];(first | kernel_rfl | go_simp)
         simp only [Act.put,List.setIfInBounds_toArray,List.set_cons_zero,List.set_cons_succ]
         refine any1 9 (by kernel_rfl) ?_
         ·skip
          refine op_store 82 (.tmp 7) (.tmp 32) none (by unfold opIs;kernel_rfl) (.pointer (some ⟨_,0,none⟩)) (.agg #[.int .u32 (C':Int),.string NM,.int .u8 (kd:Int),.int .u32 0]) (by kernel_rfl) (by kernel_rfl) (store_A pr4 _ _ _ _) ?_
          have bl5:=below_sets bl4 hQ2 (.int .u32 (C':Int)) (.string NM) (.int .u8 (kd:Int)) (.int .u32 0)
          have pr5:=pr4.sets (.int .u32 (C':Int)) (.string NM) (.int .u8 (kd:Int)) (.int .u32 0)
          simp only [Act.put]
          refine wpAny_done (by kernel_rfl) ?_ _
          go_wp2
          go_meet
          exact ⟨_,rfl,hQ2,pr5,bl5⟩
     ·skip
      refine op_load 5 (.tmp 29) (some 30) (by unfold opIs;kernel_rfl) (.pointer (some ⟨X,1,none⟩)) (.int .u8 (x.kind:Int)) (by kernel_rfl) (load_u8 _ _ _ _ ((bl0.cell (p:=⟨X,1,none⟩) hX).trans x1)) ?_
      simp only [Act.put,List.setIfInBounds_toArray,List.set_cons_zero,List.set_cons_succ]
      refine take_op (i:=6) (.binOp .rem 5 (.tmp 30) (.const (.int .u8 5)) 5) (some 31) (.int .u8 (kd:Int)) (by unfold opWants;kernel_rfl) (by kernel_rfl) (by kernel_rfl) (by kernel_rfl) (fun _ _ _ h=>h) (fun o ho w'=>?_) ?_
      ·unfold execOp;simp only [ho];(go_simp;rw [Int.tmod_eq_emod_of_nonneg (by omega)];exact e2)
      simp only [Act.put,List.setIfInBounds_toArray,List.set_cons_zero,List.set_cons_succ]
      refine any2 2 8 (by kernel_rfl) ?_ ?_
      ·skip
       refine op_load 5 (.tmp 26) (some 27) (by unfold opIs;kernel_rfl) (.pointer (some ⟨X,3,none⟩)) (.int .u8 (x.name:Int)) (by kernel_rfl) (load_u8 _ _ _ _ ((bl0.cell (p:=⟨X,3,none⟩) hX).trans x3)) ?_
       simp only [Act.put,List.setIfInBounds_toArray,List.set_cons_zero,List.set_cons_succ]
       refine any2 3 8 (by kernel_rfl) ?_ ?_
       ·skip
        refine op_call (.call { callee:=.value (.func 32),args:=#[.tmp 27],argTypes:=#[5] }) (some 28) (by unfold opIs;kernel_rfl) 32 #[.int .u8 (x.name:Int)] (fun o ho=>by unfold execOp;rw [ho];kernel_rfl) (KN.out _) ?_
        rintro e v3 ⟨rfl,hb3⟩
        refine ⟨_,rfl,?_⟩
        have bl3:=bel_call bl0 hb3
        simp only [Act.put,List.setIfInBounds_toArray,List.set_cons_zero,List.set_cons_succ]
        refine take_op (i:=7) (.build 82 #[(0,.tmp 25),(1,.tmp 28),(2,.tmp 31)]) (some 32) (.agg #[.int .u32 (C':Int),.string NM,.int .u8 (kd:Int),.int .u32 0]) (by unfold opWants;kernel_rfl) (by kernel_rfl) (by kernel_rfl) (by kernel_rfl) (fun _ _ _ h=>h) (fun o ho w'=>?_) ?_
        ·unfold execOp;simp only [ho];(first | kernel_rfl | go_simp)
        simp only [Act.put,List.setIfInBounds_toArray,List.set_cons_zero,List.set_cons_succ]
        refine any1 8 (by kernel_rfl) ?_
        ·skip
         refine opw_newA (some 7) (by unfold opWants;kernel_rfl) ?_
         have hQ4:=bl3.size
         have pr4:=Box4.of bl3 (.int .u32 0) (.string ⟨#[]⟩) (.int .u8 0) (.int .u32 0) 82
         have bl4:=bel_new bl3 (.cells #[.int .u32 0,.string ⟨#[]⟩,.int .u8 0,.int .u32 0] 82)
         simp only [Act.put,List.setIfInBounds_toArray,List.set_cons_zero,List.set_cons_succ]
         refine any1 9 (by kernel_rfl) ?_
         ·skip
          refine op_store 82 (.tmp 7) (.tmp 32) none (by unfold opIs;kernel_rfl) (.pointer (some ⟨_,0,none⟩)) (.agg #[.int .u32 (C':Int),.string NM,.int .u8 (kd:Int),.int .u32 0]) (by kernel_rfl) (by kernel_rfl) (store_A pr4 _ _ _ _) ?_
          have bl5:=below_sets bl4 hQ4 (.int .u32 (C':Int)) (.string NM) (.int .u8 (kd:Int)) (.int .u32 0)
          have pr5:=pr4.sets (.int .u32 (C':Int)) (.string NM) (.int .u8 (kd:Int)) (.int .u32 0)
          simp only [Act.put]
          refine wpAny_done (by kernel_rfl) ?_ _
          go_wp2
          go_meet
          exact ⟨_,rfl,hQ4,pr5,bl5⟩
       ·skip
        refine opw_newA (some 7) (by unfold opWants;kernel_rfl) ?_
        have hQ3:=bl0.size
        have pr3:=Box4.of bl0 (.int .u32 0) (.string ⟨#[]⟩) (.int .u8 0) (.int .u32 0) 82
        have bl3:=bel_new bl0 (.cells #[.int .u32 0,.string ⟨#[]⟩,.int .u8 0,.int .u32 0] 82)
        simp only [Act.put,List.setIfInBounds_toArray,List.set_cons_zero,List.set_cons_succ]
        refine any1 3 (by kernel_rfl) ?_
        ·skip
         refine op_call (.call { callee:=.value (.func 32),args:=#[.tmp 27],argTypes:=#[5] }) (some 28) (by unfold opIs;kernel_rfl) 32 #[.int .u8 (x.name:Int)] (fun o ho=>by unfold execOp;rw [ho];kernel_rfl) (KN.out _) ?_
         rintro e v4 ⟨rfl,hb4⟩
         refine ⟨_,rfl,?_⟩
         have bl4:=bel_call bl3 hb4
         have pr4:=pr3.stay hb4
         simp only [Act.put,List.setIfInBounds_toArray,List.set_cons_zero,List.set_cons_succ]
         refine take_op (i:=7) (.build 82 #[(0,.tmp 25),(1,.tmp 28),(2,.tmp 31)]) (some 32) (.agg #[.int .u32 (C':Int),.string NM,.int .u8 (kd:Int),.int .u32 0]) (by unfold opWants;kernel_rfl) (by kernel_rfl) (by kernel_rfl) (by kernel_rfl) (fun _ _ _ h=>h) (fun o ho w'=>?_) ?_
         ·unfold execOp;simp only [ho];(first | kernel_rfl | go_simp)
         simp only [Act.put,List.setIfInBounds_toArray,List.set_cons_zero,List.set_cons_succ]
         refine any1 9 (by kernel_rfl) ?_
         ·skip
          refine op_store 82 (.tmp 7) (.tmp 32) none (by unfold opIs;kernel_rfl) (.pointer (some ⟨_,0,none⟩)) (.agg #[.int .u32 (C':Int),.string NM,.int .u8 (kd:Int),.int .u32 0]) (by kernel_rfl) (by kernel_rfl) (store_A pr4 _ _ _ _) ?_
          have bl5:=below_sets bl4 hQ3 (.int .u32 (C':Int)) (.string NM) (.int .u8 (kd:Int)) (.int .u32 0)
          have pr5:=pr4.sets (.int .u32 (C':Int)) (.string NM) (.int .u8 (kd:Int)) (.int .u32 0)
          simp only [Act.put]
          refine wpAny_done (by kernel_rfl) ?_ _
          go_wp2
          go_meet
          exact ⟨_,rfl,hQ3,pr5,bl5⟩
      ·skip
       refine opw_newA (some 7) (by unfold opWants;kernel_rfl) ?_
       have hQ2:=bl0.size
       have pr2:=Box4.of bl0 (.int .u32 0) (.string ⟨#[]⟩) (.int .u8 0) (.int .u32 0) 82
       have bl2:=bel_new bl0 (.cells #[.int .u32 0,.string ⟨#[]⟩,.int .u8 0,.int .u32 0] 82)
       simp only [Act.put,List.setIfInBounds_toArray,List.set_cons_zero,List.set_cons_succ]
       refine any1 2 (by kernel_rfl) ?_
       ·skip
        refine op_load 5 (.tmp 26) (some 27) (by unfold opIs;kernel_rfl) (.pointer (some ⟨X,3,none⟩)) (.int .u8 (x.name:Int)) (by kernel_rfl) (load_u8 _ _ _ _ ((bl2.cell (p:=⟨X,3,none⟩) hX).trans x3)) ?_
        simp only [Act.put,List.setIfInBounds_toArray,List.set_cons_zero,List.set_cons_succ]
        refine any1 3 (by kernel_rfl) ?_
        ·skip
         refine op_call (.call { callee:=.value (.func 32),args:=#[.tmp 27],argTypes:=#[5] }) (some 28) (by unfold opIs;kernel_rfl) 32 #[.int .u8 (x.name:Int)] (fun o ho=>by unfold execOp;rw [ho];kernel_rfl) (KN.out _) ?_
         rintro e v4 ⟨rfl,hb4⟩
         refine ⟨_,rfl,?_⟩
         have bl4:=bel_call bl2 hb4
         have pr4:=pr2.stay hb4
         simp only [Act.put,List.setIfInBounds_toArray,List.set_cons_zero,List.set_cons_succ]
         refine take_op (i:=7) (.build 82 #[(0,.tmp 25),(1,.tmp 28),(2,.tmp 31)]) (some 32) (.agg #[.int .u32 (C':Int),.string NM,.int .u8 (kd:Int),.int .u32 0]) (by unfold opWants;kernel_rfl) (by kernel_rfl) (by kernel_rfl) (by kernel_rfl) (fun _ _ _ h=>h) (fun o ho w'=>?_) ?_
         ·unfold execOp;simp only [ho];(first | kernel_rfl | go_simp)
         simp only [Act.put,List.setIfInBounds_toArray,List.set_cons_zero,List.set_cons_succ]
         refine any1 9 (by kernel_rfl) ?_
         ·skip
          refine op_store 82 (.tmp 7) (.tmp 32) none (by unfold opIs;kernel_rfl) (.pointer (some ⟨_,0,none⟩)) (.agg #[.int .u32 (C':Int),.string NM,.int .u8 (kd:Int),.int .u32 0]) (by kernel_rfl) (by kernel_rfl) (store_A pr4 _ _ _ _) ?_
          have bl5:=below_sets bl4 hQ2 (.int .u32 (C':Int)) (.string NM) (.int .u8 (kd:Int)) (.int .u32 0)
          have pr5:=pr4.sets (.int .u32 (C':Int)) (.string NM) (.int .u8 (kd:Int)) (.int .u32 0)
          simp only [Act.put]
          refine wpAny_done (by kernel_rfl) ?_ _
          go_wp2
          go_meet
          exact ⟨_,rfl,hQ2,pr5,bl5⟩
     ·skip
      refine opw_newA (some 7) (by unfold opWants;kernel_rfl) ?_
      have hQ1:=bl0.size
      have pr1:=Box4.of bl0 (.int .u32 0) (.string ⟨#[]⟩) (.int .u8 0) (.int .u32 0) 82
      have bl1:=bel_new bl0 (.cells #[.int .u32 0,.string ⟨#[]⟩,.int .u8 0,.int .u32 0] 82)
      simp only [Act.put,List.setIfInBounds_toArray,List.set_cons_zero,List.set_cons_succ]
      refine any2 2 5 (by kernel_rfl) ?_ ?_
      ·skip
       refine op_load 5 (.tmp 26) (some 27) (by unfold opIs;kernel_rfl) (.pointer (some ⟨X,3,none⟩)) (.int .u8 (x.name:Int)) (by kernel_rfl) (load_u8 _ _ _ _ ((bl1.cell (p:=⟨X,3,none⟩) hX).trans x3)) ?_
       simp only [Act.put,List.setIfInBounds_toArray,List.set_cons_zero,List.set_cons_succ]
       refine any2 3 5 (by kernel_rfl) ?_ ?_
       ·skip
        refine op_call (.call { callee:=.value (.func 32),args:=#[.tmp 27],argTypes:=#[5] }) (some 28) (by unfold opIs;kernel_rfl) 32 #[.int .u8 (x.name:Int)] (fun o ho=>by unfold execOp;rw [ho];kernel_rfl) (KN.out _) ?_
        rintro e v3 ⟨rfl,hb3⟩
        refine ⟨_,rfl,?_⟩
        have bl3:=bel_call bl1 hb3
        have pr3:=pr1.stay hb3
        simp only [Act.put,List.setIfInBounds_toArray,List.set_cons_zero,List.set_cons_succ]
        refine any1 5 (by kernel_rfl) ?_
        ·skip
         refine op_load 5 (.tmp 29) (some 30) (by unfold opIs;kernel_rfl) (.pointer (some ⟨X,1,none⟩)) (.int .u8 (x.kind:Int)) (by kernel_rfl) (load_u8 _ _ _ _ ((bl3.cell (p:=⟨X,1,none⟩) hX).trans x1)) ?_
         simp only [Act.put,List.setIfInBounds_toArray,List.set_cons_zero,List.set_cons_succ]
         refine take_op (i:=6) (.binOp .rem 5 (.tmp 30) (.const (.int .u8 5)) 5) (some 31) (.int .u8 (kd:Int)) (by unfold opWants;kernel_rfl) (by kernel_rfl) (by kernel_rfl) (by kernel_rfl) (fun _ _ _ h=>h) (fun o ho w'=>?_) ?_
         ·unfold execOp;simp only [ho];(go_simp;rw [Int.tmod_eq_emod_of_nonneg (by omega)];exact e2)
         simp only [Act.put,List.setIfInBounds_toArray,List.set_cons_zero,List.set_cons_succ]
         refine take_op (i:=7) (.build 82 #[(0,.tmp 25),(1,.tmp 28),(2,.tmp 31)]) (some 32) (.agg #[.int .u32 (C':Int),.string NM,.int .u8 (kd:Int),.int .u32 0]) (by unfold opWants;kernel_rfl) (by kernel_rfl) (by kernel_rfl) (by kernel_rfl) (fun _ _ _ h=>h) (fun o ho w'=>?_) ?_
         ·unfold execOp;simp only [ho];(first | kernel_rfl | go_simp)
         simp only [Act.put,List.setIfInBounds_toArray,List.set_cons_zero,List.set_cons_succ]
         refine any1 9 (by kernel_rfl) ?_
         ·skip
          refine op_store 82 (.tmp 7) (.tmp 32) none (by unfold opIs;kernel_rfl) (.pointer (some ⟨_,0,none⟩)) (.agg #[.int .u32 (C':Int),.string NM,.int .u8 (kd:Int),.int .u32 0]) (by kernel_rfl) (by kernel_rfl) (store_A pr3 _ _ _ _) ?_
          have bl5:=below_sets bl3 hQ1 (.int .u32 (C':Int)) (.string NM) (.int .u8 (kd:Int)) (.int .u32 0)
          have pr5:=pr3.sets (.int .u32 (C':Int)) (.string NM) (.int .u8 (kd:Int)) (.int .u32 0)
          simp only [Act.put]
          refine wpAny_done (by kernel_rfl) ?_ _
          go_wp2
          go_meet
          exact ⟨_,rfl,hQ1,pr5,bl5⟩
       ·skip
        refine op_load 5 (.tmp 29) (some 30) (by unfold opIs;kernel_rfl) (.pointer (some ⟨X,1,none⟩)) (.int .u8 (x.kind:Int)) (by kernel_rfl) (load_u8 _ _ _ _ ((bl1.cell (p:=⟨X,1,none⟩) hX).trans x1)) ?_
        simp only [Act.put,List.setIfInBounds_toArray,List.set_cons_zero,List.set_cons_succ]
        refine take_op (i:=6) (.binOp .rem 5 (.tmp 30) (.const (.int .u8 5)) 5) (some 31) (.int .u8 (kd:Int)) (by unfold opWants;kernel_rfl) (by kernel_rfl) (by kernel_rfl) (by kernel_rfl) (fun _ _ _ h=>h) (fun o ho w'=>?_) ?_
        ·unfold execOp;simp only [ho];(go_simp;rw [Int.tmod_eq_emod_of_nonneg (by omega)];exact e2)
        simp only [Act.put,List.setIfInBounds_toArray,List.set_cons_zero,List.set_cons_succ]
        refine any1 3 (by kernel_rfl) ?_
        ·skip
         refine op_call (.call { callee:=.value (.func 32),args:=#[.tmp 27],argTypes:=#[5] }) (some 28) (by unfold opIs;kernel_rfl) 32 #[.int .u8 (x.name:Int)] (fun o ho=>by unfold execOp;rw [ho];kernel_rfl) (KN.out _) ?_
         rintro e v4 ⟨rfl,hb4⟩
         refine ⟨_,rfl,?_⟩
         have bl4:=bel_call bl1 hb4
         have pr4:=pr1.stay hb4
         simp only [Act.put,List.setIfInBounds_toArray,List.set_cons_zero,List.set_cons_succ]
         refine take_op (i:=7) (.build 82 #[(0,.tmp 25),(1,.tmp 28),(2,.tmp 31)]) (some 32) (.agg #[.int .u32 (C':Int),.string NM,.int .u8 (kd:Int),.int .u32 0]) (by unfold opWants;kernel_rfl) (by kernel_rfl) (by kernel_rfl) (by kernel_rfl) (fun _ _ _ h=>h) (fun o ho w'=>?_) ?_
         ·unfold execOp;simp only [ho];(first | kernel_rfl | go_simp)
         simp only [Act.put,List.setIfInBounds_toArray,List.set_cons_zero,List.set_cons_succ]
         refine any1 9 (by kernel_rfl) ?_
         ·skip
          refine op_store 82 (.tmp 7) (.tmp 32) none (by unfold opIs;kernel_rfl) (.pointer (some ⟨_,0,none⟩)) (.agg #[.int .u32 (C':Int),.string NM,.int .u8 (kd:Int),.int .u32 0]) (by kernel_rfl) (by kernel_rfl) (store_A pr4 _ _ _ _) ?_
          have bl5:=below_sets bl4 hQ1 (.int .u32 (C':Int)) (.string NM) (.int .u8 (kd:Int)) (.int .u32 0)
          have pr5:=pr4.sets (.int .u32 (C':Int)) (.string NM) (.int .u8 (kd:Int)) (.int .u32 0)
          simp only [Act.put]
          refine wpAny_done (by kernel_rfl) ?_ _
          go_wp2
          go_meet
          exact ⟨_,rfl,hQ1,pr5,bl5⟩
      ·skip
       refine op_load 5 (.tmp 29) (some 30) (by unfold opIs;kernel_rfl) (.pointer (some ⟨X,1,none⟩)) (.int .u8 (x.kind:Int)) (by kernel_rfl) (load_u8 _ _ _ _ ((bl1.cell (p:=⟨X,1,none⟩) hX).trans x1)) ?_
       simp only [Act.put,List.setIfInBounds_toArray,List.set_cons_zero,List.set_cons_succ]
       refine take_op (i:=6) (.binOp .rem 5 (.tmp 30) (.const (.int .u8 5)) 5) (some 31) (.int .u8 (kd:Int)) (by unfold opWants;kernel_rfl) (by kernel_rfl) (by kernel_rfl) (by kernel_rfl) (fun _ _ _ h=>h) (fun o ho w'=>?_) ?_
       ·unfold execOp;simp only [ho];(go_simp;rw [Int.tmod_eq_emod_of_nonneg (by omega)];exact e2)
       simp only [Act.put,List.setIfInBounds_toArray,List.set_cons_zero,List.set_cons_succ]
       refine any1 2 (by kernel_rfl) ?_
       ·skip
        refine op_load 5 (.tmp 26) (some 27) (by unfold opIs;kernel_rfl) (.pointer (some ⟨X,3,none⟩)) (.int .u8 (x.name:Int)) (by kernel_rfl) (load_u8 _ _ _ _ ((bl1.cell (p:=⟨X,3,none⟩) hX).trans x3)) ?_
        simp only [Act.put,List.setIfInBounds_toArray,List.set_cons_zero,List.set_cons_succ]
        refine any1 3 (by kernel_rfl) ?_
        ·skip
         refine op_call (.call { callee:=.value (.func 32),args:=#[.tmp 27],argTypes:=#[5] }) (some 28) (by unfold opIs;kernel_rfl) 32 #[.int .u8 (x.name:Int)] (fun o ho=>by unfold execOp;rw [ho];kernel_rfl) (KN.out _) ?_
         rintro e v4 ⟨rfl,hb4⟩
         refine ⟨_,rfl,?_⟩
         have bl4:=bel_call bl1 hb4
         have pr4:=pr1.stay hb4
         simp only [Act.put,List.setIfInBounds_toArray,List.set_cons_zero,List.set_cons_succ]
         refine take_op (i:=7) (.build 82 #[(0,.tmp 25),(1,.tmp 28),(2,.tmp 31)]) (some 32) (.agg #[.int .u32 (C':Int),.string NM,.int .u8 (kd:Int),.int .u32 0]) (by unfold opWants;kernel_rfl) (by kernel_rfl) (by kernel_rfl) (by kernel_rfl) (fun _ _ _ h=>h) (fun o ho w'=>?_) ?_
         ·unfold execOp;simp only [ho];(first | kernel_rfl | go_simp)
         simp only [Act.put,List.setIfInBounds_toArray,List.set_cons_zero,List.set_cons_succ]
         refine any1 9 (by kernel_rfl) ?_
         ·skip
          refine op_store 82 (.tmp 7) (.tmp 32) none (by unfold opIs;kernel_rfl) (.pointer (some ⟨_,0,none⟩)) (.agg #[.int .u32 (C':Int),.string NM,.int .u8 (kd:Int),.int .u32 0]) (by kernel_rfl) (by kernel_rfl) (store_A pr4 _ _ _ _) ?_
          have bl5:=below_sets bl4 hQ1 (.int .u32 (C':Int)) (.string NM) (.int .u8 (kd:Int)) (.int .u32 0)
          have pr5:=pr4.sets (.int .u32 (C':Int)) (.string NM) (.int .u8 (kd:Int)) (.int .u32 0)
          simp only [Act.put]
          refine wpAny_done (by kernel_rfl) ?_ _
          go_wp2
          go_meet
          exact ⟨_,rfl,hQ1,pr5,bl5⟩
    case rest =>
     obtain ⟨G,rfl,hG,hbox,hbx⟩:=hcut
     rename World=>wx
     have HS:Hid (stI l (k+1)=(c ++ [newA c C x],C')):=Lib.hid (by have h:=stI_step HX.out.1;rw [HC.out.2] at h;exact Prod.ext h.1 (h.2.trans HX.out.2.1))
     have hxs:=hbx.size
     have y2:=(hbx.cell (p:=⟨X,2,none⟩) hX).trans x2
     have HB2:=Lib.hid (HB1.out.trans (hbx.mono HB1.out.size))
     have HO2:=Lib.hid (owns_stay HO1.out hbx)
     have hbs2:w.heap.size≤wx.heap.size:=HB2.out.size
     have hCb:Hid (cc (bareA C x)=[.int .u32 (C':Int),.string (nm5 (x.name % 5)),.int .u8 (kd:Int),.int .u32 0]):=Lib.hid (by
      have e:(C+1+x.code % 4) % 4294967296=C':=by have:=HX.out.2.1;omega
      show ([.int .u32 (((C+1+x.code % 4) % 4294967296:Nat):Int),.string (nm5 (x.name % 5)),.int .u8 ((x.kind % 5:Nat):Int),.int .u32 ((0:Nat):Int)]:List Value)=_
      rw [e,HX.out.2.2]
      rfl)
     generalize nm5 (x.name % 5)=NM at *
     clear hbx x0 x1 x2 x3 c0 c1 c2 c3 HB HO HB1 KN hd e1 e2
     have hxp:=x.h3
     have HG:=Lib.hid hbox
     have HOL:=Lib.hid HO1.out.lt
     clear HO1
     obtain ⟨g0,g1,g2,g3,f0,f1,f2,f3,hGs⟩:=hbox
     have hGw:G<wx.heap.size:=hGs
     by_cases hno:k=0∨x.par % 3=0
     ·have HA:Hid (cc (newA c C x)=[.int .u32 (C':Int),.string NM,.int .u8 (kd:Int),.int .u32 0]):=Lib.hid (by rw [show newA c C x=bareA C x by unfold newA;rw [if_neg (by have:=HC.out.1;omega)]];exact hCb.out)
      by_cases hk0:k=0
      ·clear hno
       have hd0:k≤0:=by omega
       clear hk0
       go_wp2_with (at_builtin;refine wpList_append_own _ rfl (.tmp 62) (.tmp 64) 34 rfl w.heap.size 82 i0 (.agg #[.int .u32 0,.string ⟨#[]⟩,.int .u8 0,.int .u32 0]) 4 32 Tryz.underlying34 hi hz0 hz1 hz2 rfl (by decide) _ k _ rfl (HO2.out.alloc _) ⟨wx.heap.size,0,none⟩ 1 1 [.int .u32 (C':Int),.string NM,.int .u8 (kd:Int),.int .u32 0] rfl rfl (cells_new _ [.int .u32 (C':Int),.string NM,.int .u8 (kd:Int),.int .u32 0] _) (fun u hu=>by simp at hu;rcases hu with rfl | rfl | rfl | rfl <;> rfl) (by unfold maxLen;omega) (by omega) (by simp;omega) ?_;intro v2 w3 hown3 hgrow3 _;have HB3:=Lib.hid ((HB2.out.alloc (by omega) _).grown hgrow3 (by simp;omega) (fun j hj=>(HO2.out.lt j hj).1));have HO3:=Lib.hid hown3;obtain ⟨r2,cap2,rfl⟩:=owns_form hown3;clear hgrow3 hown3)
       go_roundw
       case rel=>exact ⟨k+1,C',r2,cap2,c ++ [newA c C x],rfl,rfl,by go_num,by omega,by omega,hC4,by rw [flat_snoc,HA.out];exact HO3.out,Lib.hid ⟨by simp;exact HC.out.1,HS.out⟩,HB3.out⟩
       case measure=>simp [intOf];omega
      ·have hp0:(x.par:Int) % 3=0:=by omega
       have hk1:0<k:=by omega
       clear hno hk0
       go_wp2_with (at_builtin;refine wpList_append_own _ rfl (.tmp 62) (.tmp 64) 34 rfl w.heap.size 82 i0 (.agg #[.int .u32 0,.string ⟨#[]⟩,.int .u8 0,.int .u32 0]) 4 32 Tryz.underlying34 hi hz0 hz1 hz2 rfl (by decide) _ k _ rfl (HO2.out.alloc _) ⟨wx.heap.size,0,none⟩ 1 1 [.int .u32 (C':Int),.string NM,.int .u8 (kd:Int),.int .u32 0] rfl rfl (cells_new _ [.int .u32 (C':Int),.string NM,.int .u8 (kd:Int),.int .u32 0] _) (fun u hu=>by simp at hu;rcases hu with rfl | rfl | rfl | rfl <;> rfl) (by unfold maxLen;omega) (by omega) (by simp;omega) ?_;intro v2 w3 hown3 hgrow3 _;have HB3:=Lib.hid ((HB2.out.alloc (by omega) _).grown hgrow3 (by simp;omega) (fun j hj=>(HO2.out.lt j hj).1));have HO3:=Lib.hid hown3;obtain ⟨r2,cap2,rfl⟩:=owns_form hown3;clear hgrow3 hown3)
       go_roundw
       case rel=>exact ⟨k+1,C',r2,cap2,c ++ [newA c C x],rfl,rfl,by go_num,by omega,by omega,hC4,by rw [flat_snoc,HA.out];exact HO3.out,Lib.hid ⟨by simp;exact HC.out.1,HS.out⟩,HB3.out⟩
       case measure=>simp [intOf];omega
     ·have hk1:0<k:=by omega
      have hp0:(0:Int)<(x.par:Int) % 3:=by omega
      obtain ⟨pi,hpi⟩:∃ pi,x.par % k=pi:=⟨_,rfl⟩
      have hpk:pi<k:=hpi ▸ Nat.mod_lt _ hk1
      have e3:(x.par:Int) % (k:Int)=(pi:Int):=by rw [← hpi];simp
      obtain ⟨p,hp⟩:∃ p,c[pi]?=some p:=⟨c[pi]'(by have:=HC.out.1;omega),List.getElem?_eq_getElem (by have:=HC.out.1;omega)⟩
      have hnew:newA c C x=if (wayF 13 c p.code).length<11 then (bareA C x).inA p else bareA C x:=by
       unfold newA
       rw [if_pos (by have:=HC.out.1;omega),HC.out.1,hpi,hp]
      have hRo:Recs cc 4 wx (.slice r k cap) c:=recs_of_owns cc_len HO2.out HC.out.1.symm (by omega)
      obtain ⟨g',o',rfl,hg',hc'⟩:=hRo.at hp
      obtain ⟨d0,d1,d2,d3⟩:=Recs.cells4 (c:=c) hc'
      have HGP:=Lib.hid (HG.out.stay ((Below.refl wx.heap.size wx).alloc (Nat.le_refl _) (.cells #[.int .u32 (p.code:Int),.string p.name,.int .u8 (p.kind:Int),.int .u32 (p.par:Int)] 82)))
      have P0:=Lib.hid (box_cell wx #[.int .u32 (p.code:Int),.string p.name,.int .u8 (p.kind:Int),.int .u32 (p.par:Int)] 82 0 _ rfl)
      have P2:=Lib.hid (box_cell wx #[.int .u32 (p.code:Int),.string p.name,.int .u8 (p.kind:Int),.int .u32 (p.par:Int)] 82 2 _ rfl)
      have HQ:=Lib.hid (deep_c _ c p.code _ (hRo.stay ((Below.refl wx.heap.size wx).alloc (Nat.le_refl _) (.cells #[.int .u32 (p.code:Int),.string p.name,.int .u8 (p.kind:Int),.int .u32 (p.par:Int)] 82))))
      have hgG:g'≠G:=by have:=(HOL.out g' rfl).2;omega
      clear hno hpi hp hRo hc' HG
      generalize (wayF 13 c p.code).length=D at *
      by_cases hD:D<11
      ·have HA:Hid (cc (newA c C x)=[.int .u32 (C':Int),.string NM,.int .u8 (p.kind:Int),.int .u32 (p.code:Int)]):=Lib.hid (by
        rw [hnew,if_pos hD]
        have h:=hCb.out
        unfold cc at h
        unfold cc Ac.inA
        simp only [List.cons.injEq,Value.int.injEq,Value.string.injEq,true_and,and_true] at h ⊢
        exact ⟨h.1,h.2.1⟩)
       clear hnew
       go_wp2_with (go_at_call 51;refine HQ.out.mono ?_;rintro e w2 ⟨rfl,hb2⟩;have HO4:=Lib.hid (owns_stay (HO2.out.alloc _) hb2);have HB4:=Lib.hid ((HB2.out.alloc hbs2 _).trans (hb2.mono (HB2.out.alloc hbs2 _).size));have hs4:w.heap.size≤w2.heap.size:=HB4.out.size;obtain ⟨g0,g1,g2,g3,f0,f1,f2,f3,hGs⟩:=HGP.out.stay hb2;have q0:=cell_on hb2 P0.out;have q2:=cell_on hb2 P2.out;clear hb2)
       have hne:G≠wx.heap.size:=by omega
       have hB4:Hid (Box4 w2 G (.int .u32 (C':Int)) (.string NM) (.int .u8 (kd:Int)) (.int .u32 0)):=Lib.hid ⟨g0,g1,g2,g3,f0,f1,f2,f3,hGs⟩
       have hown5:some G≠(Value.slice (some ⟨g',o',none⟩) k cap).ownBlock:=fun e=>hgG (Option.some.inj e).symm
       go_cut [61] (fun _ wy=>Box4 wy G (.int .u32 (C':Int)) (.string NM) (.int .u8 (p.kind:Int)) (.int .u32 (p.code:Int))∧wy.ownsRow w.heap.size 82 4 (.slice (some ⟨g',o',none⟩) k cap) k (c.flatMap cc)∧Below w.heap.size w wy)
       case first =>
        go_region
        all_goals
         go_wp2_with fail
         go_meet
         exact ⟨((hB4.out.set3 _).set2 _).drew,(owns_set_other (owns_set_other HO4.out ⟨G,3,none⟩ _ (fun e=>hown5 e.symm)) ⟨G,2,none⟩ _ (fun e=>hown5 e.symm)).drew,((HB4.out.setCell (show w.heap.size≤G by omega) _).setCell (show w.heap.size≤G by omega) _).drew⟩
       case rest =>
        obtain ⟨hb5,ho5,hbl5⟩:=hcut
        rename World=>wy
        have HO5:=Lib.hid ho5
        have HB5:=Lib.hid hbl5
        have hs5:w.heap.size≤wy.heap.size:=hbl5.size
        obtain ⟨z0,z1,z2,z3,_,_,_,_,hz5⟩:=hb5
        clear ho5 hbl5 g0 g1 g2 g3 f0 f1 f2 f3
        go_wp2_with (at_builtin;refine wpList_append_own _ rfl (.tmp 62) (.tmp 64) 34 rfl w.heap.size 82 i0 (.agg #[.int .u32 0,.string ⟨#[]⟩,.int .u8 0,.int .u32 0]) 4 32 Tryz.underlying34 hi hz0 hz1 hz2 rfl (by decide) _ k _ rfl (HO5.out.alloc _) ⟨wy.heap.size,0,none⟩ 1 1 [.int .u32 (C':Int),.string NM,.int .u8 (p.kind:Int),.int .u32 (p.code:Int)] rfl rfl (cells_new _ [.int .u32 (C':Int),.string NM,.int .u8 (p.kind:Int),.int .u32 (p.code:Int)] _) (fun u hu=>by simp at hu;rcases hu with rfl | rfl | rfl | rfl <;> rfl) (by unfold maxLen;omega) (by omega) (by simp;omega) ?_;intro v2 w3 hown3 hgrow3 _;have HB3:=Lib.hid ((HB5.out.alloc (by omega) _).grown hgrow3 (by simp;omega) (fun j hj=>(HO5.out.lt j hj).1));have HO3:=Lib.hid hown3;obtain ⟨r2,cap2,rfl⟩:=owns_form hown3;clear hgrow3 hown3)
        go_roundw
        case rel=>exact ⟨k+1,C',r2,cap2,c ++ [newA c C x],rfl,rfl,by go_num,by omega,by omega,hC4,by rw [flat_snoc,HA.out];exact HO3.out,Lib.hid ⟨by simp;exact HC.out.1,HS.out⟩,HB3.out⟩
        case measure=>simp [intOf];omega
      ·have HA:Hid (cc (newA c C x)=[.int .u32 (C':Int),.string NM,.int .u8 (kd:Int),.int .u32 0]):=Lib.hid (by rw [hnew,if_neg hD];exact hCb.out)
       clear hnew
       go_wp2_with (first
        | (go_at_call 51;refine HQ.out.mono ?_;rintro e w2 ⟨rfl,hb2⟩;have HO4:=Lib.hid (owns_stay (HO2.out.alloc _) hb2);have HB4:=Lib.hid ((HB2.out.alloc hbs2 _).trans (hb2.mono (HB2.out.alloc hbs2 _).size));have hs4:w.heap.size≤w2.heap.size:=HB4.out.size;obtain ⟨g0,g1,g2,g3,f0,f1,f2,f3,hGs⟩:=HGP.out.stay hb2;have q0:=cell_on hb2 P0.out;have q2:=cell_on hb2 P2.out;clear hb2)
        | (at_builtin;refine wpList_append_own _ rfl (.tmp 62) (.tmp 64) 34 rfl w.heap.size 82 i0 (.agg #[.int .u32 0,.string ⟨#[]⟩,.int .u8 0,.int .u32 0]) 4 32 Tryz.underlying34 hi hz0 hz1 hz2 rfl (by decide) _ k _ rfl (HO4.out.alloc _) ⟨w2.heap.size,0,none⟩ 1 1 [.int .u32 (C':Int),.string NM,.int .u8 (kd:Int),.int .u32 0] rfl rfl (cells_new _ [.int .u32 (C':Int),.string NM,.int .u8 (kd:Int),.int .u32 0] _) (fun u hu=>by simp at hu;rcases hu with rfl | rfl | rfl | rfl <;> rfl) (by unfold maxLen;omega) (by omega) (by simp;omega) ?_;intro v2 w3 hown3 hgrow3 _;have HB3:=Lib.hid ((HB4.out.alloc (by omega) _).grown hgrow3 (by simp;omega) (fun j hj=>(HO4.out.lt j hj).1));have HO3:=Lib.hid hown3;obtain ⟨r2,cap2,rfl⟩:=owns_form hown3;clear hgrow3 hown3))
       go_roundw
       case rel=>exact ⟨k+1,C',r2,cap2,c ++ [newA c C x],rfl,rfl,by go_num,by omega,by omega,hC4,by rw [flat_snoc,HA.out];exact HO3.out,Lib.hid ⟨by simp;exact HC.out.1,HS.out⟩,HB3.out⟩
       case measure=>simp [intOf];omega
  ·obtain rfl:k=L:=by omega
   have HE:Hid (c=M):=Lib.hid (by rw [← HM.out,show min 40 k=k by omega,HC.out.2])
   have HB:=Lib.hid hb
   have HO:=Lib.hid hown
   clear hb hown
   go_wp2
   go_ret
   refine ⟨_,rfl,?_,HB.out⟩
   rw [← HE.out,HC.out.1]
   exact HO.out

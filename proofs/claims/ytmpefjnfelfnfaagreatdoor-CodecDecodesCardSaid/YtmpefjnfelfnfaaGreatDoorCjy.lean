/- Bytes: one slice's behind another's; the first of them (law 11). -/
import Derived.Test.YtmpefjnfelfnfaaGreatDoorChall
import Derived.Deep.Upon
import Derived.Maps.AppendAt
import Derived.Lib.AppendZerosOnto
import Derived.Lib.SliceRun
set_option maxRecDepth 100000
set_option maxHeartbeats 4000000
namespace Go.Proofs.YtmpefjnfelfnfaaGreatDoor
open Go.RowKit
set_option linter.unusedVariables false
set_option linter.unusedSimpArgs false
theorem byc_take {w:World} {g off n cap:Nat} {l:List Nat} (h:Recs byc 1 w (.slice (some ⟨g,off,none⟩) n cap) l) (hl:l.length=n) (i:Nat) (hi:i≤n):Recs byc 1 w (.slice (some ⟨g,off,none⟩) i cap) (l.take i):=by
 rcases Nat.eq_zero_or_pos i with h0 | h0
 ·subst h0;exact .inl ⟨_,_,rfl,rfl⟩
 ·rcases h with ⟨r',cap',e1,e2⟩ | ⟨g',off',cap',e1,h2,h3,h4,h5⟩
  ·rw [e2] at hl;simp at hl;omega
  ·cases e1
   have hl2:(l.take i).length=i:=by rw [List.length_take];omega
   refine .inr ⟨g,off,cap,by rw [hl2],h2,by rw [hl2];omega,by rw [hl2];omega,fun j x hx m u hu=>?_⟩
   rw [List.getElem?_take] at hx
   split at hx
   ·exact h5 j x hx m u hu
   ·cases hx
theorem append_8 (v y:Value) (xs cs:List Nat) (base:Nat) (w:World) (ho:w.ownsRow base 5 1 v xs.length (xs.flatMap byc)) (hR:Recs byc 1 w y cs) (hn:xs.length+cs.length≤100000000) (hb:base≤w.heap.size) :
 ∃ v' w',(∀ ty,(Builtin.append_ #[25,25] ty #[v,y]).run Tryz.prog w = .ok v' w')∧w'.ownsRow base 5 1 v' (xs ++ cs).length ((xs ++ cs).flatMap byc)∧Below base w w':=by
 obtain ⟨i0,hi,hz0,hz1,hz2⟩:=info_of8
 have hu:=Tryz.underlying25
 by_cases h0:cs=[]
 ·subst h0
  obtain ⟨r,cap,rfl,_⟩:=hR.form
  obtain ⟨r1,cap1,rfl⟩:=own_form ho
  have hc:xs.length≤cap1:=by
   rcases ho.2 with ⟨h0,h1⟩ | ⟨g,cp,cur,h0,_,_,h1,_⟩
   ·omega
   ·cases h0;exact h1
  have hs:Src Tryz.prog i0.size 25 (.slice r 0 cap) 0 [] w:=by
   refine ⟨.inl ⟨_,hu⟩,fun w'=>?_,?_,?_,by simp,by simp⟩
   ·simp [Builtin.lenOf]
   ·cases r <;> simp [Builtin.firstCells,loadCells,loadCellsFrom]
   ·cases r <;> simp [Builtin.firstCells,loadCells,loadCellsFrom]
  refine ⟨_,_,fun ty=>run_append_nothing w _ _ ty _ i0 hu hi r1 xs.length cap1 hc _ hs,?_,Below.refl _ _⟩
  simpa using ho
 ·have hpos:0<cs.length:=List.length_pos_iff.2 h0
  obtain ⟨r,cap,rfl,_⟩:=hR.form
  obtain ⟨g,off,rfl,_,_⟩:=hR.at (List.getElem?_eq_getElem hpos)
  have hcells:∀ j u,(cs.flatMap byc)[j]?=some u→w.cell? ((⟨g,off,none⟩:Addr).add j)=some u:=fun j u hj=>by
   have e1:(⟨g,off,none⟩:Addr).add j=⟨g,off+j,none⟩:=by unfold Addr.add;split <;> simp_all
   rw [e1]
   exact recs_flat byc_len (by omega) hR j u hj
  have hrun:∃ v' w',(∀ ty,(Builtin.append_ #[25,25] ty #[v,.slice (some ⟨g,off,none⟩) cs.length cap]).run Tryz.prog w = .ok v' w')∧w'.ownsRow base 5 1 v' (xs.length+cs.length) (xs.flatMap byc ++ cs.flatMap byc)∧w.grownBy w' v.ownBlock:=by
   obtain ⟨v',w',h1,h2,h3,_⟩:=run_append_own_at (P:=Tryz.prog) w base 25 0 5 i0 _ 1 1 hu hi hz0 hz1 hz2 rfl (by decide) v xs.length (xs.flatMap byc) ho ⟨g,off,none⟩ cs.length cap (cs.flatMap byc) (flat_len byc_len cs) hcells (flat_one byc_one cs) (by unfold maxLen;omega) (by omega) hb
   exact ⟨v',w',fun ty=>h1,h2,h3⟩
  obtain ⟨v',w',h1,h2,h3⟩:=hrun
  refine ⟨v',w',h1,?_,(Below.refl base w).grown h3 hb (fun j hj=>(ho.lt j hj).1)⟩
  rw [List.length_append,List.flatMap_append]
  exact h2
theorem grow_8 (n base:Nat) (w:World) (h0:0<n) (hn:n≤10000000) (hb:base≤w.heap.size) :
 Calls Tryz.prog 50 #[.slice none 0 0,.int .i64 (n:Int)] w fun e w'=>∃ v',e = .returned v'∧w'.ownsRow base 5 1 v' 0 ([]:List Value)∧Below base w w':=by
 obtain ⟨i0,hi,hz0,hz1,hz2⟩:=info_of8
 have hold:(Builtin.firstCells i0.size 0 (.slice none 0 0)).run Tryz.prog w.drew = .ok ([]:List Value).toArray w.drew:=run_firstCells_none ..
 have hrz:=fun ty=>Lib.run_append_grow_zeros (P:=Tryz.prog) w 25 3 ty 5 i0 _ .i64 .i64 Tryz.underlying25 Tryz.underlying3 hi hz0 none 0 0 [] hold n h0 (by omega) (by omega) (by omega) (by rw [hz2];omega)
  (by have h1:=growslice_fits (need:=0+n) (old:=0) (bytes:=i0.bytes) (by omega) (by rw [hz2];omega);exact h1)
 have hG0:grownCap w (0+n) 0 5≤maxLen:=grownCap_le_maxLen w _ _ _ (by unfold maxLen;omega)
 have hG1:0+n≤grownCap w (0+n) 0 5:=grownCap_ge w _ _ _
 obtain ⟨G,hG⟩:∃ G,G=grownCap w (0+n) 0 5:=⟨_,rfl⟩
 rw [← hG] at hrz hG0 hG1
 have hcs:(([]:List Value).toArray ++ Builtin.zeroCells (Value.int .u8 0).cells n ++ Builtin.zeroCells (Value.int .u8 0).cells (G-(0+n))).size=G * 1:=by
  simp [Builtin.zeroCells,Value.cells];omega
 obtain ⟨CS,hCS⟩:∃ CS,([]:List Value).toArray ++ Builtin.zeroCells (Value.int .u8 0).cells n ++ Builtin.zeroCells (Value.int .u8 0).cells (G-(0+n))=CS:=⟨_,rfl⟩
 rw [hCS] at hcs hrz
 have h1:¬ ((n:Int)<0):=by omega
 have h4:(n:Int) > 0:=by omega
 have hmx:G≤9223372036854775807:=by unfold maxLen at hG0;omega
 have HO:=Lib.hid (World.ownsRow_made (base:=base) (e:=5) w.drew CS G hb hG0 hcs)
 have HB:=Lib.hid ((Below.refl base w).drew.alloc hb (.cells CS 5))
 have HR:=Lib.hid hrz
 clear hold hrz hCS hcs hG hi hz0 hz1 hz2 hb
 go_enter Tryz.func50,Tryz.ntmps50
 go_wp2_with (at_builtin;refine Lib.wpList_append_run _ rfl _ _ _ _ rfl _ _ rfl rfl _ _ (HR.out _) ?_)
 all_goals
  go_ret
  exact ⟨_,rfl,HO.out,HB.out⟩
theorem concat_8 (V:Nat) (v1 v2 v3:Value) (S T R:List Nat) (w:World) (h1:Recs byc 1 w v1 S) (h2:Recs byc 1 w v2 T) (h3:Recs byc 1 w v3 R) (hl:S.length+T.length+R.length≤10000000) (hp:0<S.length+T.length+R.length)
 (c0:w.cell? ⟨V,0,none⟩=some v1) (c1:w.cell? ⟨V,1,none⟩=some v2) (c2:w.cell? ⟨V,2,none⟩=some v3) (hV:V<w.heap.size) :
 Calls Tryz.prog 19 #[.slice (some ⟨V,0,none⟩) 3 3] w fun e w'=>∃ v',e = .returned v'∧w'.ownsRow w.heap.size 5 1 v' ((S ++ T) ++ R).length (((S ++ T) ++ R).flatMap byc)∧Below w.heap.size w w':=by
 have H1:=Lib.hid h1
 have H2:=Lib.hid h2
 have H3:=Lib.hid h3
 obtain ⟨r1,cap1,rfl,_⟩:=h1.form
 obtain ⟨r2,cap2,rfl,_⟩:=h2.form
 obtain ⟨r3,cap3,rfl,_⟩:=h3.form
 have KA:=Lib.hid (fun v y xs cs wr=>append_8 v y xs cs w.heap.size wr)
 have HL:=Lib.hid hl
 obtain ⟨n1,hn1⟩:∃ n,S.length=n:=⟨_,rfl⟩
 obtain ⟨n2,hn2⟩:∃ n,T.length=n:=⟨_,rfl⟩
 obtain ⟨n3,hn3⟩:∃ n,R.length=n:=⟨_,rfl⟩
 rw [hn1] at hl hp H1 c0
 rw [hn2] at hl hp H2 c1
 rw [hn3] at hl hp H3 c2
 have KG:=Lib.hid (grow_8 (n1+n2+n3) w.heap.size w hp hl (Nat.le_refl _))
 obtain ⟨z2,hz2⟩:∃ z,n1+n2=z:=⟨_,rfl⟩
 rw [hz2] at KG hl hp
 obtain ⟨z3,hz3⟩:∃ z,z2+n3=z:=⟨_,rfl⟩
 rw [hz3] at KG hl hp
 have b1:n1≤10000000:=by omega
 have b2:z2≤10000000:=by omega
 have b3:n2≤10000000:=by omega
 have b4:n3≤10000000:=by omega
 have HZ2:=Lib.hid hz2
 have HZ3:=Lib.hid hz3
 clear h1 h2 h3 hn1 hn2 hn3 hz2 hz3
 go_enter Tryz.func19,Tryz.ntmps19
 go_wp2
 go_loop [3,11] (fun s i=>∃ k z:Nat,s = .int .i64 z∧i = .int .i64 k∧((k=0∧z=0)∨(k=1∧z=n1)∨(k=2∧z=z2)∨(k=3∧z=z3))) (fun _ i=>3-(RowKit.intOf i).toNat)
 case atStart=>exact ⟨0,0,rfl,rfl,.inl ⟨rfl,rfl⟩⟩
 case round =>
  obtain ⟨k,z,rfl,rfl,h⟩:=hrel
  have hzb:z≤10000000:=by rcases h with ⟨_,h⟩ | ⟨_,h⟩ | ⟨_,h⟩ | ⟨_,h⟩ <;> omega
  rcases h with ⟨rfl,h⟩ | ⟨rfl,h⟩ | ⟨rfl,h⟩ | ⟨rfl,rfl⟩
  ·have HH:=Lib.hid h
   clear h
   go_wp2
   go_round
   case rel=>exact ⟨1,z+n1,by go_num,by go_num,.inr (.inl ⟨rfl,by have:=HH.out;omega⟩)⟩
   case measure=>simp [RowKit.intOf]
  ·have HH:=Lib.hid h
   clear h
   go_wp2
   go_round
   case rel=>exact ⟨2,z+n2,by go_num,by go_num,.inr (.inr (.inl ⟨rfl,by have:=HH.out;have:=HZ2.out;omega⟩))⟩
   case measure=>simp [RowKit.intOf]
  ·have HH:=Lib.hid h
   clear h
   go_wp2
   go_round
   case rel=>exact ⟨3,z+n3,by go_num,by go_num,.inr (.inr (.inr ⟨rfl,by have:=HH.out;have:=HZ3.out;omega⟩))⟩
   case measure=>simp [RowKit.intOf]
  ·clear hzb
   go_wp2_with (go_at_call 50;refine KG.out.mono ?_;rintro e w1 ⟨v',rfl,ho,hb⟩;have HO1:=Lib.hid ho;have HB1:=Lib.hid hb;clear ho hb)
   go_loopw [6,27] (fun s i wr=>∃ (k:Nat) (X:List Nat),i = .int .i64 k∧Hid (wr.ownsRow w.heap.size 5 1 s X.length (X.flatMap byc))∧Hid (Below w.heap.size w wr)∧((k=0∧X=[])∨(k=1∧X=S)∨(k=2∧X=S ++ T)∨(k=3∧X=(S ++ T) ++ R))) (fun _ i _=>3-(RowKit.intOf i).toNat)
   case atStart=>exact ⟨0,[],rfl,HO1,HB1,.inl ⟨rfl,rfl⟩⟩
   case round =>
    clear HO1 HB1
    obtain ⟨k,X,rfl,HO,HB,h⟩:=hrel
    rename World=>wr
    have q0:=(HB.out.cell (p:=⟨V,0,none⟩) hV).trans c0
    have q1:=(HB.out.cell (p:=⟨V,1,none⟩) hV).trans c1
    have q2:=(HB.out.cell (p:=⟨V,2,none⟩) hV).trans c2
    rcases h with ⟨rfl,h⟩ | ⟨rfl,h⟩ | ⟨rfl,h⟩ | ⟨rfl,h⟩
    ·obtain ⟨v',w',hr,ho,hb⟩:=KA.out _ _ X S wr HO.out (H1.out.stay HB.out) (by have:=HL.out;rw [h];simp;omega) HB.out.size
     have HH:=Lib.hid h
     have HR:=Lib.hid hr
     have HO':=Lib.hid ho
     have HB':=Lib.hid (HB.out.trans hb)
     clear hr ho hb h
     go_wp2_with (at_builtin;refine Lib.wpList_append_run _ rfl _ _ _ _ rfl _ _ rfl rfl _ _ (HR.out _) ?_)
     go_roundw
     case rel=>exact ⟨1,X ++ S,by go_num,HO',HB',.inr (.inl ⟨rfl,by rw [HH.out];rfl⟩)⟩
     case measure=>simp [RowKit.intOf]
    ·obtain ⟨v',w',hr,ho,hb⟩:=KA.out _ _ X T wr HO.out (H2.out.stay HB.out) (by have:=HL.out;rw [h];simp;omega) HB.out.size
     have HH:=Lib.hid h
     have HR:=Lib.hid hr
     have HO':=Lib.hid ho
     have HB':=Lib.hid (HB.out.trans hb)
     clear hr ho hb h
     go_wp2_with (at_builtin;refine Lib.wpList_append_run _ rfl _ _ _ _ rfl _ _ rfl rfl _ _ (HR.out _) ?_)
     go_roundw
     case rel=>exact ⟨2,X ++ T,by go_num,HO',HB',.inr (.inr (.inl ⟨rfl,by rw [HH.out]⟩))⟩
     case measure=>simp [RowKit.intOf]
    ·obtain ⟨v',w',hr,ho,hb⟩:=KA.out _ _ X R wr HO.out (H3.out.stay HB.out) (by have:=HL.out;rw [h];simp;omega) HB.out.size
     have HH:=Lib.hid h
     have HR:=Lib.hid hr
     have HO':=Lib.hid ho
     have HB':=Lib.hid (HB.out.trans hb)
     clear hr ho hb h
     go_wp2_with (at_builtin;refine Lib.wpList_append_run _ rfl _ _ _ _ rfl _ _ rfl rfl _ _ (HR.out _) ?_)
     go_roundw
     case rel=>exact ⟨3,X ++ R,by go_num,HO',HB',.inr (.inr (.inr ⟨rfl,by rw [HH.out]⟩))⟩
     case measure=>simp [RowKit.intOf]
    ·subst h
     go_wp2
     go_ret
     exact ⟨_,rfl,HO.out,HB.out⟩
end Go.Proofs.YtmpefjnfelfnfaaGreatDoor

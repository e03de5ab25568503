/- The walk of law CodecDecodes. -/
import Derived.Test.YtmpefjnfelfnfaaGreatDoorCjx
import Derived.Test.YtmpefjnfelfnfaaGreatDoorCjy
import Derived.ArgAppend
set_option maxRecDepth 100000
set_option maxHeartbeats 4000000
namespace Go.Proofs.YtmpefjnfelfnfaaGreatDoor
open Go.RowKit
set_option linter.unusedVariables false
set_option linter.unusedSimpArgs false
theorem append_lit8 (w:World) (cs:List Nat) (y:Value) (hR:Recs byc 1 w y cs) (hn:cs.length≤1000) :
 ∃ r c w',(∀ ty,(Builtin.append_ #[25,25] ty #[.slice (some ⟨w.heap.size,0,none⟩) 4 4,y]).run Tryz.prog (w.alloc (.cells #[.int .u8 84,.int .u8 82,.int .u8 80,.int .u8 49] 5 (4,5))) = .ok (.slice r (4+cs.length) c) w')∧Recs byc 1 w' (.slice r (4+cs.length) c) ([84,82,80,49] ++ cs)∧Below w.heap.size w w':=by
 obtain ⟨i0,hi,hz0,hz1,hz2⟩:=info_of8
 have hu:=Tryz.underlying25
 have hb1:=(Below.refl w.heap.size w).alloc (Nat.le_refl _) (.cells #[.int .u8 84,.int .u8 82,.int .u8 80,.int .u8 49] 5 (4,5))
 have hs1:(w.alloc (.cells #[.int .u8 84,.int .u8 82,.int .u8 80,.int .u8 49] 5 (4,5))).heap.size=w.heap.size+1:=by simp
 have hcell:∀ j u,(([84,82,80,49]:List Nat).flatMap byc)[j]?=some u→(w.alloc (.cells #[.int .u8 84,.int .u8 82,.int .u8 80,.int .u8 49] 5 (4,5))).cell? ((⟨w.heap.size,0,none⟩:Addr).add j)=some u:=fun j u hj=>by
  have e0:(⟨w.heap.size,0,none⟩:Addr).add j=⟨w.heap.size,j,none⟩:=by unfold Addr.add;split <;> simp_all
  have h2:=heap_alloc_new w (.cells #[.int .u8 84,.int .u8 82,.int .u8 80,.int .u8 49] 5 (4,5))
  rw [e0]
  unfold World.cell?
  simp only [h2]
  simpa [byc] using hj
 have hL:Recs byc 1 (w.alloc (.cells #[.int .u8 84,.int .u8 82,.int .u8 80,.int .u8 49] 5 (4,5))) (.slice (some ⟨w.heap.size,0,none⟩) 4 4) [84,82,80,49]:=by
  refine .inr ⟨w.heap.size,0,4,rfl,by simp,by decide,Nat.le_refl _,fun i x hx j u hu=>?_⟩
  have:=hcell _ _ (flat_get byc_len hx hu)
  rw [Nat.zero_add]
  have e0:(⟨w.heap.size,0,none⟩:Addr).add (i * 1+j)=⟨w.heap.size,i * 1+j,none⟩:=by unfold Addr.add;split <;> simp_all
  rw [e0] at this
  exact this
 by_cases h0:cs=[]
 ·subst h0
  obtain ⟨r,cap,rfl,_⟩:=hR.form
  have hs:Src Tryz.prog i0.size 25 (.slice r 0 cap) 0 [] (w.alloc (.cells #[.int .u8 84,.int .u8 82,.int .u8 80,.int .u8 49] 5 (4,5))):=by
   refine ⟨.inl ⟨_,hu⟩,fun w'=>?_,?_,?_,by simp,by simp⟩
   ·simp [Builtin.lenOf]
   ·cases r <;> simp [Builtin.firstCells,loadCells,loadCellsFrom]
   ·cases r <;> simp [Builtin.firstCells,loadCells,loadCellsFrom]
  exact ⟨_,_,_,fun ty=>run_append_nothing _ _ _ ty _ i0 hu hi (some ⟨w.heap.size,0,none⟩) 4 4 (by omega) _ hs,hL,hb1⟩
 ·have hpos:0<cs.length:=List.length_pos_iff.2 h0
  have hR1:=hR.stay hb1
  obtain ⟨r,cap,rfl,_⟩:=hR.form
  obtain ⟨g,off,rfl,_,_⟩:=hR1.at (List.getElem?_eq_getElem hpos)
  have hcells:∀ j u,(cs.flatMap byc)[j]?=some u→(w.alloc (.cells #[.int .u8 84,.int .u8 82,.int .u8 80,.int .u8 49] 5 (4,5))).cell? ((⟨g,off,none⟩:Addr).add j)=some u:=fun j u hj=>by
   have e1:(⟨g,off,none⟩:Addr).add j=⟨g,off+j,none⟩:=by unfold Addr.add;split <;> simp_all
   rw [e1]
   exact recs_flat byc_len (by omega) hR1 j u hj
  have hrun:∃ v' w',(∀ ty,(Builtin.append_ #[25,25] ty #[.slice (some ⟨w.heap.size,0,none⟩) 4 4,.slice (some ⟨g,off,none⟩) cs.length cap]).run Tryz.prog (w.alloc (.cells #[.int .u8 84,.int .u8 82,.int .u8 80,.int .u8 49] 5 (4,5))) = .ok v' w')∧w'.ownsRow (w.alloc (.cells #[.int .u8 84,.int .u8 82,.int .u8 80,.int .u8 49] 5 (4,5))).heap.size 5 1 v' (4+cs.length) (([84,82,80,49]:List Nat).flatMap byc ++ cs.flatMap byc)∧(w.alloc (.cells #[.int .u8 84,.int .u8 82,.int .u8 80,.int .u8 49] 5 (4,5))).grownBy w' none:=by
   obtain ⟨v',w',h1,h2,h3⟩:=run_append_arg_grows (P:=Tryz.prog) (w.alloc (.cells #[.int .u8 84,.int .u8 82,.int .u8 80,.int .u8 49] 5 (4,5))) 25 0 5 i0 (.int .u8 0) 1 1 hu hi hz0 hz1 hz2 rfl (by decide) ⟨w.heap.size,0,none⟩ 4 4 (([84,82,80,49]:List Nat).flatMap byc) (by rw [flat_len byc_len];rfl) hcell ⟨g,off,none⟩ cs.length cap (cs.flatMap byc) (flat_len byc_len cs) hcells (by omega) (by unfold maxLen;omega) (by omega)
   exact ⟨v',w',fun ty=>h1,h2,h3⟩
  obtain ⟨v',w',h1,h2,h3⟩:=hrun
  have e4:([84,82,80,49] ++ cs:List Nat).length=4+cs.length:=by simp;omega
  have h4:Recs byc 1 w' v' ([84,82,80,49] ++ cs):=recs_of_owns8 (base:=(w.alloc (.cells #[.int .u8 84,.int .u8 82,.int .u8 80,.int .u8 49] 5 (4,5))).heap.size) (by rw [e4,List.flatMap_append];exact h2) (by omega)
  obtain ⟨r1,c1,rfl,_⟩:=h4.form
  rw [e4] at h1 h4
  exact ⟨r1,c1,w',h1,h4,hb1.grown h3 (by omega) (fun j hj=>by cases hj)⟩
theorem codecdecodes_any {I:World→Prop} (C:AllotC) (D:DayC I) (K:KeyC I) (U:UnitC) (LC:CalC I) (EC:EntryC I) (B:BookC I) (CO:CodecC I) (DE:DecC I) (LD:LDecC I) (vb:Value) (l:List Nat) (head:Bool) (w:World) (hI:I w) (hb:∀ c ∈ l,c<256) (hR:Recs byc 1 w vb l) :
 Calls Tryz.prog 4 #[vb,.bool head] w fun e w'=>e = .returned (.bool true)∧Below w.heap.size w w':=by
 obtain ⟨rr,cap,rfl,_⟩:=hR.form
 have KA:=Lib.hid (awake11_any C D K U LC EC B CO w hI)
 have KI:=Lib.hid (fun (w':World) (v:Value) (k:List Nat) (h:Below w.heap.size w w') (hr:Recs byc 1 w' v k) (hk:∀ c ∈ k,c<256)=>is_c D B CO DE LD v k w' (D.stay hI h) hr hk)
 have HBY:=Lib.hid hb
 have HR:=Lib.hid hR
 obtain ⟨L,hL⟩:∃ n,l.length=n:=⟨_,rfl⟩
 rw [hL] at HR ⊢
 have HL:=Lib.hid hL
 clear C D K U LC EC B CO DE LD hI hb hR hL
 by_cases h4:400<L
 ·have t1:decide ((400:Int)<(L:Int))=true:=decide_eq_true (by omega)
  go_enter Tryz.func4,Tryz.ntmps4
  go_wp2_with (go_at_call 9;refine KA.out.mono ?_;rintro e w4 ⟨rfl,h4⟩;have HB4:=Lib.hid h4;clear h4)
  go_ret
  exact ⟨rfl,HB4.out⟩
 have t1:decide ((400:Int)<(L:Int))=false:=decide_eq_false (by omega)
 cases head with
 | false =>
  go_enter Tryz.func4,Tryz.ntmps4
  go_wp2_with (first
   | (go_at_call 17;refine (KI.out _ _ _ HB4.out (HR.out.stay HB4.out) HBY.out).mono ?_;rintro e w5 ⟨rfl,h5⟩;have HB5:=Lib.hid (HB4.out.trans (h5.mono HB4.out.size));clear h5)
   | (go_at_call 9;refine KA.out.mono ?_;rintro e w4 ⟨rfl,h4⟩;have HB4:=Lib.hid h4;clear h4))
  go_ret
  exact ⟨rfl,HB5.out⟩
 | true =>
  go_enter Tryz.func4,Tryz.ntmps4
  go_upto_region 6 with (go_at_call 9;refine KA.out.mono ?_;rintro e w4 ⟨rfl,h4⟩;have HB4:=Lib.hid h4;clear h4)
  have hcv:=Joins.run_convert_bytes_const_at (P:=Tryz.prog) w4 25 5 #[.int .u8 84,.int .u8 82,.int .u8 80,.int .u8 49] 4 4 w4.heap.size rfl rfl rfl
  obtain ⟨r5,c5,w5,hrun,hr5,hb5⟩:=append_lit8 w4 l _ (HR.out.stay HB4.out) (by have:=HL.out;omega)
  rw [HL.out] at hrun hr5
  have HRUN:=Lib.hid hrun
  have HR5:=Lib.hid hr5
  have HB5:=Lib.hid (HB4.out.trans (hb5.mono HB4.out.size))
  have HBY5:Hid (∀ c ∈ [84,82,80,49] ++ l,c<256):=Lib.hid (fun c hc=>by
   rcases List.mem_append.1 hc with hc | hc
   ·simp at hc;omega
   ·exact HBY.out c hc)
  clear hrun hr5 hb5
  go_wp2_with (first
   | (at_builtin;refine wpList_append_runU rfl _ _ _ _ rfl _ _ _ _ rfl rfl HRUN.out ?_)
   | (go_at_call 17;refine (KI.out _ _ _ HB5.out HR5.out HBY5.out).mono ?_;rintro e w6 ⟨rfl,h6⟩;have HB6:=Lib.hid (HB5.out.trans (h6.mono HB5.out.size));clear h6))
  go_ret
  exact ⟨rfl,HB6.out⟩
end Go.Proofs.YtmpefjnfelfnfaaGreatDoor

/- Contract of package chart's taken: parts of charts, one behind the other, in room of their own. -/
import Derived.Test.YtmpefjnfelfnfaaGreatDoorLawa
import Derived.Test.YtmpefjnfelfnfaaGreatDoorNall
import Derived.Test.YtmpefjnfelfnfaaGreatDoorCall
import Derived.StillTailTactics
import Derived.Deep.RegionWith
set_option maxRecDepth 100000
set_option maxHeartbeats 4000000
namespace Go.Proofs.YtmpefjnfelfnfaaGreatDoor
open Go.RowKit
set_option linter.unusedVariables false
set_option linter.unusedSimpArgs false
abbrev Part:=Value × List Ac
def vc (p:Part):List Value:=[p.1]
theorem vc_len (p:Part):(vc p).length=1:=rfl
def flatP (ps:List Part) (k:Nat):List Ac:=(ps.take k).flatMap (·.2)
theorem flatP_step {ps:List Part} {k:Nat} {p:Part} (h:ps[k]?=some p):flatP ps (k+1)=flatP ps k ++ p.2:=by
 obtain ⟨hk,e⟩:=List.getElem?_eq_some_iff.1 h
 unfold flatP
 rw [List.take_succ_eq_append_getElem hk,List.flatMap_append,e];simp
theorem flatP_all (ps:List Part):flatP ps ps.length=ps.flatMap (·.2):=by unfold flatP;rw [List.take_length]
theorem flatP_le {ps:List Part} {i j:Nat} (h:i≤j):(flatP ps i).length≤(flatP ps j).length:=by
 unfold flatP
 have e:(ps.take j)=ps.take i ++ (ps.take j).drop i:=by
  have:=(List.take_append_drop i (ps.take j)).symm
  rwa [List.take_take,Nat.min_eq_left h] at this
 rw [e,List.flatMap_append,List.length_append];omega
theorem slice_fromC (g n i:Nat) (hi:i≤n):∃ X,(∀ w,(Instr.slice 31 (.slice (some ⟨g,0,none⟩) n n) (some (.int .i64 (i:Int))) none none).run Tryz.prog w = .ok (.slice X (n-i) (n-i)) w)∧(i<n→X=some ⟨g,i * 4,none⟩):=by
 have hu:Tryz.prog.underlying 31=some (.slice (Tryz.prog.elem 31)):=by kernel_rfl
 have hs:∀ w,(sizeOf (Tryz.prog.elem 31)).run Tryz.prog w = .ok 4 w:=fun w=>by kernel_rfl
 by_cases h:i=n
 ·refine ⟨some ⟨g,0,none⟩,fun w=>?_,fun h'=>by omega⟩
  rw [run_slice_l w 31 (some ⟨g,0,none⟩) n n hu .i64 (i:Int) (by omega) (by omega),hs w]
  simp only [Result.andThen_ok,sliced,Int.toNat_natCast]
  subst h
  simp
 ·refine ⟨some ⟨g,i * 4,none⟩,fun w=>?_,fun _=>rfl⟩
  rw [run_slice_l w 31 (some ⟨g,0,none⟩) n n hu .i64 (i:Int) (by omega) (by omega),hs w]
  simp only [Result.andThen_ok,sliced,Int.toNat_natCast]
  rw [if_neg (by omega)]
  simp [Addr.add]
  omega
theorem splice_take {L cs:List Value} {o:Nat} (h:o+cs.length≤L.length):(splice L o cs).take (o+cs.length)=L.take o ++ cs:=by
 unfold splice
 have h1:(L.take o).length=o:=by rw [List.length_take];omega
 rw [← List.append_assoc,List.take_append_of_le_length (by rw [List.length_append,h1];omega)]
 exact List.take_of_length_le (by rw [List.length_append,h1];omega)
theorem taken_c (v:Value) (ps:List Part) (w:World) (hR:Recs vc 1 w v ps) (hall:∀ p ∈ ps,Recs cc 4 w p.1 p.2) (hl:(ps.flatMap (·.2)).length≤1000) (h3:ps.length≤3) :
 Calls Tryz.prog 85 #[v] w fun e w'=>∃ v',e = .returned v'∧w'.ownsRow w.heap.size 76 4 v' (ps.flatMap (·.2)).length ((ps.flatMap (·.2)).flatMap cc)∧Below w.heap.size w w':=by
 obtain ⟨i0,hi,hz0,hz1,hz2⟩:=info_parts info35
 obtain ⟨r0,cap0,rfl,_⟩:=hR.form
 have HR:=Lib.hid hR
 have HA:=Lib.hid hall
 obtain ⟨M,hM⟩:∃ M,ps.length=M:=⟨_,rfl⟩
 have HM:=Lib.hid hM
 obtain ⟨N,hN⟩:∃ N,(ps.flatMap (·.2)).length=N:=⟨_,rfl⟩
 have HN:=Lib.hid (show (flatP ps M).length=N by rw [← hM,flatP_all];exact hN)
 have HF:=Lib.hid (show flatP ps M=ps.flatMap (·.2) by rw [← hM,flatP_all])
 have hN1:N≤1000:=by omega
 rw [hM] at HR h3 ⊢
 rw [hN]
 clear hR hall hl hM hN
 generalize ps.flatMap (·.2)=all at *
 go_enter Tryz.func85,Tryz.ntmps85
 go_wp2
 go_loop [3,12] (fun s i=>∃ k:Nat,k≤M∧i = .int .i64 k∧s = .int .i64 ((flatP ps k).length:Nat)) (fun _ i=>M-(intOf i).toNat)
 case atStart=>exact ⟨0,Nat.zero_le _,rfl,rfl⟩
 case round =>
  obtain ⟨k,hk,rfl,rfl⟩:=hrel
  by_cases hlt:k<M
  ·obtain ⟨p,hp⟩:∃ p,ps[k]?=some p:=⟨ps[k]'(by have:=HM.out;omega),List.getElem?_eq_getElem (by have:=HM.out;omega)⟩
   have HS:=Lib.hid (congrArg List.length (flatP_step hp))
   have hle:(flatP ps (k+1)).length≤N:=by have:=flatP_le (ps:=ps) (show k+1≤M by omega);rw [HN.out] at this;exact this
   obtain ⟨g,off,rfl,hg,hc⟩:=HR.out.at hp
   obtain ⟨pr,pc',hpv,_⟩:=(HA.out p (List.mem_of_getElem? hp)).form
   have c0:=hc 0 _ rfl
   simp only [Nat.mul_one,Nat.add_zero] at c0
   rw [hpv] at c0
   rw [HS.out] at hle
   rw [List.length_append] at hle
   have HS2:Hid ((flatP ps (k+1)).length=(flatP ps k).length+p.2.length):=Lib.hid (by rw [HS.out,List.length_append])
   generalize (flatP ps k).length=s at *
   clear hp hc hpv HS
   generalize p.2.length=m at *
   go_wp2
   go_round
   case rel=>exact ⟨k+1,by omega,by go_num,by rw [HS2.out];go_num⟩
   case measure=>simp [intOf];omega
  ·obtain rfl:k=M:=by omega
   rw [HN.out]
   go_wp2_with (refine wpList_make_full _ rfl (.tmp 21) (.tmp 21) 31 rfl w.heap.size 76 i0 (.agg #[.int .u32 0,.string ⟨#[]⟩,.int .u8 0,.int .u32 0]) 4 Tryz.underlying31 hi hz0 hz1 .i64 .i64 _ _ N rfl rfl rfl rfl (by rw [hz2];omega) (by unfold maxLen;omega) (Nat.le_refl _) ?_;intro w1 hown1 hgrow1)
   have hB1:=(Below.refl w.heap.size w).grown hgrow1 (Nat.le_refl _) (fun j hj=>by cases hj)
   obtain ⟨cur0,HG0,hl0⟩:∃ cur:List Value,Hid (w1.heap[w.heap.size]?=some (.cells cur.toArray 76 (0,0)))∧cur.length=N * 4:=by
    rcases hown1.2 with ⟨h0,_⟩ | ⟨g',cap',cur,e,_,hg',_,_,hs',_⟩
    ·cases h0
    ·cases e
     exact ⟨cur.toList,Lib.hid (by simpa using hg'),by simpa using hs'⟩
   have HB1:=Lib.hid hB1
   have HL0:=Lib.hid hl0
   clear hown1 hgrow1 hB1 hl0
   obtain ⟨G,hG⟩:∃ G,w.heap.size=G:=⟨_,rfl⟩
   have HGE:=Lib.hid hG
   rw [hG] at HG0 ⊢
   have hsz:(Tryz.prog.info? 76).map (·.size)=some 4:=by rw [hi];simp [hz1]
   clear hG
   go_loopw [7,25] (fun s i wr=>∃ (j:Nat) (cur:List Value),j≤k∧i = .int .i64 j∧s = .int .i64 ((flatP ps j).length:Nat)∧Hid (wr.heap[G]?=some (.cells cur.toArray 76 (0,0)))∧Hid (cur.length=N * 4∧cur.take ((flatP ps j).length * 4)=(flatP ps j).flatMap cc)∧Below w.heap.size w wr) (fun _ i _=>k-(intOf i).toNat)
   case atStart=>exact ⟨0,cur0,Nat.zero_le _,rfl,rfl,HG0,Lib.hid ⟨HL0.out,rfl⟩,HB1.out⟩
   case round =>
    obtain ⟨j,cur,hj,rfl,rfl,HG,HC,hb⟩:=hrel
    rename World=>wr
    by_cases hlt:j<k
    ·obtain ⟨p,hp⟩:∃ p,ps[j]?=some p:=⟨ps[j]'(by have:=HM.out;omega),List.getElem?_eq_getElem (by have:=HM.out;omega)⟩
     have hst:=flatP_step hp
     have hle:(flatP ps (j+1)).length≤N:=by have:=flatP_le (ps:=ps) (show j+1≤k by omega);rw [HN.out] at this;exact this
     rw [hst,List.length_append] at hle
     obtain ⟨g,off,rfl,hg,hc⟩:=(HR.out.stay hb).at hp
     have hpr:=(HA.out p (List.mem_of_getElem? hp)).stay hb
     obtain ⟨pr,pc',hpv,_⟩:=hpr.form
     have c0:=hc 0 _ rfl
     simp only [Nat.mul_one,Nat.add_zero] at c0
     rw [hpv] at c0 hpr
     have HST:=Lib.hid hst
     have hfl:=flat_len cc_len p.2
     obtain ⟨X,hX,hX1⟩:=slice_fromC G N (flatP ps j).length (by omega)
     have hsrc:∀ (_:0<p.2.length),∃ ad,pr=some ad ∧ ∀ i u,(p.2.flatMap cc)[i]?=some u→wr.cell? (ad.add i)=some u:=fun h0=>by
      obtain ⟨g1,o1,rfl,_,_⟩:=hpr.at (List.getElem?_eq_getElem h0)
      refine ⟨_,rfl,fun i u hu=>?_⟩
      have e1:(⟨g1,o1,none⟩:Addr).add i=⟨g1,o1+i,none⟩:=by unfold Addr.add;split <;> simp_all
      rw [e1]
      exact recs_flat cc_len (by omega) hpr i u hu
     have HP:=Lib.hid (fun (h0:0<p.2.length)=>And.intro (hX1 (by omega)) (hsrc h0))
     have HFL:=Lib.hid hfl
     have HB:=Lib.hid hb
     have h1c:=Lib.hid (flat_one cc_one p.2)
     have hcl:=HC.out.1
     have HCT:=Lib.hid HC.out
     have HG1:=HG
     clear hp hst hc hpv hpr hfl hX1 hsrc hb
     have HSL:Hid (∀ L:List Ac,L=flatP ps j ++ p.2→L.length=(flatP ps j).length+p.2.length∧L.flatMap cc=(flatP ps j).flatMap cc ++ p.2.flatMap cc):=Lib.hid (fun L h=>by rw [h];simp)
     generalize flatP ps j=fj at *
     generalize p.2.flatMap cc=pf at *
     have HS1:=Lib.hid (HSL.out _ HST.out)
     generalize p.2.length=m at *
     generalize hs:fj.length=s at *
     have HSS:=Lib.hid hs
     clear hs HSL HST
     go_wp2_with (refine wpList_copy_rows rfl (.tmp 32) (.tmp 33) 31 31 rfl 4 76 Tryz.underlying31 hsz X pr (N-s) (N-s) m pc' rfl rfl G (s * 4) cur 76 HG1.out pf m (Nat.min_eq_left (by omega)).symm HFL.out HP.out (by rw [HFL.out];omega) h1c.out w.heap.size w HB.out (by rw [HGE.out];exact Nat.le_refl _) ?_;intro w' HG2 hB2 _;have HB2:=Lib.hid hB2;clear hB2)
     go_roundw
     case rel =>
      refine ⟨j+1,splice cur (s * 4) pf,by omega,by go_num,by rw [HS1.out.1];go_num,HG2,Lib.hid ⟨?_,?_⟩,HB2.out⟩
      ·rw [length_splice _ _ _ (by rw [HFL.out];omega)];exact HCT.out.1
      ·rw [HS1.out.1,HS1.out.2,← HCT.out.2]
       have:=splice_take (L:=cur) (cs:=pf) (o:=s * 4) (by rw [HFL.out];omega)
       rw [HFL.out] at this
       rw [show (s+m) * 4=s * 4+m * 4 by omega]
       exact this
     case measure=>simp [intOf];omega
    ·obtain rfl:j=k:=by omega
     have HB:=Lib.hid hb
     clear hb
     go_wp2
     go_ret
     refine ⟨_,rfl,?_,HB.out⟩
     have h1:=HC.out
     rw [HN.out,HF.out,List.take_of_length_le (by omega)] at h1
     refine ⟨by rw [← h1.2,h1.1],.inr ⟨G,N,cur.toArray,rfl,by rw [HGE.out];exact Nat.le_refl _,HG.out,Nat.le_refl _,by unfold maxLen;omega,by simpa using h1.1,?_⟩⟩
     rw [← h1.2]
     exact List.take_of_length_le (by have:=h1.1;simp;omega)
theorem owns_monoC {w:World} {base base':Nat} {e:TypeId} {size:Nat} {v:Value} {n:Nat} {xs:List Value} (h:w.ownsRow base e size v n xs) (hb:base'≤base):w.ownsRow base' e size v n xs:=by
 refine ⟨h.1,?_⟩
 rcases h.2 with h0 | ⟨g,cap,cur,h1,h2,h3⟩
 ·exact .inl h0
 ·exact .inr ⟨g,cap,cur,h1,Nat.le_trans hb h2,h3⟩
theorem part_from (r:Option Addr) (n cap i:Nat) (w:World) (c:List Ac) (hR:Recs cc 4 w (.slice r n cap) c) (hn:n=c.length) (hl:n≤1000) (hc:n≤cap) (hi:i≤n) :
 ∃ X,(∀ w,(Instr.slice 31 (.slice r n cap) (some (.int .i64 (i:Int))) none none).run Tryz.prog w = .ok (.slice X (n-i) (cap-i)) w)∧Recs cc 4 w (.slice X (n-i) (cap-i)) (c.drop i):=by
 have hu:Tryz.prog.underlying 31=some (.slice (Tryz.prog.elem 31)):=by kernel_rfl
 have hs:∀ w,(sizeOf (Tryz.prog.elem 31)).run Tryz.prog w = .ok 4 w:=fun w=>by kernel_rfl
 refine ⟨if cap=i then r else r.map (·.add (i * 4)),fun w=>?_,?_⟩
 ·rw [run_slice_l w 31 r n cap hu .i64 (i:Int) (by omega) (by omega),hs w]
  simp only [Result.andThen_ok,sliced,Int.toNat_natCast]
 ·by_cases h:i<n
  ·obtain ⟨x,hx⟩:∃ x,c[0]?=some x:=⟨c[0]'(by omega),List.getElem?_eq_getElem (by omega)⟩
   obtain ⟨g,off,rfl,hg,_⟩:=hR.at hx
   rw [if_neg (by omega)]
   have:=hR.drop hg hn hc hl i hi
   have e:(⟨g,off,none⟩:Addr).add (i * 4)=⟨g,off+i * 4,none⟩:=by unfold Addr.add;split <;> simp_all
   rw [Option.map_some,e]
   exact this
  ·obtain rfl:i=n:=by omega
   refine .inl ⟨_,cap-i,by rw [Nat.sub_self],List.drop_eq_nil_of_le (by omega)⟩
theorem part_to (r:Option Addr) (n cap i:Nat) (w:World) (c:List Ac) (hR:Recs cc 4 w (.slice r n cap) c) (hn:n=c.length) (hl:n≤1000) (hc:n≤cap) (hi:i≤n) :
 ∃ X,(∀ w,(Instr.slice 31 (.slice r n cap) none (some (.int .i64 (i:Int))) none).run Tryz.prog w = .ok (.slice X i cap) w)∧Recs cc 4 w (.slice X i cap) (c.take i):=by
 have hu:Tryz.prog.underlying 31=some (.slice (Tryz.prog.elem 31)):=by kernel_rfl
 have hs:∀ w,(sizeOf (Tryz.prog.elem 31)).run Tryz.prog w = .ok 4 w:=fun w=>by kernel_rfl
 refine ⟨if cap=0 then r else r.map (·.add (0 * 4)),fun w=>?_,?_⟩
 ·rw [run_slice_h w 31 r n cap hu .i64 (i:Int) (by omega) (by omega),hs w]
  simp only [Result.andThen_ok,sliced,Int.toNat_natCast]
  simp
 ·by_cases h:0<i
  ·obtain ⟨x,hx⟩:∃ x,c[0]?=some x:=⟨c[0]'(by omega),List.getElem?_eq_getElem (by omega)⟩
   obtain ⟨g,off,rfl,hg,_⟩:=hR.at hx
   rw [if_neg (by omega)]
   have:=hR.take hg hn hc hl i hi
   have e:(⟨g,off,none⟩:Addr).add (0 * 4)=⟨g,off,none⟩:=by unfold Addr.add;split <;> simp_all
   rw [Option.map_some,e]
   exact this
  ·obtain rfl:i=0:=by omega
   exact .inl ⟨_,cap,rfl,rfl⟩
theorem taken_lit (ps:List Part) (cs:Array Value) (n N:Nat) (all:List Ac) (w:World) (hall:∀ p ∈ ps,Recs cc 4 w p.1 p.2) (hn:n=ps.length) (h3:n≤3) (hcs:cs.toList=ps.flatMap vc) (hf:ps.flatMap (·.2)=all) (hN:all.length=N) (hl:N≤1000) :
 Calls Tryz.prog 85 #[.slice (some ⟨w.heap.size,0,none⟩) n n] (w.alloc (.cells cs 31)) fun e w'=>∃ v',e = .returned v'∧w'.ownsRow w.heap.size 76 4 v' N (all.flatMap cc)∧Below w.heap.size w w':=by
 have hb:=(Below.refl w.heap.size w).alloc (Nat.le_refl _) (.cells cs 31)
 have hR:=recs_lit vc_len ps cs 31 n hn (by omega) hcs w
 refine (taken_c _ ps _ hR (fun p hp=>(hall p hp).stay hb) (by rw [hf,hN];exact hl) (by omega)).mono ?_
 rintro e w' ⟨v',he,ho,hb2⟩
 rw [hf,hN] at ho
 exact ⟨v',he,owns_monoC ho hb.size,hb.trans (hb2.mono hb.size)⟩
theorem without_c (r:Option Addr) (L cap:Nat) (c:List Ac) (n:Nat) (w:World) (hR:Recs cc 4 w (.slice r L cap) c) (hcap:L≤cap) (hr:RiseA c) (hl:L≤1000) (hL:L=c.length) :
 Calls Tryz.prog 49 #[.slice r L cap,.int .u32 (n:Int)] w fun e w'=>∃ v',e = .returned v'∧w'.ownsRow w.heap.size 76 4 v' (outA c n).length ((outA c n).flatMap cc)∧Below w.heap.size w w':=by
 have hlo:(outA c n).length≤1000:=Nat.le_trans (List.length_filter_le _ _) (by omega)
 cases hg:getA c n with
 | none =>
  have K:=find_c _ c n w hR hr (by omega)
  rw [hg] at K
  have HK:Hid (Calls Tryz.prog 84 #[.slice r L cap,.int .u32 (n:Int)] w fun e w'=>e = .returned (.tuple #[.int .i64 (belowA c n:Nat),.bool false])∧Below w.heap.size w w'):=Lib.hid K
  have HT:=Lib.hid (fun (w':World) (h:Below w.heap.size w w')=>taken_lit [(.slice r L cap,c)] #[.slice r L cap] 1 (outA c n).length (outA c n) w' (fun p hp=>by simp at hp;subst hp;exact hR.stay h) rfl (by omega) rfl (by rw [out_none hg];simp) rfl hlo)
  have HL:=Lib.hid hL
  clear K hR hr hg hL
  generalize belowA c n=B at *
  generalize (outA c n).length=N at *
  generalize (outA c n).flatMap cc=Z at *
  go_enter Tryz.func49,Tryz.ntmps49
  go_wp2_with (first
   | (go_at_call 84;refine HK.out.mono ?_;rintro e w1 ⟨rfl,hb1⟩;have HB1:=Lib.hid hb1;clear hb1)
   | (go_at_call 85;refine (HT.out _ HB1.out).mono ?_;rintro e w2 ⟨v2,rfl,ho2,hb2⟩;have HO2:=Lib.hid (owns_monoC ho2 HB1.out.size);have HB2:=Lib.hid (HB1.out.trans (hb2.mono HB1.out.size));clear ho2 hb2))
  go_ret
  exact ⟨_,rfl,HO2.out,HB2.out⟩
 | some a =>
  have K:=find_c _ c n w hR hr (by omega)
  rw [hg] at K
  have HK:Hid (Calls Tryz.prog 84 #[.slice r L cap,.int .u32 (n:Int)] w fun e w'=>e = .returned (.tuple #[.int .i64 (belowA c n:Nat),.bool true])∧Below w.heap.size w w'):=Lib.hid K
  obtain ⟨hat,hout⟩:=out_parts hr hg
  have hlt:=(List.getElem?_eq_some_iff.1 hat).1
  have hBL:belowA c n<L:=by omega
  obtain ⟨B',hB'⟩:∃ B',belowA c n+1=B':=⟨_,rfl⟩
  have hw:IntKind.i64.wrap ((belowA c n:Nat)+1)=(B':Int):=by rw [IntKind.wrap_i64];omega
  rw [hB'] at hout
  obtain ⟨X,hX,hRX⟩:=part_to r L cap (belowA c n) w c hR hL hl hcap (by omega)
  obtain ⟨Y,hY,hRY⟩:=part_from r L cap B' w c hR hL hl hcap (by omega)
  have HT:=Lib.hid (fun (w':World) (h:Below w.heap.size w w')=>taken_lit [(.slice X (belowA c n) cap,c.take (belowA c n)),(.slice Y (L-B') (cap-B'),c.drop B')] #[.slice X (belowA c n) cap,.slice Y (L-B') (cap-B')] 2 (outA c n).length (outA c n) w' (fun p hp=>by
   simp at hp
   rcases hp with rfl | rfl
   ·exact hRX.stay h
   ·exact hRY.stay h) rfl (by omega) rfl (by rw [hout];simp) rfl hlo)
  have HL:=Lib.hid hL
  clear K hR hr hg hat hout hlt hRX hRY hL hB'
  generalize belowA c n=B at *
  generalize (outA c n).length=N at *
  generalize (outA c n).flatMap cc=Z at *
  go_enter Tryz.func49,Tryz.ntmps49
  go_wp2_with (go_at_call 84;refine HK.out.mono ?_;rintro e w1 ⟨rfl,hb1⟩;have HB1:=Lib.hid hb1;clear hb1)
  go_still_tail 7,(by kernel_rfl)
  change wpList _ _ _ _ _ w1.drew
  have HB2:=Lib.hid HB1.out.drew
  generalize w1.drew=w2 at *
  go_wp2_with (go_at_call 85;refine (HT.out _ HB2.out).mono ?_;rintro e w3 ⟨v3,rfl,ho3,hb3⟩;have HO3:=Lib.hid (owns_monoC ho3 HB2.out.size);have HB3:=Lib.hid (HB2.out.trans (hb3.mono HB2.out.size));clear ho3 hb3)
  go_ret
  exact ⟨_,rfl,HO3.out,HB3.out⟩
end Go.Proofs.YtmpefjnfelfnfaaGreatDoor

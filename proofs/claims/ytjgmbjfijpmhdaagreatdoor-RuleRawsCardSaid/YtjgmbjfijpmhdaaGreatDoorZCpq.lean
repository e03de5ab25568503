/- Contract of package chart's taken: parts of charts, one behind the other, in room of their own. -/
import Derived.Test.YtjgmbjfijpmhdaaGreatDoorZCkl
import Derived.Test.YtjgmbjfijpmhdaaGreatDoorZNall
import Derived.Test.YtjgmbjfijpmhdaaGreatDoorZCall
import Derived.StillTailTactics
import Derived.Deep.RegionWith
set_option maxRecDepth 100000
set_option maxHeartbeats 4000000
namespace Go.Proofs.YtjgmbjfijpmhdaaGreatDoor
open Go.RowKit
set_option linter.unusedVariables false
set_option linter.unusedSimpArgs false
abbrev Part:=Value × List Ac
def vc (p:Part):List Value:=[p.1]
theorem vc_len (p:Part):(vc p).length=1:=rfl
def flatP (ps:List Part) (k:Nat):List Ac:=(ps.take k).flatMap (·.2)
theorem flatP_step {ps:List Part} {k:Nat} {p:Part} (h:ps[k]?=some p):flatP ps (k+1)=flatP ps k ++ p.2:=by
 obtain ⟨hk,e⟩:=List.getElem?_eq_some_iff.1 h
 unfold flatP
 rw [List.take_succ_eq_append_getElem hk,List.flatMap_append,e];simp
theorem flatP_all (ps:List Part):flatP ps ps.length=ps.flatMap (·.2):=by unfold flatP;rw [List.take_length]
theorem flatP_le {ps:List Part} {i j:Nat} (h:i≤j):(flatP ps i).length≤(flatP ps j).length:=by
 unfold flatP
 have e:(ps.take j)=ps.take i ++ (ps.take j).drop i:=by
  have:=(List.take_append_drop i (ps.take j)).symm
  rwa [List.take_take,Nat.min_eq_left h] at this
 rw [e,List.flatMap_append,List.length_append];omega
theorem slice_fromC (g n i:Nat) (hi:i≤n):∃ X,(∀ w,(Instr.slice 34 (.slice (some ⟨g,0,none⟩) n n) (some (.int .i64 (i:Int))) none none).run Tryz.prog w = .ok (.slice X (n-i) (n-i)) w)∧(i<n→X=some ⟨g,i * 4,none⟩):=by
 have hu:Tryz.prog.underlying 34=some (.slice (Tryz.prog.elem 34)):=by kernel_rfl
 have hs:∀ w,(sizeOf (Tryz.prog.elem 34)).run Tryz.prog w = .ok 4 w:=fun w=>by kernel_rfl
 by_cases h:i=n
 ·refine ⟨some ⟨g,0,none⟩,fun w=>?_,fun h'=>by omega⟩
  rw [run_slice_l w 34 (some ⟨g,0,none⟩) n n hu .i64 (i:Int) (by omega) (by omega),hs w]
  simp only [Result.andThen_ok,sliced,Int.toNat_natCast]
  subst h
  simp
 ·refine ⟨some ⟨g,i * 4,none⟩,fun w=>?_,fun _=>rfl⟩
  rw [run_slice_l w 34 (some ⟨g,0,none⟩) n n hu .i64 (i:Int) (by omega) (by omega),hs w]
  simp only [Result.andThen_ok,sliced,Int.toNat_natCast]
  rw [if_neg (by omega)]
  simp [Addr.add]
  omega
theorem splice_take {L cs:List Value} {o:Nat} (h:o+cs.length≤L.length):(splice L o cs).take (o+cs.length)=L.take o ++ cs:=by
 unfold splice
 have h1:(L.take o).length=o:=by rw [List.length_take];omega
 rw [← List.append_assoc,List.take_append_of_le_length (by rw [List.length_append,h1];omega)]
 exact List.take_of_length_le (by rw [List.length_append,h1];omega)
theorem taken_c (v:Value) (ps:List Part) (w:World) (hR:Recs vc 1 w v ps) (hall:∀ p ∈ ps,Recs cc 4 w p.1 p.2) (hl:(ps.flatMap (·.2)).length≤1000) (h3:ps.length≤3) :
 Calls Tryz.prog 127 #[v] w fun e w'=>∃ v',e = .returned v'∧w'.ownsRow w.heap.size 82 4 v' (ps.flatMap (·.2)).length ((ps.flatMap (·.2)).flatMap cc)∧Below w.heap.size w w':=by
 obtain ⟨i0,hi,hz0,hz1,hz2⟩:=info_parts info35
 obtain ⟨r0,cap0,rfl,_⟩:=hR.form
 have HR:=Lib.hid hR
 have HA:=Lib.hid hall
 obtain ⟨M,hM⟩:∃ M,ps.length=M:=⟨_,rfl⟩
 have HM:=Lib.hid hM
 obtain ⟨N,hN⟩:∃ N,(ps.flatMap (·.2)).length=N:=⟨_,rfl⟩
 have HN:=Lib.hid (show (flatP ps M).length=N by rw [← hM,flatP_all];exact hN)
 have HF:=Lib.hid (show flatP ps M=ps.flatMap (·.2) by rw [← hM,flatP_all])
 have hN1:N≤1000:=by omega
 rw [hM] at HR h3 ⊢
 rw [hN]
 clear hR hall hl hM hN
 generalize ps.flatMap (·.2)=all at *
 go_enter Tryz.func127,Tryz.ntmps127
 go_wp2
 go_loop [3,12] (fun s i=>∃ k:Nat,k≤M∧i = .int .i64 k∧s = .int .i64 ((flatP ps k).length:Nat)) (fun _ i=>M-(intOf i).toNat)
 case atStart=>exact ⟨0,Nat.zero_le _,rfl,rfl⟩
 case round =>
  obtain ⟨k,hk,rfl,rfl⟩:=hrel
  by_cases hlt:k<M
  ·obtain ⟨p,hp⟩:∃ p,ps[k]?=some p:=⟨ps[k]'(by have:=HM.out;omega),List.getElem?_eq_getElem (by have:=HM.out;omega)⟩
   have HS:=Lib.hid (congrArg List.length (flatP_step hp))
   have hle:(flatP ps (k+1)).length≤N:=by have:=flatP_le (ps:=ps) (show k+1≤M by omega);rw [HN.out] at this;exact this
   obtain ⟨g,off,rfl,hg,hc⟩:=HR.out.at hp
   obtain ⟨pr,pc',hpv,_⟩:=(HA.out p (List.mem_of_getElem? hp)).form
   have c0:=hc 0 _ rfl
   simp only [Nat.mul_one,Nat.add_zero] at c0
   rw [hpv] at c0
   rw [HS.out] at hle
   rw [List.length_append] at hle
   have HS2:Hid ((flatP ps (k+1)).length=(flatP ps k).length+p.2.length):=Lib.hid (by rw [HS.out,List.length_append])
   generalize (flatP ps k).length=s at *
   clear hp hc hpv HS
   generalize p.2.length=m at *
   go_wp2
   go_round
   case rel=>exact ⟨k+1,by omega,by go_num,by rw [HS2.out];go_num⟩
   case measure=>simp [intOf];omega
  ·obtain rfl:k=M:=by omega
   rw [HN.out]
   go_wp2_with (refine wpList_make_full _ rfl (.tmp 21) (.tmp 21) 34 rfl w.heap.size 82 i0 (.agg #[.int .u32 0,.string ⟨#[]⟩,.int .u8 0,.int .u32 0]) 4 Tryz.underlying34 hi hz0 hz1 .i64 .i64 _ _ N rfl rfl rfl rfl (by rw [hz2];omega) (by unfold maxLen;omega) (Nat.le_refl _) ?_;intro w1 hown1 hgrow1)
   have hB1:=(Below.refl w.heap.size w).grown hgrow1 (Nat.le_refl _) (fun j hj=>by cases hj)
   obtain ⟨cur0,HG0,hl0⟩:∃ cur:List Value,Hid (w1.heap[w.heap.size]?=some (.cells cur.toArray 82 (0,0)))∧cur.length=N * 4:=by
    rcases hown1.2 with ⟨h0,_⟩ | ⟨g',cap',cur,e,_,hg',_,_,hs',_⟩
    ·cases h0
    ·cases e
     exact ⟨cur.toList,Lib.hid (by simpa using hg'),by simpa using hs'⟩
   have HB1:=Lib.hid hB1
   have HL0:=Lib.hid hl0
   clear hown1 hgrow1 hB1 hl0
   obtain ⟨G,hG⟩:∃ G,w.heap.size=G:=⟨_,rfl⟩
   have HGE:=Lib.hid hG
   rw [hG] at HG0 ⊢
   have hsz:(Tryz.prog.info? 82).map (·.size)=some 4:=by rw [hi];simp [hz1]
   clear hG
   go_loopw [7,25] (fun s i wr=>∃ (j:Nat) (cur:List Value),j≤k∧i = .int .i64 j∧s = .int .i64 ((flatP ps j).length:Nat)∧Hid (wr.heap[G]?=some (.cells cur.toArray 82 (0,0)))∧Hid (cur.length=N * 4∧cur.take ((flatP ps j).length * 4)=(flatP ps j).flatMap cc)∧Below w.heap.size w wr) (fun _ i _=>k-(intOf i).toNat)
   case atStart=>exact ⟨0,cur0,Nat.zero_le _,rfl,rfl,HG0,Lib.hid ⟨HL0.out,rfl⟩,HB1.out⟩
   case round =>
    obtain ⟨j,cur,hj,rfl,rfl,HG,HC,hb⟩:=hrel
    rename World=>wr
    by_cases hlt:j<k
    ·obtain ⟨p,hp⟩:∃ p,ps[j]?=some p:=⟨ps[j]'(by have:=HM.out;omega),List.getElem?_eq_getElem (by have:=HM.out;omega)⟩
     have hst:=flatP_step hp
     have hle:(flatP ps (j+1)).length≤N:=by have:=flatP_le (ps:=ps) (show j+1≤k by omega);rw [HN.out] at this;exact this
     rw [hst,List.length_append] at hle
     obtain ⟨g,off,rfl,hg,hc⟩:=(HR.out.stay hb).at hp
     have hpr:=(HA.out p (List.mem_of_getElem? hp)).stay hb
     obtain ⟨pr,pc',hpv,_⟩:=hpr.form
     have c0:=hc 0 _ rfl
     simp only [Nat.mul_one,Nat.add_zero] at c0
     rw [hpv] at c0 hpr
     have HST:=Lib.hid hst
     have hfl:=flat_len cc_len p.2
     obtain ⟨X,hX,hX1⟩:=slice_fromC G N (flatP ps j).length (by omega)
     have hsrc:∀ (_:0<p.2.length),∃ ad,pr=some ad ∧ ∀ i u,(p.2.flatMap cc)[i]?=some u→wr.cell? (ad.add i)=some u:=fun h0=>by
      obtain ⟨g1,o1,rfl,_,_⟩:=hpr.at (List.getElem?_eq_getElem h0)
      refine ⟨_,rfl,fun i u hu=>?_⟩
      have e1:(⟨g1,o1,none⟩:Addr).add i=⟨g1,o1+i,none⟩:=by unfold Addr.add;split <;> simp_all
      rw [e1]
      exact recs_flat cc_len (by omega) hpr i u hu
     have HP:=Lib.hid (fun (h0:0<p.2.length)=>And.intro (hX1 (by omega)) (hsrc h0))
     have HFL:=Lib.hid hfl
     have HB:=Lib.hid hb
     have h1c:=Lib.hid (flat_one cc_one p.2)
     have hcl:=HC.out.1
     have HCT:=Lib.hid HC.out
     have HG1:=HG
     clear hp hst hc hpv hpr hfl hX1 hsrc hb
     have HSL:Hid (∀ L:List Ac,L=flatP ps j ++ p.2→L.length=(flatP ps j).length+p.2.length∧L.flatMap cc=(flatP ps j).flatMap cc ++ p.2.flatMap cc):=Lib.hid (fun L h=>by rw [h];simp)
     generalize flatP ps j=fj at *
     generalize p.2.flatMap cc=pf at *
     have HS1:=Lib.hid (HSL.out _ HST.out)
     generalize p.2.length=m at *
     generalize hs:fj.length=s at *
     have HSS:=Lib.hid hs
     clear hs HSL HST
     go_wp2_with (refine wpList_copy_rows rfl (.tmp 32) (.tmp 33) 34 34 rfl 4 82 Tryz.underlying34 hsz X pr (N-s) (N-s) m pc' rfl rfl G (s * 4) cur 82 HG1.out pf m (Nat.min_eq_left (by omega)).symm HFL.out HP.out (by rw [HFL.out];omega) h1c.out w.heap.size w HB.out (by rw [HGE.out];exact Nat.le_refl _) ?_;intro w' HG2 hB2 _;have HB2:=Lib.hid hB2;clear hB2)
     go_roundw
     case rel =>
      refine ⟨j+1,splice cur (s * 4) pf,by omega,by go_num,by rw [HS1.out.1];go_num,HG2,Lib.hid ⟨?_,?_⟩,HB2.out⟩
      ·rw [length_splice _ _ _ (by rw [HFL.out];omega)];exact HCT.out.1
      ·rw [HS1.out.1,HS1.out.2,← HCT.out.2]
       have:=splice_take (L:=cur) (cs:=pf) (o:=s * 4) (by rw [HFL.out];omega)
       rw [HFL.out] at this
       rw [show (s+m) * 4=s * 4+m * 4 by omega]
       exact this
     case measure=>simp [intOf];omega
    ·obtain rfl:j=k:=by omega
     have HB:=Lib.hid hb
     clear hb
     go_wp2
     go_ret
     refine ⟨_,rfl,?_,HB.out⟩
     have h1:=HC.out
     rw [HN.out,HF.out,List.take_of_length_le (by omega)] at h1
     refine ⟨by rw [← h1.2,h1.1],.inr ⟨G,N,cur.toArray,rfl,by rw [HGE.out];exact Nat.le_refl _,HG.out,Nat.le_refl _,by unfold maxLen;omega,by simpa using h1.1,?_⟩⟩
     rw [← h1.2]
     exact List.take_of_length_le (by have:=h1.1;simp;omega)
theorem owns_monoC {w:World} {base base':Nat} {e:TypeId} {size:Nat} {v:Value} {n:Nat} {xs:List Value} (h:w.ownsRow base e size v n xs) (hb:base'≤base):w.ownsRow base' e size v n xs:=by
 refine ⟨h.1,?_⟩
 rcases h.2 with h0 | ⟨g,cap,cur,h1,h2,h3⟩
 ·exact .inl h0
 ·exact .inr ⟨g,cap,cur,h1,Nat.le_trans hb h2,h3⟩
theorem part_from (r:Option Addr) (n cap i:Nat) (w:World) (c:List Ac) (hR:Recs cc 4 w (.slice r n cap) c) (hn:n=c.length) (hl:n≤1000) (hc:n≤cap) (hi:i≤n) :
 ∃ X,(∀ w,(Instr.slice 34 (.slice r n cap) (some (.int .i64 (i:Int))) none none).run Tryz.prog w = .ok (.slice X (n-i) (cap-i)) w)∧Recs cc 4 w (.slice X (n-i) (cap-i)) (c.drop i):=by
 have hu:Tryz.prog.underlying 34=some (.slice (Tryz.prog.elem 34)):=by kernel_rfl
 have hs:∀ w,(sizeOf (Tryz.prog.elem 34)).run Tryz.prog w = .ok 4 w:=fun w=>by kernel_rfl
 refine ⟨if cap=i then r else r.map (·.add (i * 4)),fun w=>?_,?_⟩
 ·rw [run_slice_l w 34 r n cap hu .i64 (i:Int) (by omega) (by omega),hs w]
  simp only [Result.andThen_ok,sliced,Int.toNat_natCast]
 ·by_cases h:i<n
  ·obtain ⟨x,hx⟩:∃ x,c[0]?=some x:=⟨c[0]'(by omega),List.getElem?_eq_getElem (by omega)⟩
   obtain ⟨g,off,rfl,hg,_⟩:=hR.at hx
   rw [if_neg (by omega)]
   have:=hR.drop hg hn hc hl i hi
   have e:(⟨g,off,none⟩:Addr).add (i * 4)=⟨g,off+i * 4,none⟩:=by unfold Addr.add;split <;> simp_all
   rw [Option.map_some,e]
   exact this
  ·obtain rfl:i=n:=by omega
   refine .inl ⟨_,cap-i,by rw [Nat.sub_self],List.drop_eq_nil_of_le (by omega)⟩
theorem part_to (r:Option Addr) (n cap i:Nat) (w:World) (c:List Ac) (hR:Recs cc 4 w (.slice r n cap) c) (hn:n=c.length) (hl:n≤1000) (hc:n≤cap) (hi:i≤n) :
 ∃ X,(∀ w,(Instr.slice 34 (.slice r n cap) none (some (.int .i64 (i:Int))) none).run Tryz.prog w = .ok (.slice X i cap) w)∧Recs cc 4 w (.slice X i cap) (c.take i):=by
 have hu:Tryz.prog.underlying 34=some (.slice (Tryz.prog.elem 34)):=by kernel_rfl
 have hs:∀ w,(sizeOf (Tryz.prog.elem 34)).run Tryz.prog w = .ok 4 w:=fun w=>by kernel_rfl
 refine ⟨if cap=0 then r else r.map (·.add (0 * 4)),fun w=>?_,?_⟩
 ·rw [run_slice_h w 34 r n cap hu .i64 (i:Int) (by omega) (by omega),hs w]
  simp only [Result.andThen_ok,sliced,Int.toNat_natCast]
  simp
 ·by_cases h:0<i
  ·obtain ⟨x,hx⟩:∃ x,c[0]?=some x:=⟨c[0]'(by omega),List.getElem?_eq_getElem (by omega)⟩
   obtain ⟨g,off,rfl,hg,_⟩:=hR.at hx
   rw [if_neg (by omega)]
   have:=hR.take hg hn hc hl i hi
   have e:(⟨g,off,none⟩:Addr).add (0 * 4)=⟨g,off,none⟩:=by unfold Addr.add;split <;> simp_all
   rw [Option.map_some,e]
   exact this
  ·obtain rfl:i=0:=by omega
   exact .inl ⟨_,cap,rfl,rfl⟩
theorem taken_lit (ps:List Part) (cs:Array Value) (n N:Nat) (all:List Ac) (w:World) (hall:∀ p ∈ ps,Recs cc 4 w p.1 p.2) (hn:n=ps.length) (h3:n≤3) (hcs:cs.toList=ps.flatMap vc) (hf:ps.flatMap (·.2)=all) (hN:all.length=N) (hl:N≤1000) :
 Calls Tryz.prog 127 #[.slice (some ⟨w.heap.size,0,none⟩) n n] (w.alloc (.cells cs 34)) fun e w'=>∃ v',e = .returned v'∧w'.ownsRow w.heap.size 82 4 v' N (all.flatMap cc)∧Below w.heap.size w w':=by
 have hb:=(Below.refl w.heap.size w).alloc (Nat.le_refl _) (.cells cs 34)
 have hR:=recs_lit vc_len ps cs 34 n hn (by omega) hcs w
 refine (taken_c _ ps _ hR (fun p hp=>(hall p hp).stay hb) (by rw [hf,hN];exact hl) (by omega)).mono ?_
 rintro e w' ⟨v',he,ho,hb2⟩
 rw [hf,hN] at ho
 exact ⟨v',he,owns_monoC ho hb.size,hb.trans (hb2.mono hb.size)⟩
theorem without_c (r:Option Addr) (L cap:Nat) (c:List Ac) (n:Nat) (w:World) (hR:Recs cc 4 w (.slice r L cap) c) (hcap:L≤cap) (hr:RiseA c) (hl:L≤1000) (hL:L=c.length) :
 Calls Tryz.prog 86 #[.slice r L cap,.int .u32 (n:Int)] w fun e w'=>∃ v',e = .returned v'∧w'.ownsRow w.heap.size 82 4 v' (outA c n).length ((outA c n).flatMap cc)∧Below w.heap.size w w':=by
 have hlo:(outA c n).length≤1000:=Nat.le_trans (List.length_filter_le _ _) (by omega)
 cases hg:getA c n with
 | none =>
  have K:=find_c _ c n w hR hr (by omega)
  rw [hg] at K
  have HK:Hid (Calls Tryz.prog 126 #[.slice r L cap,.int .u32 (n:Int)] w fun e w'=>e = .returned (.tuple #[.int .i64 (belowA c n:Nat),.bool false])∧Below w.heap.size w w'):=Lib.hid K
  have HT:=Lib.hid (fun (w':World) (h:Below w.heap.size w w')=>taken_lit [(.slice r L cap,c)] #[.slice r L cap] 1 (outA c n).length (outA c n) w' (fun p hp=>by simp at hp;subst hp;exact hR.stay h) rfl (by omega) rfl (by rw [out_none hg];simp) rfl hlo)
  have HL:=Lib.hid hL
  clear K hR hr hg hL
  generalize belowA c n=B at *
  generalize (outA c n).length=N at *
  generalize (outA c n).flatMap cc=Z at *
  go_enter Tryz.func86,Tryz.ntmps86
  go_wp2_with (first
   | (go_at_call 126;refine HK.out.mono ?_;rintro e w1 ⟨rfl,hb1⟩;have HB1:=Lib.hid hb1;clear hb1)
   | (go_at_call 127;refine (HT.out _ HB1.out).mono ?_;rintro e w2 ⟨v2,rfl,ho2,hb2⟩;have HO2:=Lib.hid (owns_monoC ho2 HB1.out.size);have HB2:=Lib.hid (HB1.out.trans (hb2.mono HB1.out.size));clear ho2 hb2))
  go_ret
  exact ⟨_,rfl,HO2.out,HB2.out⟩
 | some a =>
  have K:=find_c _ c n w hR hr (by omega)
  rw [hg] at K
  have HK:Hid (Calls Tryz.prog 126 #[.slice r L cap,.int .u32 (n:Int)] w fun e w'=>e = .returned (.tuple #[.int .i64 (belowA c n:Nat),.bool true])∧Below w.heap.size w w'):=Lib.hid K
  obtain ⟨hat,hout⟩:=out_parts hr hg
  have hlt:=(List.getElem?_eq_some_iff.1 hat).1
  have hBL:belowA c n<L:=by omega
  obtain ⟨B',hB'⟩:∃ B',belowA c n+1=B':=⟨_,rfl⟩
  have hw:IntKind.i64.wrap ((belowA c n:Nat)+1)=(B':Int):=by rw [IntKind.wrap_i64];omega
  rw [hB'] at hout
  obtain ⟨X,hX,hRX⟩:=part_to r L cap (belowA c n) w c hR hL hl hcap (by omega)
  obtain ⟨Y,hY,hRY⟩:=part_from r L cap B' w c hR hL hl hcap (by omega)
  have HT:=Lib.hid (fun (w':World) (h:Below w.heap.size w w')=>taken_lit [(.slice X (belowA c n) cap,c.take (belowA c n)),(.slice Y (L-B') (cap-B'),c.drop B')] #[.slice X (belowA c n) cap,.slice Y (L-B') (cap-B')] 2 (outA c n).length (outA c n) w' (fun p hp=>by
   simp at hp
   rcases hp with rfl | rfl
   ·exact hRX.stay h
   ·exact hRY.stay h) rfl (by omega) rfl (by rw [hout];simp) rfl hlo)
  have HL:=Lib.hid hL
  clear K hR hr hg hat hout hlt hRX hRY hL hB'
  generalize belowA c n=B at *
  generalize (outA c n).length=N at *
  generalize (outA c n).flatMap cc=Z at *
  go_enter Tryz.func86,Tryz.ntmps86
  go_wp2_with (go_at_call 126;refine HK.out.mono ?_;rintro e w1 ⟨rfl,hb1⟩;have HB1:=Lib.hid hb1;clear hb1)
  go_still_tail 7,(by kernel_rfl)
  change wpList _ _ _ _ _ w1.drew
  have HB2:=Lib.hid HB1.out.drew
  generalize w1.drew=w2 at *
  go_wp2_with (go_at_call 127;refine (HT.out _ HB2.out).mono ?_;rintro e w3 ⟨v3,rfl,ho3,hb3⟩;have HO3:=Lib.hid (owns_monoC ho3 HB2.out.size);have HB3:=Lib.hid (HB2.out.trans (hb3.mono HB2.out.size));clear ho3 hb3)
  go_ret
  exact ⟨_,rfl,HO3.out,HB3.out⟩
theorem with_c (r:Option Addr) (L cap:Nat) (c:List Ac) (a:Ac) (w:World) (hR:Recs cc 4 w (.slice r L cap) c) (hcap:L≤cap) (hr:RiseA c) (hl:L≤900) (hL:L=c.length) :
 Calls Tryz.prog 88 #[.slice r L cap,cv a] w fun e w'=>∃ v',e = .returned v'∧w'.ownsRow w.heap.size 82 4 v' (withA c a).length ((withA c a).flatMap cc)∧Below w.heap.size w w':=by
 have hA:=(Below.refl w.heap.size w).alloc (Nat.le_refl _) (.cells #[.int .u32 (a.code:Int),.string a.name,.int .u8 (a.kind:Int),.int .u32 (a.par:Int)] 82)
 have HX:=Lib.hid (Box4.new w (.int .u32 (a.code:Int)) (.string a.name) (.int .u8 (a.kind:Int)) (.int .u32 (a.par:Int)) 82)
 have HA:=Lib.hid hA
 have K1:=Lib.hid (without_c r L cap c a.code _ (hR.stay hA) hcap hr (by omega) hL)
 have hlo:(outA c a.code).length≤900:=Nat.le_trans (List.length_filter_le _ _) (by omega)
 have hro:=outA_rise hr a.code
 have hwp:=with_parts hr a
 generalize outA c a.code=o at *
 have hbo:=belowA_le o a.code
 have HWL:Hid ((withA c a).length≤1000):=Lib.hid (by rw [hwp];simp;omega)
 have K2:=Lib.hid (fun (v:Value) (w':World) (h:Recs cc 4 w' v o)=>find_c v o a.code w' h hro (by omega))
 obtain ⟨M,hM⟩:∃ M,o.length=M:=⟨_,rfl⟩
 have HM:=Lib.hid hM
 have HWP:=Lib.hid hwp
 rw [hM] at K1 hbo hlo
 clear hR hr hL hro hwp hM hA
 generalize belowA o a.code=B at *
 obtain ⟨N,hN⟩:∃ N,(withA c a).length=N:=⟨_,rfl⟩
 have HN:=Lib.hid hN
 rw [hN]
 have HWA:Hid (withA c a=withA c a):=Lib.hid rfl
 obtain ⟨W,hW⟩:∃ W,withA c a=W:=⟨_,rfl⟩
 rw [hW] at HWP HWL HN ⊢
 clear hN hW HWA
 unfold cv
 go_enter Tryz.func88,Tryz.ntmps88
 go_wp2_with (first
  | (go_at_call 126;refine (K2.out _ _ HR1.out).mono ?_;rintro e w2 ⟨rfl,hb2⟩;have HB2:=Lib.hid (HB1.out.trans (hb2.mono HB1.out.size));have HX2:=Lib.hid (HX1.out.stay hb2);have HO2:=Lib.hid (owns_stay HO1.out hb2);clear hb2)
  | (go_at_call 86;refine K1.out.mono ?_;rintro e w1 ⟨v1,rfl,ho1,hb1⟩;have HB1:=Lib.hid (HA.out.trans (hb1.mono HA.out.size));have HX1:=Lib.hid (HX.out.stay hb1);have HR1:=Lib.hid (recs_of_owns cc_len ho1 HM.out.symm (by omega));have HO1:=Lib.hid ho1;obtain ⟨r1,cap1,rfl⟩:=owns_form ho1;obtain ⟨g0,g1,g2,g3,_,_,_,_,_⟩:=HX1.out;clear ho1 hb1))
 have hcp:M≤cap1:=by
  rcases HO2.out.2 with ⟨h0,h1⟩ | ⟨g,cp,cur,h0,_,_,h1,_⟩
  ·omega
  ·cases h0;exact h1
 have hR2:Recs cc 4 w2 (.slice r1 M cap1) o:=recs_of_owns cc_len HO2.out HM.out.symm (by omega)
 obtain ⟨X,hX,hRX⟩:=part_to r1 M cap1 B w2 o hR2 HM.out.symm (by omega) hcp hbo
 obtain ⟨Y,hY,hRY⟩:=part_from r1 M cap1 B w2 o hR2 HM.out.symm (by omega) hcp hbo
 have HRX:=Lib.hid hRX
 have HRY:=Lib.hid hRY
 obtain ⟨g0,g1,g2,g3,_,_,_,_,_⟩:=HX2.out
 have hbd:Below w2.heap.size w2 (w2.drew.alloc (.cells #[.int .u32 (a.code:Int),.string a.name,.int .u8 (a.kind:Int),.int .u32 (a.par:Int)] 82)):=((Below.refl _ _).drew).alloc (Nat.le_refl _) _
 have hB3:=HB2.out.trans (hbd.mono HB2.out.size)
 have KT0:=taken_lit [(.slice X B cap1,o.take B),(.slice (some ⟨w2.heap.size,0,none⟩) 1 1,[a]),(.slice Y (M-B) (cap1-B),o.drop B)] #[.slice X B cap1,.slice (some ⟨w2.heap.size,0,none⟩) 1 1,.slice Y (M-B) (cap1-B)] 3 N W _ (fun p hp=>by
  simp at hp
  rcases hp with rfl | rfl | rfl
  ·exact HRX.out.stay hbd
  ·exact recs_lit cc_len [a] _ _ 1 rfl (by omega) rfl w2.drew
  ·exact HRY.out.stay hbd) rfl (by omega) rfl (by rw [HWP.out];simp) HN.out (by rw [← HN.out];exact HWL.out)
 have hsz:(w2.drew.alloc (.cells #[.int .u32 (a.code:Int),.string a.name,.int .u8 (a.kind:Int),.int .u32 (a.par:Int)] 82)).heap.size=w2.heap.size+1:=by simp
 have KT:Hid (Calls Tryz.prog 127 #[.slice (some ⟨w2.heap.size+1,0,none⟩) 3 3] ((w2.alloc (.cells #[.int .u32 (a.code:Int),.string a.name,.int .u8 (a.kind:Int),.int .u32 (a.par:Int)] 82)).alloc (.cells #[.slice X B cap1,.slice (some ⟨w2.heap.size,0,none⟩) 1 1,.slice Y (M-B) (cap1-B)] 34)).drew fun e w'=>∃ v',e = .returned v'∧w'.ownsRow w.heap.size 82 4 v' N (W.flatMap cc)∧Below w.heap.size w w'):=Lib.hid (by
  rw [hsz] at KT0
  refine Calls.mono (show Calls Tryz.prog 127 #[.slice (some ⟨w2.heap.size+1,0,none⟩) 3 3] ((w2.alloc (.cells #[.int .u32 (a.code:Int),.string a.name,.int .u8 (a.kind:Int),.int .u32 (a.par:Int)] 82)).alloc (.cells #[.slice X B cap1,.slice (some ⟨w2.heap.size,0,none⟩) 1 1,.slice Y (M-B) (cap1-B)] 34)).drew _ from KT0) ?_
  rintro e w' ⟨v',he,ho,hb⟩
  rw [← hsz] at ho hb
  exact ⟨v',he,owns_monoC ho hB3.size,hB3.trans (hb.mono hB3.size)⟩)
 clear hR2 hRX hRY KT0 hsz hbd hB3
 go_region_with (go_at_call 127;refine KT.out.mono ?_;rintro e w3 ⟨v3,rfl,ho3,hb3⟩;have HO3:=Lib.hid ho3;have HB3:=Lib.hid hb3;clear ho3 hb3)
 all_goals
  go_wp2
  go_ret
  exact ⟨_,rfl,HO3.out,HB3.out⟩
theorem at_split {α:Type} {xs:List α} {k:Nat} {x:α} (h:xs[k]?=some x):∃ A B,xs=A ++ x :: B∧A.length=k:=by
 obtain ⟨hk,e⟩:=List.getElem?_eq_some_iff.1 h
 refine ⟨xs.take k,xs.drop (k+1),?_,by rw [List.length_take];omega⟩
 have:=(List.take_append_drop k xs).symm
 rwa [List.drop_eq_getElem_cons hk,e] at this
theorem flat_set {α:Type} {enc:α→List Value} {sz:Nat} (hk:∀ x,(enc x).length=sz) {xs:List α} {k j:Nat} {x y:α} {u:Value} (h:xs[k]?=some x) (hj:j<sz) (hy:enc y=(enc x).set j u):(xs.flatMap enc).set (k * sz+j) u=(xs.set k y).flatMap enc:=by
 obtain ⟨A,B,rfl,hA⟩:=at_split h
 have hl:(A.flatMap enc).length=k * sz:=by rw [flat_len hk,hA]
 rw [List.flatMap_append,List.flatMap_cons,List.set_append_right _ _ (by omega),hl,show k * sz+j-k * sz=j by omega,List.set_append_left _ _ (by rw [hk];exact hj),← hy]
 rw [List.set_append_right _ _ (by omega),hA,Nat.sub_self,List.set_cons_zero,List.flatMap_append,List.flatMap_cons]
theorem cur_at {c:List Ac} {k:Nat} {a:Ac} (g:Ac→Ac) (h:c[k]?=some a):((c.take k).map g ++ c.drop k)[k]?=some a:=by
 obtain ⟨hk,e⟩:=List.getElem?_eq_some_iff.1 h
 rw [List.getElem?_append_right (by simp;omega)]
 simp
 rw [Nat.min_eq_left (by omega),Nat.sub_self,Nat.add_zero]
 exact h
theorem cur_step {c:List Ac} {k:Nat} {a:Ac} (g:Ac→Ac) (h:c[k]?=some a):(c.take (k+1)).map g ++ c.drop (k+1)=((c.take k).map g ++ c.drop k).set k (g a):=by
 obtain ⟨hk,e⟩:=List.getElem?_eq_some_iff.1 h
 rw [List.take_succ_eq_append_getElem hk,e,List.map_append,List.drop_eq_getElem_cons hk,e,List.set_append_right _ _ (by simp;omega)]
 simp
 rw [Nat.min_eq_left (by omega),Nat.sub_self,List.set_cons_zero]
theorem cur_len (c:List Ac) (k:Nat) (g:Ac→Ac):((c.take k).map g ++ c.drop k).length=c.length:=by simp;omega
theorem moved_c (v:Value) (c:List Ac) (f t:Nat) (ht:t<4294967296) (w:World) (hR:Recs cc 4 w v c) (hl:c.length≤1000) :
 Calls Tryz.prog 87 #[v,.int .u32 (f:Int),.int .u32 (t:Int)] w fun e w'=>∃ v',e = .returned v'∧w'.ownsRow w.heap.size 82 4 v' (moveA c f t ht).length ((moveA c f t ht).flatMap cc)∧Below w.heap.size w w':=by
 obtain ⟨r0,cap0,rfl,_⟩:=hR.form
 obtain ⟨L,hL⟩:∃ L,c.length=L:=⟨_,rfl⟩
 have HL:=Lib.hid hL
 rw [hL] at hR ⊢
 have KT:=Lib.hid (taken_lit [(.slice r0 L cap0,c)] #[.slice r0 L cap0] 1 L c w (fun p hp=>by simp at hp;subst hp;exact hR) rfl (by omega) rfl (by simp) hL (by omega))
 have HML:Hid ((moveA c f t ht).length=L):=Lib.hid (by unfold moveA;rw [List.length_map];exact hL)
 obtain ⟨g,hg⟩:∃ g:Ac→Ac,(fun a:Ac=>if a.par=f then a.to t ht else a)=g:=⟨_,rfl⟩
 have HMA:Hid (moveA c f t ht=c.map g):=Lib.hid (by rw [← hg];rfl)
 have HGY:Hid (∀ a:Ac,a.par=f→cc (g a)=(cc a).set 3 (.int .u32 (t:Int))):=Lib.hid (fun a ha=>by rw [← hg];simp only [if_pos ha];rfl)
 have HGN:Hid (∀ a:Ac,a.par≠f→g a=a):=Lib.hid (fun a ha=>by rw [← hg];simp only [if_neg ha])
 rw [hL] at hl
 clear hR hg hL
 generalize moveA c f t ht=M at *
 go_enter Tryz.func87,Tryz.ntmps87
 go_wp2_with (go_at_call 127;refine KT.out.mono ?_;rintro e w1 ⟨v1,rfl,ho1,hb1⟩;have HO1:=Lib.hid ho1;have HB1:=Lib.hid hb1;obtain ⟨r1,cap1,rfl⟩:=owns_form ho1;clear ho1 hb1)
 go_loopw [14] (fun i wr=>∃ k:Nat,k≤L∧i = .int .i64 k∧wr.ownsRow w.heap.size 82 4 (.slice r1 L cap1) L (((c.take k).map g ++ c.drop k).flatMap cc)∧Below w.heap.size w wr) (fun i _=>L-(intOf i).toNat)
 case atStart=>exact ⟨0,Nat.zero_le _,rfl,by simpa using HO1.out,HB1.out⟩
 case round =>
  obtain ⟨k,hk,rfl,hown,hb⟩:=hrel
  rename World=>wr
  by_cases hlt:k<L
  ·obtain ⟨a,ha⟩:∃ a,c[k]?=some a:=⟨c[k]'(by have:=HL.out;omega),List.getElem?_eq_getElem (by have:=HL.out;omega)⟩
   have hca:=cur_at g ha
   have hcs:=cur_step g ha
   have hcl:=cur_len c k g
   obtain ⟨G,hr1,hGb⟩:∃ G,r1=some ⟨G,0,none⟩∧w.heap.size≤G:=by
    rcases hown.2 with ⟨h0,h1⟩ | ⟨g',cp,cur,h0,h1,_⟩
    ·omega
    ·cases h0;exact ⟨g',rfl,h1⟩
   subst hr1
   have hp:=hown.cellAt (k * 4+3) (by omega)
   have hz:=hown.frozenAt (k * 4+3)
   rw [flat_get cc_len hca (j:=3) (u:=.int .u32 (a.par:Int)) rfl] at hp
   have HST:=Lib.hid (hown.stored (k * 4+3) (.int .u32 (t:Int))).1
   have HFS:Hid (a.par=f→(((c.take k).map g ++ c.drop k).flatMap cc).set (k * 4+3) (.int .u32 (t:Int))=((c.take (k+1)).map g ++ c.drop (k+1)).flatMap cc):=Lib.hid (fun h=>by rw [hcs];exact flat_set cc_len hca (by omega) (HGY.out a h))
   have HFN:Hid (a.par≠f→((c.take k).map g ++ c.drop k)=((c.take (k+1)).map g ++ c.drop (k+1))):=Lib.hid (fun h=>by
    rw [hcs,HGN.out a h]
    exact (List.ext_getElem? fun i=>by
     rw [List.getElem?_set]
     by_cases e:k=i
     ·subst e;rw [if_pos rfl,hca];simp [hcl];have:=(List.getElem?_eq_some_iff.1 ha).1;omega
     ·rw [if_neg e]))
   have HO:=Lib.hid hown
   have HB:=Lib.hid hb
   clear hown hb ha hca hcs hcl
   by_cases hpf:a.par=f
   ·have hd:((a.par:Int) == (f:Int))=true:=by simp [hpf]
    have HF1:=Lib.hid (HFS.out hpf)
    clear hpf HFS HFN
    go_wp2
    go_roundw
    case rel=>exact ⟨k+1,by omega,by go_num,by rw [← HF1.out];exact HST.out,HB.out.setCell hGb _⟩
    case measure=>simp [intOf];omega
   ·have hd:((a.par:Int) == (f:Int))=false:=by simp;omega
    have HF1:=Lib.hid (HFN.out hpf)
    clear hpf HFS HFN
    go_wp2
    go_roundw
    case rel=>exact ⟨k+1,by omega,by go_num,by rw [← HF1.out];exact HO.out,HB.out⟩
    case measure=>simp [intOf];omega
  ·obtain rfl:k=L:=by omega
   have e:((c.take k).map g ++ c.drop k)=c.map g:=by rw [List.take_of_length_le (by have:=HL.out;omega),List.drop_eq_nil_of_le (by have:=HL.out;omega),List.append_nil]
   have HO:=Lib.hid hown
   have HB:=Lib.hid hb
   have HE:=Lib.hid e
   clear hown hb e
   go_wp2
   go_ret
   refine ⟨_,rfl,?_,HB.out⟩
   rw [HML.out,HMA.out,← HE.out]
   exact HO.out

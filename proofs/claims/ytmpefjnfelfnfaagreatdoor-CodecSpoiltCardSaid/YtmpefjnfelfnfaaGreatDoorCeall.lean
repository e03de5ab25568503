/- Contracts of law 11's num and signed. -/
import Derived.Test.YtmpefjnfelfnfaaGreatDoorCy
import Derived.WalkKit
import Derived.Lib.Hide
import Derived.Below
import Derived.Outline
import Derived.OwnWalk
import Derived.Laws.OwnMore
import Derived.LoopTactic
import Derived.ArgAppend
import Derived.Test.YtmpefjnfelfnfaaGreatDoorCdall
import Derived.Test.YtmpefjnfelfnfaaGreatDoorXall
import Derived.Lib.SmallJoins
import Derived.Lib.ConvBytes
set_option maxRecDepth 100000
set_option maxHeartbeats 4000000
namespace Go.Proofs.YtmpefjnfelfnfaaGreatDoor
open Go.RowKit
set_option linter.unusedVariables false
set_option linter.unusedSimpArgs false
theorem num11_c (n:Nat):∀ (w:World),n<18446744073709551616 →
 Calls Tryz.prog 37 #[.int .u64 (n:Int)] w fun e w'=>∃ v',e = .returned v'∧w'.ownsRow w.heap.size 5 1 v' (numB n).length ((numB n).flatMap byc)∧Below w.heap.size w w':=by
 induction n using Nat.strongRecOn with
 | _ n ih =>
  intro w hn
  obtain ⟨i0,hi,hz0,hz1,hz2⟩:=info_of8
  by_cases h:n<128
  ·rw [numB_small h]
   have t1:decide ((n:Int)<128)=true:=decide_eq_true (by omega)
   have t2:IntKind.u8.wrap (n:Int)=(n:Int):=by rw [IntKind.wrap_u8];omega
   have hlit:=World.ownsRow_lit (base:=w.heap.size) (e:=5) (size:=1) w #[.int .u8 (n:Int)] 1 (Nat.le_refl _) (by unfold maxLen;omega) rfl
   have hb:=(Below.refl w.heap.size w).alloc (Nat.le_refl _) (.cells #[.int .u8 (n:Int)] 5)
   go_enter Tryz.func37,Tryz.ntmps37
   go_wp2_with fail
   go_ret
   exact ⟨_,rfl,hlit,hb⟩
  ·rw [numB_more h]
   obtain ⟨r,hr⟩:∃ r,n % 128=r:=⟨_,rfl⟩
   obtain ⟨q,hq⟩:∃ q,n / 128=q:=⟨_,rfl⟩
   have t1:decide ((n:Int)<128)=false:=decide_eq_false (by omega)
   have t2:(n:Int).tmod 128=(r:Int):=by rw [Int.tmod_eq_emod_of_nonneg (by omega)];omega
   have t3:(n:Int) % 128=(r:Int):=by omega
   have t4:IntKind.u64.wrap (r:Int)=(r:Int):=by rw [IntKind.wrap_u64];omega
   obtain ⟨c,hc⟩:∃ c,128+r=c:=⟨_,rfl⟩
   have t5:(128:Int)+(r:Int)=(c:Int):=by omega
   have t6:IntKind.u64.wrap (c:Int)=(c:Int):=by rw [IntKind.wrap_u64];omega
   have t7:IntKind.u8.wrap (c:Int)=(c:Int):=by rw [IntKind.wrap_u8];omega
   have t8:(n:Int).tdiv 128=(q:Int):=by rw [Int.tdiv_eq_ediv_of_nonneg (by omega)];omega
   have t9:(n:Int) / 128=(q:Int):=by omega
   have t10:IntKind.u64.wrap (q:Int)=(q:Int):=by rw [IntKind.wrap_u64];omega
   have hlit:=World.ownsRow_lit (base:=w.heap.size) (e:=5) (size:=1) w #[.int .u8 (c:Int)] 1 (Nat.le_refl _) (by unfold maxLen;omega) rfl
   have hb:=(Below.refl w.heap.size w).alloc (Nat.le_refl _) (.cells #[.int .u8 (c:Int)] 5)
   have K:=ih q (by omega) (w.alloc (.cells #[.int .u8 (c:Int)] 5)) (by omega)
   have hlen:=numB_len10 (n:=q) (by omega)
   have hpos:=numB_pos q
   rw [hr,hc,hq,List.flatMap_cons,List.length_cons]
   have HK:=Lib.hid K
   have HB:=Lib.hid hb
   have HL:=Lib.hid hlit
   clear K hlit ih hr hq hc h hn
   go_enter Tryz.func37,Tryz.ntmps37
   go_wp2_with (first
    | (at_builtin;refine wpList_append_own _ rfl (.tmp 12) (.tmp 15) 25 rfl w.heap.size 5 i0 (.int .u8 0) 1 1 Tryz.underlying25 hi hz0 hz1 hz2 rfl (by decide) _ 1 [.int .u8 (c:Int)] rfl HL2.out ⟨g2,0,none⟩ (numB q).length c2 ((numB q).flatMap byc) rfl (by rw [flat_len byc_len]) HC2.out (flat_one byc_one _) (by unfold maxLen;omega) (by omega) HS2.out ?_;intro v3 w3 hown3 hgrow3 _)
    | (go_at_call 37;refine HK.out.mono ?_;rintro e w2 ⟨v2,rfl,o2,h2⟩;obtain ⟨g2,c2,rfl⟩:=own_some o2 hpos;have HL2:=Lib.hid (own_below HL.out h2);have HC2:=Lib.hid (o2.cells (g:=g2) rfl);have HB2:=Lib.hid (HB.out.trans (h2.mono HB.out.size));have HS2:=Lib.hid HB2.out.size;clear o2 h2))
   go_ret
   refine ⟨_,rfl,?_,HB2.out.grown hgrow3 HB2.out.size (fun k hk=>by have e:some w.heap.size=some k:=hk;injection e with e;omega)⟩
   have h:=hown3
   rw [Nat.add_comm] at h
   exact h
theorem signed11_c (z:Int) (w:World) (hz : -9223372036854775808≤z∧z≤9223372036854775807) :
 Calls Tryz.prog 38 #[.int .i64 z] w fun e w'=>∃ v',e = .returned v'∧w'.ownsRow w.heap.size 5 1 v' (sigB z).length ((sigB z).flatMap byc)∧Below w.heap.size w w':=by
 have K:=Lib.hid (num11_c (sigN z) w (by have:=sigN_lt hz;omega))
 unfold sigB
 by_cases h:z<0
 ·have hs:sigN z=2 * (-(z+1)).toNat+1:=by unfold sigN;rw [if_pos h]
  obtain ⟨k,hk⟩:∃ k:Nat, -(z+1)=(k:Int):=⟨(-(z+1)).toNat,by omega⟩
  have t1:decide (z<0)=true:=decide_eq_true h
  have t2:IntKind.i64.wrap (z+1)=z+1:=by rw [IntKind.wrap_i64];omega
  obtain ⟨y,hy⟩:∃ y,z+1=y:=⟨_,rfl⟩
  rw [hy] at t2 hk
  have t3 : -y=(k:Int):=hk
  have t4:IntKind.i64.wrap (k:Int)=(k:Int):=by rw [IntKind.wrap_i64];omega
  have t5:IntKind.u64.wrap (k:Int)=(k:Int):=by rw [IntKind.wrap_u64];omega
  obtain ⟨m,hm⟩:∃ m:Nat,2 * k=m:=⟨_,rfl⟩
  have t6:(2:Int) * (k:Int)=(m:Int):=by omega
  have t7:IntKind.u64.wrap (m:Int)=(m:Int):=by rw [IntKind.wrap_u64];omega
  have t8:(m:Int)+1=((sigN z:Nat):Int):=by rw [hs];omega
  have t9:IntKind.u64.wrap ((sigN z:Nat):Int)=((sigN z:Nat):Int):=by have:=sigN_lt hz;rw [IntKind.wrap_u64];omega
  clear hs hm hk
  generalize sigN z=N at *
  go_enter Tryz.func38,Tryz.ntmps38
  go_wp2_with (go_at_call 37;refine K.out.mono ?_;rintro e w2 ⟨v2,rfl,o2,h2⟩)
  go_ret
  exact ⟨_,rfl,o2,h2⟩
 ·have hs:sigN z=2 * z.toNat:=by unfold sigN;rw [if_neg h]
  have t1:decide (z<0)=false:=decide_eq_false h
  have t5:IntKind.u64.wrap z=z:=by rw [IntKind.wrap_u64];omega
  have t6:(2:Int) * z=((sigN z:Nat):Int):=by rw [hs];omega
  have t9:IntKind.u64.wrap ((sigN z:Nat):Int)=((sigN z:Nat):Int):=by have:=sigN_lt hz;rw [IntKind.wrap_u64];omega
  clear hs
  generalize sigN z=N at *
  go_enter Tryz.func38,Tryz.ntmps38
  go_wp2_with (go_at_call 37;refine K.out.mono ?_;rintro e w2 ⟨v2,rfl,o2,h2⟩)
  go_ret
  exact ⟨_,rfl,o2,h2⟩
def OutM (w:World) (base g:Nat) (bs:List Nat):Prop:=base≤g ∧ ∃ v,w.heap[g]?=some (.cells #[v] 25 (0,0))∧w.ownsRow base 5 1 v bs.length (bs.flatMap byc)∧(v.ownBlock=none∨v.ownBlock≠some g)
theorem OutM.size {w:World} {base g:Nat} {bs:List Nat} (h:OutM w base g bs):g<w.heap.size:=by
 obtain ⟨_,v,h,_⟩:=h
 exact (Array.getElem?_eq_some_iff.1 h).1
theorem OutM.stay {w w':World} {base g:Nat} {bs:List Nat} (h:OutM w base g bs) (hb:Below w.heap.size w w'):OutM w' base g bs:=by
 have hs:=h.size
 obtain ⟨h0,v,h1,h2,h3⟩:=h
 exact ⟨h0,v,(hb.block g hs).trans h1,own_below h2 hb,h3⟩
structure Kept8 (g:Nat) (w w':World):Prop where
 os:w'.os=w.os
 tape:w'.tape=w.tape
 output:w'.output=w.output
 size:w.heap.size≤w'.heap.size
 block:∀ k,k<w.heap.size→k≠g→(∀ cs p,w.heap[k]?≠some (.cells cs 5 p))→w'.heap[k]?=w.heap[k]?
theorem Kept8.refl (g:Nat) (w:World):Kept8 g w w:=⟨rfl,rfl,rfl,Nat.le_refl _,fun _ _ _ _=>rfl⟩
theorem Kept8.below {g:Nat} {w w':World} (h:Below w.heap.size w w'):Kept8 g w w':=⟨h.os,h.tape,h.output,h.size,fun k hk _ _=>h.block k hk⟩
theorem Kept8.trans {g:Nat} {w w' w'':World} (h:Kept8 g w w') (k:Kept8 g w' w''):Kept8 g w w'' :=
 ⟨k.os.trans h.os,k.tape.trans h.tape,k.output.trans h.output,Nat.le_trans h.size k.size,fun i hi hg h8=>by
  have e:=h.block i hi hg h8
  exact (k.block i (Nat.lt_of_lt_of_le hi h.size) hg (fun cs p hh=>h8 cs p (e.symm.trans hh))).trans e⟩
theorem add_c {base g:Nat} {bs l:List Nat} {w:World} (h:OutM w base g bs) (ad:Addr) (c:Nat) (hc:∀ j u,(l.flatMap byc)[j]?=some u→w.cell? (ad.add j)=some u) (hb:base≤w.heap.size) (hn:bs.length+l.length≤1000000000) :
 Calls Tryz.prog 36 #[.slice (some ad) l.length c,.pointer (some ⟨g,0,none⟩)] w fun e w'=>e = .returned (.tuple #[])∧OutM w' base g (bs ++ l)∧Below base w w'∧Kept8 g w w':=by
 have hs:=h.size
 obtain ⟨h0,v,h1,h2,h3⟩:=h
 obtain ⟨i0,hi,hz0,hz1,hz2⟩:=info_of8
 have x0:w.cell? ⟨g,0,none⟩=some v:=by simp [World.cell?,h1]
 have H1:=Lib.hid h1
 have H2:=Lib.hid h2
 have H3:=Lib.hid h3
 have HC:=Lib.hid hc
 clear h1 h2 h3 hc
 go_enter Tryz.func36,Tryz.ntmps36
 go_wp2_with (at_builtin;refine wpList_append_own _ rfl (.tmp 3) (.tmp 4) 25 rfl base 5 i0 (.int .u8 0) 1 1 Tryz.underlying25 hi hz0 hz1 hz2 rfl (by decide) v bs.length (bs.flatMap byc) rfl H2.out ad l.length c (l.flatMap byc) rfl (by rw [flat_len byc_len]) HC.out (flat_one byc_one _) (by unfold maxLen;omega) (by omega) hb ?_;intro v3 w3 hown3 hgrow3 _;obtain ⟨r3,c3,rfl⟩:=own_form hown3;have hg3:=(hgrow3.block g hs (fun e=>H3.out.elim (fun h=>by rw [h] at e;cases e) (fun h=>h e.symm))).trans H1.out;have y0:w3.frozen? ⟨g,0,none⟩=false:=(by simp [World.frozen?,hg3]);have y1:w3.cell? ⟨g,0,none⟩=some v:=(by simp [World.cell?,hg3]);have hs3:g<w3.heap.size:=(Array.getElem?_eq_some_iff.1 hg3).1;have HO:=Lib.hid hown3;have HG:=Lib.hid hgrow3;have HG3:=Lib.hid hg3;clear hown3 hgrow3 hg3)
 go_end0
 refine ⟨rfl,⟨h0,_,setBox HG3.out _,?_,.inr (own_type HO.out HG3.out (by decide))⟩,?_⟩
 ·rw [List.length_append,List.flatMap_append]
  exact HO.out.kept (set_grown w3 ⟨g,0,none⟩ _) (.inr (own_type HO.out HG3.out (by decide)))
 ·refine ⟨⟨HG.out.os,HG.out.tape,HG.out.output,?_,fun k hk=>?_⟩,⟨HG.out.os,HG.out.tape,HG.out.output,?_,fun k hk hkg h8=>?_⟩⟩
  ·simpa using HG.out.size
  ·rw [heap_setCell_other w3 ⟨g,0,none⟩ k _ (by show k≠g;omega)]
   exact HG.out.block k (Nat.lt_of_lt_of_le hk hb) (fun e=>by have:=H2.out.lt k e.symm;omega)
  ·simpa using HG.out.size
  ·rw [heap_setCell_other w3 ⟨g,0,none⟩ k _ hkg]
   refine HG.out.block k hk (fun e=>?_)
   rcases H2.out.2 with ⟨q1,q2⟩ | ⟨g',cap,cur,q1,_,q3,_⟩
   ·rw [q1] at e;simp [Value.ownBlock] at e
   ·rw [q1] at e
    simp only [Value.ownBlock,Option.some.injEq] at e
    subst e
    exact h8 _ _ q3
theorem add0_c {base g r:Nat} {bs l:List Nat} {w:World} (h0:base≤g) (h1:w.heap[g]?=some (.cells #[.slice (some ⟨r,0,none⟩) bs.length bs.length] 25 (0,0))) (hl:0<l.length) (hr:∀ j u,(bs.flatMap byc)[j]?=some u→w.cell? ((⟨r,0,none⟩:Addr).add j)=some u)
 (ad:Addr) (c:Nat) (hc:∀ j u,(l.flatMap byc)[j]?=some u→w.cell? (ad.add j)=some u) (hb:base≤w.heap.size) (hn:bs.length+l.length≤1000000000) :
 Calls Tryz.prog 36 #[.slice (some ad) l.length c,.pointer (some ⟨g,0,none⟩)] w fun e w'=>e = .returned (.tuple #[])∧OutM w' base g (bs ++ l)∧Below base w w'∧Kept8 g w w':=by
 have hs:g<w.heap.size:=(Array.getElem?_eq_some_iff.1 h1).1
 obtain ⟨i0,hi,hz0,hz1,hz2⟩:=info_of8
 have x0:w.cell? ⟨g,0,none⟩=some (.slice (some ⟨r,0,none⟩) bs.length bs.length):=by simp [World.cell?,h1]
 have H1:=Lib.hid h1
 have HR:=Lib.hid hr
 have HC:=Lib.hid hc
 clear h1 hr hc
 go_enter Tryz.func36,Tryz.ntmps36
 go_wp2_with (at_builtin;refine wpList_append_grows w rfl (.tmp 3) (.tmp 4) 25 rfl 5 i0 (.int .u8 0) 1 1 Tryz.underlying25 hi hz0 hz1 hz2 rfl (by decide) (some ⟨r,0,none⟩) bs.length bs.length (bs.flatMap byc) rfl (fun h=>by cases h) (by rw [flat_len byc_len]) (fun b hb=>by cases hb;exact HR.out) ad l.length c (l.flatMap byc) rfl (by rw [flat_len byc_len]) HC.out (flat_one byc_one _) (by omega) (by unfold maxLen;omega) (by omega) ?_;intro v3 w3 hown3 hgrow3;obtain ⟨r3,c3,rfl⟩:=own_form hown3;have hg3:=(hgrow3.block g hs (fun e=>by cases e)).trans H1.out;have y0:w3.frozen? ⟨g,0,none⟩=false:=(by simp [World.frozen?,hg3]);have y1:w3.cell? ⟨g,0,none⟩=some (.slice (some ⟨r,0,none⟩) bs.length bs.length):=(by simp [World.cell?,hg3]);have hs3:g<w3.heap.size:=(Array.getElem?_eq_some_iff.1 hg3).1;have HO:=Lib.hid hown3;have HG:=Lib.hid hgrow3;have HG3:=Lib.hid hg3;clear hown3 hgrow3 hg3)
 go_end0
 have ho:w3.ownsRow base 5 1 _ _ _:=ownsRow_le8 HO.out hb
 refine ⟨rfl,⟨h0,_,setBox HG3.out _,?_,.inr (own_type ho HG3.out (by decide))⟩,?_⟩
 ·rw [List.length_append,List.flatMap_append]
  exact ho.kept (set_grown w3 ⟨g,0,none⟩ _) (.inr (own_type ho HG3.out (by decide)))
 ·refine ⟨⟨HG.out.os,HG.out.tape,HG.out.output,?_,fun k hk=>?_⟩,⟨HG.out.os,HG.out.tape,HG.out.output,?_,fun k hk hkg h8=>?_⟩⟩
  ·simpa using HG.out.size
  ·rw [heap_setCell_other w3 ⟨g,0,none⟩ k _ (by show k≠g;omega)]
   exact HG.out.block k (Nat.lt_of_lt_of_le hk hb) (fun e=>by cases e)
  ·simpa using HG.out.size
  ·rw [heap_setCell_other w3 ⟨g,0,none⟩ k _ hkg]
   exact HG.out.block k hk (fun e=>by cases e)
theorem QBox.kept {w w':World} {b g:Nat} {cs:List Value} {T:TypeId} (h:QBox w b cs T) (hk:Kept8 g w w') (hb:b≠g) (hT:T≠5):QBox w' b cs T :=
 (hk.block b h.size hb (fun cs' p e=>by
  have h':w.heap[b]?=some (.cells cs.toArray T (0,0)):=h
  rw [h'] at e
  injection e with e
  injection e with _ e2
  exact hT e2)).trans h
theorem add_cn {base g:Nat} {bs l:List Nat} {w:World} {n:Nat} (h:OutM w base g bs) (hn:l.length=n) (ad:Addr) (c:Nat) (hc:∀ j u,(l.flatMap byc)[j]?=some u→w.cell? (ad.add j)=some u) (hb:base≤w.heap.size) (hm:bs.length+n≤1000000000) :
 Calls Tryz.prog 36 #[.slice (some ad) n c,.pointer (some ⟨g,0,none⟩)] w fun e w'=>e = .returned (.tuple #[])∧OutM w' base g (bs ++ l)∧Below base w w'∧Kept8 g w w':=by
 subst hn
 exact add_c h ad c hc hb hm
structure EM (w W:World) (X:Nat) (cs:List Value) (bs:List Nat):Prop where
 x:X=w.heap.size
 below:Below X w W
 box:QBox W X cs 41
 out:OutM W X (X+1+1) bs
theorem EM.stay {w W W':World} {X:Nat} {cs:List Value} {bs:List Nat} (h:EM w W X cs bs) (hb:Below W.heap.size W W'):EM w W' X cs bs :=
 ⟨h.x,h.below.trans (hb.mono (Nat.le_of_lt h.box.size)),h.box.stay hb,h.out.stay hb⟩
theorem EM.add {w W W':World} {X:Nat} {cs:List Value} {bs bs':List Nat} (h:EM w W X cs bs) (ho:OutM W' X (X+1+1) bs') (hb:Below X W W') (hk:Kept8 (X+1+1) W W'):EM w W' X cs bs' :=
 ⟨h.x,h.below.trans hb,h.box.kept hk (by omega) (by decide),ho⟩
theorem start8 (w:World) (cs:List Value) (T:TypeId) :
 QBox (((w.alloc (.cells cs.toArray T)).alloc (.cells #[.int .u8 84,.int .u8 82,.int .u8 80,.int .u8 49] 5 (4,5))).alloc (.cells #[.slice (some ⟨w.heap.size+1,0,none⟩) 4 4] 25)) w.heap.size cs T ∧
 (((w.alloc (.cells cs.toArray T)).alloc (.cells #[.int .u8 84,.int .u8 82,.int .u8 80,.int .u8 49] 5 (4,5))).alloc (.cells #[.slice (some ⟨w.heap.size+1,0,none⟩) 4 4] 25)).heap[w.heap.size+1+1]?=some (.cells #[.slice (some ⟨w.heap.size+1,0,none⟩) 4 4] 25 (0,0)) ∧
 (∀ j u,(([84,82,80,49]:List Nat).flatMap byc)[j]?=some u→(((w.alloc (.cells cs.toArray T)).alloc (.cells #[.int .u8 84,.int .u8 82,.int .u8 80,.int .u8 49] 5 (4,5))).alloc (.cells #[.slice (some ⟨w.heap.size+1,0,none⟩) 4 4] 25)).cell? ((⟨w.heap.size+1,0,none⟩:Addr).add j)=some u) ∧
 Below w.heap.size w (((w.alloc (.cells cs.toArray T)).alloc (.cells #[.int .u8 84,.int .u8 82,.int .u8 80,.int .u8 49] 5 (4,5))).alloc (.cells #[.slice (some ⟨w.heap.size+1,0,none⟩) 4 4] 25)):=by
 have h1:(w.alloc (.cells cs.toArray T)).heap.size=w.heap.size+1:=by simp
 have h2:((w.alloc (.cells cs.toArray T)).alloc (.cells #[.int .u8 84,.int .u8 82,.int .u8 80,.int .u8 49] 5 (4,5))).heap.size=w.heap.size+1+1:=by simp
 refine ⟨?_,?_,?_,?_⟩
 ·unfold QBox
  rw [heap_alloc_old _ _ (by rw [h2];omega),heap_alloc_old _ _ (by rw [h1];omega)]
  exact heap_alloc_new w _
 ·have h:=heap_alloc_new ((w.alloc (.cells cs.toArray T)).alloc (.cells #[.int .u8 84,.int .u8 82,.int .u8 80,.int .u8 49] 5 (4,5))) (.cells #[.slice (some ⟨w.heap.size+1,0,none⟩) 4 4] 25)
  rw [h2] at h
  exact h
 ·intro j u hu
  have h:=heap_alloc_new (w.alloc (.cells cs.toArray T)) (.cells #[.int .u8 84,.int .u8 82,.int .u8 80,.int .u8 49] 5 (4,5))
  rw [h1] at h
  have h':=(heap_alloc_old ((w.alloc (.cells cs.toArray T)).alloc (.cells #[.int .u8 84,.int .u8 82,.int .u8 80,.int .u8 49] 5 (4,5))) (.cells #[.slice (some ⟨w.heap.size+1,0,none⟩) 4 4] 25) (show w.heap.size+1<_ by rw [h2];omega)).trans h
  have hadd:(⟨w.heap.size+1,0,none⟩:Addr).add j=⟨w.heap.size+1,j,none⟩:=by unfold Addr.add;split <;> simp_all
  rw [hadd,Joins.cell_of_block h' j]
  show (([.int .u8 84,.int .u8 82,.int .u8 80,.int .u8 49]:List Value).toArray)[j]?=some u
  rw [List.getElem?_toArray]
  exact hu
 ·exact (((Below.refl w.heap.size w).alloc (Nat.le_refl _) _).alloc (by omega) _).alloc (by omega) _
theorem lencode_c (vC vU vS vJ:Value) (f:Fr) (vs:List Jm) (w:World) (hF:FrM f vC vU vS w) (hJ:JRow w vJ vs) (hok:OkBw (bdOf f (vs.map jOf))) :
 Calls Tryz.prog 15 #[bkV vC vU vS f.E vJ] w fun e w'=>∃ v',e = .returned v'∧w'.ownsRow w.heap.size 5 1 v' (encB f (vs.map jOf)).length ((encB f (vs.map jOf)).flatMap byc)∧Below w.heap.size w w':=by
 have HF:=Lib.hid hF
 have HJ:=Lib.hid hJ
 have HOK:=Lib.hid hok
 obtain ⟨rC,cC,rfl,mC⟩:=hF.c.form
 obtain ⟨rU,cU,rfl,mU⟩:=hF.u.form
 obtain ⟨rS,cS,rfl,mS⟩:=hF.s.form
 obtain ⟨rJ,cJ,rfl,mJ⟩:=hJ.1.form
 unfold bkV
 have hcv:=Joins.run_convert_bytes_const_at (P:=Tryz.prog) (w.alloc (.cells #[.slice rC f.C.length cC,.slice rU f.U.length cU,.slice rS f.S.length cS,.int .i32 f.E,.slice rJ vs.length cJ] 41)) 25 5 #[.int .u8 84,.int .u8 82,.int .u8 80,.int .u8 49] 4 4 (w.heap.size+1) (by simp) rfl rfl
 obtain ⟨LC,hLC⟩:∃ n,f.C.length=n:=⟨_,rfl⟩
 obtain ⟨LU,hLU⟩:∃ n,f.U.length=n:=⟨_,rfl⟩
 obtain ⟨LS,hLS⟩:∃ n,f.S.length=n:=⟨_,rfl⟩
 obtain ⟨LJ,hLJ⟩:∃ n,vs.length=n:=⟨_,rfl⟩
 have b1:LC≤300:=by have:=hok.1.1;have e:(bdOf f (vs.map jOf)).1.length=f.C.length:=rfl;omega
 have b2:LU≤100:=by have:=hok.2.1.1;have e:(bdOf f (vs.map jOf)).2.1.length=f.U.length:=rfl;omega
 have b3:LS≤100:=by have:=hok.2.2.1.1;have e:(bdOf f (vs.map jOf)).2.2.1.length=f.S.length:=rfl;omega
 have b4:LJ≤2000:=by have:=hok.2.2.2.2.1;have e:(bdOf f (vs.map jOf)).2.2.2.2.length=vs.length:=List.length_map ..;omega
 rw [hLC] at HF mC hcv
 rw [hLU] at HF mU hcv
 rw [hLS] at HF mS hcv
 rw [hLJ] at HJ mJ hcv
 rw [hLC,hLU,hLS,hLJ]
 have HLC:=Lib.hid hLC
 have HLU:=Lib.hid hLU
 have HLS:=Lib.hid hLS
 have HLJ:=Lib.hid hLJ
 clear hF hJ hok hLC hLU hLS hLJ
 go_enter Tryz.func15,Tryz.ntmps15
 go_upto_region 3 with fail
 obtain ⟨s1,s2,s3,s4⟩:=start8 w [.slice rC LC cC,.slice rU LU cU,.slice rS LS cS,.int .i32 f.E,.slice rJ LJ cJ] 41
 clear hcv
 change QBox (((w.alloc (.cells #[.slice rC LC cC,.slice rU LU cU,.slice rS LS cS,.int .i32 f.E,.slice rJ LJ cJ] 41)).alloc _).alloc _) _ _ _ at s1
 generalize ((w.alloc (.cells #[.slice rC LC cC,.slice rU LU cU,.slice rS LS cS,.int .i32 f.E,.slice rJ LJ cJ] 41)).alloc (.cells #[.int .u8 84,.int .u8 82,.int .u8 80,.int .u8 49] 5 (4,5))).alloc (.cells #[.slice (some ⟨w.heap.size+1,0,none⟩) 4 4] 25)=W at s1 s2 s3 s4 ⊢
 obtain ⟨X,hX⟩:∃ X,w.heap.size=X:=⟨_,rfl⟩
 rw [hX] at s1 s2 s3 s4 ⊢
 have x0:=s1.cell (j:=0) rfl
 have u0:IntKind.u64.wrap (LC:Int)=(LC:Int):=by rw [IntKind.wrap_u64];omega
 have S1:=Lib.hid s1
 have S2:=Lib.hid s2
 have S3:=Lib.hid s3
 have S4:=Lib.hid s4
 have HX:=Lib.hid hX
 clear s1 s2 s3 s4 hX
 go_upto_region 4 with (first
  | (go_at_call 37;refine (num11_c LC _ (by omega)).mono ?_;rintro e w2 ⟨v2,rfl,o2,h2⟩;obtain ⟨g2,c2,rfl⟩:=own_some o2 (numB_pos _);have HC2:=Lib.hid (o2.cells (g:=g2) rfl);have H2:=Lib.hid h2;clear o2 h2)
  | (go_at_call 36;refine (add0_c (base:=X) (g:=X+1+1) (r:=X+1) (bs:=[84,82,80,49]) (by omega) ((H2.out.block _ (Array.getElem?_eq_some_iff.1 S2.out).1).trans S2.out) (numB_pos _) (fun j u hu=>(H2.out.cell (World.block_lt_of_cell? _ _ (S3.out j u hu))).trans (S3.out j u hu)) ⟨g2,0,none⟩ c2 HC2.out (by have:=S4.out.size;have:=H2.out.size;have:=HX.out;omega) (by have:=numB_len10 (n:=LC) (by omega);simp;omega)).mono ?_;rintro e w3 ⟨rfl,hO3,hB3,hK3⟩;have HE:=Lib.hid (EM.mk HX.out.symm (S4.out.trans ((H2.out.mono (Nat.le_of_lt S1.out.size)).trans hB3)) ((S1.out.stay H2.out).kept hK3 (by omega) (by decide)) hO3:EM w w3 X _ _);clear hO3 hB3 hK3))
 have HL:=Lib.hid (show (([84,82,80,49]:List Nat) ++ numB LC).length≤14 by have:=numB_len10 (n:=LC) (by omega);simp;omega)
 obtain ⟨bs,hbs⟩:∃ b,([84,82,80,49]:List Nat) ++ numB LC=b:=⟨_,rfl⟩
 rw [hbs] at HE HL
 have HB:=Lib.hid hbs
 clear hbs
 rename World=>w3
 have x0:=HE.out.box.cell (j:=0) rfl
 clear S1 S2 S3 S4 HC2 H2
 go_upto_region 5 with fail
 clear x0
 go_loopw [30] (fun i wx=>∃ (k:Nat) (bs:List Nat),i = .int .i64 (k:Int)∧k≤LC∧Hid (EM w wx X [.slice rC LC cC,.slice rU LU cU,.slice rS LS cS,.int .i32 f.E,.slice rJ LJ cJ] bs)∧Hid (bs=[84,82,80,49] ++ numB LC ++ (f.C.take k).flatMap encA)∧Hid (bs.length≤14+70 * k)) (fun i _=>LC-(intOf i).toNat)
 case atStart=>exact ⟨0,bs,rfl,Nat.zero_le _,HE,Lib.hid (by rw [← HB.out];simp),HL⟩
 case round =>
  clear HE HL HB
  obtain ⟨k,bs,rfl,hk,HE,HB,HL⟩:=hrel
  rename World=>wr
  by_cases hlt:k<LC
  ·obtain ⟨x,hx⟩:∃ x,f.C[k]?=some x:=⟨f.C[k]'(by have:=HLC.out;omega),List.getElem?_eq_getElem (by have:=HLC.out;omega)⟩
   obtain ⟨hx1,hx2,hx3,hx4⟩:=HOK.out.1.2 x (List.mem_of_getElem? hx)
   obtain ⟨gC,oC,rfl,hgC,hcC⟩:=(HF.out.stay (HE.out.x ▸ HE.out.below)).c.at hx
   have y0:=hcC 0 (.int .u32 (x.code:Int)) rfl
   have y1:=hcC 1 (.string x.name) rfl
   have y2:=hcC 2 (.int .u8 (x.kind:Int)) rfl
   have y3:=hcC 3 (.int .u32 (x.par:Int)) rfl
   simp only [Nat.add_zero] at y0
   clear hcC
   have t1:decide ((k:Int)<(LC:Int))=true:=decide_eq_true (by omega)
   have u1:IntKind.u64.wrap (x.code:Int)=(x.code:Int):=by rw [IntKind.wrap_u64];omega
   have u2:IntKind.u64.wrap (x.name.size:Int)=(x.name.size:Int):=by rw [IntKind.wrap_u64];omega
   have u3:IntKind.u64.wrap (x.kind:Int)=(x.kind:Int):=by rw [IntKind.wrap_u64];omega
   have u4:IntKind.u64.wrap (x.par:Int)=(x.par:Int):=by rw [IntKind.wrap_u64];omega
   go_upto_region 7 with fail
   have hne:X+1+1<wr.heap.size:=HE.out.out.size
   have HQ:=Lib.hid (QBox.new wr [.int .u32 (x.code:Int),.string x.name,.int .u8 (x.kind:Int),.int .u32 (x.par:Int)] 76)
   have HE1:=Lib.hid (HE.out.stay ((Below.refl wr.heap.size wr).alloc (Nat.le_refl _) (.cells #[.int .u32 (x.code:Int),.string x.name,.int .u8 (x.kind:Int),.int .u32 (x.par:Int)] 76)))
   have HQ':Hid (QBox (wr.alloc (.cells #[.int .u32 (x.code:Int),.string x.name,.int .u8 (x.kind:Int),.int .u32 (x.par:Int)] 76)) wr.heap.size [.int .u32 (x.code:Int),.string x.name,.int .u8 (x.kind:Int),.int .u32 (x.par:Int)] 76):=HQ
   clear HE HQ y0 y1 y2 y3
   have HE:=HE1
   have HQ:=HQ'
   clear HE1 HQ'
   obtain ⟨V,hV⟩:∃ V,wr.heap.size=V:=⟨_,rfl⟩
   rw [hV] at HQ hne ⊢
   generalize wr.alloc (.cells #[.int .u32 (x.code:Int),.string x.name,.int .u8 (x.kind:Int),.int .u32 (x.par:Int)] 76)=w6 at HE HQ ⊢
   have y0:=HQ.out.cell (j:=0) rfl
   go_upto_region 8 with (first
    | (go_at_call 37;refine (num11_c x.code _ (by omega)).mono ?_;rintro e w2 ⟨v2,rfl,o2,h2⟩;obtain ⟨g2,c2,rfl⟩:=own_some o2 (numB_pos _);have HC2:=Lib.hid (o2.cells (g:=g2) rfl);have HE2:=Lib.hid (HE.out.stay h2);have HQ2:=Lib.hid (HQ.out.stay h2);clear o2 h2)
    | (go_at_call 36;refine (add_c HE2.out.out ⟨g2,0,none⟩ c2 HC2.out (Nat.le_of_lt HE2.out.box.size) (by have:=numB_len10 (n:=x.code) (by omega);have:=HL.out;omega)).mono ?_;rintro e w3 ⟨rfl,hO3,hB3,hK3⟩;have HE3:=Lib.hid (HE2.out.add hO3 hB3 hK3);have HQ3:=Lib.hid (HQ2.out.kept hK3 (by omega) (by decide));clear hO3 hB3 hK3))
   have HL3:=Lib.hid (Nat.le_trans (Nat.le_of_eq List.length_append) (Nat.add_le_add HL.out (numB_len10 (n:=x.code) (by omega))))
   clear HE HQ HL HE2 HQ2 HC2
   have HE:=HE3
   have HQ:=HQ3
   have HL:=HL3
   clear HE3 HQ3 HL3
   have y1:=HQ.out.cell (j:=1) rfl
   clear y0
   go_upto_region 9 with (first
    | (go_at_call 37;refine (num11_c x.name.size _ (by omega)).mono ?_;rintro e w2 ⟨v2,rfl,o2,h2⟩;obtain ⟨g2,c2,rfl⟩:=own_some o2 (numB_pos _);have HC2:=Lib.hid (o2.cells (g:=g2) rfl);have HE2:=Lib.hid (HE.out.stay h2);have HQ2:=Lib.hid (HQ.out.stay h2);clear o2 h2)
    | (go_at_call 36;refine (add_c HE2.out.out ⟨g2,0,none⟩ c2 HC2.out (Nat.le_of_lt HE2.out.box.size) (by have:=numB_len10 (n:=x.name.size) (by omega);have:=HL.out;omega)).mono ?_;rintro e w3 ⟨rfl,hO3,hB3,hK3⟩;have HE3:=Lib.hid (HE2.out.add hO3 hB3 hK3);have HQ3:=Lib.hid (HQ2.out.kept hK3 (by omega) (by decide));clear hO3 hB3 hK3))
   have HL3:=Lib.hid (Nat.le_trans (Nat.le_of_eq List.length_append) (Nat.add_le_add HL.out (numB_len10 (n:=x.name.size) (by omega))))
   clear HE HQ HL HE2 HQ2 HC2
   have HE:=HE3
   have HQ:=HQ3
   have HL:=HL3
   clear HE3 HQ3 HL3
   have y1:=HQ.out.cell (j:=1) rfl
   have hcv:=Lib.run_convert_string_bytes (P:=Tryz.prog) w3 9 25 5 x.name rfl rfl rfl
   obtain ⟨hbn,hcn⟩:=bytes_new w3 x.name
   have HE2:=Lib.hid (HE.out.stay hbn)
   have HQ2:=Lib.hid (HQ.out.stay hbn)
   have HCN:=Lib.hid hcn
   have hnl:(nameL x.name).length=x.name.size:=by simp [nameL]
   clear hbn hcn
   go_upto_region 10 with (go_at_call 36;refine (add_cn (l:=nameL x.name) HE2.out.out hnl ⟨_,0,none⟩ _ HCN.out (Nat.le_of_lt HE2.out.box.size) (by have:=HL.out;omega)).mono ?_;rintro e w3 ⟨rfl,hO3,hB3,hK3⟩;have HE3:=Lib.hid (HE2.out.add hO3 hB3 hK3);have HQ3:=Lib.hid (HQ2.out.kept hK3 (by omega) (by decide));clear hO3 hB3 hK3)
   have HL3:=Lib.hid (Nat.le_trans (Nat.le_of_eq List.length_append) (Nat.add_le_add HL.out (show (nameL x.name).length≤30 by omega)))
   clear HE HQ HL HE2 HQ2 HCN hcv
   have HE:=HE3
   have HQ:=HQ3
   have HL:=HL3
   clear HE3 HQ3 HL3 y1
   have y2:=HQ.out.cell (j:=2) rfl
   go_upto_region 11 with (first
    | (go_at_call 37;refine (num11_c x.kind _ (by omega)).mono ?_;rintro e w2 ⟨v2,rfl,o2,h2⟩;obtain ⟨g2,c2,rfl⟩:=own_some o2 (numB_pos _);have HC2:=Lib.hid (o2.cells (g:=g2) rfl);have HE2:=Lib.hid (HE.out.stay h2);have HQ2:=Lib.hid (HQ.out.stay h2);clear o2 h2)
    | (go_at_call 36;refine (add_c HE2.out.out ⟨g2,0,none⟩ c2 HC2.out (Nat.le_of_lt HE2.out.box.size) (by have:=numB_len10 (n:=x.kind) (by omega);have:=HL.out;omega)).mono ?_;rintro e w3 ⟨rfl,hO3,hB3,hK3⟩;have HE3:=Lib.hid (HE2.out.add hO3 hB3 hK3);have HQ3:=Lib.hid (HQ2.out.kept hK3 (by omega) (by decide));clear hO3 hB3 hK3))
   have HL3:=Lib.hid (Nat.le_trans (Nat.le_of_eq List.length_append) (Nat.add_le_add HL.out (numB_len10 (n:=x.kind) (by omega))))
   clear HE HQ HL HE2 HQ2 HC2
   have HE:=HE3
   have HQ:=HQ3
   have HL:=HL3
   clear HE3 HQ3 HL3
   have y3:=HQ.out.cell (j:=3) rfl
   clear y2
   go_upto_region 12 with (first
    | (go_at_call 37;refine (num11_c x.par _ (by omega)).mono ?_;rintro e w2 ⟨v2,rfl,o2,h2⟩;obtain ⟨g2,c2,rfl⟩:=own_some o2 (numB_pos _);have HC2:=Lib.hid (o2.cells (g:=g2) rfl);have HE2:=Lib.hid (HE.out.stay h2);have HQ2:=Lib.hid (HQ.out.stay h2);clear o2 h2)
    | (go_at_call 36;refine (add_c HE2.out.out ⟨g2,0,none⟩ c2 HC2.out (Nat.le_of_lt HE2.out.box.size) (by have:=numB_len10 (n:=x.par) (by omega);have:=HL.out;omega)).mono ?_;rintro e w3 ⟨rfl,hO3,hB3,hK3⟩;have HE3:=Lib.hid (HE2.out.add hO3 hB3 hK3);have HQ3:=Lib.hid (HQ2.out.kept hK3 (by omega) (by decide));clear hO3 hB3 hK3))
   have HL3:=Lib.hid (Nat.le_trans (Nat.le_of_eq List.length_append) (Nat.add_le_add HL.out (numB_len10 (n:=x.par) (by omega))))
   clear HE HQ HL HE2 HQ2 HC2
   have HE:=HE3
   have HQ:=HQ3
   have HL:=HL3
   clear HE3 HQ3 HL3
   have t2:IntKind.i64.wrap ((k:Int)+1)=((k+1:Nat):Int):=by rw [IntKind.wrap_i64];omega
   go_wp2_with fail
   go_round
   case rel =>
    refine ⟨k+1,_,rfl,by omega,HE,Lib.hid ?_,Lib.hid ?_⟩
    ·rw [HB.out,List.take_add_one,hx,Option.toList_some,List.flatMap_append,List.flatMap_cons,List.flatMap_nil]
     unfold encA encN
     simp only [List.append_assoc,List.append_nil]
    ·have:=HL.out
     omega
   case measure =>
    show LC-((k:Int)+1).toNat<LC-((k:Int)).toNat
    omega
  obtain rfl:LC=k:=by omega
  have t1:decide ((LC:Int)<(LC:Int))=false:=decide_eq_false (by omega)
  have hb1:bs=[84,82,80,49] ++ numB LC ++ f.C.flatMap encA:=by rw [HB.out,List.take_of_length_le (Nat.le_of_eq HLC.out)]
  have HB1:=Lib.hid hb1
  have HL1:=Lib.hid (show bs.length≤21014 by have:=HL.out;omega)
  clear HB HL hb1
  have HL:=HL1
  clear HL1
  have x1:=HE.out.box.cell (j:=1) rfl
  have u1:IntKind.u64.wrap (LU:Int)=(LU:Int):=by rw [IntKind.wrap_u64];omega
  go_upto_region 14 with (first
   | (go_at_call 37;refine (num11_c LU _ (by omega)).mono ?_;rintro e w2 ⟨v2,rfl,o2,h2⟩;obtain ⟨g2,c2,rfl⟩:=own_some o2 (numB_pos _);have HC2:=Lib.hid (o2.cells (g:=g2) rfl);have HE2:=Lib.hid (HE.out.stay h2);clear o2 h2)
   | (go_at_call 36;refine (add_c HE2.out.out ⟨g2,0,none⟩ c2 HC2.out (Nat.le_of_lt HE2.out.box.size) (Nat.le_trans (Nat.add_le_add HL.out (numB_len10 (n:=LU) (by omega))) (by omega))).mono ?_;rintro e w3 ⟨rfl,hO3,hB3,hK3⟩;have HE3:=Lib.hid (HE2.out.add hO3 hB3 hK3);clear hO3 hB3 hK3))
  have HL3:=Lib.hid (Nat.le_trans (Nat.le_of_eq List.length_append) (Nat.add_le_add HL.out (numB_len10 (n:=LU) (by omega))))
  clear HE HL HE2 HC2
  have HE:=HE3
  have HL:=HL3
  clear HE3 HL3
  obtain ⟨bs1,hbs1⟩:∃ b,bs ++ numB LU=b:=⟨_,rfl⟩
  rw [hbs1] at HE HL
  have HB2:=Lib.hid hbs1
  clear hbs1 x1
  have x1:=HE.out.box.cell (j:=1) rfl
  go_upto_region 15 with fail
  clear x1
  go_loopw [77] (fun i wx=>∃ (k:Nat) (bs:List Nat),i = .int .i64 (k:Int)∧k≤LU∧Hid (EM w wx X [.slice rC LC cC,.slice rU LU cU,.slice rS LS cS,.int .i32 f.E,.slice rJ LJ cJ] bs)∧Hid (bs=bs1 ++ (f.U.take k).flatMap numB)∧Hid (bs.length≤21024+10 * k)) (fun i _=>LU-(intOf i).toNat)
  case atStart=>exact ⟨0,bs1,rfl,Nat.zero_le _,HE,Lib.hid (by simp),HL⟩
  case round =>
   clear HE HL
   obtain ⟨k,bs,rfl,hk,HE,HB,HL⟩:=hrel
   rename World=>wr
   by_cases hlt:k<LU
   ·obtain ⟨x,hx⟩:∃ x,f.U[k]?=some x:=⟨f.U[k]'(by have:=HLU.out;omega),List.getElem?_eq_getElem (by have:=HLU.out;omega)⟩
    have hx1:x≤65535:=HOK.out.2.1.2 x (List.mem_of_getElem? hx)
    obtain ⟨gU,oU,rfl,hgU,hcU⟩:=(HF.out.stay (HE.out.x ▸ HE.out.below)).u.at hx
    have y0:=hcU 0 (.int .u16 (x:Int)) rfl
    simp only [Nat.add_zero,Nat.mul_one] at y0
    clear hcU
    have t1:decide ((k:Int)<(LU:Int))=true:=decide_eq_true (by omega)
    have u1:IntKind.u64.wrap (x:Int)=(x:Int):=by rw [IntKind.wrap_u64];omega
    go_upto_region 17 with fail
    clear y0
    go_upto_region 18 with (first
     | (go_at_call 37;refine (num11_c x _ (by omega)).mono ?_;rintro e w2 ⟨v2,rfl,o2,h2⟩;obtain ⟨g2,c2,rfl⟩:=own_some o2 (numB_pos _);have HC2:=Lib.hid (o2.cells (g:=g2) rfl);have HE2:=Lib.hid (HE.out.stay h2);clear o2 h2)
     | (go_at_call 36;refine (add_c HE2.out.out ⟨g2,0,none⟩ c2 HC2.out (Nat.le_of_lt HE2.out.box.size) (Nat.le_trans (Nat.add_le_add HL.out (numB_len10 (n:=x) (by omega))) (by omega))).mono ?_;rintro e w3 ⟨rfl,hO3,hB3,hK3⟩;have HE3:=Lib.hid (HE2.out.add hO3 hB3 hK3);clear hO3 hB3 hK3))
    have HL3:=Lib.hid (Nat.le_trans (Nat.le_of_eq List.length_append) (Nat.add_le_add HL.out (numB_len10 (n:=x) (by omega))))
    clear HE HL HE2 HC2
    have HE:=HE3
    have HL:=HL3
    clear HE3 HL3
    have t2:IntKind.i64.wrap ((k:Int)+1)=((k+1:Nat):Int):=by rw [IntKind.wrap_i64];omega
    go_wp2_with fail
    go_round
    case rel =>
     refine ⟨k+1,_,rfl,by omega,HE,Lib.hid ?_,Lib.hid ?_⟩
     ·rw [HB.out,List.take_add_one,hx,Option.toList_some,List.flatMap_append,List.flatMap_cons,List.flatMap_nil]
      simp only [List.append_assoc,List.append_nil]
     ·have:=HL.out
      omega
    case measure =>
     show LU-((k:Int)+1).toNat<LU-((k:Int)).toNat
     omega
   obtain rfl:LU=k:=by omega
   have t1:decide ((LU:Int)<(LU:Int))=false:=decide_eq_false (by omega)
   have hb1:bs=bs1 ++ f.U.flatMap numB:=by rw [HB.out,List.take_of_length_le (Nat.le_of_eq HLU.out)]
   have HB3:=Lib.hid hb1
   have HL1:=Lib.hid (show bs.length≤22024 by have:=HL.out;omega)
   clear HB HL hb1
   have HL:=HL1
   clear HL1
   have x2:=HE.out.box.cell (j:=2) rfl
   have u2:IntKind.u64.wrap (LS:Int)=(LS:Int):=by rw [IntKind.wrap_u64];omega
   go_upto_region 20 with (first
    | (go_at_call 37;refine (num11_c LS _ (by omega)).mono ?_;rintro e w2 ⟨v2,rfl,o2,h2⟩;obtain ⟨g2,c2,rfl⟩:=own_some o2 (numB_pos _);have HC2:=Lib.hid (o2.cells (g:=g2) rfl);have HE2:=Lib.hid (HE.out.stay h2);clear o2 h2)
    | (go_at_call 36;refine (add_c HE2.out.out ⟨g2,0,none⟩ c2 HC2.out (Nat.le_of_lt HE2.out.box.size) (Nat.le_trans (Nat.add_le_add HL.out (numB_len10 (n:=LS) (by omega))) (by omega))).mono ?_;rintro e w3 ⟨rfl,hO3,hB3,hK3⟩;have HE3:=Lib.hid (HE2.out.add hO3 hB3 hK3);clear hO3 hB3 hK3))
   have HL3:=Lib.hid (Nat.le_trans (Nat.le_of_eq List.length_append) (Nat.add_le_add HL.out (numB_len10 (n:=LS) (by omega))))
   clear HE HL HE2 HC2
   have HE:=HE3
   have HL:=HL3
   clear HE3 HL3
   obtain ⟨bs2,hbs2⟩:∃ b,bs ++ numB LS=b:=⟨_,rfl⟩
   rw [hbs2] at HE HL
   have HB4:=Lib.hid hbs2
   clear hbs2 x2
   have x2:=HE.out.box.cell (j:=2) rfl
   go_upto_region 21 with fail
   clear x2
   go_loopw [101] (fun i wx=>∃ (k:Nat) (bs:List Nat),i = .int .i64 (k:Int)∧k≤LS∧Hid (EM w wx X [.slice rC LC cC,.slice rU LU cU,.slice rS LS cS,.int .i32 f.E,.slice rJ LJ cJ] bs)∧Hid (bs=bs2 ++ (f.S.take k).flatMap sigB)∧Hid (bs.length≤22034+10 * k)) (fun i _=>LS-(intOf i).toNat)
   case atStart=>exact ⟨0,bs2,rfl,Nat.zero_le _,HE,Lib.hid (by simp),HL⟩
   case round =>
    clear HE HL
    obtain ⟨k,bs,rfl,hk,HE,HB,HL⟩:=hrel
    rename World=>wr
    by_cases hlt:k<LS
    ·obtain ⟨x,hx⟩:∃ x,f.S[k]?=some x:=⟨f.S[k]'(by have:=HLS.out;omega),List.getElem?_eq_getElem (by have:=HLS.out;omega)⟩
     have hx1 : -2147483648≤x∧x≤2147483647:=HOK.out.2.2.1.2 x (List.mem_of_getElem? hx)
     obtain ⟨gS,oS,rfl,hgS,hcS⟩:=(HF.out.stay (HE.out.x ▸ HE.out.below)).s.at hx
     have y0:=hcS 0 (.int .i32 x) rfl
     simp only [Nat.add_zero,Nat.mul_one] at y0
     clear hcS
     have t1:decide ((k:Int)<(LS:Int))=true:=decide_eq_true (by omega)
     have u1:IntKind.i64.wrap x=x:=by rw [IntKind.wrap_i64];omega
     go_upto_region 23 with fail
     clear y0
     go_upto_region 24 with (first
      | (go_at_call 38;refine (signed11_c x _ (by omega)).mono ?_;rintro e w2 ⟨v2,rfl,o2,h2⟩;obtain ⟨g2,c2,rfl⟩:=own_some o2 (numB_pos (sigN x));have HC2:=Lib.hid (o2.cells (g:=g2) rfl);have HE2:=Lib.hid (HE.out.stay h2);clear o2 h2)
      | (go_at_call 36;refine (add_c HE2.out.out ⟨g2,0,none⟩ c2 HC2.out (Nat.le_of_lt HE2.out.box.size) (Nat.le_trans (Nat.add_le_add HL.out (show (sigB x).length≤10 from numB_len10 (n:=sigN x) (sigN_lt (by omega)))) (by omega))).mono ?_;rintro e w3 ⟨rfl,hO3,hB3,hK3⟩;have HE3:=Lib.hid (HE2.out.add hO3 hB3 hK3);clear hO3 hB3 hK3))
     have HL3:=Lib.hid (Nat.le_trans (Nat.le_of_eq List.length_append) (Nat.add_le_add HL.out (show (sigB x).length≤10 from numB_len10 (n:=sigN x) (sigN_lt (by omega)))))
     clear HE HL HE2 HC2
     have HE:=HE3
     have HL:=HL3
     clear HE3 HL3
     have t2:IntKind.i64.wrap ((k:Int)+1)=((k+1:Nat):Int):=by rw [IntKind.wrap_i64];omega
     go_wp2_with fail
     go_round
     case rel =>
      refine ⟨k+1,_,rfl,by omega,HE,Lib.hid ?_,Lib.hid ?_⟩
      ·rw [HB.out,List.take_add_one,hx,Option.toList_some,List.flatMap_append,List.flatMap_cons,List.flatMap_nil]
       simp only [List.append_assoc,List.append_nil]
      ·have:=HL.out
       omega
     case measure =>
      show LS-((k:Int)+1).toNat<LS-((k:Int)).toNat
      omega
    obtain rfl:LS=k:=by omega
    have t1:decide ((LS:Int)<(LS:Int))=false:=decide_eq_false (by omega)
    have hb1:bs=bs2 ++ f.S.flatMap sigB:=by rw [HB.out,List.take_of_length_le (Nat.le_of_eq HLS.out)]
    have HB5:=Lib.hid hb1
    have HL1:=Lib.hid (show bs.length≤23034 by have:=HL.out;omega)
    clear HB HL hb1
    have HL:=HL1
    clear HL1
    have hE : -2147483648≤f.E∧f.E≤2147483647:=HOK.out.2.2.2.1
    have x3:=HE.out.box.cell (j:=3) rfl
    have u2:IntKind.i64.wrap f.E=f.E:=by rw [IntKind.wrap_i64];omega
    go_upto_region 26 with (first
     | (go_at_call 38;refine (signed11_c f.E _ (by omega)).mono ?_;rintro e w2 ⟨v2,rfl,o2,h2⟩;obtain ⟨g2,c2,rfl⟩:=own_some o2 (numB_pos (sigN f.E));have HC2:=Lib.hid (o2.cells (g:=g2) rfl);have HE2:=Lib.hid (HE.out.stay h2);clear o2 h2)
     | (go_at_call 36;refine (add_c HE2.out.out ⟨g2,0,none⟩ c2 HC2.out (Nat.le_of_lt HE2.out.box.size) (Nat.le_trans (Nat.add_le_add HL.out (show (sigB f.E).length≤10 from numB_len10 (n:=sigN f.E) (sigN_lt (by omega)))) (by omega))).mono ?_;rintro e w3 ⟨rfl,hO3,hB3,hK3⟩;have HE3:=Lib.hid (HE2.out.add hO3 hB3 hK3);clear hO3 hB3 hK3))
    have HL3:=Lib.hid (Nat.le_trans (Nat.le_of_eq List.length_append) (Nat.add_le_add HL.out (show (sigB f.E).length≤10 from numB_len10 (n:=sigN f.E) (sigN_lt (by omega)))))
    clear HE HL HE2 HC2
    have HE:=HE3
    have HL:=HL3
    clear HE3 HL3
    clear x3
    have x4:=HE.out.box.cell (j:=4) rfl
    have u3:IntKind.u64.wrap (LJ:Int)=(LJ:Int):=by rw [IntKind.wrap_u64];omega
    go_upto_region 27 with (first
     | (go_at_call 37;refine (num11_c LJ _ (by omega)).mono ?_;rintro e w2 ⟨v2,rfl,o2,h2⟩;obtain ⟨g2,c2,rfl⟩:=own_some o2 (numB_pos _);have HC2:=Lib.hid (o2.cells (g:=g2) rfl);have HE2:=Lib.hid (HE.out.stay h2);clear o2 h2)
     | (go_at_call 36;refine (add_c HE2.out.out ⟨g2,0,none⟩ c2 HC2.out (Nat.le_of_lt HE2.out.box.size) (Nat.le_trans (Nat.add_le_add HL.out (numB_len10 (n:=LJ) (by omega))) (by omega))).mono ?_;rintro e w3 ⟨rfl,hO3,hB3,hK3⟩;have HE3:=Lib.hid (HE2.out.add hO3 hB3 hK3);clear hO3 hB3 hK3))
    have HL3:=Lib.hid (Nat.le_trans (Nat.le_of_eq List.length_append) (Nat.add_le_add HL.out (numB_len10 (n:=LJ) (by omega))))
    clear HE HL HE2 HC2
    have HE:=HE3
    have HL:=HL3
    clear HE3 HL3
    obtain ⟨bs3,hbs3⟩:∃ b,bs ++ sigB f.E ++ numB LJ=b:=⟨_,rfl⟩
    rw [hbs3] at HE HL
    have HB6:=Lib.hid hbs3
    clear hbs3 x4
    have x4:=HE.out.box.cell (j:=4) rfl
    go_upto_region 28 with fail
    clear x4
    go_loopw [129] (fun i wx=>∃ (k:Nat) (bs:List Nat),i = .int .i64 (k:Int)∧k≤LJ∧Hid (EM w wx X [.slice rC LC cC,.slice rU LU cU,.slice rS LS cS,.int .i32 f.E,.slice rJ LJ cJ] bs)∧Hid (bs=bs3 ++ ((vs.take k).map jOf).flatMap encJ)∧Hid (bs.length≤23054+4020 * k)) (fun i _=>LJ-(intOf i).toNat)
    case atStart=>exact ⟨0,bs3,rfl,Nat.zero_le _,HE,Lib.hid (by simp),HL⟩
    case round =>
     clear HE HL
     obtain ⟨k,bs,rfl,hk,HE,HB,HL⟩:=hrel
     rename World=>wr
     by_cases hlt:k<LJ
     ·obtain ⟨⟨d,vl,ls⟩,hx⟩:∃ x,vs[k]?=some x:=⟨vs[k]'(by have:=HLJ.out;omega),List.getElem?_eq_getElem (by have:=HLJ.out;omega)⟩
      obtain ⟨hx1,hx2,hx3⟩:(-2147483648≤d∧d≤2147483647)∧ls.length≤100 ∧ ∀ l ∈ ls,OkLw l:=HOK.out.2.2.2.2.2 (d,ls) (List.mem_map.2 ⟨_,List.mem_of_getElem? hx,rfl⟩)
      obtain ⟨gJ,oJ,cJ',e,hgJ,hcap,y0,y1,hls⟩:=(HJ.out.stay (HE.out.x ▸ HE.out.below)).at hx
      injection e with e1 e2 e3
      subst e1
      clear e2 e3
      simp only at y0 y1 hls
      obtain ⟨rl,cl,rfl,ml⟩:=hls.form
      have HLS2:=Lib.hid ((HJ.out.2 _ (List.mem_of_getElem? hx):Recs lc 4 w (.slice rl ls.length cl) ls))
      obtain ⟨LL,hLL⟩:∃ n,ls.length=n:=⟨_,rfl⟩
      rw [hLL] at y1 HLS2 ml hx2
      have HLL:=Lib.hid hLL
      have HX3:=Lib.hid hx3
      clear hls hLL hx3
      have t1:decide ((k:Int)<(LJ:Int))=true:=decide_eq_true (by omega)
      have u1:IntKind.i64.wrap d=d:=by rw [IntKind.wrap_i64];omega
      have u2:IntKind.u64.wrap (LL:Int)=(LL:Int):=by rw [IntKind.wrap_u64];omega
      go_upto_region 30 with fail
      have hne:X+1+1<wr.heap.size:=HE.out.out.size
      have HQ1:Hid (QBox (wr.alloc (.cells #[.int .i32 d,.slice rl LL cl] 67)) wr.heap.size [.int .i32 d,.slice rl LL cl] 67):=Lib.hid (QBox.new wr [.int .i32 d,.slice rl LL cl] 67)
      have HE1:=Lib.hid (HE.out.stay ((Below.refl wr.heap.size wr).alloc (Nat.le_refl _) (.cells #[.int .i32 d,.slice rl LL cl] 67)))
      clear HE y0 y1
      have HE:=HE1
      have HQ:=HQ1
      clear HE1 HQ1
      obtain ⟨V,hV⟩:∃ V,wr.heap.size=V:=⟨_,rfl⟩
      rw [hV] at HQ hne ⊢
      generalize wr.alloc (.cells #[.int .i32 d,.slice rl LL cl] 67)=w6 at HE HQ ⊢
      have y0:=HQ.out.cell (j:=0) rfl
      go_upto_region 31 with (first
       | (go_at_call 38;refine (signed11_c d _ (by omega)).mono ?_;rintro e w2 ⟨v2,rfl,o2,h2⟩;obtain ⟨g2,c2,rfl⟩:=own_some o2 (numB_pos (sigN d));have HC2:=Lib.hid (o2.cells (g:=g2) rfl);have HE2:=Lib.hid (HE.out.stay h2);have HQ2:=Lib.hid (HQ.out.stay h2);clear o2 h2)
       | (go_at_call 36;refine (add_c HE2.out.out ⟨g2,0,none⟩ c2 HC2.out (Nat.le_of_lt HE2.out.box.size) (Nat.le_trans (Nat.add_le_add HL.out (show (sigB d).length≤10 from numB_len10 (n:=sigN d) (sigN_lt (by omega)))) (by omega))).mono ?_;rintro e w3 ⟨rfl,hO3,hB3,hK3⟩;have HE3:=Lib.hid (HE2.out.add hO3 hB3 hK3);have HQ3:=Lib.hid (HQ2.out.kept hK3 (by omega) (by decide));clear hO3 hB3 hK3))
      have HL3:=Lib.hid (Nat.le_trans (Nat.le_of_eq List.length_append) (Nat.add_le_add HL.out (show (sigB d).length≤10 from numB_len10 (n:=sigN d) (sigN_lt (by omega)))))
      clear HE HQ HL HE2 HQ2 HC2
      have HE:=HE3
      have HL:=HL3
      have HQ:=HQ3
      clear HE3 HL3 HQ3
      clear y0
      have y1:=HQ.out.cell (j:=1) rfl
      go_upto_region 32 with (first
       | (go_at_call 37;refine (num11_c LL _ (by omega)).mono ?_;rintro e w2 ⟨v2,rfl,o2,h2⟩;obtain ⟨g2,c2,rfl⟩:=own_some o2 (numB_pos _);have HC2:=Lib.hid (o2.cells (g:=g2) rfl);have HE2:=Lib.hid (HE.out.stay h2);have HQ2:=Lib.hid (HQ.out.stay h2);clear o2 h2)
       | (go_at_call 36;refine (add_c HE2.out.out ⟨g2,0,none⟩ c2 HC2.out (Nat.le_of_lt HE2.out.box.size) (Nat.le_trans (Nat.add_le_add HL.out (numB_len10 (n:=LL) (by omega))) (by omega))).mono ?_;rintro e w3 ⟨rfl,hO3,hB3,hK3⟩;have HE3:=Lib.hid (HE2.out.add hO3 hB3 hK3);have HQ3:=Lib.hid (HQ2.out.kept hK3 (by omega) (by decide));clear hO3 hB3 hK3))
      have HL3:=Lib.hid (Nat.le_trans (Nat.le_of_eq List.length_append) (Nat.add_le_add HL.out (numB_len10 (n:=LL) (by omega))))
      clear HE HQ HL HE2 HQ2 HC2
      have HE:=HE3
      have HL:=HL3
      have HQ:=HQ3
      clear HE3 HL3 HQ3
      clear y1
      have y1:=HQ.out.cell (j:=1) rfl
      obtain ⟨bs4,hbs4⟩:∃ b,bs ++ sigB d ++ numB LL=b:=⟨_,rfl⟩
      rw [hbs4] at HE HL
      have HB7:=Lib.hid hbs4
      clear hbs4
      go_upto_region 33 with fail
      clear y1
      go_loopw [149] (fun i wx=>∃ (q:Nat) (bs:List Nat),i = .int .i64 (q:Int)∧q≤LL∧Hid (EM w wx X [.slice rC LC cC,.slice rU LU cU,.slice rS LS cS,.int .i32 f.E,.slice (some ⟨gJ,oJ,none⟩) LJ cJ] bs)∧Hid (bs=bs4 ++ (ls.take q).flatMap encLn)∧Hid (bs.length≤23074+4020 * k+40 * q)) (fun i _=>LL-(intOf i).toNat)
      case atStart=>exact ⟨0,bs4,rfl,Nat.zero_le _,HE,Lib.hid (by simp),Lib.hid (by have:=HL.out;omega)⟩
      case round =>
       clear HE HL HQ
       obtain ⟨q,bs,rfl,hq,HE,HB8,HL⟩:=hrel
       rename World=>wq
       by_cases hlt2:q<LL
       ·obtain ⟨x,hy⟩:∃ x,ls[q]?=some x:=⟨ls[q]'(by have:=HLL.out;omega),List.getElem?_eq_getElem (by have:=HLL.out;omega)⟩
        obtain ⟨hz1,hz2,hz3⟩:=HX3.out x (List.mem_of_getElem? hy)
        have hz4:=x.hm
        obtain ⟨gL,oL,rfl,hgL,hcL⟩:=(HLS2.out.stay (HE.out.x ▸ HE.out.below)).at hy
        have y0:=hcL 0 (.int .u32 (x.acc:Int)) rfl
        have y1:=hcL 1 (.int .u16 (x.ent.n:Int)) rfl
        have y2:=hcL 2 (.int .u16 (x.ctr:Int)) rfl
        have y3:=hcL 3 (.int .i64 x.amt) rfl
        simp only [Nat.add_zero] at y0
        clear hcL
        have t1:decide ((q:Int)<(LL:Int))=true:=decide_eq_true (by omega)
        have u1:IntKind.u64.wrap (x.acc:Int)=(x.acc:Int):=by rw [IntKind.wrap_u64];omega
        have u2:IntKind.u64.wrap (x.ent.n:Int)=(x.ent.n:Int):=by rw [IntKind.wrap_u64];omega
        have u3:IntKind.u64.wrap (x.ctr:Int)=(x.ctr:Int):=by rw [IntKind.wrap_u64];omega
        go_upto_region 35 with fail
        clear hne
        have hne:X+1+1<wq.heap.size:=HE.out.out.size
        have HQ1:Hid (QBox (wq.alloc (.cells #[.int .u32 (x.acc:Int),.int .u16 (x.ent.n:Int),.int .u16 (x.ctr:Int),.int .i64 x.amt] 89)) wq.heap.size [.int .u32 (x.acc:Int),.int .u16 (x.ent.n:Int),.int .u16 (x.ctr:Int),.int .i64 x.amt] 89):=Lib.hid (QBox.new wq [.int .u32 (x.acc:Int),.int .u16 (x.ent.n:Int),.int .u16 (x.ctr:Int),.int .i64 x.amt] 89)
        have HE1:=Lib.hid (HE.out.stay ((Below.refl wq.heap.size wq).alloc (Nat.le_refl _) (.cells #[.int .u32 (x.acc:Int),.int .u16 (x.ent.n:Int),.int .u16 (x.ctr:Int),.int .i64 x.amt] 89)))
        clear HE y0 y1 y2 y3
        have HE:=HE1
        have HQ:=HQ1
        clear HE1 HQ1
        obtain ⟨V2,hV2⟩:∃ V,wq.heap.size=V:=⟨_,rfl⟩
        rw [hV2] at HQ hne ⊢
        generalize wq.alloc (.cells #[.int .u32 (x.acc:Int),.int .u16 (x.ent.n:Int),.int .u16 (x.ctr:Int),.int .i64 x.amt] 89)=w7 at HE HQ ⊢
        have y0:=HQ.out.cell (j:=0) rfl
        go_upto_region 36 with (first
         | (go_at_call 37;refine (num11_c x.acc _ (by omega)).mono ?_;rintro e w2 ⟨v2,rfl,o2,h2⟩;obtain ⟨g2,c2,rfl⟩:=own_some o2 (numB_pos _);have HC2:=Lib.hid (o2.cells (g:=g2) rfl);have HE2:=Lib.hid (HE.out.stay h2);have HQ2:=Lib.hid (HQ.out.stay h2);clear o2 h2)
         | (go_at_call 36;refine (add_c HE2.out.out ⟨g2,0,none⟩ c2 HC2.out (Nat.le_of_lt HE2.out.box.size) (Nat.le_trans (Nat.add_le_add HL.out (numB_len10 (n:=x.acc) (by omega))) (by omega))).mono ?_;rintro e w3 ⟨rfl,hO3,hB3,hK3⟩;have HE3:=Lib.hid (HE2.out.add hO3 hB3 hK3);have HQ3:=Lib.hid (HQ2.out.kept hK3 (by omega) (by decide));clear hO3 hB3 hK3))
        have HL3:=Lib.hid (Nat.le_trans (Nat.le_of_eq List.length_append) (Nat.add_le_add HL.out (numB_len10 (n:=x.acc) (by omega))))
        clear HE HQ HL HE2 HQ2 HC2
        have HE:=HE3
        have HL:=HL3
        have HQ:=HQ3
        clear HE3 HL3 HQ3
        clear y0
        have y1:=HQ.out.cell (j:=1) rfl
        go_upto_region 37 with (first
         | (go_at_call 37;refine (num11_c x.ent.n _ (by omega)).mono ?_;rintro e w2 ⟨v2,rfl,o2,h2⟩;obtain ⟨g2,c2,rfl⟩:=own_some o2 (numB_pos _);have HC2:=Lib.hid (o2.cells (g:=g2) rfl);have HE2:=Lib.hid (HE.out.stay h2);have HQ2:=Lib.hid (HQ.out.stay h2);clear o2 h2)
         | (go_at_call 36;refine (add_c HE2.out.out ⟨g2,0,none⟩ c2 HC2.out (Nat.le_of_lt HE2.out.box.size) (Nat.le_trans (Nat.add_le_add HL.out (numB_len10 (n:=x.ent.n) (by omega))) (by omega))).mono ?_;rintro e w3 ⟨rfl,hO3,hB3,hK3⟩;have HE3:=Lib.hid (HE2.out.add hO3 hB3 hK3);have HQ3:=Lib.hid (HQ2.out.kept hK3 (by omega) (by decide));clear hO3 hB3 hK3))
        have HL3:=Lib.hid (Nat.le_trans (Nat.le_of_eq List.length_append) (Nat.add_le_add HL.out (numB_len10 (n:=x.ent.n) (by omega))))
        clear HE HQ HL HE2 HQ2 HC2
        have HE:=HE3
        have HL:=HL3
        have HQ:=HQ3
        clear HE3 HL3 HQ3
        clear y1
        have y2:=HQ.out.cell (j:=2) rfl
        go_upto_region 38 with (first
         | (go_at_call 37;refine (num11_c x.ctr _ (by omega)).mono ?_;rintro e w2 ⟨v2,rfl,o2,h2⟩;obtain ⟨g2,c2,rfl⟩:=own_some o2 (numB_pos _);have HC2:=Lib.hid (o2.cells (g:=g2) rfl);have HE2:=Lib.hid (HE.out.stay h2);have HQ2:=Lib.hid (HQ.out.stay h2);clear o2 h2)
         | (go_at_call 36;refine (add_c HE2.out.out ⟨g2,0,none⟩ c2 HC2.out (Nat.le_of_lt HE2.out.box.size) (Nat.le_trans (Nat.add_le_add HL.out (numB_len10 (n:=x.ctr) (by omega))) (by omega))).mono ?_;rintro e w3 ⟨rfl,hO3,hB3,hK3⟩;have HE3:=Lib.hid (HE2.out.add hO3 hB3 hK3);have HQ3:=Lib.hid (HQ2.out.kept hK3 (by omega) (by decide));clear hO3 hB3 hK3))
        have HL3:=Lib.hid (Nat.le_trans (Nat.le_of_eq List.length_append) (Nat.add_le_add HL.out (numB_len10 (n:=x.ctr) (by omega))))
        clear HE HQ HL HE2 HQ2 HC2
        have HE:=HE3
        have HL:=HL3
        have HQ:=HQ3
        clear HE3 HL3 HQ3
        clear y2
        have y3:=HQ.out.cell (j:=3) rfl
        go_upto_region 39 with (first
         | (go_at_call 38;refine (signed11_c x.amt _ (by omega)).mono ?_;rintro e w2 ⟨v2,rfl,o2,h2⟩;obtain ⟨g2,c2,rfl⟩:=own_some o2 (numB_pos (sigN x.amt));have HC2:=Lib.hid (o2.cells (g:=g2) rfl);have HE2:=Lib.hid (HE.out.stay h2);have HQ2:=Lib.hid (HQ.out.stay h2);clear o2 h2)
         | (go_at_call 36;refine (add_c HE2.out.out ⟨g2,0,none⟩ c2 HC2.out (Nat.le_of_lt HE2.out.box.size) (Nat.le_trans (Nat.add_le_add HL.out (show (sigB x.amt).length≤10 from numB_len10 (n:=sigN x.amt) (sigN_lt (by omega)))) (by omega))).mono ?_;rintro e w3 ⟨rfl,hO3,hB3,hK3⟩;have HE3:=Lib.hid (HE2.out.add hO3 hB3 hK3);have HQ3:=Lib.hid (HQ2.out.kept hK3 (by omega) (by decide));clear hO3 hB3 hK3))
        have HL3:=Lib.hid (Nat.le_trans (Nat.le_of_eq List.length_append) (Nat.add_le_add HL.out (show (sigB x.amt).length≤10 from numB_len10 (n:=sigN x.amt) (sigN_lt (by omega)))))
        clear HE HQ HL HE2 HQ2 HC2
        have HE:=HE3
        have HL:=HL3
        have HQ:=HQ3
        clear HE3 HL3 HQ3
        have t2:IntKind.i64.wrap ((q:Int)+1)=((q+1:Nat):Int):=by rw [IntKind.wrap_i64];omega
        go_wp2_with fail
        go_round
        case rel =>
         refine ⟨q+1,_,rfl,by omega,HE,Lib.hid ?_,Lib.hid ?_⟩
         ·rw [HB8.out,List.take_add_one,hy,Option.toList_some,List.flatMap_append,List.flatMap_cons,List.flatMap_nil]
          unfold encLn
          simp only [List.append_assoc,List.append_nil]
         ·have:=HL.out
          omega
        case measure =>
         show LL-((q:Int)+1).toNat<LL-((q:Int)).toNat
         omega
       obtain rfl:LL=q:=by omega
       have t1:decide ((LL:Int)<(LL:Int))=false:=decide_eq_false (by omega)
       have t2:IntKind.i64.wrap ((k:Int)+1)=((k+1:Nat):Int):=by rw [IntKind.wrap_i64];omega
       go_wp2_with fail
       go_round
       case rel =>
        refine ⟨k+1,_,rfl,by omega,HE,Lib.hid ?_,Lib.hid ?_⟩
        ·rw [HB8.out,List.take_of_length_le (Nat.le_of_eq HLL.out),← HB7.out,HB.out,List.take_add_one,hx,Option.toList_some,List.map_append,List.flatMap_append,List.map_cons,List.map_nil,List.flatMap_cons,List.flatMap_nil]
         unfold encJ encL jOf
         simp only [List.append_assoc,List.append_nil,HLL.out]
        ·have:=HL.out
         omega
       case measure =>
        show LJ-((k:Int)+1).toNat<LJ-((k:Int)).toNat
        omega
     obtain rfl:LJ=k:=by omega
     have t1:decide ((LJ:Int)<(LJ:Int))=false:=decide_eq_false (by omega)
     obtain ⟨_,v,hv,hown,hne8⟩:=HE.out.out
     have z0:wr.cell? ⟨X+1+1,0,none⟩=some v:=by simp [World.cell?,hv]
     have HV:=Lib.hid hown
     clear hv hown hne8
     go_wp2_with fail
     go_ret
     have hbs:bs=encB f (vs.map jOf):=by
      rw [HB.out,List.take_of_length_le (Nat.le_of_eq HLJ.out),← HB6.out,HB5.out,← HB4.out,HB3.out,← HB2.out,HB1.out]
      unfold encB encBd bdOf encL
      simp only [HLC.out,HLU.out,HLS.out,HLJ.out,List.length_map,List.append_assoc]
     exact ⟨v,rfl,by rw [← hbs,HX.out];exact HV.out,by rw [HX.out];exact HE.out.below⟩
end Go.Proofs.YtmpefjnfelfnfaaGreatDoor

/- Contracts of law 6's Way, deep; of package chart's Kids. -/
import Derived.Test.YtjgmbjfijpmhdaaGreatDoorZCall
set_option maxRecDepth 100000
set_option maxHeartbeats 2000000
namespace Go.Proofs.YtjgmbjfijpmhdaaGreatDoor
open Go.RowKit
set_option linter.unusedVariables false
set_option linter.unusedSimpArgs false
theorem wayl_c (v:Value) (c:List Ac) (n:Nat) (w:World) (hR:Recs cc 4 w v c) :
 Calls Tryz.prog 81 #[v,.int .u32 (n:Int)] w fun e w'=>∃ v',e = .returned v'∧Recs nc 1 w' v' (wayF 13 c n)∧Below w.heap.size w w':=by
 obtain ⟨i0,hi,hz0,hz1,hz2⟩:=info_parts info32n
 have HR:=Lib.hid hR
 obtain ⟨W13,hW13⟩:∃ l,wayF 13 c n=l:=⟨_,rfl⟩
 have HW:=Lib.hid hW13
 rw [hW13]
 clear hR hW13
 go_enter Tryz.func81,Tryz.ntmps81
 go_wp2
 go_loopg [5,1] 13 (fun gk s5 s1 wr=>∃ (k m:Nat) (r:Option Addr) (cap:Nat) (ks:List Nat),s5 = .slice r k cap∧s1 = .int .u32 (m:Int)∧k≤13∧13-k≤gk∧wr.ownsRow w.heap.size 46 1 (.slice r k cap) k (ks.flatMap nc)∧Hid (ks.length=k∧ks ++ wayF (13-k) c m=W13)∧Below w.heap.size w wr)
 case atStart=>exact ⟨0,n,none,0,[],rfl,rfl,by omega,by omega,World.ownsRow_nil _ _ _ _,Lib.hid ⟨rfl,HW.out⟩,Below.refl _ _⟩
 case round =>
  obtain ⟨k,m,r,cap,ks,rfl,rfl,hk,hgk,hown,HK,hb⟩:=hrel
  by_cases hlt:k<13
  ·have hbs:=hb.size
   have hQ:=getl_c v c m wr (HR.out.stay hb)
   cases hg:getA c m with
   | none =>
    rw [hg] at hQ
    have HQ:Hid (Calls Tryz.prog 68 #[v,.int .u32 (m:Int)] wr fun e w'=>e = .returned (.tuple #[.agg #[.int .u32 0,.string ⟨#[]⟩,.int .u8 0,.int .u32 0],.bool false])∧Below wr.heap.size wr w'):=Lib.hid hQ
    have HE:Hid (ks=W13):=Lib.hid (by have:=HK.out.2;rwa [wayF_none hg,List.append_nil] at this)
    have HB:=Lib.hid hb
    have HO:=Lib.hid hown
    clear hg hb hown hQ
    go_wp2_with (go_at_call 68;refine HQ.out.mono ?_;rintro e w1 ⟨rfl,hb1⟩;have HO1:=Lib.hid (owns_stay HO.out hb1);have HB1:=Lib.hid (HB.out.trans (hb1.mono hbs));have hs1:=hb1.size;clear hb1)
    go_ret
    refine ⟨_,rfl,?_,HB1.out.alloc (by omega) _⟩
    rw [← HE.out]
    exact recs_of_owns nc_len (HO1.out.alloc _) HK.out.1.symm (by omega)
   | some a =>
    rw [hg] at hQ
    have HQ:Hid (Calls Tryz.prog 68 #[v,.int .u32 (m:Int)] wr fun e w'=>e = .returned (.tuple #[.agg #[.int .u32 (a.code:Int),.string a.name,.int .u8 (a.kind:Int),.int .u32 (a.par:Int)],.bool true])∧Below wr.heap.size wr w'):=Lib.hid hQ
    have HS:Hid ((ks ++ [m]) ++ wayF (12-k) c a.par=W13):=Lib.hid (way_step (by have:=HK.out.2;rwa [show 13-k=12-k+1 by omega] at this) hg)
    have HB:=Lib.hid hb
    have HO:=Lib.hid hown
    have HOL:=Lib.hid hown.lt
    clear hg hb hown hQ
    go_wp2_with (first
     | (go_at_call 68;refine HQ.out.mono ?_;rintro e w1 ⟨rfl,hb1⟩;have HO1:=Lib.hid (owns_stay HO.out hb1);have HB1:=Lib.hid (HB.out.trans (hb1.mono hbs));have hs1:=hb1.size;clear hb1)
     | (at_builtin;refine wpList_append_own _ rfl (.tmp 19) (.tmp 21) 156 rfl w.heap.size 46 i0 (.int .u32 0) 1 4 Tryz.underlying156 hi hz0 hz1 hz2 rfl (by decide) _ k _ rfl ((HO1.out.alloc _).alloc _) ⟨w1.heap.size+1,0,none⟩ 1 1 (nc m) rfl rfl (cells_new2 _ _ (nc m) _) (nc_one m) (by unfold maxLen;omega) (by omega) (by simp;omega) ?_;intro v2 w3 hown3 hgrow3 _;have q3:=hgrow3.cell (box_under w1 _ _ _ 3 _ rfl) (fun e=>by have:=(HOL.out w1.heap.size e.symm).2;omega);have HB3:=Lib.hid (((HB1.out.alloc (by omega) _).alloc (by simp;omega) _).grown hgrow3 (by simp;omega) (fun j hj=>(HOL.out j hj).1));have HO3:=Lib.hid hown3;obtain ⟨r2,cap2,rfl⟩:=owns_form hown3;clear hgrow3 hown3))
    go_roundg (12-k)
    case measure=>omega
    case rel =>
     refine ⟨k+1,a.par,r2,cap2,ks ++ [m],rfl,rfl,by omega,by omega,by rw [flat_snoc];exact HO3.out,Lib.hid ⟨by simp;exact HK.out.1,?_⟩,HB3.out⟩
     rw [show 13-(k+1)=12-k by omega];exact HS.out
  ·obtain rfl:k=13:=by omega
   have HE:Hid (ks=W13):=Lib.hid (by have:=HK.out.2;simpa [wayF] using this)
   have HB:=Lib.hid hb
   have HO:=Lib.hid hown
   clear hb hown
   go_wp2
   go_ret
   refine ⟨_,rfl,?_,HB.out⟩
   rw [← HE.out]
   exact recs_of_owns nc_len HO.out HK.out.1.symm (by omega)
theorem deep_c (v:Value) (c:List Ac) (n:Nat) (w:World) (hR:Recs cc 4 w v c) :
 Calls Tryz.prog 51 #[v,.int .u32 (n:Int)] w fun e w'=>e = .returned (.int .i64 ((wayF 13 c n).length:Nat))∧Below w.heap.size w w':=by
 have K1:Hid (Calls Tryz.prog 81 #[v,.int .u32 (n:Int)] w fun e w'=>∃ r cap,e = .returned (.slice r (wayF 13 c n).length cap)∧Below w.heap.size w w') :=
  Lib.hid ((wayl_c v c n w hR).mono fun _ _ ⟨v',h1,h2,h3⟩=>by obtain ⟨r,cap,hv,_⟩:=h2.form;exact ⟨r,cap,by rw [h1,hv],h3⟩)
 clear hR
 generalize (wayF 13 c n).length=l at *
 go_enter Tryz.func51,Tryz.ntmps51
 go_wp2_with (go_at_call 81;refine K1.out.mono ?_;rintro e w1 ⟨r1,cap1,rfl,h2⟩;have HB1:=Lib.hid h2;clear h2)
 go_ret
 exact ⟨rfl,HB1.out⟩
theorem kids_step (c:List Ac) (n k:Nat) {a:Ac} (h:c[k]?=some a):kidsA (c.take (k+1)) n=if a.par=n then kidsA (c.take k) n ++ [a.code] else kidsA (c.take k) n:=by
 obtain ⟨hk,e⟩:=List.getElem?_eq_some_iff.1 h
 unfold kidsA
 rw [List.take_succ_eq_append_getElem hk,List.filter_append,List.map_append,e]
 by_cases hp:a.par=n
 ·rw [if_pos hp,List.filter_cons_of_pos (by simpa using hp)];simp
 ·rw [if_neg hp,List.filter_cons_of_neg (by simpa using hp)];simp
theorem kids_c (v:Value) (c:List Ac) (n:Nat) (w:World) (hR:Recs cc 4 w v c) (hl:c.length≤1000) :
 Calls Tryz.prog 89 #[v,.int .u32 (n:Int)] w fun e w'=>∃ v',e = .returned v'∧Recs nc 1 w' v' (kidsA c n)∧Below w.heap.size w w':=by
 obtain ⟨i0,hi,hz0,hz1,hz2⟩:=info_parts info32n
 obtain ⟨r0,cap0,rfl,_⟩:=hR.form
 have HR:=Lib.hid hR
 obtain ⟨L,hL⟩:∃ L,c.length=L:=⟨_,rfl⟩
 have HL:=Lib.hid hL
 rw [hL] at HR hl ⊢
 clear hR hL
 go_enter Tryz.func89,Tryz.ntmps89
 go_wp2
 go_loopw [5,10] (fun s5 i wr=>∃ (k m:Nat) (r:Option Addr) (cap:Nat),s5 = .slice r m cap∧i = .int .i64 k∧k≤L∧m≤k∧wr.ownsRow w.heap.size 46 1 (.slice r m cap) m ((kidsA (c.take k) n).flatMap nc)∧Hid ((kidsA (c.take k) n).length=m)∧Below w.heap.size w wr) (fun _ i _=>L-(intOf i).toNat)
 case atStart=>exact ⟨0,0,none,0,rfl,rfl,Nat.zero_le _,Nat.le_refl _,World.ownsRow_nil _ _ _ _,Lib.hid rfl,Below.refl _ _⟩
 case round =>
  obtain ⟨k,m,r,cap,rfl,rfl,hk,hm,hown,HM,hb⟩:=hrel
  rename World=>wr
  have hbs:=hb.size
  by_cases hlt:k<L
  ·obtain ⟨a,ha⟩:∃ a,c[k]?=some a:=⟨c[k]'(by have:=HL.out;omega),List.getElem?_eq_getElem (by have:=HL.out;omega)⟩
   have HS:=Lib.hid (kids_step c n k ha)
   obtain ⟨g,off,rfl,hg,hc⟩:=(HR.out.stay hb).at ha
   obtain ⟨c0,c1,c2,c3⟩:=Recs.cells4 (c:=c) hc
   have HB:=Lib.hid hb
   have HO:=Lib.hid hown
   have HOL:=Lib.hid hown.lt
   generalize kidsA (c.take k) n=ks at *
   clear ha hc hb hown
   by_cases hp:a.par=n
   ·have hd:((a.par:Int) == (n:Int))=true:=by simp [hp]
    have HS1:Hid (kidsA (c.take (k+1)) n=ks ++ [a.code]):=Lib.hid (by have:=HS.out;rwa [if_pos hp] at this)
    clear hp HS
    go_wp2_with (at_builtin;refine wpList_append_own _ rfl (.tmp 18) (.tmp 21) 156 rfl w.heap.size 46 i0 (.int .u32 0) 1 4 Tryz.underlying156 hi hz0 hz1 hz2 rfl (by decide) _ m _ rfl ((HO.out.alloc _).alloc _) ⟨wr.heap.size+1,0,none⟩ 1 1 (nc a.code) rfl rfl (cells_new2 _ _ (nc a.code) _) (nc_one a.code) (by unfold maxLen;omega) (by omega) (by simp;omega) ?_;intro v2 w3 hown3 hgrow3 _;have HB3:=Lib.hid (((HB.out.alloc (by omega) _).alloc (by simp;omega) _).grown hgrow3 (by simp;omega) (fun j hj=>(HOL.out j hj).1));have HO3:=Lib.hid hown3;obtain ⟨r2,cap2,rfl⟩:=owns_form hown3;clear hgrow3 hown3)
    go_roundw
    case rel=>exact ⟨k+1,m+1,r2,cap2,rfl,by go_num,by omega,by omega,by rw [HS1.out,flat_snoc];exact HO3.out,Lib.hid (by rw [HS1.out];simp;exact HM.out),HB3.out⟩
    case measure=>simp [intOf];omega
   ·have hd:((a.par:Int) == (n:Int))=false:=by simp;omega
    have HS1:Hid (kidsA (c.take (k+1)) n=ks):=Lib.hid (by have:=HS.out;rwa [if_neg hp] at this)
    clear hp HS
    go_wp2
    go_roundw
    case rel=>exact ⟨k+1,m,r,cap,rfl,by go_num,by omega,by omega,by rw [HS1.out];exact HO.out.alloc _,Lib.hid (by rw [HS1.out];exact HM.out),HB.out.alloc (by omega) _⟩
    case measure=>simp [intOf];omega
  ·obtain rfl:k=L:=by omega
   have e:c.take k=c:=List.take_of_length_le (by have:=HL.out;omega)
   rw [e] at hown HM
   have HO:=Lib.hid hown
   have HB:=Lib.hid hb
   clear hown hb e
   go_wp2
   go_ret
   exact ⟨_,rfl,recs_of_owns nc_len HO.out HM.out.symm (by omega),HB.out⟩

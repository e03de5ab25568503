/- Contract of slices.Sort at a few entities, whole. -/
import Derived.Test.YtjgmbjfijpmhdaaGreatDoorZNall
import Derived.OwnWalk
set_option maxRecDepth 100000
set_option maxHeartbeats 2000000
namespace Go.Proofs.YtjgmbjfijpmhdaaGreatDoor
open Go.RowKit
set_option linter.unusedVariables false
set_option linter.unusedSimpArgs false
theorem len64_few (n:Nat) (h:n≤12) (w:World):Calls Tryz.prog 125 #[.int .u64 (n:Int)] w fun e w'=>(∃ m:Int,e = .returned (.int .i64 m))∧w'=w:=by
 rcases (by omega:n=0∨n=1∨n=2∨n=3∨n=4∨n=5∨n=6∨n=7∨n=8∨n=9∨n=10∨n=11∨n=12) with rfl | rfl | rfl | rfl | rfl | rfl | rfl | rfl | rfl | rfl | rfl | rfl | rfl
 all_goals
  clear h
  go_enter Tryz.func125,Tryz.ntmps125
  go_wp2
  go_ret
  exact ⟨⟨_,rfl⟩,rfl⟩
theorem len_few (n:Nat) (h:n≤12) (w:World):Calls Tryz.prog 84 #[.int .u64 (n:Int)] w fun e w'=>(∃ m:Int,e = .returned (.int .i64 m))∧w'=w:=by
 have K:=Lib.hid (fun w=>len64_few n h w)
 clear h
 go_enter Tryz.func84,Tryz.ntmps84
 go_wp2_with (go_at_call 125;refine (K.out _).mono ?_;rintro e w1 ⟨⟨m,rfl⟩,rfl⟩)
 go_ret
 exact ⟨⟨_,rfl⟩,rfl⟩
theorem ins16_none (p:Option Addr) (cap:Nat) (w:World):Calls Tryz.prog 115 #[.slice p 0 cap,.int .i64 0,.int .i64 0] w fun e w'=>e = .returned (.tuple #[])∧w'=w:=by
 go_enter Tryz.func115,Tryz.ntmps115
 go_wp2
 go_loopw [6] (fun i wr=>i = .int .i64 1∧wr=w) (fun _ _=>0)
 case atStart=>exact ⟨rfl,rfl⟩
 case round =>
  obtain ⟨rfl,rfl⟩:=hrel
  go_wp2
  go_end0
  exact ⟨rfl,rfl⟩
def Sorts (T:TypeId) (base:Nat) (v:Value) (n:Nat) (xs:List Nat) (w w':World):Prop :=
 ∃ ys,ys.Perm xs∧Srt ys∧w'.ownsRow base T 1 v n (ys.flatMap uc)∧w.grownBy w' v.ownBlock
theorem ins_any16 (xs:List Nat) (v:Value) (n base:Nat) (w:World) (ho:w.ownsRow base 77 1 v n (xs.flatMap uc)) (hn:xs.length=n) (h12:n≤12) :
 Calls Tryz.prog 115 #[v,.int .i64 0,.int .i64 (n:Int)] w fun e w'=>e = .returned (.tuple #[])∧Sorts 77 base v n xs w w':=by
 by_cases h0:n=0
 ·subst h0
  obtain rfl:=List.eq_nil_of_length_eq_zero hn
  obtain ⟨r,cap,rfl⟩:∃ r cap,v = .slice r 0 cap:=by
   rcases ho.2 with ⟨rfl,_⟩ | ⟨g,cap,cur,rfl,_⟩
   ·exact ⟨_,_,rfl⟩
   ·exact ⟨_,_,rfl⟩
  refine (ins16_none r cap w).mono ?_
  rintro e w' ⟨rfl,rfl⟩
  exact ⟨rfl,[],List.Perm.refl _,List.Pairwise.nil,ho,World.grownBy.refl _ _⟩
 ·obtain ⟨g,cap,rfl⟩:∃ g cap,v = .slice (some ⟨g,0,none⟩) n cap:=by
   rcases ho.2 with ⟨_,h⟩ | ⟨g,cap,cur,rfl,_⟩
   ·exact absurd h h0
   ·exact ⟨_,_,rfl⟩
  exact (ins16 xs g n cap base w ho hn (by omega) h12).mono fun e w' ⟨h1,ys,h2,h3,h4,h5⟩=>⟨h1,ys,h2,h3,h4,h5⟩
theorem pdq16 (xs:List Nat) (v:Value) (n base:Nat) (m:Int) (w:World) (ho:w.ownsRow base 77 1 v n (xs.flatMap uc)) (hn:xs.length=n) (h12:n≤12) :
 Calls Tryz.prog 83 #[v,.int .i64 0,.int .i64 (n:Int),.int .i64 m] w fun e w'=>e = .returned (.tuple #[])∧Sorts 77 base v n xs w w':=by
 have K:=Lib.hid (ins_any16 xs v n base w ho hn h12)
 obtain ⟨r,cap,rfl⟩:∃ r cap,v = .slice r n cap:=by
  rcases ho.2 with ⟨rfl,h⟩ | ⟨g,cap,cur,rfl,_⟩
  ·subst h;exact ⟨_,_,rfl⟩
  ·exact ⟨_,_,rfl⟩
 have e1:(n:Int)≤12:=by omega
 clear ho hn
 go_enter Tryz.func83,Tryz.ntmps83
 go_wp2
 refine wp_loop_rounds 1 ?_
 rw [rounds_succ]
 go_wp2_with (go_at_call 115;refine K.out.mono ?_;rintro e w1 ⟨rfl,hs⟩;have HS:=Lib.hid hs;clear hs)
 (try simp only [Exit.inBlock,Exit.then])
 refine bodyPost_ret (results_none rfl _ _ _) rfl ?_
 exact ⟨rfl,HS.out⟩
theorem sort16 (xs:List Nat) (v:Value) (n base:Nat) (w:World) (ho:w.ownsRow base 77 1 v n (xs.flatMap uc)) (hn:xs.length=n) (h12:n≤12) :
 Calls Tryz.prog 53 #[v] w fun e w'=>e = .returned (.tuple #[])∧Sorts 77 base v n xs w w':=by
 have K:=Lib.hid (fun m=>pdq16 xs v n base m w ho hn h12)
 have KL:=Lib.hid (fun w=>len_few n h12 w)
 obtain ⟨r,cap,rfl⟩:∃ r cap,v = .slice r n cap:=by
  rcases ho.2 with ⟨rfl,h⟩ | ⟨g,cap,cur,rfl,_⟩
  ·subst h;exact ⟨_,_,rfl⟩
  ·exact ⟨_,_,rfl⟩
 have e1:IntKind.u64.wrap (n:Int)=(n:Int):=by rw [IntKind.wrap_u64];omega
 clear ho hn
 go_enter Tryz.func53,Tryz.ntmps53
 go_wp2_with (first
  | (go_at_call 84;refine (KL.out _).mono ?_;rintro e w1 ⟨⟨m,rfl⟩,rfl⟩)
  | (go_at_call 83;refine (K.out m).mono ?_;rintro e w1 ⟨rfl,hs⟩;have HS:=Lib.hid hs;clear hs))
 go_end0
 exact ⟨rfl,HS.out⟩
theorem makeU_c (v:Value) (l:List Nat) (w:World) (hR:Recs uc 1 w v l) :
 Calls Tryz.prog 30 #[v] w fun e w'=>∃ v',e = .returned v'∧w'.ownsRow w.heap.size 77 1 v' (mkU l).length ((mkU l).flatMap uc)∧Below w.heap.size w w':=by
 obtain ⟨i0,hi,hz0,hz1,hz2⟩:=info_parts info16
 obtain ⟨r0,cap0,rfl,hm⟩:=hR.form
 have HR:=Lib.hid hR
 obtain ⟨L,hL⟩:∃ L,l.length=L:=⟨_,rfl⟩
 have HL:=Lib.hid hL
 rw [hL] at HR hm ⊢
 clear hR hL
 go_enter Tryz.func30,Tryz.ntmps30
 go_wp2
 go_loopw [3,8] (fun s3 i wr=>∃ (k m:Nat) (r:Option Addr) (cap:Nat) (o:List Nat),s3 = .slice r m cap∧i = .int .i64 k∧k≤L∧m≤9∧wr.ownsRow w.heap.size 77 1 (.slice r m cap) m (o.flatMap uc)∧Hid (o.length=m∧o=stU l k)∧Below w.heap.size w wr) (fun _ i _=>L-(intOf i).toNat)
 case atStart=>exact ⟨0,0,none,0,[],rfl,rfl,Nat.zero_le _,Nat.zero_le _,World.ownsRow_nil _ _ _ _,Lib.hid ⟨rfl,rfl⟩,Below.refl _ _⟩
 case round =>
  obtain ⟨k,m,r,cap,o,rfl,rfl,hk,hm9,hown,HC,hb⟩:=hrel
  rename World=>wr
  have hbs:=hb.size
  by_cases hlt:k<L
  ·obtain ⟨x,hx⟩:∃ x,l[k]?=some x:=⟨l[k]'(by have:=HL.out;omega),List.getElem?_eq_getElem (by have:=HL.out;omega)⟩
   obtain ⟨g,off,rfl,hg,hc⟩:=(HR.out.stay hb).at hx
   have c0:=hc 0 _ rfl
   simp only [Nat.mul_one,Nat.add_zero] at c0
   obtain ⟨y,hy⟩:∃ y,1+x % 9=y:=⟨_,rfl⟩
   have hx9:x % 9<9:=Nat.mod_lt _ (by omega)
   have e1:1+(x:Int).tmod 9=(y:Int):=by rw [Int.tmod_eq_emod_of_nonneg (by omega)];omega
   have e2:IntKind.u16.wrap (y:Int)=(y:Int):=by rw [IntKind.wrap_u16];omega
   have e3:1+(x:Int) % 9=(y:Int):=by omega
   have hst:=stU_step hx
   have KC:=contains_u _ o y wr (recs_of_owns uc_len hown HC.out.1.symm (by omega))
   have HST:=Lib.hid (show stU l (k+1)=if y ∈ o then o else o ++ [y] by rw [hst,← HC.out.2,← hy];rfl)
   have HM:=Lib.hid (show (stU l (k+1)).length≤9 from stU_few l (k+1))
   have HB:=Lib.hid hb
   have HO:=Lib.hid hown
   have HOL:=Lib.hid hown.lt
   by_cases hin:y ∈ o
   ·rw [decide_eq_true hin] at KC
    have HK:=Lib.hid KC
    have HI:=Lib.hid hin
    clear hb hown hx hc hst KC hy hin
    go_wp2_with (go_at_call 52;refine HK.out.mono ?_;rintro e w1 ⟨rfl,rfl⟩)
    go_roundw
    case rel=>exact ⟨k+1,m,r,cap,o,rfl,by go_num,by omega,by omega,HO.out,Lib.hid ⟨HC.out.1,by rw [HST.out,if_pos HI.out]⟩,HB.out⟩
    case measure=>simp [intOf];omega
   ·rw [decide_eq_false hin] at KC
    have HK:=Lib.hid KC
    have HI:=Lib.hid hin
    clear hb hown hx hc hst KC hy hin
    go_wp2_with (first
     | (go_at_call 52;refine HK.out.mono ?_;rintro e w1 ⟨rfl,rfl⟩)
     | (at_builtin;refine wpList_append_own _ rfl (.tmp 19) (.tmp 21) 35 rfl w.heap.size 77 i0 (.int .u16 0) 1 2 Tryz.underlying35 hi hz0 hz1 hz2 rfl (by decide) _ m _ rfl (HO.out.alloc _) ⟨_,0,none⟩ 1 1 (uc y) rfl rfl (cells_new _ (uc y) _) (uc_one y) (by unfold maxLen;omega) (by omega) (by simp;omega) ?_;intro v2 w3 hown3 hgrow3 _;have HB3:=Lib.hid ((HB.out.alloc hbs _).grown hgrow3 (by simp;omega) (fun j hj=>(HOL.out j hj).1));have HO3:=Lib.hid hown3;obtain ⟨r2,cap2,rfl⟩:=owns_form hown3;clear hgrow3 hown3))
    go_roundw
    case rel =>
     have hl1:(o ++ [y]).length=m+1:=by simp;exact HC.out.1
     have hst:=HST.out
     rw [if_neg HI.out] at hst
     have:=HM.out
     rw [hst,hl1] at this
     exact ⟨k+1,m+1,r2,cap2,o ++ [y],rfl,by go_num,by omega,this,by rw [flat_snoc];exact HO3.out,Lib.hid ⟨hl1,hst.symm⟩,HB3.out⟩
    case measure=>simp [intOf];omega
  ·obtain rfl:k=L:=by omega
   have KS:=Lib.hid (sort16 o _ m w.heap.size wr hown HC.out.1 (by omega))
   have HB:=Lib.hid hb
   have HOL:=Lib.hid hown.lt
   clear hb hown
   go_wp2_with (go_at_call 53;refine KS.out.mono ?_;rintro e w1 ⟨rfl,hs⟩;have HS:=Lib.hid hs;clear hs)
   go_ret
   obtain ⟨ys,hp,hs,ho,hg⟩:=HS.out
   have e:=sort_mk (l:=l) (ys:=ys) (by rw [HL.out,← HC.out.2];exact hp) hs
   subst e
   have hl:=hp.length_eq
   rw [HC.out.1] at hl
   refine ⟨_,rfl,by rw [hl];exact ho,HB.out.grown hg hbs (fun j hj=>(HOL.out j hj).1)⟩

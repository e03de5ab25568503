/- Books in plain words: one journal's error among those of a book. -/
import Derived.Test.YtjgmbjfijpmhdaaGreatDoorZXall
import Derived.Test.YtjgmbjfijpmhdaaGreatDoorZXfh
import Derived.Test.YtjgmbjfijpmhdaaGreatDoorZNall
import Derived.Test.YtjgmbjfijpmhdaaGreatDoorZJall
import Derived.Test.YtjgmbjfijpmhdaaGreatDoorZHall
import Derived.Test.YtjgmbjfijpmhdaaGreatDoorZIall
import Derived.BigQuiet
import Derived.Deep.QuietTactic
import Derived.BigRegion
import Derived.Test.YtjgmbjfijpmhdaaGreatDoorZKall
set_option maxRecDepth 100000
set_option maxHeartbeats 2000000
namespace Go.Proofs.YtjgmbjfijpmhdaaGreatDoor
open Go.RowKit
set_option linter.unusedVariables false
set_option linter.unusedSimpArgs false
theorem chkF_eq (f:Fr):chkF f=if chkA f.C≠0 then chkA f.C else if chkU f.U≠0 then chkU f.U else chkD f.S f.E:=rfl
theorem JRow.cells {w:World} {g off n cap:Nat} {vs:List Jm} (h:JRow w (.slice (some ⟨g,off,none⟩) n cap) vs) {i:Nat} {p:Jm} (hp:vs[i]?=some p):g<w.heap.size∧n≤cap∧w.cell? ⟨g,off+i * 2,none⟩=some (.int .i32 p.1)∧w.cell? ⟨g,off+i * 2+1,none⟩=some p.2.1∧Recs lc 4 w p.2.1 p.2.2:=by
 obtain ⟨g',off',cp',er,h1,h2,h3,h4,h5⟩:=h.at hp
 injection er with e1 e2 e3
 injection e1 with e1
 injection e1 with e1 e4
 subst e1 e2 e3 e4
 exact ⟨h1,h2,h3,h4,h5⟩
def fstA:List Ac→Nat→Nat→Int
 | [],_,_=>-1
 | a :: r,n,k=>if a.code=n then (k:Int) else fstA r n (k+1)
theorem fstA_drop {c:List Ac} {n k:Nat} {a:Ac} (h:c[k]?=some a):fstA (c.drop k) n k=if a.code=n then (k:Int) else fstA (c.drop (k+1)) n (k+1):=by
 obtain ⟨hk,e⟩:=List.getElem?_eq_some_iff.1 h
 rw [List.drop_eq_getElem_cons hk,e]
 rfl
theorem fstA_any:∀ (c:List Ac) (n k:Nat),decide (0≤fstA c n k)=c.any (fun a=>a.code == n)
 | [],_,_=>rfl
 | a :: r,n,k=>by
  rw [List.any_cons]
  unfold fstA
  by_cases h:a.code=n
  ·rw [if_pos h,h];simp
  ·rw [if_neg h,fstA_any r n (k+1)];simp [h]
theorem first_f (v0 v1 v2:Value) (e0 e1 e2:Int) (g:Nat) (T:TypeId) (w:World) (hb:HBox w g [.func (.func 44) #[v0] #[],.func (.func 40) #[v1] #[],.func (.func 41) #[v2] #[]] T)
 (k0:∀ w',Below w.heap.size w w'→Calls Tryz.prog 44 #[v0] w' fun e w''=>e = .returned (.int .i64 e0)∧Below w'.heap.size w' w'')
 (k1:∀ w',e0=0→Below w.heap.size w w'→Calls Tryz.prog 40 #[v1] w' fun e w''=>e = .returned (.int .i64 e1)∧Below w'.heap.size w' w'')
 (k2:∀ w',e0=0→Below w.heap.size w w'→Calls Tryz.prog 41 #[v2] w' fun e w''=>e = .returned (.int .i64 e2)∧Below w'.heap.size w' w'') :
 Calls Tryz.prog 43 #[.slice (some ⟨g,0,none⟩) 3 3] w fun e w'=>e = .returned (.int .i64 (if e0≠0 then e0 else if e1≠0 then e1 else e2))∧Below w.heap.size w w':=by
 obtain ⟨R,hR⟩:∃ R,(if e0≠0 then e0 else if e1≠0 then e1 else e2)=R:=⟨_,rfl⟩
 have HR:=Lib.hid hR
 rw [hR]
 have HX:=Lib.hid hb
 have K0:=Lib.hid k0
 have K1:=Lib.hid k1
 have K2:=Lib.hid k2
 clear hR hb k0 k1 k2
 go_enter Tryz.func43,Tryz.ntmps43
 go_wp2_with fail
 go_loopw [8] (fun i wr=>∃ k:Nat,k≤3∧i = .int .i64 k∧Hid ((0<k→e0=0)∧(1<k→e1=0)∧(2<k→e2=0))∧Hid (Below w.heap.size w wr)) (fun i _=>3-(RowKit.intOf i).toNat)
 case atStart=>exact ⟨0,by omega,rfl,Lib.hid ⟨by omega,by omega,by omega⟩,Lib.hid (Below.refl _ _)⟩
 case round =>
  obtain ⟨k,hk,rfl,HE,HB⟩:=hrel
  rename World=>wr
  have HXr:=Lib.hid (HX.out.stay HB.out)
  rcases (by omega:k=0∨k=1∨k=2∨k=3) with rfl | rfl | rfl | rfl
  ·have x:=HXr.out.cell (j:=0) rfl
   by_cases hz:e0=0
   ·have hn:(e0 != 0)=false:=by simp [hz]
    go_wp2_with (go_at_call 44;refine (K0.out _ HB.out).mono ?_;rintro e w1 ⟨rfl,h1⟩;have HB1:=Lib.hid (HB.out.trans (h1.mono HB.out.size));clear h1)
    go_roundw
    case rel=>exact ⟨1,by omega,by go_num,Lib.hid ⟨fun _=>hz,by omega,by omega⟩,HB1⟩
    case measure=>simp [RowKit.intOf]
   ·have hn:(e0 != 0)=true:=by simp [hz]
    have hr:e0=R:=by
     have h:=HR.out
     rw [if_pos hz] at h;exact h
    go_wp2_with (go_at_call 44;refine (K0.out _ HB.out).mono ?_;rintro e w1 ⟨rfl,h1⟩;have HB1:=Lib.hid (HB.out.trans (h1.mono HB.out.size));clear h1)
    go_ret
    exact ⟨by first | rfl | (rw [hr];rfl),HB1.out⟩
  ·have x:=HXr.out.cell (j:=1) rfl
   by_cases hz:e1=0
   ·have hn:(e1 != 0)=false:=by simp [hz]
    go_wp2_with (go_at_call 40;refine (K1.out _ (HE.out.1 (by omega)) HB.out).mono ?_;rintro e w1 ⟨rfl,h1⟩;have HB1:=Lib.hid (HB.out.trans (h1.mono HB.out.size));clear h1)
    go_roundw
    case rel=>exact ⟨2,by omega,by go_num,Lib.hid ⟨fun _=>HE.out.1 (by omega),fun _=>hz,by omega⟩,HB1⟩
    case measure=>simp [RowKit.intOf]
   ·have hn:(e1 != 0)=true:=by simp [hz]
    have hr:e1=R:=by
     have h:=HR.out
     rw [if_neg (fun h=>h (HE.out.1 (by omega)))] at h;rw [if_pos hz] at h;exact h
    go_wp2_with (go_at_call 40;refine (K1.out _ (HE.out.1 (by omega)) HB.out).mono ?_;rintro e w1 ⟨rfl,h1⟩;have HB1:=Lib.hid (HB.out.trans (h1.mono HB.out.size));clear h1)
    go_ret
    exact ⟨by first | rfl | (rw [hr];rfl),HB1.out⟩
  ·have x:=HXr.out.cell (j:=2) rfl
   by_cases hz:e2=0
   ·have hn:(e2 != 0)=false:=by simp [hz]
    go_wp2_with (go_at_call 41;refine (K2.out _ (HE.out.1 (by omega)) HB.out).mono ?_;rintro e w1 ⟨rfl,h1⟩;have HB1:=Lib.hid (HB.out.trans (h1.mono HB.out.size));clear h1)
    go_roundw
    case rel=>exact ⟨3,by omega,by go_num,Lib.hid ⟨fun _=>HE.out.1 (by omega),fun _=>HE.out.2.1 (by omega),fun _=>hz⟩,HB1⟩
    case measure=>simp [RowKit.intOf]
   ·have hn:(e2 != 0)=true:=by simp [hz]
    have hr:e2=R:=by
     have h:=HR.out
     rw [if_neg (fun h=>h (HE.out.1 (by omega)))] at h;rw [if_neg (fun h=>h (HE.out.2.1 (by omega)))] at h;exact h
    go_wp2_with (go_at_call 41;refine (K2.out _ (HE.out.1 (by omega)) HB.out).mono ?_;rintro e w1 ⟨rfl,h1⟩;have HB1:=Lib.hid (HB.out.trans (h1.mono HB.out.size));clear h1)
    go_ret
    exact ⟨by first | rfl | (rw [hr];rfl),HB1.out⟩
  ·have hr:R=0:=by
    have h:=HR.out
    rw [if_neg (fun h=>h (HE.out.1 (by omega))),if_neg (fun h=>h (HE.out.2.1 (by omega))),HE.out.2.2 (by omega)] at h
    exact h.symm
   go_wp2_with fail
   go_ret
   exact ⟨by first | rfl | (rw [hr];rfl),HB.out⟩
theorem fcheck_b (vC vU vS:Value) (f:Fr) (w:World) (hI:InI w) (hF:FrM f vC vU vS w) (hi:FrIn f) :
 Calls Tryz.prog 19 #[frV vC vU vS f.E] w fun e w'=>e = .returned (.int .i64 (chkF f))∧Below w.heap.size w w':=by
 obtain ⟨rC,cC,rfl,_⟩:=hF.c.form
 obtain ⟨rU,cU,rfl,_⟩:=hF.u.form
 obtain ⟨rS,cS,rfl,_⟩:=hF.s.form
 have hb:Below w.heap.size w ((w.alloc (.cells #[.slice rC f.C.length cC,.slice rU f.U.length cU,.slice rS f.S.length cS,.int .i32 f.E] 41))):=(Below.refl _ _).alloc (Nat.le_refl _) _
 have KF:=fun (W:World) (hW:Below w.heap.size w W) (g:Nat) (T:TypeId) (hx)=>first_f (.slice rC f.C.length cC) (.slice rU f.U.length cU) (.agg #[.slice rS f.S.length cS,.int .i32 f.E]) (chkA f.C) (chkU f.U) (chkD f.S f.E) g T W hx
  (fun w' h=>checkA_c _ f.C w' (hF.c.stay (hW.trans (h.mono hW.size))))
  (fun w' _ h=>unitC.check _ f.U w' (hF.u.stay (hW.trans (h.mono hW.size))) hi.u.1 hi.u.2)
  (fun w' _ h=>calC.check _ f.S f.E w' (hI.stay (hW.trans (h.mono hW.size))) (hF.s.stay (hW.trans (h.mono hW.size))) hi.s.1 hi.s.2 hi.e)
 rw [← chkF_eq f] at KF
 have hx:=HBox.new w [.slice rC f.C.length cC,.slice rU f.U.length cU,.slice rS f.S.length cS,.int .i32 f.E] 41
 unfold frV
 have HK:=Lib.hid KF
 clear KF hI hF hi
 generalize chkF f=R at *
 generalize f.C.length=LC at *
 generalize f.U.length=LU at *
 generalize f.S.length=LS at *
 generalize f.E=E at *
 clear f
 change HBox (w.alloc (.cells #[.slice rC LC cC,.slice rU LU cU,.slice rS LS cS,.int .i32 E] 41)) _ _ _ at hx
 go_enter Tryz.func19,Tryz.ntmps19
 go_upto_region 1 with fail
 generalize w.alloc (.cells #[.slice rC LC cC,.slice rU LU cU,.slice rS LS cS,.int .i32 E] 41)=W at *
 have x0:=hx.cell (j:=0) rfl
 have x1:=hx.cell (j:=1) rfl
 have x2:=hx.cell (j:=2) rfl
 have x3:=hx.cell (j:=3) rfl
 have HB:=Lib.hid hb
 have hb2:=(Below.refl W.heap.size W).alloc (Nat.le_refl _) (.cells #[.func (.func 44) #[.slice rC LC cC] #[],.func (.func 40) #[.slice rU LU cU] #[],.func (.func 41) #[.agg #[.slice rS LS cS,.int .i32 E]] #[]] 61)
 have HB2:=Lib.hid (hb.trans (hb2.mono hb.size))
 have hf:=HBox.new W [.func (.func 44) #[.slice rC LC cC] #[],.func (.func 40) #[.slice rU LU cU] #[],.func (.func 41) #[.agg #[.slice rS LS cS,.int .i32 E]] #[]] 61
 change HBox (W.alloc (.cells #[.func (.func 44) #[.slice rC LC cC] #[],.func (.func 40) #[.slice rU LU cU] #[],.func (.func 41) #[.agg #[.slice rS LS cS,.int .i32 E]] #[]] 61)) _ _ _ at hf
 have H1:=Lib.hid (HK.out _ HB2.out _ _ hf)
 clear hx hb hb2 hf HK
 go_wp2_with (go_at_call 43;refine H1.out.mono ?_;rintro e w3 ⟨rfl,h3⟩;have HB3:=Lib.hid (HB2.out.trans (h3.mono HB2.out.size));clear h3)
 go_ret
 exact ⟨rfl,HB3.out⟩
theorem below_drewA (B:Nat) (w:World) (q:Nat):Below B w (w.drewN q):=⟨rfl,rfl,rfl,Nat.le_refl _,fun _ _=>rfl⟩
theorem equalIn_a (x y:Ac) (w:World):(Op.equalIn Op.maxDepth 82 (.agg #[.int .u32 (x.code:Int),.string x.name,.int .u8 (x.kind:Int),.int .u32 (x.par:Int)]) (.agg #[.int .u32 (y.code:Int),.string y.name,.int .u8 (y.kind:Int),.int .u32 (y.par:Int)])).run Tryz.prog w = .ok (decide (x=y)) w:=by
 have hp:Tryz.prog.stoodInHeld 82=false:=by kernel_rfl
 have ht:=Tryz.underlying82
 have hf:Tryz.prog.underlying 82=some (.struct (Tryz.prog.fieldsOf 82)):=by kernel_rfl
 rw [show Op.maxDepth=9999+1 from rfl,run_equalIn_agg w 9999 _ _ _ hf hp]
 have he:(Tryz.prog.fieldsOf 82)=(match Tryz.prog.underlying 82 with | some (.struct fs)=>fs | _=>#[]):=rfl
 rw [he,ht]
 have hd:decide (x=y)=(((x.code:Int) == (y.code:Int)) && ((x.name.toList == y.name.toList) && (((x.kind:Int) == (y.kind:Int)) && ((x.par:Int) == (y.par:Int))))):=by
  rw [Bool.eq_iff_iff]
  simp only [decide_eq_true_eq,Bool.and_eq_true,beq_iff_eq]
  constructor
  ·rintro rfl;exact ⟨rfl,rfl,rfl,rfl⟩
  ·rintro ⟨h1,h2,h3,h4⟩
   exact Ac.eq_of (by omega) (toList_inj h2) (by omega) (by omega)
 rw [hd]
 generalize (x.code:Int)=a1
 generalize x.name=a2
 generalize (x.kind:Int)=a3
 generalize (x.par:Int)=a4
 generalize (y.code:Int)=b1
 generalize y.name=b2
 generalize (y.kind:Int)=b3
 generalize (y.par:Int)=b4
 clear hd he hf hp ht
 cases h1:(a1 == b1) <;> cases h2:(a2.toList == b2.toList) <;> cases h3:(a3 == b3) <;> cases h4:(a4 == b4) <;> simp [Op.eqFields,go_sem,Tryz.underlying46,Tryz.underlying9,Tryz.underlying80,h1,h2,h3,h4]
theorem neq_a (x y:Ac) (w:World):(binOp .neq 82 (.agg #[.int .u32 (x.code:Int),.string x.name,.int .u8 (x.kind:Int),.int .u32 (x.par:Int)]) (.agg #[.int .u32 (y.code:Int),.string y.name,.int .u8 (y.kind:Int),.int .u32 (y.par:Int)])).run Tryz.prog w = .ok (.bool (!decide (x=y))) w:=by
 simp [binOp,Op.equal,equalIn_a x y w]
theorem take_stepA {xs ys:List Ac} {j:Nat} {x y:Ac} (h:xs.take j=ys.take j) (hx:xs[j]?=some x) (hy:ys[j]?=some y) (e:x=y):xs.take (j+1)=ys.take (j+1):=by
 rw [List.take_add_one,List.take_add_one,h,hx,hy,e]
theorem equal_alen (r1 r2:Option Addr) (n1 n2 c1 c2:Nat) (w:World) (h:n1≠n2) :
 Calls Tryz.prog 26 #[.slice r1 n1 c1,.slice r2 n2 c2] w fun e w'=>e = .returned (.bool false)∧Below w.heap.size w w':=by
 have h1:((n1:Int) != (n2:Int))=true:=by simp;omega
 go_enter Tryz.func26,Tryz.ntmps26
 go_wp2
 go_ret
 exact ⟨rfl,Below.refl _ _⟩
theorem equal_a (v1 v2:Value) (S S':List Ac) (w:World) (h1:Recs cc 4 w v1 S) (h2:Recs cc 4 w v2 S') :
 Calls Tryz.prog 26 #[v1,v2] w fun e w'=>e = .returned (.bool (decide (S=S')))∧Below w.heap.size w w':=by
 obtain ⟨r1,cap1,rfl,hm⟩:=h1.form
 obtain ⟨r2,cap2,rfl,_⟩:=h2.form
 by_cases hne:S.length=S'.length
 ·obtain ⟨n,hn⟩:∃ n,S.length=n:=⟨_,rfl⟩
  have HN:=Lib.hid hn
  have HN':=Lib.hid (hne ▸ hn)
  rw [← hne,hn] at h2 ⊢
  rw [hn] at h1 hm
  have H1:=Lib.hid h1
  have H2:=Lib.hid h2
  obtain ⟨T,hT⟩:∃ T,decide (S=S')=T:=⟨_,rfl⟩
  have HT:=Lib.hid hT
  rw [hT]
  clear h1 h2 hn hne hT
  go_enter Tryz.func26,Tryz.ntmps26
  go_wp2
  go_loopw [13] (fun i wr=>∃ j:Nat,j≤n∧i = .int .i64 j∧Hid (S.take j=S'.take j)∧Below w.heap.size w wr) (fun i _=>n-(RowKit.intOf i).toNat)
  case atStart=>exact ⟨0,Nat.zero_le _,rfl,rfl,Below.refl _ _⟩
  case round =>
   obtain ⟨j,hj,rfl,hE,hB⟩:=hrel
   rename World=>wr
   by_cases hlt:j<n
   ·obtain ⟨x,hx⟩:∃ x,S[j]?=some x:=⟨S[j]'(by have:=HN.out;omega),List.getElem?_eq_getElem (by have:=HN.out;omega)⟩
    obtain ⟨y,hy⟩:∃ y,S'[j]?=some y:=⟨S'[j]'(by have:=HN'.out;omega),List.getElem?_eq_getElem (by have:=HN'.out;omega)⟩
    obtain ⟨g1,o1,rfl,_,c1⟩:=(H1.out.stay hB).at hx
    obtain ⟨g2,o2,rfl,_,c2⟩:=(H2.out.stay hB).at hy
    have a0:=c1 0 _ rfl
    have a1:=c1 1 _ rfl
    have a2:=c1 2 _ rfl
    have a3:=c1 3 _ rfl
    have b0:=c2 0 _ rfl
    have b1:=c2 1 _ rfl
    have b2:=c2 2 _ rfl
    have b3:=c2 3 _ rfl
    rw [Nat.add_zero] at a0 b0
    have HS:=Lib.hid (fun e=>take_stepA hE.out hx hy e)
    have HF:Hid (x≠y→T=false):=Lib.hid (fun e=>by
     rw [← HT.out]
     refine decide_eq_false fun h=>e ?_
     rw [h,hy] at hx
     exact (Option.some.inj hx).symm)
    have HB:=Lib.hid hB
    have hne:=fun w=>neq_a x y w
    clear hx hy c1 c2 hE hB
    by_cases hxy:x=y
    ·rw [decide_eq_true hxy] at hne
     have HS2:=Lib.hid (HS.out hxy)
     clear HS HF hxy
     go_wp2_with fail
     go_quiet (fail)
     go_wp2
     go_roundw
     case rel=>exact ⟨j+1,by omega,by go_num,HS2,HB.out.trans (below_drewA _ _ _)⟩
     case measure=>simp [RowKit.intOf];omega
    ·rw [decide_eq_false hxy] at hne
     obtain rfl:=HF.out hxy
     clear HS HF hxy
     go_wp2_with fail
     go_quiet (fail)
     go_wp2
     go_ret
     exact ⟨rfl,HB.out.trans (below_drewA _ _ _)⟩
   ·obtain rfl:j=n:=by omega
    have e:T=true:=by
     rw [← HT.out]
     refine decide_eq_true ?_
     have:=hE.out
     rwa [List.take_of_length_le (by have:=HN.out;omega),List.take_of_length_le (by have:=HN'.out;omega)] at this
    subst e
    go_wp2
    go_ret
    exact ⟨rfl,hB⟩
 ·rw [decide_eq_false fun h=>hne (by rw [h])]
  exact equal_alen _ _ _ _ _ _ _ hne
theorem take_stepU {xs ys:List Nat} {j:Nat} {x y:Nat} (h:xs.take j=ys.take j) (hx:xs[j]?=some x) (hy:ys[j]?=some y) (e:x=y):xs.take (j+1)=ys.take (j+1):=by
 rw [List.take_add_one,List.take_add_one,h,hx,hy,e]
theorem equal_ulen (r1 r2:Option Addr) (n1 n2 c1 c2:Nat) (w:World) (h:n1≠n2) :
 Calls Tryz.prog 24 #[.slice r1 n1 c1,.slice r2 n2 c2] w fun e w'=>e = .returned (.bool false)∧Below w.heap.size w w':=by
 have h1:((n1:Int) != (n2:Int))=true:=by simp;omega
 go_enter Tryz.func24,Tryz.ntmps24
 go_wp2
 go_ret
 exact ⟨rfl,Below.refl _ _⟩
theorem equal_us (v1 v2:Value) (S S':List Nat) (w:World) (h1:Recs uc 1 w v1 S) (h2:Recs uc 1 w v2 S') :
 Calls Tryz.prog 24 #[v1,v2] w fun e w'=>e = .returned (.bool (decide (S=S')))∧Below w.heap.size w w':=by
 obtain ⟨r1,cap1,rfl,hm⟩:=h1.form
 obtain ⟨r2,cap2,rfl,_⟩:=h2.form
 by_cases hne:S.length=S'.length
 ·obtain ⟨n,hn⟩:∃ n,S.length=n:=⟨_,rfl⟩
  have HN:=Lib.hid hn
  have HN':=Lib.hid (hne ▸ hn)
  rw [← hne,hn] at h2 ⊢
  rw [hn] at h1 hm
  have H1:=Lib.hid h1
  have H2:=Lib.hid h2
  obtain ⟨T,hT⟩:∃ T,decide (S=S')=T:=⟨_,rfl⟩
  have HT:=Lib.hid hT
  rw [hT]
  clear h1 h2 hn hne hT
  go_enter Tryz.func24,Tryz.ntmps24
  go_wp2
  go_loopw [13] (fun i wr=>∃ j:Nat,j≤n∧i = .int .i64 j∧Hid (S.take j=S'.take j)∧Below w.heap.size w wr) (fun i _=>n-(RowKit.intOf i).toNat)
  case atStart=>exact ⟨0,Nat.zero_le _,rfl,rfl,Below.refl _ _⟩
  case round =>
   obtain ⟨j,hj,rfl,hE,hB⟩:=hrel
   rename World=>wr
   by_cases hlt:j<n
   ·obtain ⟨x,hx⟩:∃ x,S[j]?=some x:=⟨S[j]'(by have:=HN.out;omega),List.getElem?_eq_getElem (by have:=HN.out;omega)⟩
    obtain ⟨y,hy⟩:∃ y,S'[j]?=some y:=⟨S'[j]'(by have:=HN'.out;omega),List.getElem?_eq_getElem (by have:=HN'.out;omega)⟩
    obtain ⟨g1,o1,rfl,_,c1⟩:=(H1.out.stay hB).at hx
    obtain ⟨g2,o2,rfl,_,c2⟩:=(H2.out.stay hB).at hy
    have a0:=c1 0 _ rfl
    have b0:=c2 0 _ rfl
    simp only [Nat.mul_one,Nat.add_zero] at a0 b0
    have HS:=Lib.hid (fun e=>take_stepU hE.out hx hy e)
    have HF:Hid (x≠y→T=false):=Lib.hid (fun e=>by
     rw [← HT.out]
     refine decide_eq_false fun h=>e ?_
     rw [h,hy] at hx
     exact (Option.some.inj hx).symm)
    clear hx hy c1 c2 hE
    by_cases hxy:x=y
    ·subst hxy
     have HS2:=Lib.hid (HS.out rfl)
     clear HS HF
     go_wp2
     go_region
     all_goals
      go_wp2
      go_roundw
      case rel=>exact ⟨j+1,by omega,by go_num,HS2,hB.drew⟩
      case measure=>simp [RowKit.intOf];omega
    ·have hxy':((x:Int) != (y:Int))=true:=by simp;omega
     obtain rfl:=HF.out hxy
     clear HS HF
     go_wp2
     go_region
     all_goals
      go_wp2
      go_ret
      exact ⟨rfl,hB.drew⟩
   ·obtain rfl:j=n:=by omega
    have e:T=true:=by
     rw [← HT.out]
     refine decide_eq_true ?_
     have:=hE.out
     rwa [List.take_of_length_le (by have:=HN.out;omega),List.take_of_length_le (by have:=HN'.out;omega)] at this
    subst e
    go_wp2
    go_ret
    exact ⟨rfl,hB⟩
 ·rw [decide_eq_false fun h=>hne (by rw [h])]
  exact equal_ulen _ _ _ _ _ _ _ hne
theorem sameframe_b (vC1 vU1 vS1 vC2 vU2 vS2:Value) (f g:Fr) (w:World) (hF:FrM f vC1 vU1 vS1 w) (hG:FrM g vC2 vU2 vS2 w) (hi:FrIn f) (gi:FrIn g) :
 Calls Tryz.prog 18 #[frV vC1 vU1 vS1 f.E,frV vC2 vU2 vS2 g.E] w fun e w'=>e = .returned (.bool (eqF f g))∧Below w.heap.size w w':=by
 obtain ⟨rC1,cC1,rfl,_⟩:=hF.c.form
 obtain ⟨rU1,cU1,rfl,_⟩:=hF.u.form
 obtain ⟨rS1,cS1,rfl,_⟩:=hF.s.form
 obtain ⟨rC2,cC2,rfl,_⟩:=hG.c.form
 obtain ⟨rU2,cU2,rfl,_⟩:=hG.u.form
 obtain ⟨rS2,cS2,rfl,_⟩:=hG.s.form
 have KA:=Lib.hid (fun (w':World) (h:Below w.heap.size w w')=>equal_a _ _ f.C g.C w' (hF.c.stay h) (hG.c.stay h))
 have KU:=Lib.hid (fun (w':World) (h:Below w.heap.size w w')=>equal_us _ _ f.U g.U w' (hF.u.stay h) (hG.u.stay h))
 have KD:=Lib.hid (fun (w':World) (h:Below w.heap.size w w')=>calC.same _ _ f.S g.S f.E g.E w' (hF.s.stay h) (hG.s.stay h) hi.s.1 gi.s.1)
 have hT:eqF f g=(decide (f.C=g.C) && decide (f.U=g.U) && decide (f.S=g.S∧f.E=g.E)):=by
  unfold eqF
  rw [Bool.eq_iff_iff]
  simp [and_assoc]
 rw [hT]
 unfold frV
 clear hT hF hG hi gi
 generalize decide (f.C=g.C)=b1 at *
 generalize decide (f.U=g.U)=b2 at *
 generalize decide (f.S=g.S∧f.E=g.E)=b3 at *
 generalize f.C.length=LC1 at *
 generalize f.U.length=LU1 at *
 generalize f.S.length=LS1 at *
 generalize f.E=E1 at *
 generalize g.C.length=LC2 at *
 generalize g.U.length=LU2 at *
 generalize g.S.length=LS2 at *
 generalize g.E=E2 at *
 clear f g
 have hs:(w.alloc (.cells #[.slice rC1 LC1 cC1,.slice rU1 LU1 cU1,.slice rS1 LS1 cS1,.int .i32 E1] 41)).heap.size=w.heap.size+1:=by simp
 have hb:Below w.heap.size w ((w.alloc (.cells #[.slice rC1 LC1 cC1,.slice rU1 LU1 cU1,.slice rS1 LS1 cS1,.int .i32 E1] 41)).alloc (.cells #[.slice rC2 LC2 cC2,.slice rU2 LU2 cU2,.slice rS2 LS2 cS2,.int .i32 E2] 41)):=((Below.refl _ _).alloc (Nat.le_refl _) _).alloc (by simp) _
 have hx:=(HBox.new w [.slice rC1 LC1 cC1,.slice rU1 LU1 cU1,.slice rS1 LS1 cS1,.int .i32 E1] 41).alloc (.cells #[.slice rC2 LC2 cC2,.slice rU2 LU2 cU2,.slice rS2 LS2 cS2,.int .i32 E2] 41)
 have hy:=HBox.new (w.alloc (.cells #[.slice rC1 LC1 cC1,.slice rU1 LU1 cU1,.slice rS1 LS1 cS1,.int .i32 E1] 41)) [.slice rC2 LC2 cC2,.slice rU2 LU2 cU2,.slice rS2 LS2 cS2,.int .i32 E2] 41
 rw [hs] at hy
 change HBox ((w.alloc (.cells #[.slice rC1 LC1 cC1,.slice rU1 LU1 cU1,.slice rS1 LS1 cS1,.int .i32 E1] 41)).alloc (.cells #[.slice rC2 LC2 cC2,.slice rU2 LU2 cU2,.slice rS2 LS2 cS2,.int .i32 E2] 41)) _ _ _ at hx
 change HBox ((w.alloc (.cells #[.slice rC1 LC1 cC1,.slice rU1 LU1 cU1,.slice rS1 LS1 cS1,.int .i32 E1] 41)).alloc (.cells #[.slice rC2 LC2 cC2,.slice rU2 LU2 cU2,.slice rS2 LS2 cS2,.int .i32 E2] 41)) _ _ _ at hy
 go_enter Tryz.func18,Tryz.ntmps18
 go_upto_region 1 with fail
 generalize (w.alloc (.cells #[.slice rC1 LC1 cC1,.slice rU1 LU1 cU1,.slice rS1 LS1 cS1,.int .i32 E1] 41)).alloc (.cells #[.slice rC2 LC2 cC2,.slice rU2 LU2 cU2,.slice rS2 LS2 cS2,.int .i32 E2] 41)=W at *
 have HX:=Lib.hid hx
 have HY:=Lib.hid hy
 have HB:=Lib.hid hb
 clear hs hb
 have x0:=hx.cell (j:=0) rfl
 have y0:=hy.cell (j:=0) rfl
 clear hx hy
 cases b1 <;> cases b2 <;> cases b3
 all_goals
  go_wp2_with (first
   | (go_at_call 25;refine (KD.out _ HB2.out).mono ?_;rintro e w3 ⟨rfl,g3⟩;have HB3:=Lib.hid (HB2.out.trans (g3.mono HB2.out.size));clear g3)
   | (go_at_call 24;refine (KU.out _ HB1.out).mono ?_;rintro e w2 ⟨rfl,g2⟩;have HB2:=Lib.hid (HB1.out.trans (g2.mono HB1.out.size));have HX2:=Lib.hid (HX1.out.stay g2);have HY2:=Lib.hid (HY1.out.stay g2);have u2:=HX2.out.cell (j:=2) rfl;have u3:=HX2.out.cell (j:=3) rfl;have v2:=HY2.out.cell (j:=2) rfl;have v3:=HY2.out.cell (j:=3) rfl;clear g2)
   | (go_at_call 26;refine (KA.out _ HB.out).mono ?_;rintro e w1 ⟨rfl,g1⟩;have HB1:=Lib.hid (HB.out.trans (g1.mono HB.out.size));have HX1:=Lib.hid (HX.out.stay g1);have HY1:=Lib.hid (HY.out.stay g1);have t1:=HX1.out.cell (j:=1) rfl;have s1:=HY1.out.cell (j:=1) rfl;clear g1))
  go_ret
  first | exact ⟨rfl,HB3.out⟩ | exact ⟨rfl,HB2.out⟩ | exact ⟨rfl,HB1.out⟩

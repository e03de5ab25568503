/- The walk of law BookDays. -/
import Derived.Test.YtmpefjnfelfnfaaGreatDoorLawb
import Derived.BigRegion
import Derived.Test.YtmpefjnfelfnfaaGreatDoorCpq
import Derived.Test.YtmpefjnfelfnfaaGreatDoorTall
import Derived.StillTailTactics
set_option maxRecDepth 100000
set_option maxHeartbeats 8000000
namespace Go.Proofs.YtmpefjnfelfnfaaGreatDoor
open Go.RowKit
set_option linter.unusedVariables false
set_option linter.unusedSimpArgs false
theorem clone_j (xs:List Jm) (r:Option Addr) (n cap:Nat) (w:World) (hR:Recs jc 2 w (.slice r n cap) xs) (hn:xs.length=n) (hl:n≤1000) (hone:∀ u ∈ xs.flatMap jc,u.oneCell'=true) :
 Calls Tryz.prog 45 #[.slice r n cap] w fun e w'=>∃ v',e = .returned v'∧w'.ownsRow w.heap.size 67 2 v' n (xs.flatMap jc)∧Below w.heap.size w w':=by
 obtain ⟨i0,hi,hz0,hz1,hz2⟩:=info_parts infoJ
 have q22:∀ (w:World) (a:Option Addr) (n c n' c':Nat),(binOp .eql 39 (.slice a n c) (.slice none n' c')).run Tryz.prog w = .ok (.bool a.isNone) w:=fun w a n c n' c'=>Lib.run_eql_slice_nil w _ _ a n c n' c' Tryz.underlying39
 have hlen:(xs.flatMap jc).length=n * 2:=by rw [flat_len jc_len,hn]
 cases r with
 | none =>
  have h0:n=0:=by
   rcases hR with ⟨_,_,h1,h2⟩ | ⟨_,_,_,h1,_⟩
   ·cases h1;rfl
   ·cases h1
  subst h0
  have hx:xs.flatMap jc=[]:=List.eq_nil_of_length_eq_zero (by simpa using hlen)
  rw [hx]
  clear hR hlen hx
  go_enter Tryz.func45,Tryz.ntmps45
  go_wp2
  go_ret
  exact ⟨_,rfl,World.ownsRow_nil _ _ _ _,Below.refl _ _⟩
 | some ad =>
  have HC:=Lib.hid (show ∀ j u,(xs.flatMap jc)[j]?=some u→(w.alloc (.cells #[] 67)).cell? (ad.add j)=some u from fun j u hu=>by
   rcases hR with ⟨_,_,h1,h2⟩ | ⟨g,off,c,h1,hg,h3,h4,h5⟩
   ·rw [h2] at hu;simp at hu
   ·cases h1
    have e:(⟨g,off,none⟩:Addr).add j=⟨g,off+j,none⟩:=by unfold Addr.add;split <;> simp_all
    rw [e,World.cell?_alloc_lt _ _ _ hg]
    exact recs_flat jc_len (by omega) (.inr ⟨g,off,cap,rfl,hg,h3,h4,h5⟩) j u hu)
  have h1:=hone
  clear hR hone
  generalize xs.flatMap jc=zs at *
  go_enter Tryz.func45,Tryz.ntmps45
  go_wp2_with (at_builtin;refine wpList_append_own _ rfl (.tmp 5) (.tmp 6) 39 rfl w.heap.size 67 i0 (.agg #[.int .i32 0,.slice none 0 0]) 2 32 Tryz.underlying39 hi hz0 hz1 hz2 rfl (by decide) _ 0 [] rfl (World.ownsRow_made w #[] 0 (Nat.le_refl _) (by decide) (by simp)) ad n cap zs rfl hlen HC.out h1 (by unfold maxLen;omega) (by omega) (by simp) ?_;intro v3 w3 hown3 hgrow3 _)
  go_ret
  refine ⟨_,rfl,by simpa using hown3,((Below.refl _ _).alloc (Nat.le_refl _) _).grown hgrow3 (by simp) (fun k hk=>by have e:some w.heap.size=some k:=hk;injection e with e;omega)⟩
def RP (B Y:Nat) (vC vU vS vJ:Value) (E:Int) (vs:List Jm):Nat→Value→World→Prop
 | 0,v,_=>v = .pointer (some ⟨Y,0,none⟩)
 | 1,v,_=>v = .agg #[vC,vU,vS,.int .i32 E]
 | 2,v,_=>v = .agg #[vC,vU,vS,.int .i32 E,.slice none 0 0]
 | 3,v,_=>v = .pointer (some ⟨Y,0,none⟩)
 | 4,v,_=>v = .agg #[vC,vU,vS,.int .i32 E]
 | 5,v,_=>v = .pointer (some ⟨Y,4,none⟩)
 | 6,v,_=>v=vJ
 | 7,v,w=>w.ownsRow B 67 2 v vs.length (vs.flatMap jc)
 | 8,v,w=>∃ vT,v = .agg #[vC,vU,vS,.int .i32 E,vT]∧w.ownsRow B 67 2 vT vs.length (vs.flatMap jc)
 | 11,v,w=>∃ g,v = .pointer (some ⟨g,0,none⟩)∧HBox w g [vC,vU,vS,.int .i32 E,.slice none 0 0] 41
 | _,v,w=>∃ g c0 c1 c2 c3 c4,v = .pointer (some ⟨g,0,none⟩)∧B≤g∧HBox w g [c0,c1,c2,c3,c4] 41
theorem RP.stay {B Y:Nat} {vC vU vS vJ:Value} {E:Int} {vs:List Jm} {w w':World} (hb:Below w.heap.size w w'):∀ j u,RP B Y vC vU vS vJ E vs j u w→RP B Y vC vU vS vJ E vs j u w'
 | 0,_,h=>h
 | 1,_,h=>h
 | 2,_,h=>h
 | 3,_,h=>h
 | 4,_,h=>h
 | 5,_,h=>h
 | 6,_,h=>h
 | 7,_,h=>owns_below (by exact h) hb
 | 8,_,⟨vT,h1,h2⟩=>⟨vT,h1,owns_below h2 hb⟩
 | 9,_,⟨g,c0,c1,c2,c3,c4,h1,h2,h3⟩=>⟨g,c0,c1,c2,c3,c4,h1,h2,h3.stay hb⟩
 | 10,_,⟨g,c0,c1,c2,c3,c4,h1,h2,h3⟩=>⟨g,c0,c1,c2,c3,c4,h1,h2,h3.stay hb⟩
 | 11,_,⟨g,h1,h3⟩=>⟨g,h1,h3.stay hb⟩
 | _+12,_,⟨g,c0,c1,c2,c3,c4,h1,h2,h3⟩=>⟨g,c0,c1,c2,c3,c4,h1,h2,h3.stay hb⟩
theorem RP.store {B Y:Nat} {vC vU vS vJ:Value} {E:Int} {vs:List Jm} {w w':World} {g:Nat} {cs:List Value} (hg:w.grownBy w' (some g)) (h0:HBox w g cs 41) (h1:HBox w' g [vC,vU,vS,.int .i32 E,.slice none 0 0] 41):∀ j u,RP B Y vC vU vS vJ E vs j u w→RP B Y vC vU vS vJ E vs j u w'
 | 0,_,h=>h
 | 1,_,h=>h
 | 2,_,h=>h
 | 3,_,h=>h
 | 4,_,h=>h
 | 5,_,h=>h
 | 6,_,h=>h
 | 7,u,h=>by
  have h':w.ownsRow B 67 2 u vs.length (vs.flatMap jc):=h
  exact h'.kept hg (owns_box_far h' h0 (by decide))
 | 8,_,⟨vT,e1,e2⟩=>⟨vT,e1,e2.kept hg (owns_box_far e2 h0 (by decide))⟩
 | 11,u,⟨k,e1,e3⟩=>by
  by_cases e:k=g
  ·subst e;exact ⟨k,e1,h1⟩
  ·exact ⟨k,e1,e3.grown hg (fun h=>e (Option.some.inj h))⟩
 | 9,u,⟨k,c0,c1,c2,c3,c4,e1,e2,e3⟩=>by
  by_cases e:k=g
  ·subst e;exact ⟨k,_,_,_,_,_,e1,e2,h1⟩
  ·exact ⟨k,c0,c1,c2,c3,c4,e1,e2,e3.grown hg (fun h=>e (Option.some.inj h))⟩
 | 10,u,⟨k,c0,c1,c2,c3,c4,e1,e2,e3⟩=>by
  by_cases e:k=g
  ·subst e;exact ⟨k,_,_,_,_,_,e1,e2,h1⟩
  ·exact ⟨k,c0,c1,c2,c3,c4,e1,e2,e3.grown hg (fun h=>e (Option.some.inj h))⟩
 | _+12,u,⟨k,c0,c1,c2,c3,c4,e1,e2,e3⟩=>by
  by_cases e:k=g
  ·subst e;exact ⟨k,_,_,_,_,_,e1,e2,h1⟩
  ·exact ⟨k,c0,c1,c2,c3,c4,e1,e2,e3.grown hg (fun h=>e (Option.some.inj h))⟩
theorem jrow_one {w:World} {v:Value} {vs:List Jm} (h:JRow w v vs):∀ u ∈ vs.flatMap jc,u.oneCell'=true:=fun u hu=>by
 obtain ⟨p,hp,h1⟩:=List.mem_flatMap.1 hu
 obtain ⟨r,c,e,_⟩:=(h.2 p hp).form
 simp only [jc,e] at h1
 rcases List.mem_cons.1 h1 with rfl | h1
 ·rfl
 ·simp at h1;subst h1;rfl
theorem clone_a (xs:List Ac) (r:Option Addr) (n cap:Nat) (w:World) (hR:Recs cc 4 w (.slice r n cap) xs) (hn:xs.length=n) (hl:n≤1000) :
 Calls Tryz.prog 43 #[.slice r n cap] w fun e w'=>∃ v',e = .returned v'∧w'.ownsRow w.heap.size 76 4 v' n (xs.flatMap cc)∧Below w.heap.size w w':=by
 obtain ⟨i0,hi,hz0,hz1,hz2⟩:=info_parts info35
 have q22:∀ (w:World) (a:Option Addr) (n c n' c':Nat),(binOp .eql 31 (.slice a n c) (.slice none n' c')).run Tryz.prog w = .ok (.bool a.isNone) w:=fun w a n c n' c'=>Lib.run_eql_slice_nil w _ _ a n c n' c' Tryz.underlying31
 have hlen:(xs.flatMap cc).length=n * 4:=by rw [flat_len cc_len,hn]
 cases r with
 | none =>
  have h0:n=0:=by
   rcases hR with ⟨_,_,h1,h2⟩ | ⟨_,_,_,h1,_⟩
   ·cases h1;rfl
   ·cases h1
  subst h0
  have hx:xs.flatMap cc=[]:=List.eq_nil_of_length_eq_zero (by simpa using hlen)
  rw [hx]
  clear hR hlen hx
  go_enter Tryz.func43,Tryz.ntmps43
  go_wp2
  go_ret
  exact ⟨_,rfl,World.ownsRow_nil _ _ _ _,Below.refl _ _⟩
 | some ad =>
  have HC:=Lib.hid (show ∀ j u,(xs.flatMap cc)[j]?=some u→(w.alloc (.cells #[] 76)).cell? (ad.add j)=some u from fun j u hu=>by
   rcases hR with ⟨_,_,h1,h2⟩ | ⟨g,off,c,h1,hg,h3,h4,h5⟩
   ·rw [h2] at hu;simp at hu
   ·cases h1
    have e:(⟨g,off,none⟩:Addr).add j=⟨g,off+j,none⟩:=by unfold Addr.add;split <;> simp_all
    rw [e,World.cell?_alloc_lt _ _ _ hg]
    exact recs_flat cc_len (by omega) (.inr ⟨g,off,cap,rfl,hg,h3,h4,h5⟩) j u hu)
  have h1:=flat_one cc_one xs
  clear hR
  generalize xs.flatMap cc=zs at *
  go_enter Tryz.func43,Tryz.ntmps43
  go_wp2_with (at_builtin;refine wpList_append_own _ rfl (.tmp 5) (.tmp 6) 31 rfl w.heap.size 76 i0 (.agg #[.int .u32 0,.string ⟨#[]⟩,.int .u8 0,.int .u32 0]) 4 32 Tryz.underlying31 hi hz0 hz1 hz2 rfl (by decide) _ 0 [] rfl (World.ownsRow_made w #[] 0 (Nat.le_refl _) (by decide) (by simp)) ad n cap zs rfl hlen HC.out h1 (by unfold maxLen;omega) (by omega) (by simp) ?_;intro v3 w3 hown3 hgrow3 _)
  go_ret
  refine ⟨_,rfl,by simpa using hown3,((Below.refl _ _).alloc (Nat.le_refl _) _).grown hgrow3 (by simp) (fun k hk=>by have e:some w.heap.size=some k:=hk;injection e with e;omega)⟩
theorem clone_dy (xs:List Int) (r:Option Addr) (n cap:Nat) (w:World) (hR:Recs dcl 1 w (.slice r n cap) xs) (hn:xs.length=n) (hl:n≤1000) :
 Calls Tryz.prog 46 #[.slice r n cap] w fun e w'=>∃ v',e = .returned v'∧w'.ownsRow w.heap.size 34 1 v' n (xs.flatMap dcl)∧Below w.heap.size w w':=by
 obtain ⟨i0,hi,hz0,hz1,hz2⟩:=info_parts infoD
 have q22:∀ (w:World) (a:Option Addr) (n c n' c':Nat),(binOp .eql 33 (.slice a n c) (.slice none n' c')).run Tryz.prog w = .ok (.bool a.isNone) w:=fun w a n c n' c'=>Lib.run_eql_slice_nil w _ _ a n c n' c' Tryz.underlying33
 have hlen:(xs.flatMap dcl).length=n * 1:=by rw [flat_len dcl_len,hn]
 cases r with
 | none =>
  have h0:n=0:=by
   rcases hR with ⟨_,_,h1,h2⟩ | ⟨_,_,_,h1,_⟩
   ·cases h1;rfl
   ·cases h1
  subst h0
  have hx:xs.flatMap dcl=[]:=List.eq_nil_of_length_eq_zero (by simpa using hlen)
  rw [hx]
  clear hR hlen hx
  go_enter Tryz.func46,Tryz.ntmps46
  go_wp2
  go_ret
  exact ⟨_,rfl,World.ownsRow_nil _ _ _ _,Below.refl _ _⟩
 | some ad =>
  have HC:=Lib.hid (show ∀ j u,(xs.flatMap dcl)[j]?=some u→(w.alloc (.cells #[] 34)).cell? (ad.add j)=some u from fun j u hu=>by
   rcases hR with ⟨_,_,h1,h2⟩ | ⟨g,off,c,h1,hg,h3,h4,h5⟩
   ·rw [h2] at hu;simp at hu
   ·cases h1
    have e:(⟨g,off,none⟩:Addr).add j=⟨g,off+j,none⟩:=by unfold Addr.add;split <;> simp_all
    rw [e,World.cell?_alloc_lt _ _ _ hg]
    exact recs_flat dcl_len (by omega) (.inr ⟨g,off,cap,rfl,hg,h3,h4,h5⟩) j u hu)
  have h1:=flat_one dcl_one xs
  clear hR
  generalize xs.flatMap dcl=zs at *
  go_enter Tryz.func46,Tryz.ntmps46
  go_wp2_with (at_builtin;refine wpList_append_own _ rfl (.tmp 5) (.tmp 6) 33 rfl w.heap.size 34 i0 (.int .i32 0) 1 4 Tryz.underlying33 hi hz0 hz1 hz2 rfl (by decide) _ 0 [] rfl (World.ownsRow_made w #[] 0 (Nat.le_refl _) (by decide) (by simp)) ad n cap zs rfl hlen HC.out h1 (by unfold maxLen;omega) (by omega) (by simp) ?_;intro v3 w3 hown3 hgrow3 _)
  go_ret
  refine ⟨_,rfl,by simpa using hown3,((Below.refl _ _).alloc (Nat.le_refl _) _).grown hgrow3 (by simp) (fun k hk=>by have e:some w.heap.size=some k:=hk;injection e with e;omega)⟩
structure AnyM (base:Nat) (w:World) (vC vU vS vJ:Value) (f:Fr) (vs:List Jm):Prop where
 c:w.ownsRow base 76 4 vC f.C.length (f.C.flatMap cc)
 u:w.ownsRow base 52 1 vU f.U.length (f.U.flatMap uc)
 s:w.ownsRow base 34 1 vS f.S.length (f.S.flatMap dcl)
 j:JOwn base w vJ vs
 fi:FrIn f
 jl:vs.length≤100 ∧ ∀ p ∈ vs,p.2.2.length≤100 ∧ -2147483648≤p.1∧p.1≤2147483647
 nm:∀ a ∈ f.C,a.name.size≤30
theorem AnyM.fr {base:Nat} {w:World} {vC vU vS vJ:Value} {f:Fr} {vs:List Jm} (h:AnyM base w vC vU vS vJ f vs):FrM f vC vU vS w :=
 ⟨recs_of_owns cc_len h.c rfl (by have:=h.fi.c;omega),recs_of_owns uc_len h.u rfl (by have:=h.fi.u.1;omega),recs_of_owns dcl_len h.s rfl (by have:=h.fi.s.1;omega)⟩
theorem AnyM.jr {base:Nat} {w:World} {vC vU vS vJ:Value} {f:Fr} {vs:List Jm} (h:AnyM base w vC vU vS vJ f vs):JRow w vJ vs :=
 h.j.jrow (by have:=h.jl.1;omega) (fun p hp=>by have:=h.jl.2 p hp;omega)
theorem AnyM.below {base:Nat} {w w':World} {vC vU vS vJ:Value} {f:Fr} {vs:List Jm} (h:AnyM base w vC vU vS vJ f vs) (hb:Below w.heap.size w w'):AnyM base w' vC vU vS vJ f vs :=
 ⟨owns_below h.c hb,owns_below h.u hb,owns_below h.s hb,h.j.below hb,h.fi,h.jl,h.nm⟩
theorem AnyM.mono {base base':Nat} {w:World} {vC vU vS vJ:Value} {f:Fr} {vs:List Jm} (h:AnyM base w vC vU vS vJ f vs) (hb:base'≤base):AnyM base' w vC vU vS vJ f vs :=
 ⟨owns_mono h.c hb,owns_mono h.u hb,owns_mono h.s hb,h.j.mono hb,h.fi,h.jl,h.nm⟩
theorem AnyM.box {base g:Nat} {w w':World} {vC vU vS vJ:Value} {f:Fr} {vs:List Jm} {cs:List Value} (h:AnyM base w vC vU vS vJ f vs) (hg:w.grownBy w' (some g)) (h0:HBox w g cs 41):AnyM base w' vC vU vS vJ f vs :=
 ⟨h.c.kept hg (owns_box_far h.c h0 (by decide)),h.u.kept hg (owns_box_far h.u h0 (by decide)),h.s.kept hg (owns_box_far h.s h0 (by decide)),⟨h.j.row.kept hg (owns_box_far h.j.row h0 (by decide)),fun p hp=>(h.j.lines p hp).kept hg (owns_box_far (h.j.lines p hp) h0 (by decide))⟩,h.fi,h.jl,h.nm⟩
def AnyB (base:Nat) (w:World) (v:Value):Prop:=∃ (vC vU vS vJ:Value) (f:Fr) (vs:List Jm),v=bkV vC vU vS f.E vJ∧AnyM base w vC vU vS vJ f vs
structure SpM (B X Y:Nat) (w0 w:World) (f:Fr) (vC vU vS vJ:Value) (vs:List Jm):Prop where
 box:HBox w X [vC,vU,vS,.int .i32 f.E,vJ] 41
 res:HBox w Y [.slice none 0 0,.slice none 0 0,.slice none 0 0,.int .i32 0,.slice none 0 0] 41
 hX:X<B
 hY:Y<B
 hne:X≠Y
 h0:w0.heap.size≤X∧w0.heap.size≤Y
 c:w.ownsRow B 76 4 vC f.C.length (f.C.flatMap cc)
 u:w.ownsRow B 52 1 vU f.U.length (f.U.flatMap uc)
 s:w.ownsRow B 34 1 vS f.S.length (f.S.flatMap dcl)
 j:JOwn B w vJ vs
 fi:FrIn f
 jl:vs.length≤100 ∧ ∀ p ∈ vs,p.2.2.length≤100 ∧ -2147483648≤p.1∧p.1≤2147483647
 nm:∀ a ∈ f.C,a.name.size≤30
 bel:Below w0.heap.size w0 w
theorem SpM.below {B X Y:Nat} {w0 w w':World} {f:Fr} {vC vU vS vJ:Value} {vs:List Jm} (h:SpM B X Y w0 w f vC vU vS vJ vs) (hb:Below w.heap.size w w'):SpM B X Y w0 w' f vC vU vS vJ vs :=
 { h with box:=h.box.stay hb,res:=h.res.stay hb,c:=owns_below h.c hb,u:=owns_below h.u hb,s:=owns_below h.s hb,j:=h.j.below hb,bel:=h.bel.trans (hb.mono h.bel.size) }
theorem SpM.drewN {B X Y:Nat} {w0 w:World} {f:Fr} {vC vU vS vJ:Value} {vs:List Jm} (h:SpM B X Y w0 w f vC vU vS vJ vs) (n:Nat):SpM B X Y w0 (w.drewN n) f vC vU vS vJ vs:=h.below ⟨rfl,rfl,rfl,Nat.le_refl _,fun _ _=>rfl⟩
theorem belS {w0 w:World} {g j:Nat} {u:Value} (h:Below w0.heap.size w0 w) (hg:w0.heap.size≤g):Below w0.heap.size w0 (w.setCell ⟨g,j,none⟩ u):=h.grown (grownBy_set w ⟨g,j,none⟩ u) h.size (fun k hk=>by cases hk;exact hg)
theorem HBox.grownB {w w':World} {b g:Nat} {cs:List Value} {T:TypeId} (h:HBox w b cs T) (hg:w.grownBy w' (some g)) (hne:b≠g):HBox w' b cs T:=h.grown hg (fun e=>hne (Option.some.inj e))
theorem SpM.setE {B X Y:Nat} {w0 w:World} {f:Fr} {vC vU vS vJ:Value} {vs:List Jm} (h:SpM B X Y w0 w f vC vU vS vJ vs) (E:Int) (hE : -2147483648≤E∧E≤2147483647):SpM B X Y w0 (w.setCell ⟨X,3,none⟩ (.int .i32 E)) { f with E:=E } vC vU vS vJ vs:=by
 have hg:=grownBy_set w ⟨X,3,none⟩ (.int .i32 E)
 have hX:=h.hX
 have ne:∀ {e:TypeId} {size n:Nat} {v:Value} {xs:List Value},w.ownsRow B e size v n xs→v.ownBlock=none∨v.ownBlock≠some X:=fun o=>.inr fun e=>by have:=o.lt X e;omega
 exact { box:=h.box.set 3 _,res:=h.res.grownB hg (fun e=>h.hne e.symm),hX:=h.hX,hY:=h.hY,hne:=h.hne,h0:=h.h0,c:=h.c.kept hg (ne h.c),u:=h.u.kept hg (ne h.u),s:=h.s.kept hg (ne h.s),j:=h.j.far hg h.hX,fi:=⟨h.fi.c,h.fi.u,h.fi.s,hE⟩,jl:=h.jl,nm:=h.nm,bel:=belS h.bel h.h0.1 }
theorem SpM.setU {B X Y:Nat} {w0 w:World} {f:Fr} {vC vU vS vJ:Value} {vs:List Jm} (h:SpM B X Y w0 w f vC vU vS vJ vs) {v:Value} {U:List Nat} (ho:w.ownsRow B 52 1 v U.length (U.flatMap uc)) (hU:U.length≤100 ∧ ∀ x ∈ U,x<65536):SpM B X Y w0 (w.setCell ⟨X,1,none⟩ v) { f with U:=U } vC v vS vJ vs:=by
 have hg:=grownBy_set w ⟨X,1,none⟩ v
 have hX:=h.hX
 have ne:∀ {e:TypeId} {size n:Nat} {v:Value} {xs:List Value},w.ownsRow B e size v n xs→v.ownBlock=none∨v.ownBlock≠some X:=fun o=>.inr fun e=>by have:=o.lt X e;omega
 exact { box:=h.box.set 1 _,res:=h.res.grownB hg (fun e=>h.hne e.symm),hX:=h.hX,hY:=h.hY,hne:=h.hne,h0:=h.h0,c:=h.c.kept hg (ne h.c),u:=ho.kept hg (ne ho),s:=h.s.kept hg (ne h.s),j:=h.j.far hg h.hX,fi:=⟨h.fi.c,hU,h.fi.s,h.fi.e⟩,jl:=h.jl,nm:=h.nm,bel:=belS h.bel h.h0.1 }
theorem SpM.setC {B X Y:Nat} {w0 w:World} {f:Fr} {vC vU vS vJ:Value} {vs:List Jm} (h:SpM B X Y w0 w f vC vU vS vJ vs) {v:Value} {C:List Ac} (ho:w.ownsRow B 76 4 v C.length (C.flatMap cc)) (hC:C.length≤300) (hN:∀ a ∈ C,a.name.size≤30):SpM B X Y w0 (w.setCell ⟨X,0,none⟩ v) { f with C:=C } v vU vS vJ vs:=by
 have hg:=grownBy_set w ⟨X,0,none⟩ v
 have hX:=h.hX
 have ne:∀ {e:TypeId} {size n:Nat} {v:Value} {xs:List Value},w.ownsRow B e size v n xs→v.ownBlock=none∨v.ownBlock≠some X:=fun o=>.inr fun e=>by have:=o.lt X e;omega
 exact { box:=h.box.set 0 _,res:=h.res.grownB hg (fun e=>h.hne e.symm),hX:=h.hX,hY:=h.hY,hne:=h.hne,h0:=h.h0,c:=ho.kept hg (ne ho),u:=h.u.kept hg (ne h.u),s:=h.s.kept hg (ne h.s),j:=h.j.far hg h.hX,fi:=⟨hC,h.fi.u,h.fi.s,h.fi.e⟩,jl:=h.jl,nm:=hN,bel:=belS h.bel h.h0.1 }
theorem SpM.code {B X Y:Nat} {w0 w:World} {f:Fr} {vU vS vJ:Value} {vs:List Jm} {g cap L:Nat} (h:SpM B X Y w0 w f (.slice (some ⟨g,0,none⟩) L cap) vU vS vJ vs) (hL:f.C.length=L) {i:Nat} {a:Ac} (ha:f.C[i]?=some a) (n:Nat) (hn:n<4294967296) :
 SpM B X Y w0 (w.setCell ⟨g,i * 4,none⟩ (.int .u32 (n:Int))) { f with C:=f.C.set i { a with code:=n,hc:=hn } } (.slice (some ⟨g,0,none⟩) L cap) vU vS vJ vs:=by
 subst hL
 obtain ⟨ho,hg⟩:=h.c.stored (i * 4) (.int .u32 (n:Int))
 have hlt:=h.c.lt g rfl
 have hX:=h.hX
 have hY:=h.hY
 have h0:=h.h0
 have e:((f.C.flatMap cc).set (i * 4+0) (.int .u32 (n:Int)))=(f.C.set i { a with code:=n,hc:=hn }).flatMap cc:=flat_setL cc_len ha (by omega) rfl
 rw [Nat.add_zero] at e
 rw [e] at ho
 have ne:∀ {e:TypeId} {size n:Nat} {v:Value} {xs:List Value},w.ownsRow B e size v n xs→e≠76→v.ownBlock=none∨v.ownBlock≠some g:=fun o he=>owns_apart o h.c he
 exact { box:=h.box.grownB hg (by omega),res:=h.res.grownB hg (by omega),hX:=h.hX,hY:=h.hY,hne:=h.hne,h0:=h.h0,c:=by rw [show ({ f with C:=f.C.set i { a with code:=n,hc:=hn } }:Fr).C.length=f.C.length from List.length_set];exact ho,u:=h.u.kept hg (ne h.u (by decide)),s:=h.s.kept hg (ne h.s (by decide)),j:=⟨h.j.row.kept hg (ne h.j.row (by decide)),fun p hp=>(h.j.lines p hp).kept hg (ne (h.j.lines p hp) (by decide))⟩,fi:=⟨by show (f.C.set i _).length≤300;rw [List.length_set];exact h.fi.c,h.fi.u,h.fi.s,h.fi.e⟩,jl:=h.jl,nm:=fun a9 h9=>(List.mem_or_eq_of_mem_set h9).elim (fun h9=>h.nm a9 h9) (fun e=>by subst e;exact h.nm a (List.mem_of_getElem? ha)),bel:=belS h.bel (by omega) }
theorem SpM.day {B X Y:Nat} {w0 w:World} {f:Fr} {vC vU vS:Value} {vs:List Jm} {g cap L:Nat} (h:SpM B X Y w0 w f vC vU vS (.slice (some ⟨g,0,none⟩) L cap) vs) (hL:vs.length=L) {i:Nat} {p:Jm} (hp:vs[i]?=some p) (d:Int) (hd : -2147483648≤d∧d≤2147483647) :
 SpM B X Y w0 (w.setCell ⟨g,i * 2,none⟩ (.int .i32 d)) f vC vU vS (.slice (some ⟨g,0,none⟩) L cap) (vs.set i (d,p.2)):=by
 subst hL
 obtain ⟨ho,hg⟩:=h.j.row.stored (i * 2) (.int .i32 d)
 have hlt:=h.j.row.lt g rfl
 have hX:=h.hX
 have hY:=h.hY
 have h0:=h.h0
 have e:((vs.flatMap jc).set (i * 2+0) (.int .i32 d))=(vs.set i (d,p.2)).flatMap jc:=flat_setL jc_len hp (by omega) rfl
 rw [Nat.add_zero] at e
 rw [e] at ho
 have ne:∀ {e:TypeId} {size n:Nat} {v:Value} {xs:List Value},w.ownsRow B e size v n xs→e≠67→v.ownBlock=none∨v.ownBlock≠some g:=fun o he=>owns_apart o h.j.row he
 have hm:=List.mem_of_getElem? hp
 exact { box:=h.box.grownB hg (by omega),res:=h.res.grownB hg (by omega),hX:=h.hX,hY:=h.hY,hne:=h.hne,h0:=h.h0,c:=h.c.kept hg (ne h.c (by decide)),u:=h.u.kept hg (ne h.u (by decide)),s:=h.s.kept hg (ne h.s (by decide)),j:=⟨by rw [List.length_set];exact ho,fun q hq=>by
  rcases List.mem_or_eq_of_mem_set hq with hq | hq
  ·exact (h.j.lines q hq).kept hg (ne (h.j.lines q hq) (by decide))
  ·subst hq;exact (h.j.lines p hm).kept hg (ne (h.j.lines p hm) (by decide))⟩,fi:=h.fi,jl:=⟨by rw [List.length_set];exact h.jl.1,fun q hq=>by
  rcases List.mem_or_eq_of_mem_set hq with hq | hq
  ·exact h.jl.2 q hq
  ·subst hq;exact ⟨(h.jl.2 p hm).1,hd⟩⟩,nm:=h.nm,bel:=belS h.bel (by omega) }
def modL (i:Nat) (t:Ln→Ln) (ls:List Ln):List Ln:=match ls[i]? with | some x=>ls.set i (t x) | none=>ls
theorem modL_len (i:Nat) (t:Ln→Ln) (ls:List Ln):(modL i t ls).length=ls.length:=by unfold modL;split <;> simp
theorem modL_flat {i jf:Nat} {t:Ln→Ln} {u:Value} (hj:jf<4) (ht:∀ x,lc (t x)=(lc x).set jf u) (ls:List Ln):(ls.flatMap lc).set (i * 4+jf) u=(modL i t ls).flatMap lc:=by
 unfold modL
 split
 ·rename_i x hx
  exact flat_setL lc_len hx hj (ht x)
 ·rename_i hx
  rw [List.getElem?_eq_none_iff] at hx
  rw [List.set_eq_of_length_le]
  rw [flat_len lc_len]
  omega
theorem row_mod {B:Nat} {w:World} {g i jf:Nat} {t:Ln→Ln} {u v:Value} {ls:List Ln} (hj:jf<4) (ht:∀ x,lc (t x)=(lc x).set jf u) (h:w.ownsRow B 89 4 v ls.length (ls.flatMap lc)) :
 ∃ ls':List Ln,ls'.length=ls.length∧(w.setCell ⟨g,i * 4+jf,none⟩ u).ownsRow B 89 4 v ls'.length (ls'.flatMap lc):=by
 by_cases hb:v.ownBlock=some g
 ·obtain ⟨r,cap,rfl⟩:=owns_form h
  rcases h.2 with ⟨h',_⟩ | ⟨g',cap',cur,h',_⟩
  ·injection h' with e1
   subst e1
   cases hb
  ·injection h' with e1
   subst e1
   have e:g'=g:=Option.some.inj hb
   subst e
   refine ⟨modL i t ls,modL_len i t ls,?_⟩
   rw [modL_len,← modL_flat hj ht]
   exact (h.stored (i * 4+jf) u).1
 ·exact ⟨ls,rfl,h.kept (grownBy_set w ⟨g,i * 4+jf,none⟩ u) (.inr hb)⟩
theorem SpM.line {B X Y:Nat} {w0 w:World} {f:Fr} {vC vU vS vJ:Value} {vs:List Jm} {g cap n:Nat} {ls:List Value} (h:SpM B X Y w0 w f vC vU vS vJ vs) (hl:w.ownsRow B 89 4 (.slice (some ⟨g,0,none⟩) n cap) n ls) (i:Nat) {jf:Nat} {t:Ln→Ln} {u:Value} (hj:jf<4) (ht:∀ x,lc (t x)=(lc x).set jf u) :
 ∃ vs',vs'.length=vs.length∧SpM B X Y w0 (w.setCell ⟨g,i * 4+jf,none⟩ u) f vC vU vS vJ vs':=by
 have hg:w.grownBy (w.setCell ⟨g,i * 4+jf,none⟩ u) (some g):=grownBy_set w ⟨g,i * 4+jf,none⟩ u
 have hlt:=hl.lt g rfl
 have hX:=h.hX
 have hY:=h.hY
 have h0:=h.h0
 have ne:∀ {e:TypeId} {size n:Nat} {v:Value} {xs:List Value},w.ownsRow B e size v n xs→e≠89→v.ownBlock=none∨v.ownBlock≠some g:=fun o he=>owns_apart o hl he
 have key:∀ (qs:List Jm),(∀ p ∈ qs,p ∈ vs) → ∃ qs':List Jm,qs'.length=qs.length∧qs'.flatMap jc=qs.flatMap jc∧(∀ q ∈ qs',(w.setCell ⟨g,i * 4+jf,none⟩ u).ownsRow B 89 4 q.2.1 q.2.2.length (q.2.2.flatMap lc)∧q.2.2.length≤100 ∧ -2147483648≤q.1∧q.1≤2147483647):=by
  intro qs
  induction qs with
  | nil=>intro _;exact ⟨[],rfl,rfl,fun q hq=>by cases hq⟩
  | cons p r ih =>
   intro hm
   obtain ⟨qs',e1,e2,e3⟩:=ih (fun q hq=>hm q (List.mem_cons_of_mem _ hq))
   have hp:=hm p (List.mem_cons_self ..)
   obtain ⟨ls',g1,g2⟩:=row_mod (g:=g) (i:=i) hj ht (h.j.lines p hp)
   refine ⟨(p.1,p.2.1,ls') :: qs',by simp [e1],?_,fun q hq=>?_⟩
   ·rw [List.flatMap_cons,List.flatMap_cons,e2];rfl
   ·rcases List.mem_cons.1 hq with rfl | hq
    ·exact ⟨g2,by have:=h.jl.2 p hp;show ls'.length≤100;omega,(h.jl.2 p hp).2⟩
    ·exact e3 q hq
 obtain ⟨vs',e1,e2,e3⟩:=key vs (fun _ h=>h)
 refine ⟨vs',e1,?_⟩
 exact { box:=h.box.grownB hg (by omega),res:=h.res.grownB hg (by omega),hX:=h.hX,hY:=h.hY,hne:=h.hne,h0:=h.h0,c:=h.c.kept hg (ne h.c (by decide)),u:=h.u.kept hg (ne h.u (by decide)),s:=h.s.kept hg (ne h.s (by decide)),j:=⟨by rw [e1,e2];exact h.j.row.kept hg (ne h.j.row (by decide)),fun q hq=>(e3 q hq).1⟩,fi:=h.fi,jl:=⟨by rw [e1];exact h.jl.1,fun q hq=>(e3 q hq).2⟩,nm:=h.nm,bel:=belS h.bel (by omega) }
theorem SpM.done {B X Y:Nat} {w0 w:World} {f:Fr} {vC vU vS vJ:Value} {vs:List Jm} (h:SpM B X Y w0 w f vC vU vS vJ vs) (d0 d1 d2 d3 d4:Value) :
 AnyB w0.heap.size (((((w.setCell ⟨Y,0,none⟩ d0).setCell ⟨Y,1,none⟩ d1).setCell ⟨Y,2,none⟩ d2).setCell ⟨Y,3,none⟩ d3).setCell ⟨Y,4,none⟩ d4) (bkV vC vU vS f.E vJ)∧Below w0.heap.size w0 (((((w.setCell ⟨Y,0,none⟩ d0).setCell ⟨Y,1,none⟩ d1).setCell ⟨Y,2,none⟩ d2).setCell ⟨Y,3,none⟩ d3).setCell ⟨Y,4,none⟩ d4):=by
 have hg:=grown_sets5 w Y d0 d1 d2 d3 d4
 have hY:=h.hY
 have h0:=h.h0
 have ne:∀ {e:TypeId} {size n:Nat} {v:Value} {xs:List Value},w.ownsRow B e size v n xs→v.ownBlock=none∨v.ownBlock≠some Y:=fun o=>.inr fun e=>by have:=o.lt Y e;omega
 have hB:w0.heap.size≤B:=by omega
 exact ⟨⟨vC,vU,vS,vJ,f,vs,rfl,(AnyM.mk (h.c.kept hg (ne h.c)) (h.u.kept hg (ne h.u)) (h.s.kept hg (ne h.s)) (h.j.far hg h.hY) h.fi h.jl h.nm).mono hB⟩,h.bel.grown hg h.bel.size (fun k hk=>by cases hk;exact h.h0.2)⟩
def RS (B X:Nat) (vC vU vJ:Value) (C:List Ac) (U:List Nat) (vs:List Jm):Nat→Value→World→Prop
 | 0,v,_=>v = .pointer (some ⟨X,0,none⟩)
 | 1,v,_=>v = .pointer (some ⟨X,0,none⟩)
 | 2,v,_=>v=vC
 | 3,v,w=>w.ownsRow B 76 4 v C.length (C.flatMap cc)
 | 4,v,_=>v = .pointer (some ⟨X,0,none⟩)
 | 5,v,_=>v = .pointer (some ⟨X,1,none⟩)
 | 6,v,_=>v=vU
 | 7,v,w=>w.ownsRow B 52 1 v U.length (U.flatMap uc)
 | 8,v,_=>v = .pointer (some ⟨X,4,none⟩)
 | 9,v,_=>v=vJ
 | 10,v,w=>w.ownsRow B 67 2 v vs.length (vs.flatMap jc)
 | _,v,_=>v = .pointer (some ⟨X,0,none⟩)
theorem RS.stay {B X:Nat} {vC vU vJ:Value} {C:List Ac} {U:List Nat} {vs:List Jm} {w w':World} (hb:Below w.heap.size w w'):∀ j u,RS B X vC vU vJ C U vs j u w→RS B X vC vU vJ C U vs j u w'
 | 0,_,h=>h
 | 1,_,h=>h
 | 2,_,h=>h
 | 3,_,h=>owns_below (by exact h) hb
 | 4,_,h=>h
 | 5,_,h=>h
 | 6,_,h=>h
 | 7,_,h=>owns_below (by exact h) hb
 | 8,_,h=>h
 | 9,_,h=>h
 | 10,_,h=>owns_below (by exact h) hb
 | _+11,_,h=>h
theorem owns_set3 {w:World} {base X size n:Nat} {e:TypeId} {v:Value} {xs:List Value} (h:w.ownsRow base e size v n xs) (hX:X<base) (i j k:Nat) (u0 u1 u2:Value):(((w.setCell ⟨X,i,none⟩ u0).setCell ⟨X,j,none⟩ u1).setCell ⟨X,k,none⟩ u2).ownsRow base e size v n xs:=by
 have ne:v.ownBlock≠some X:=fun e=>by have:=h.lt X e;omega
 exact owns_set_other (owns_set_other (owns_set_other h ⟨X,i,none⟩ u0 ne) ⟨X,j,none⟩ u1 ne) ⟨X,k,none⟩ u2 ne
theorem owns_set1 {w:World} {base X size n:Nat} {e:TypeId} {v:Value} {xs:List Value} (h:w.ownsRow base e size v n xs) (hX:X<base) (i:Nat) (u:Value):(w.setCell ⟨X,i,none⟩ u).ownsRow base e size v n xs :=
 owns_set_other h ⟨X,i,none⟩ u (fun e=>by have:=h.lt X e;omega)
theorem HBox.other {w:World} {b X:Nat} {cs:List Value} {T:TypeId} (h:HBox w b cs T) (hne:b≠X) (i:Nat) (u:Value):HBox (w.setCell ⟨X,i,none⟩ u) b cs T:=h.grownB (grownBy_set w ⟨X,i,none⟩ u) hne
theorem u32_of (z:Int):∃ n:Nat,IntKind.u32.wrap z=(n:Int)∧n<4294967296:=⟨(z % 4294967296).toNat,by rw [IntKind.wrap_u32];omega,by omega⟩
theorem u16_of (z:Int):∃ n:Nat,IntKind.u16.wrap z=(n:Int)∧n<65536:=⟨(z % 65536).toNat,by rw [IntKind.wrap_u16];omega,by omega⟩
def RL (B X g k:Nat) (vJ vL:Value) (ls:List Ln):Nat→Value→World→Prop
 | 0,v,_=>v = .pointer (some ⟨X,4,none⟩)
 | 1,v,_=>v=vJ
 | 2,v,_=>v = .int .i64 (k:Int)
 | 3,v,_=>v = .pointer (some ⟨X,4,none⟩)
 | 4,v,_=>v=vJ
 | 5,v,_=>v = .int .i64 (k:Int)
 | 6,v,_=>v = .pointer (some ⟨g,k * 2,none⟩)
 | 7,v,_=>v = .pointer (some ⟨g,k * 2+1,none⟩)
 | 8,v,_=>v=vL
 | _,v,w=>w.ownsRow B 89 4 v ls.length (ls.flatMap lc)
theorem RL.stay {B X g k:Nat} {vJ vL:Value} {ls:List Ln} {w w':World} (hb:Below w.heap.size w w'):∀ j u,RL B X g k vJ vL ls j u w→RL B X g k vJ vL ls j u w'
 | 0,_,h=>h
 | 1,_,h=>h
 | 2,_,h=>h
 | 3,_,h=>h
 | 4,_,h=>h
 | 5,_,h=>h
 | 6,_,h=>h
 | 7,_,h=>h
 | 8,_,h=>h
 | _+9,_,h=>owns_below (by exact h) hb
theorem row_cell {w:World} {B g n cap k:Nat} {zs:List Jm} {p:Jm} (h:w.ownsRow B 67 2 (.slice (some ⟨g,0,none⟩) n cap) n (zs.flatMap jc)) (hz:zs[k]?=some p) (hk:k<n):w.cell? ⟨g,k * 2,none⟩=some (.int .i32 p.1)∧w.cell? ⟨g,k * 2+1,none⟩=some p.2.1:=by
 rw [h.cellAt _ (by omega),h.cellAt _ (by omega)]
 exact ⟨by have:=flat_get jc_len (j:=0) (u:=.int .i32 p.1) hz rfl;simpa using this,flat_get jc_len (j:=1) (u:=p.2.1) hz rfl⟩
theorem spoil_c (f:Fr) (vC vU vS vJ:Value) (vs:List Jm) (wh at_:Nat) (by_:Int) (w:World) (hF:FrM f vC vU vS w) (hi:FrIn f) (hC:f.C≠[]) (hU:f.U≠[]) (hrC:RiseA f.C) (hN:∀ a ∈ f.C,a.name.size≤30) (hJ:JRow w vJ vs) (hl:vs.length≤100) (hp:∀ p ∈ vs,p.2.2.length≤100 ∧ -2147483648≤p.1∧p.1≤2147483647) (hne:∀ p ∈ vs,p.2.2≠[]) (hwh:wh<256) (hat:at_<256) (hby : -9223372036854775808≤by_∧by_≤9223372036854775807) :
 Calls Tryz.prog 18 #[bkV vC vU vS f.E vJ,.int .u8 (wh:Int),.int .u8 (at_:Int),.int .i64 by_] w fun e w'=>∃ v,e = .returned v∧AnyB w.heap.size w' v∧Below w.heap.size w w':=by
 have hmix:Tryz.prog.follows .mixedOrders=true:=by kernel_rfl
 obtain ⟨rC,cC,rfl,_⟩:=hF.c.form
 obtain ⟨rU,cU,rfl,_⟩:=hF.u.form
 obtain ⟨rS,cS,rfl,_⟩:=hF.s.form
 obtain ⟨rJ,cJ,rfl,_⟩:=hJ.1.form
 obtain ⟨EE,hEE⟩:∃ n,f.E=n:=⟨_,rfl⟩
 obtain ⟨LC,hLC⟩:∃ n,f.C.length=n:=⟨_,rfl⟩
 obtain ⟨LU,hLU⟩:∃ n,f.U.length=n:=⟨_,rfl⟩
 obtain ⟨LS,hLS⟩:∃ n,f.S.length=n:=⟨_,rfl⟩
 obtain ⟨m,hm⟩:∃ n,vs.length=n:=⟨_,rfl⟩
 unfold bkV
 rw [hLC,hLU,hLS] at hF
 rw [hEE,hLC,hLU,hLS]
 rw [hm] at hJ hl ⊢
 have HLN:=Lib.hid (And.intro hLC (And.intro hLU (And.intro hLS (And.intro hm hEE))))
 have hLC0:0<LC:=by rw [← hLC];exact List.length_pos_iff.2 hC
 have hLU0:0<LU:=by rw [← hLU];exact List.length_pos_iff.2 hU
 have hb:=((Below.refl w.heap.size w).alloc (Nat.le_refl _) (.cells #[.slice rC LC cC,.slice rU LU cU,.slice rS LS cS,.int .i32 EE,.slice rJ m cJ] 41)).alloc (by simp) (.cells #[.slice none 0 0,.slice none 0 0,.slice none 0 0,.int .i32 0,.slice none 0 0] 41)
 have s1:(w.alloc (.cells #[.slice rC LC cC,.slice rU LU cU,.slice rS LS cS,.int .i32 EE,.slice rJ m cJ] 41)).heap.size=w.heap.size+1:=by simp
 have bx:=(HBox.new w [.slice rC LC cC,.slice rU LU cU,.slice rS LS cS,.int .i32 EE,.slice rJ m cJ] 41).alloc (.cells #[.slice none 0 0,.slice none 0 0,.slice none 0 0,.int .i32 0,.slice none 0 0] 41)
 have br:=HBox.new (w.alloc (.cells #[.slice rC LC cC,.slice rU LU cU,.slice rS LS cS,.int .i32 EE,.slice rJ m cJ] 41)) [.slice none 0 0,.slice none 0 0,.slice none 0 0,.int .i32 0,.slice none 0 0] 41
 have s2:((w.alloc (.cells #[.slice rC LC cC,.slice rU LU cU,.slice rS LS cS,.int .i32 EE,.slice rJ m cJ] 41)).alloc (.cells #[.slice none 0 0,.slice none 0 0,.slice none 0 0,.int .i32 0,.slice none 0 0] 41)).heap.size=w.heap.size+1+1:=by simp
 rw [s1] at br
 change HBox ((w.alloc (.cells #[.slice rC LC cC,.slice rU LU cU,.slice rS LS cS,.int .i32 EE,.slice rJ m cJ] 41)).alloc (.cells #[.slice none 0 0,.slice none 0 0,.slice none 0 0,.int .i32 0,.slice none 0 0] 41)) _ _ _ at bx
 change HBox ((w.alloc (.cells #[.slice rC LC cC,.slice rU LU cU,.slice rS LS cS,.int .i32 EE,.slice rJ m cJ] 41)).alloc (.cells #[.slice none 0 0,.slice none 0 0,.slice none 0 0,.int .i32 0,.slice none 0 0] 41)) _ _ _ at br
 have HF:=Lib.hid hF
 have HI:=Lib.hid hi
 have HNM:=Lib.hid hN
 clear hN
 have HJ:=Lib.hid hJ
 have HP:=Lib.hid hp
 have HNE:=Lib.hid hne
 have HRC:=Lib.hid hrC
 clear hF hi hC hU hrC hJ hp hne hEE hLC hLU hLS hm
 go_enter Tryz.func18,Tryz.ntmps18
 go_upto_region 1 with fail
 generalize (w.alloc (.cells #[.slice rC LC cC,.slice rU LU cU,.slice rS LS cS,.int .i32 EE,.slice rJ m cJ] 41)).alloc (.cells #[.slice none 0 0,.slice none 0 0,.slice none 0 0,.int .i32 0,.slice none 0 0] 41)=W at *
 generalize hX:w.heap.size=X at bx br s2 ⊢
 have HX:=Lib.hid bx
 have HR:=Lib.hid br
 have HB:=Lib.hid hb
 have HSZ:=Lib.hid (And.intro hX s2)
 clear bx br hb s1 s2 hX
 have K1:=Lib.hid (fun (w':World) (h:Below W.heap.size W w')=>(clone_a f.C rC LC cC w' (HF.out.stay (HB.out.trans (h.mono HB.out.size))).c HLN.out.1 (by have:=HI.out.c;have:=HLN.out.1;omega)).mono (fun e w'' ⟨v',h1,h2,h3⟩=>(⟨v',h1,by rw [HLN.out.1];exact h2,h3⟩:∃ v',e=Ending.returned v'∧w''.ownsRow w'.heap.size 76 4 v' f.C.length (f.C.flatMap cc)∧Below w'.heap.size w' w'')))
 have K2:=Lib.hid (fun (w':World) (h:Below W.heap.size W w')=>clone_ur f.U (.slice rU LU cU) w' (HF.out.stay (HB.out.trans (h.mono HB.out.size))).u (by have:=HI.out.u.1;omega))
 have K3:=Lib.hid (fun (w':World) (h:Below W.heap.size W w')=>(clone_j vs rJ m cJ w' (HJ.out.stay (HB.out.trans (h.mono HB.out.size))).1 HLN.out.2.2.2.1 (by omega) (jrow_one (HJ.out.stay (HB.out.trans (h.mono HB.out.size))))).mono (fun e w'' ⟨v',h1,h2,h3⟩=>(⟨v',h1,by rw [HLN.out.2.2.2.1];exact h2,h3⟩:∃ v',e=Ending.returned v'∧w''.ownsRow w'.heap.size 67 2 v' vs.length (vs.flatMap jc)∧Below w'.heap.size w' w'')))
 have K4:=Lib.hid (fun (w':World) (h:Below w.heap.size w w')=>(clone_dy f.S rS LS cS w' (HF.out.stay h).s HLN.out.2.2.1 (by have:=HI.out.s.1;have:=HLN.out.2.2.1;omega)).mono (fun e w'' ⟨v',h1,h2,h3⟩=>(⟨v',h1,by rw [HLN.out.2.2.1];exact h2,h3⟩:∃ v',e=Ending.returned v'∧w''.ownsRow w'.heap.size 34 1 v' f.S.length (f.S.flatMap dcl)∧Below w'.heap.size w' w'')))
 refine wp_region_part 13 (fun w'=>Below W.heap.size W w') (RS W.heap.size X (.slice rC LC cC) (.slice rU LU cU) (.slice rJ m cJ) f.C f.U vs) hmix (by decide) (by kernel_rfl) (by kernel_rfl) (by kernel_rfl) (Below.refl _ _).drew ?_ ?_
 ·intro a w' i hi hC hfar hrd
  rcases (by omega:i=0∨i=1∨i=2∨i=3∨i=4∨i=5∨i=6∨i=7∨i=8∨i=9∨i=10∨i=11∨i=12) with rfl | rfl | rfl | rfl | rfl | rfl | rfl | rfl | rfl | rfl | rfl | rfl | rfl
  ·refine op_run (.fieldAddr 41 (.tmp 4) 0) (some 13) (by unfold opIs;kernel_rfl) (.pointer (some ⟨X,0,none⟩)) (w':=w') (fun o ho=>by unfold execOp;rw [ho];simp only [(hfar 4 (by kernel_rfl)).trans (show _=Value.pointer (some ⟨X,0,none⟩) by kernel_rfl)];go_simp) ?_
   exact ⟨_,congrArg (fun d=>a.put d (.pointer (some ⟨X,0,none⟩))) (by kernel_rfl),hC,rfl,fun j u h=>h⟩
  ·refine op_run (.fieldAddr 38 (.tmp 13) 0) (some 14) (by unfold opIs;kernel_rfl) (.pointer (some ⟨X,0,none⟩)) (w':=w') (fun o ho=>by unfold execOp;rw [ho];simp only [show a.eval (.tmp 13)=Value.pointer (some ⟨X,0,none⟩) from hrd 0 13 (by kernel_rfl) (by kernel_rfl)];go_simp) ?_
   exact ⟨_,congrArg (fun d=>a.put d (.pointer (some ⟨X,0,none⟩))) (by kernel_rfl),hC,rfl,fun j u h=>h⟩
  ·refine op_load 31 (.tmp 14) (some 15) (by unfold opIs;kernel_rfl) _ (.slice rC LC cC) (hrd 1 14 (by kernel_rfl) (by kernel_rfl)) (by have:=(HX.out.stay hC).cell (j:=0) rfl;go_simp) ?_
   exact ⟨_,congrArg (fun d=>a.put d (.slice rC LC cC)) (by kernel_rfl),hC,rfl,fun j u h=>h⟩
  ·refine op_call (.call { callee:=.value (.func 43),args:=#[.tmp 15],argTypes:=#[31] }) (some 16) (by unfold opIs;kernel_rfl) 43 #[.slice rC LC cC] (fun o ho=>by unfold execOp;rw [ho];simp only [resolve,List.map_toArray,List.map_cons,List.map_nil,show a.eval (.tmp 15)=_ from hrd 2 15 (by kernel_rfl) (by kernel_rfl)];go_simp) (K1.out w' hC) ?_
   rintro e w'' ⟨v',rfl,ho,hb⟩
   exact ⟨_,rfl,_,congrArg (fun d=>a.put d _) (by kernel_rfl),hC.trans (hb.mono hC.size),owns_mono ho hC.size,RS.stay hb⟩
  ·refine op_run (.fieldAddr 41 (.tmp 4) 0) (some 17) (by unfold opIs;kernel_rfl) (.pointer (some ⟨X,0,none⟩)) (w':=w') (fun o ho=>by unfold execOp;rw [ho];simp only [(hfar 4 (by kernel_rfl)).trans (show _=Value.pointer (some ⟨X,0,none⟩) by kernel_rfl)];go_simp) ?_
   exact ⟨_,congrArg (fun d=>a.put d (.pointer (some ⟨X,0,none⟩))) (by kernel_rfl),hC,rfl,fun j u h=>h⟩
  ·refine op_run (.fieldAddr 38 (.tmp 17) 1) (some 18) (by unfold opIs;kernel_rfl) (.pointer (some ⟨X,1,none⟩)) (w':=w') (fun o ho=>by unfold execOp;rw [ho];simp only [show a.eval (.tmp 17)=Value.pointer (some ⟨X,0,none⟩) from hrd 4 17 (by kernel_rfl) (by kernel_rfl)];go_simp) ?_
   exact ⟨_,congrArg (fun d=>a.put d (.pointer (some ⟨X,1,none⟩))) (by kernel_rfl),hC,rfl,fun j u h=>h⟩
  ·refine op_load 32 (.tmp 18) (some 19) (by unfold opIs;kernel_rfl) _ (.slice rU LU cU) (hrd 5 18 (by kernel_rfl) (by kernel_rfl)) (by have:=(HX.out.stay hC).cell (j:=1) rfl;go_simp) ?_
   exact ⟨_,congrArg (fun d=>a.put d (.slice rU LU cU)) (by kernel_rfl),hC,rfl,fun j u h=>h⟩
  ·refine op_call (.call { callee:=.value (.func 44),args:=#[.tmp 19],argTypes:=#[32] }) (some 20) (by unfold opIs;kernel_rfl) 44 #[.slice rU LU cU] (fun o ho=>by unfold execOp;rw [ho];simp only [resolve,List.map_toArray,List.map_cons,List.map_nil,show a.eval (.tmp 19)=_ from hrd 6 19 (by kernel_rfl) (by kernel_rfl)];go_simp) (K2.out w' hC) ?_
   rintro e w'' ⟨v',rfl,ho,hb⟩
   exact ⟨_,rfl,_,congrArg (fun d=>a.put d _) (by kernel_rfl),hC.trans (hb.mono hC.size),owns_mono ho hC.size,RS.stay hb⟩
  ·refine op_run (.fieldAddr 41 (.tmp 4) 1) (some 21) (by unfold opIs;kernel_rfl) (.pointer (some ⟨X,4,none⟩)) (w':=w') (fun o ho=>by unfold execOp;rw [ho];simp only [(hfar 4 (by kernel_rfl)).trans (show _=Value.pointer (some ⟨X,0,none⟩) by kernel_rfl)];go_simp) ?_
   exact ⟨_,congrArg (fun d=>a.put d (.pointer (some ⟨X,4,none⟩))) (by kernel_rfl),hC,rfl,fun j u h=>h⟩
  ·refine op_load 39 (.tmp 21) (some 22) (by unfold opIs;kernel_rfl) _ (.slice rJ m cJ) (hrd 8 21 (by kernel_rfl) (by kernel_rfl)) (by have:=(HX.out.stay hC).cell (j:=4) rfl;go_simp) ?_
   exact ⟨_,congrArg (fun d=>a.put d (.slice rJ m cJ)) (by kernel_rfl),hC,rfl,fun j u h=>h⟩
  ·refine op_call (.call { callee:=.value (.func 45),args:=#[.tmp 22],argTypes:=#[39] }) (some 23) (by unfold opIs;kernel_rfl) 45 #[.slice rJ m cJ] (fun o ho=>by unfold execOp;rw [ho];simp only [resolve,List.map_toArray,List.map_cons,List.map_nil,show a.eval (.tmp 22)=_ from hrd 9 22 (by kernel_rfl) (by kernel_rfl)];go_simp) (K3.out w' hC) ?_
   rintro e w'' ⟨v',rfl,ho,hb⟩
   exact ⟨_,rfl,_,congrArg (fun d=>a.put d _) (by kernel_rfl),hC.trans (hb.mono hC.size),owns_mono ho hC.size,RS.stay hb⟩
  ·refine op_run (.fieldAddr 41 (.tmp 4) 0) (some 24) (by unfold opIs;kernel_rfl) (.pointer (some ⟨X,0,none⟩)) (w':=w') (fun o ho=>by unfold execOp;rw [ho];simp only [(hfar 4 (by kernel_rfl)).trans (show _=Value.pointer (some ⟨X,0,none⟩) by kernel_rfl)];go_simp) ?_
   exact ⟨_,congrArg (fun d=>a.put d (.pointer (some ⟨X,0,none⟩))) (by kernel_rfl),hC,rfl,fun j u h=>h⟩
  ·refine op_run (.fieldAddr 38 (.tmp 24) 0) (some 25) (by unfold opIs;kernel_rfl) (.pointer (some ⟨X,0,none⟩)) (w':=w') (fun o ho=>by unfold execOp;rw [ho];simp only [show a.eval (.tmp 24)=Value.pointer (some ⟨X,0,none⟩) from hrd 11 24 (by kernel_rfl) (by kernel_rfl)];go_simp) ?_
   exact ⟨_,congrArg (fun d=>a.put d (.pointer (some ⟨X,0,none⟩))) (by kernel_rfl),hC,rfl,fun j u h=>h⟩
 ·intro b w' hC hR
  have e3:=hR 3 (by omega)
  have e7:=hR 7 (by omega)
  have e10:=hR 10 (by omega)
  simp only [List.take_succ_cons,List.take_zero,List.drop_succ_cons,List.drop_zero,putL,if_true,Nat.reduceAdd,Act.put,List.getElem_toArray,List.getElem_cons_zero,List.getElem_cons_succ,List.setIfInBounds_toArray,List.set_cons_zero,List.set_cons_succ]
  have e12:=hR 12 (by omega)
  rw [show b 12=Value.pointer (some ⟨X,0,none⟩) from e12]
  generalize b 3=v3 at e3 ⊢
  generalize b 7=v7 at e7 ⊢
  generalize b 10=v10 at e10 ⊢
  change w'.ownsRow W.heap.size 76 4 v3 f.C.length (f.C.flatMap cc) at e3
  change w'.ownsRow W.heap.size 52 1 v7 f.U.length (f.U.flatMap uc) at e7
  change w'.ownsRow W.heap.size 67 2 v10 vs.length (vs.flatMap jc) at e10
  obtain ⟨qC,kC,rfl⟩:=owns_form e3
  obtain ⟨qU,kU,rfl⟩:=owns_form e7
  obtain ⟨qJ,kJ,rfl⟩:=owns_form e10
  have hX:=HX.out.stay hC
  have x0:=hX.cell (j:=0) rfl
  have x1:=hX.cell (j:=1) rfl
  have x4:=hX.cell (j:=4) rfl
  have f0:=hX.frozen 0
  have f1:=hX.frozen 1
  have f4:=hX.frozen 4
  have hszX:=hX.size
  clear hR e12
  go_upto_region 2 with fail
  have hXB:X<W.heap.size:=by have:=HSZ.out;omega
  have hXY:X+1≠X:=by omega
  have hb1:=HB.out.trans (hC.mono HB.out.size)
  have HBV:=Lib.hid (belS (j:=4) (u:=.slice qJ vs.length kJ) (belS (j:=1) (u:=.slice qU f.U.length kU) (belS (j:=0) (u:=.slice qC f.C.length kC) hb1 (g:=X) (by have:=HSZ.out;omega)) (g:=X) (by have:=HSZ.out;omega)) (g:=X) (by have:=HSZ.out;omega))
  have HXV:=Lib.hid (((hX.set 0 (.slice qC f.C.length kC)).set 1 (.slice qU f.U.length kU)).set 4 (.slice qJ vs.length kJ))
  have HRV:=Lib.hid ((((HR.out.stay hC).other hXY 0 (.slice qC f.C.length kC)).other hXY 1 (.slice qU f.U.length kU)).other hXY 4 (.slice qJ vs.length kJ))
  have OC:=Lib.hid (owns_set3 e3 hXB 0 1 4 (.slice qC f.C.length kC) (.slice qU f.U.length kU) (.slice qJ vs.length kJ))
  have OU:=Lib.hid (owns_set3 e7 hXB 0 1 4 (.slice qC f.C.length kC) (.slice qU f.U.length kU) (.slice qJ vs.length kJ))
  have OJ:=Lib.hid (owns_set3 e10 hXB 0 1 4 (.slice qC f.C.length kC) (.slice qU f.U.length kU) (.slice qJ vs.length kJ))
  have HWV:Hid (W.heap.size≤((((w'.setCell ⟨X,0,none⟩ (.slice qC f.C.length kC)).setCell ⟨X,1,none⟩ (.slice qU f.U.length kU)).setCell ⟨X,4,none⟩ (.slice qJ vs.length kJ))).heap.size):=Lib.hid (by simpa using hC.size)
  clear hX x0 x1 x4 f0 f1 f4 hszX hb1 hC e3 e7 e10 HX HR K1 K2 K3
  generalize ((w'.setCell ⟨X,0,none⟩ (.slice qC f.C.length kC)).setCell ⟨X,1,none⟩ (.slice qU f.U.length kU)).setCell ⟨X,4,none⟩ (.slice qJ vs.length kJ)=V at *
  change Hid (HBox V X [.slice qC f.C.length kC,.slice qU f.U.length kU,.slice rS LS cS,.int .i32 EE,.slice qJ vs.length kJ] 41) at HXV
  have x2:=HXV.out.cell (j:=2) rfl
  have f2:=HXV.out.frozen 2
  have hsX:=HXV.out.size
  go_upto_region 3 with (go_at_call 46;refine (K4.out _ HBV.out).mono ?_;rintro e w3 ⟨v',rfl,o3,h3⟩;obtain ⟨qS,kS,rfl⟩:=owns_form o3;have O3:=Lib.hid o3;have HB3:=Lib.hid h3;have HX3:=HXV.out.stay h3;have z2:=HX3.cell (j:=2) rfl;have g2:=HX3.frozen 2;have hs3:=HX3.size;clear o3 h3 HX3)
  have HWW:=Lib.hid (Nat.le_trans HWV.out HB3.out.size)
  have HB4:=Lib.hid (belS (j:=2) (u:=.slice qS f.S.length kS) (HBV.out.trans (HB3.out.mono HBV.out.size)) (g:=X) (by have:=HSZ.out;omega))
  have HX4:=Lib.hid ((HXV.out.stay HB3.out).set 2 (.slice qS f.S.length kS))
  have HR4:=Lib.hid ((HRV.out.stay HB3.out).other hXY 2 (.slice qS f.S.length kS))
  have OC4:=Lib.hid (owns_set1 (owns_below OC.out HB3.out) hXB 2 (.slice qS f.S.length kS))
  have OU4:=Lib.hid (owns_set1 (owns_below OU.out HB3.out) hXB 2 (.slice qS f.S.length kS))
  have OJ4:=Lib.hid (owns_set1 (owns_below OJ.out HB3.out) hXB 2 (.slice qS f.S.length kS))
  have OS4:=Lib.hid (owns_set1 (owns_mono O3.out HWV.out) hXB 2 (.slice qS f.S.length kS))
  have HW4:Hid (W.heap.size≤(w3.setCell ⟨X,2,none⟩ (.slice qS f.S.length kS)).heap.size):=Lib.hid (by simpa using HWW.out)
  clear HWV HBV HXV HRV OC OU OJ O3 HB3 HWW x2 f2 hsX z2 g2 hs3 K4
  generalize w3.setCell ⟨X,2,none⟩ (.slice qS f.S.length kS)=V4 at *
  change Hid (HBox V4 X [.slice qC f.C.length kC,.slice qU f.U.length kU,.slice qS f.S.length kS,.int .i32 EE,.slice qJ vs.length kJ] 41) at HX4
  have hvm:=HLN.out.2.2.2.1
  rw [hvm] at HX4 OJ4 ⊢
  have x4:=HX4.out.cell (j:=4) rfl
  go_wp2_with fail
  clear x4
  go_loopw [40] (fun i wr=>∃ (k:Nat) (pre:List Jm),i = .int .i64 k∧k≤m∧Hid (pre.length=k∧pre.map jOf=(vs.take k).map jOf)∧Hid (∀ q ∈ pre,wr.ownsRow W.heap.size 89 4 q.2.1 q.2.2.length (q.2.2.flatMap lc))∧Hid (wr.ownsRow W.heap.size 67 2 (.slice qJ m kJ) m ((pre ++ vs.drop k).flatMap jc))∧Hid (HBox wr X [.slice qC f.C.length kC,.slice qU f.U.length kU,.slice qS f.S.length kS,.int .i32 EE,.slice qJ m kJ] 41)∧Hid (HBox wr (X+1) [.slice none 0 0,.slice none 0 0,.slice none 0 0,.int .i32 0,.slice none 0 0] 41)∧Hid (wr.ownsRow W.heap.size 76 4 (.slice qC f.C.length kC) f.C.length (f.C.flatMap cc))∧Hid (wr.ownsRow W.heap.size 52 1 (.slice qU f.U.length kU) f.U.length (f.U.flatMap uc))∧Hid (wr.ownsRow W.heap.size 34 1 (.slice qS f.S.length kS) f.S.length (f.S.flatMap dcl))∧Hid (Below w.heap.size w wr)∧Hid (W.heap.size≤wr.heap.size)) (fun i _=>m-(intOf i).toNat)
  case atStart=>exact ⟨0,[],rfl,Nat.zero_le _,Lib.hid ⟨rfl,rfl⟩,Lib.hid (fun q hq=>by cases hq),Lib.hid (by rw [List.drop_zero];exact OJ4.out),HX4,HR4,OC4,OU4,OS4,HB4,HW4⟩
  case round =>
   clear HX4 HR4 OC4 OU4 OS4 OJ4 HB4 HW4
   obtain ⟨k,pre,rfl,hk,HPR,HPL,HJr,HXr,HRr,OCr,OUr,OSr,HBr,HWr⟩:=hrel
   rename World=>wr
   by_cases hlt:k<m
   ·obtain ⟨p,hp⟩:∃ p,vs[k]?=some p:=⟨vs[k]'(by omega),List.getElem?_eq_getElem (by omega)⟩
    have HZ:Hid ((pre ++ vs.drop k)[k]?=some p):=Lib.hid (by rw [List.getElem?_append_right (by have:=HPR.out.1;omega),HPR.out.1,Nat.sub_self,List.getElem?_drop,Nat.add_zero];exact hp)
    obtain ⟨gJ,rfl⟩:∃ g,qJ=some ⟨g,0,none⟩:=by
     rcases HJr.out.2 with ⟨h',h0⟩ | ⟨g',cap',cur,h',_⟩
     ·omega
     ·injection h' with e1;exact ⟨g',e1⟩
    have hRl:=(HJ.out.stay HBr.out).2 p (List.mem_of_getElem? hp)
    obtain ⟨rl,cl,hvl,hml⟩:=hRl.form
    obtain ⟨LL,hLL⟩:∃ n,p.2.2.length=n:=⟨_,rfl⟩
    rw [hLL] at hvl hml
    rw [hvl] at hRl
    have HVL:=Lib.hid hvl
    have HRL:=Lib.hid hRl
    have HLL:=Lib.hid hLL
    have hpl:=(HP.out p (List.mem_of_getElem? hp)).1
    have K6:=Lib.hid (fun (w':World) (h:Below wr.heap.size wr w')=>(clone_l p.2.2 rl LL cl w' (HRL.out.stay h) HLL.out (by have:=HLL.out;omega)).mono (fun e w'' ⟨v',h1,h2,h3⟩=>(⟨v',h1,by rw [HLL.out];exact h2,h3⟩:∃ v',e=Ending.returned v'∧w''.ownsRow w'.heap.size 89 4 v' p.2.2.length (p.2.2.flatMap lc)∧Below w'.heap.size w' w'')))
    have hgJ:=HJr.out.lt gJ rfl
    clear hRl hvl hpl
    go_upto_region 6 with fail
    refine wp_region_part 10 (fun w'=>Below wr.heap.size wr w') (RL W.heap.size X gJ k (.slice (some ⟨gJ,0,none⟩) m kJ) (.slice rl LL cl) p.2.2) hmix (by decide) (by kernel_rfl) (by kernel_rfl) (by kernel_rfl) (Below.refl _ _).drew ?_ ?_
    ·intro a w' i hi hC hfar hrd
     rcases (by omega:i=0∨i=1∨i=2∨i=3∨i=4∨i=5∨i=6∨i=7∨i=8∨i=9) with rfl | rfl | rfl | rfl | rfl | rfl | rfl | rfl | rfl | rfl
     ·refine op_run (.fieldAddr 41 (.tmp 4) 1) (some 43) (by unfold opIs;kernel_rfl) (.pointer (some ⟨X,4,none⟩)) (w':=w') (fun o ho=>by unfold execOp;rw [ho];simp only [(hfar 4 (by kernel_rfl)).trans (show _=Value.pointer (some ⟨X,0,none⟩) by kernel_rfl)];go_simp) ?_
      exact ⟨_,congrArg (fun d=>a.put d (.pointer (some ⟨X,4,none⟩))) (by kernel_rfl),hC,rfl,fun j u h=>h⟩
     ·refine op_load 39 (.tmp 43) (some 44) (by unfold opIs;kernel_rfl) _ (.slice (some ⟨gJ,0,none⟩) m kJ) (hrd 0 43 (by kernel_rfl) (by kernel_rfl)) (by have:=(HXr.out.stay hC).cell (j:=4) rfl;go_simp) ?_
      exact ⟨_,congrArg (fun d=>a.put d (.slice (some ⟨gJ,0,none⟩) m kJ)) (by kernel_rfl),hC,rfl,fun j u h=>h⟩
     ·refine op_run (.move (.tmp 9)) (some 45) (by unfold opIs;kernel_rfl) (.int .i64 (k:Int)) (w':=w') (fun o ho=>by unfold execOp;rw [ho];simp only [(hfar 9 (by kernel_rfl)).trans (show _=Value.int .i64 (k:Int) by kernel_rfl)];go_simp) ?_
      exact ⟨_,congrArg (fun d=>a.put d (.int .i64 (k:Int))) (by kernel_rfl),hC,rfl,fun j u h=>h⟩
     ·refine op_run (.fieldAddr 41 (.tmp 4) 1) (some 46) (by unfold opIs;kernel_rfl) (.pointer (some ⟨X,4,none⟩)) (w':=w') (fun o ho=>by unfold execOp;rw [ho];simp only [(hfar 4 (by kernel_rfl)).trans (show _=Value.pointer (some ⟨X,0,none⟩) by kernel_rfl)];go_simp) ?_
      exact ⟨_,congrArg (fun d=>a.put d (.pointer (some ⟨X,4,none⟩))) (by kernel_rfl),hC,rfl,fun j u h=>h⟩
     ·refine op_load 39 (.tmp 46) (some 47) (by unfold opIs;kernel_rfl) _ (.slice (some ⟨gJ,0,none⟩) m kJ) (hrd 3 46 (by kernel_rfl) (by kernel_rfl)) (by have:=(HXr.out.stay hC).cell (j:=4) rfl;go_simp) ?_
      exact ⟨_,congrArg (fun d=>a.put d (.slice (some ⟨gJ,0,none⟩) m kJ)) (by kernel_rfl),hC,rfl,fun j u h=>h⟩
     ·refine op_run (.move (.tmp 9)) (some 48) (by unfold opIs;kernel_rfl) (.int .i64 (k:Int)) (w':=w') (fun o ho=>by unfold execOp;rw [ho];simp only [(hfar 9 (by kernel_rfl)).trans (show _=Value.int .i64 (k:Int) by kernel_rfl)];go_simp) ?_
      exact ⟨_,congrArg (fun d=>a.put d (.int .i64 (k:Int))) (by kernel_rfl),hC,rfl,fun j u h=>h⟩
     ·refine op_run (.indexAddr 39 (.tmp 47) (.tmp 48)) (some 49) (by unfold opIs;kernel_rfl) (.pointer (some ⟨gJ,k * 2,none⟩)) (w':=w') (fun o ho=>by unfold execOp;rw [ho];simp only [show a.eval (.tmp 47)=Value.slice (some ⟨gJ,0,none⟩) m kJ from hrd 4 47 (by kernel_rfl) (by kernel_rfl),show a.eval (.tmp 48)=Value.int .i64 (k:Int) from hrd 5 48 (by kernel_rfl) (by kernel_rfl)];go_simp) ?_
      exact ⟨_,congrArg (fun d=>a.put d (.pointer (some ⟨gJ,k * 2,none⟩))) (by kernel_rfl),hC,rfl,fun j u h=>h⟩
     ·refine op_run (.fieldAddr 67 (.tmp 49) 1) (some 50) (by unfold opIs;kernel_rfl) (.pointer (some ⟨gJ,k * 2+1,none⟩)) (w':=w') (fun o ho=>by unfold execOp;rw [ho];simp only [show a.eval (.tmp 49)=Value.pointer (some ⟨gJ,k * 2,none⟩) from hrd 6 49 (by kernel_rfl) (by kernel_rfl)];go_simp) ?_
      exact ⟨_,congrArg (fun d=>a.put d (.pointer (some ⟨gJ,k * 2+1,none⟩))) (by kernel_rfl),hC,rfl,fun j u h=>h⟩
     ·refine op_load 64 (.tmp 50) (some 51) (by unfold opIs;kernel_rfl) _ (.slice rl LL cl) (hrd 7 50 (by kernel_rfl) (by kernel_rfl)) (by have:=(row_cell (owns_below HJr.out hC) HZ.out hlt).2.trans (congrArg some HVL.out);go_simp) ?_
      exact ⟨_,congrArg (fun d=>a.put d (.slice rl LL cl)) (by kernel_rfl),hC,rfl,fun j u h=>h⟩
     ·refine op_call (.call { callee:=.value (.func 47),args:=#[.tmp 51],argTypes:=#[64] }) (some 52) (by unfold opIs;kernel_rfl) 47 #[.slice rl LL cl] (fun o ho=>by unfold execOp;rw [ho];simp only [resolve,List.map_toArray,List.map_cons,List.map_nil,show a.eval (.tmp 51)=_ from hrd 8 51 (by kernel_rfl) (by kernel_rfl)];go_simp) (K6.out w' hC) ?_
      rintro e w'' ⟨v',rfl,ho,hb⟩
      exact ⟨_,rfl,_,congrArg (fun d=>a.put d _) (by kernel_rfl),hC.trans (hb.mono hC.size),owns_mono ho (Nat.le_trans HWr.out hC.size),RL.stay hb⟩
    ·intro b w' hC hR
     have e9:=hR 9 (by omega)
     have e1:=hR 1 (by omega)
     have e2:=hR 2 (by omega)
     simp only [List.take_succ_cons,List.take_zero,List.drop_succ_cons,List.drop_zero,putL,if_true,Nat.reduceAdd,Act.put,List.getElem_toArray,List.getElem_cons_zero,List.getElem_cons_succ,List.setIfInBounds_toArray,List.set_cons_zero,List.set_cons_succ]
     rw [show b 1=Value.slice (some ⟨gJ,0,none⟩) m kJ from e1,show b 2=Value.int .i64 (k:Int) from e2]
     generalize b 9=v9 at e9 ⊢
     change w'.ownsRow W.heap.size 89 4 v9 p.2.2.length (p.2.2.flatMap lc) at e9
     rw [hLL] at e9
     obtain ⟨qL,kL,rfl⟩:=owns_form e9
     have hJ1:=owns_below HJr.out hC
     obtain ⟨_,y1⟩:=row_cell hJ1 HZ.out hlt
     have f1:=hJ1.frozenAt (k * 2+1)
     have hg1:=(hJ1.lt gJ rfl).2
     clear hR e1 e2
     go_wp2_with fail
     go_roundw
     case rel =>
      have hXB':gJ≠X:=by have:=hgJ.1;omega
      have hYB':gJ≠X+1:=by have:=hgJ.1;have:=HSZ.out;omega
      have hsj:=(hJ1.stored (k * 2+1) (.slice qL LL kL)).1
      have hfl:((pre ++ vs.drop k).flatMap jc).set (k * 2+1) (.slice qL LL kL)=((pre ++ [((p.1,Value.slice qL LL kL,p.2.2):Jm)]) ++ vs.drop (k+1)).flatMap jc:=by
       rw [flat_setL (y:=((p.1,Value.slice qL LL kL,p.2.2):Jm)) jc_len HZ.out (by omega) rfl]
       congr 1
       obtain ⟨hk',hpk⟩:=List.getElem?_eq_some_iff.1 hp
       rw [List.drop_eq_getElem_cons hk',List.set_append_right _ _ (by have:=HPR.out.1;omega),HPR.out.1,Nat.sub_self,List.set_cons_zero,List.append_assoc]
       rfl
      rw [hfl] at hsj
      have nJ:∀ {e:TypeId} {size n:Nat} {v:Value} {xs:List Value},w'.ownsRow W.heap.size e size v n xs→e≠67→v.ownBlock≠some gJ:=fun o he h=>by
       rcases owns_apart o hJ1 he with h' | h'
       ·rw [h'] at h;cases h
       ·exact h' h
      refine ⟨k+1,pre ++ [((p.1,Value.slice qL LL kL,p.2.2):Jm)],by go_num,by omega,Lib.hid ⟨by rw [List.length_append];have:=HPR.out.1;simp;omega,?_⟩,Lib.hid ?_,Lib.hid hsj,Lib.hid ((HXr.out.stay hC).other (fun e=>hXB' e.symm) _ _),Lib.hid ((HRr.out.stay hC).other (fun e=>hYB' e.symm) _ _),Lib.hid (owns_set_other (owns_below OCr.out hC) _ _ (nJ (owns_below OCr.out hC) (by decide))),Lib.hid (owns_set_other (owns_below OUr.out hC) _ _ (nJ (owns_below OUr.out hC) (by decide))),Lib.hid (owns_set_other (owns_below OSr.out hC) _ _ (nJ (owns_below OSr.out hC) (by decide))),Lib.hid (belS (HBr.out.trans (hC.mono HBr.out.size)) (by have:=hgJ.1;have:=HSZ.out;omega)),Lib.hid (by have:=hC.size;have:=HWr.out;simp;omega)⟩
      ·rw [List.map_append,HPR.out.2,List.take_add_one,hp,List.map_append]
       rfl
      ·intro q hq
       rcases List.mem_append.1 hq with hq | hq
       ·have o:=owns_below (HPL.out q hq) hC
        exact owns_set_other o _ _ (nJ o (by decide))
       ·simp at hq
        subst hq
        have o:=owns_set_other e9 ⟨gJ,k * 2+1,none⟩ (.slice qL LL kL) (nJ e9 (by decide))
        rw [← hLL] at o
        rw [← hLL]
        exact o
     case measure=>simp [intOf];omega
   ·obtain rfl:k=m:=by omega
    have hdrop:vs.drop k=[]:=List.drop_eq_nil_of_le (by omega)
    have hmem:∀ q ∈ pre,∃ p ∈ vs,p.1=q.1∧p.2.2=q.2.2:=fun q hq=>by
     have h1:jOf q ∈ pre.map jOf:=List.mem_map_of_mem hq
     rw [HPR.out.2,List.take_of_length_le (by omega)] at h1
     obtain ⟨p,hp,e⟩:=List.mem_map.1 h1
     exact ⟨p,hp,Prod.mk.inj e⟩
    have hjl:∀ q ∈ pre,q.2.2.length≤100 ∧ -2147483648≤q.1∧q.1≤2147483647:=fun q hq=>by
     obtain ⟨p,hp,e1,e2⟩:=hmem q hq
     rw [← e1,← e2]
     exact HP.out p hp
    have HSP:=Lib.hid (show SpM W.heap.size X (X+1) w wr f (.slice qC LC kC) (.slice qU LU kU) (.slice qS LS kS) (.slice qJ k kJ) pre from { box:=by have h:=HXr.out;rw [HLN.out.1,HLN.out.2.1,HLN.out.2.2.1] at h;rw [HLN.out.2.2.2.2];exact h,res:=HRr.out,hX:=hXB,hY:=by have:=HSZ.out;omega,hne:=by omega,h0:=by have:=HSZ.out;omega,c:=by have h:=OCr.out;rw [HLN.out.1] at h ⊢;exact h,u:=by have h:=OUr.out;rw [HLN.out.2.1] at h ⊢;exact h,s:=by have h:=OSr.out;rw [HLN.out.2.2.1] at h ⊢;exact h,j:=⟨by rw [HPR.out.1];have h:=HJr.out;rw [hdrop,List.append_nil] at h;exact h,HPL.out⟩,fi:=HI.out,jl:=⟨by rw [HPR.out.1];exact hl,hjl⟩,nm:=HNM.out,bel:=HBr.out })
    have HNP:Hid (∀ q ∈ pre,q.2.2≠[]):=Lib.hid (fun q hq=>by
     obtain ⟨p,hp,e1,e2⟩:=hmem q hq
     rw [← e2]
     exact HNE.out p hp)
    have HPLn:=Lib.hid HPR.out.1
    clear hmem hdrop hjl HPR HPL HJr HXr HRr OCr OUr OSr HBr HP HNE HJ HF HI hXB hXY
    have t4:IntKind.i64.wrap (at_:Int)=(at_:Int):=by rw [IntKind.wrap_i64];omega
    obtain ⟨n9,hn9⟩:∃ n,wh % 9=n:=⟨_,rfl⟩
    have t1:(wh:Int).tmod 9=(n9:Int):=by rw [Int.tmod_eq_emod_of_nonneg (by omega)];omega
    have t2:(wh:Int) % 9=(n9:Int):=by omega
    have t3:IntKind.u8.wrap (n9:Int)=(n9:Int):=by rw [IntKind.wrap_u8];omega
    have h9:n9<9:=by omega
    clear hn9
    go_upto_region 23 with fail
    rcases (by omega:n9=0∨n9=1∨n9=2∨n9=3∨n9=4∨n9=5∨n9=6∨n9=7∨n9=8) with rfl | rfl | rfl | rfl | rfl | rfl | rfl | rfl | rfl
    ·-- an account's code
     have hcl:=HLN.out.1
     have hc300:=HSP.out.fi.c
     rw [hcl] at hc300
     have hoc:=HSP.out.c
     rw [hcl] at hoc
     obtain ⟨gC,rfl⟩:∃ g,qC=some ⟨g,0,none⟩:=by
      rcases hoc.2 with ⟨h',h0⟩ | ⟨g',cap',cur,h',_⟩
      ·omega
      ·injection h' with e1;exact ⟨g',e1⟩
     obtain ⟨p0,hp0⟩:∃ p,at_ % LC=p:=⟨_,rfl⟩
     obtain ⟨m1,m2⟩:=mod_int hp0
     have hpl:p0<LC:=hp0 ▸ Nat.mod_lt _ hLC0
     obtain ⟨a,ha⟩:∃ a,f.C[p0]?=some a:=⟨_,List.getElem?_eq_getElem (by rw [hcl];exact hpl)⟩
     have w1:IntKind.i64.wrap (p0:Int)=(p0:Int):=by rw [IntKind.wrap_i64];omega
     have y0:wr.cell? ⟨gC,p0 * 4,none⟩=some (.int .u32 (a.code:Int)):=by
      rw [hoc.cellAt _ (by omega)]
      have:=flat_get cc_len (j:=0) (u:=.int .u32 (a.code:Int)) ha rfl
      simpa using this
     have fz:=hoc.frozenAt (p0 * 4)
     have hgz:=(hoc.lt gC rfl).2
     obtain ⟨b7,hb7⟩:∃ z,by_.tmod 7=z:=⟨_,rfl⟩
     have w2:IntKind.i64.wrap b7=b7:=by
      have hb8:=Int.tmod_lt_of_pos by_ (b:=7) (by omega)
      have hb9:=Int.lt_tmod_of_pos by_ (b:=7) (by omega)
      rw [IntKind.wrap_i64];omega
     obtain ⟨c7,hc7⟩:∃ z,IntKind.u32.wrap b7=z:=⟨_,rfl⟩
     obtain ⟨n,hn,hnl⟩:=u32_of ((a.code:Int)+c7)
     have x0:=HSP.out.box.cell (j:=0) rfl
     have e0:¬ LC=0:=by omega
     have e1:((LC:Int) == 0)=false:=by simp;omega
     have HSN:=Lib.hid ((HSP.out.code hcl ha n hnl).below (Below.refl _ _).drew)
     clear hoc hp0 ha hcl
     go_upto_region 24 with fail
     go_still_tail 16,hmix
     go_upto_region 31 with fail
     clear HSP y0 fz x0 hgz
     generalize (wr.setCell ⟨gC,p0 * 4,none⟩ (.int .u32 (n:Int))).drew=V9 at *
     obtain ⟨EZ,hEZ⟩:∃ z,({ f with C:=f.C.set p0 { a with code:=n,hc:=hnl } }:Fr).E=z:=⟨_,rfl⟩
     have q0:=HSN.out.box.cell (j:=0) rfl
     have q1:=HSN.out.box.cell (j:=1) rfl
     have q2:=HSN.out.box.cell (j:=2) rfl
     have q3:=HSN.out.box.cell (j:=3) rfl
     have q4:=HSN.out.box.cell (j:=4) rfl
     have c0:=HSN.out.res.cell (j:=0) rfl
     have c1:=HSN.out.res.cell (j:=1) rfl
     have c2:=HSN.out.res.cell (j:=2) rfl
     have c3:=HSN.out.res.cell (j:=3) rfl
     have c4:=HSN.out.res.cell (j:=4) rfl
     have g0:=HSN.out.res.frozen 0
     have g1:=HSN.out.res.frozen 1
     have g2:=HSN.out.res.frozen 2
     have g3:=HSN.out.res.frozen 3
     have g4:=HSN.out.res.frozen 4
     have hRZ:=HSN.out.res.size
     have HR5:=Lib.hid (((((HSN.out.res.set 0 (.slice (some ⟨gC,0,none⟩) LC kC)).set 1 (.slice qU LU kU)).set 2 (.slice qS LS kS)).set 3 (.int .i32 EZ)).set 4 (.slice qJ k kJ))
     have hdn:=HSN.out.done (.slice (some ⟨gC,0,none⟩) LC kC) (.slice qU LU kU) (.slice qS LS kS) (.int .i32 EZ) (.slice qJ k kJ)
     unfold bkV at hdn
     rw [hEZ] at hdn q3
     have HDN:=Lib.hid hdn
     clear hdn
     go_wp2_with fail
     have z0:=HR5.out.cell (j:=0) rfl
     have z1:=HR5.out.cell (j:=1) rfl
     have z2:=HR5.out.cell (j:=2) rfl
     have z3:=HR5.out.cell (j:=3) rfl
     have z4:=HR5.out.cell (j:=4) rfl
     refine bodyPost_ret (v:=.agg #[.slice (some ⟨gC,0,none⟩) LC kC,.slice qU LU kU,.slice qS LS kS,.int .i32 EZ,.slice qJ k kJ]) (by simp [results,Tryz.results18,go_sem,z0,z1,z2,z3,z4]) rfl ?_
     exact ⟨_,rfl,HDN.out.1,HDN.out.2⟩
    ·-- an entity out
     have hcl:=HLN.out.2.1
     have hoc:=HSP.out.u
     rw [hcl] at hoc
     obtain ⟨gU,rfl⟩:∃ g,qU=some ⟨g,0,none⟩:=by
      rcases hoc.2 with ⟨h',h0⟩ | ⟨g',cap',cur,h',_⟩
      ·omega
      ·injection h' with e1;exact ⟨g',e1⟩
     obtain ⟨p0,hp0⟩:∃ p,at_ % LU=p:=⟨_,rfl⟩
     obtain ⟨m1,m2⟩:=mod_int hp0
     have hu100:=HSP.out.fi.u
     rw [hcl] at hu100
     have hpl:p0<LU:=hp0 ▸ Nat.mod_lt _ hLU0
     obtain ⟨x,hx⟩:∃ x,f.U[p0]?=some x:=⟨_,List.getElem?_eq_getElem (by rw [hcl];exact hpl)⟩
     have w1:IntKind.i64.wrap (p0:Int)=(p0:Int):=by rw [IntKind.wrap_i64];omega
     have y0:wr.cell? ⟨gU,p0,none⟩=some (.int .u16 (x:Int)):=by
      rw [hoc.cellAt _ (by omega)]
      have:=flat_get uc_len (j:=0) (u:=.int .u16 (x:Int)) hx rfl
      simpa using this
     have x1:=HSP.out.box.cell (j:=1) rfl
     have e0:¬ LU=0:=by omega
     have e1:((LU:Int) == 0)=false:=by simp;omega
     have hRU:Recs uc 1 wr (.slice (some ⟨gU,0,none⟩) LU kU) f.U:=recs_of_owns uc_len hoc hcl.symm (by omega)
     have HSQ:=Lib.hid (HSP.out.below (Below.refl _ _).drew)
     have KU:=Lib.hid (without_u (.slice (some ⟨gU,0,none⟩) LU kU) f.U x wr.drew hRU (by omega))
     have HOU:Hid ((outU f.U x).length≤100 ∧ ∀ z ∈ outU f.U x,z<65536):=Lib.hid ⟨Nat.le_trans (List.length_filter_le _ _) (by omega),fun z hz=>hu100.2 z (List.mem_filter.1 hz).1⟩
     clear hoc hp0 hx hcl hRU hu100
     go_upto_region 26 with fail
     go_still_tail 14,hmix
     go_upto_region 31 with (go_at_call 48;refine KU.out.mono ?_;rintro e w4 ⟨v4,rfl,o4,h4⟩;obtain ⟨qN,cN,rfl⟩:=owns_form o4;have HO4:=Lib.hid o4;have HS4:=Lib.hid (HSQ.out.below h4);have HZ4:=Lib.hid h4.size;have s1:=HS4.out.box.cell (j:=1) rfl;have s2:=HS4.out.box.frozen 1;have s3:=HS4.out.box.size;clear o4 h4)
     have HSN:=Lib.hid (HS4.out.setU (owns_mono HO4.out (show W.heap.size≤wr.drew.heap.size from HWr.out)) HOU.out)
     clear HSP HSQ HS4 HO4 s1 s2 s3 x1 y0
     generalize w4.setCell ⟨X,1,none⟩ (.slice qN (outU f.U x).length cN)=V9 at *
     obtain ⟨EZ,hEZ⟩:∃ z,({ f with U:=outU f.U x }:Fr).E=z:=⟨_,rfl⟩
     have q0:=HSN.out.box.cell (j:=0) rfl
     have q1:=HSN.out.box.cell (j:=1) rfl
     have q2:=HSN.out.box.cell (j:=2) rfl
     have q3:=HSN.out.box.cell (j:=3) rfl
     have q4:=HSN.out.box.cell (j:=4) rfl
     have c0:=HSN.out.res.cell (j:=0) rfl
     have c1:=HSN.out.res.cell (j:=1) rfl
     have c2:=HSN.out.res.cell (j:=2) rfl
     have c3:=HSN.out.res.cell (j:=3) rfl
     have c4:=HSN.out.res.cell (j:=4) rfl
     have g0:=HSN.out.res.frozen 0
     have g1:=HSN.out.res.frozen 1
     have g2:=HSN.out.res.frozen 2
     have g3:=HSN.out.res.frozen 3
     have g4:=HSN.out.res.frozen 4
     have hRZ:=HSN.out.res.size
     have HR5:=Lib.hid (((((HSN.out.res.set 0 (.slice qC LC kC)).set 1 (.slice qN (outU f.U x).length cN)).set 2 (.slice qS LS kS)).set 3 (.int .i32 EZ)).set 4 (.slice qJ k kJ))
     have hdn:=HSN.out.done (.slice qC LC kC) (.slice qN (outU f.U x).length cN) (.slice qS LS kS) (.int .i32 EZ) (.slice qJ k kJ)
     unfold bkV at hdn
     rw [hEZ] at hdn q3
     have HDN:=Lib.hid hdn
     clear hdn
     go_wp2_with fail
     have z0:=HR5.out.cell (j:=0) rfl
     have z1:=HR5.out.cell (j:=1) rfl
     have z2:=HR5.out.cell (j:=2) rfl
     have z3:=HR5.out.cell (j:=3) rfl
     have z4:=HR5.out.cell (j:=4) rfl
     refine bodyPost_ret (v:=.agg #[.slice qC LC kC,.slice qN (outU f.U x).length cN,.slice qS LS kS,.int .i32 EZ,.slice qJ k kJ]) (by simp [results,Tryz.results18,go_sem,z0,z1,z2,z3,z4]) rfl ?_
     exact ⟨_,rfl,HDN.out.1,HDN.out.2⟩
    ·-- the end of the periods
     have hEf:=HLN.out.2.2.2.2
     have x3:=HSP.out.box.cell (j:=3) rfl
     have fz:=HSP.out.box.frozen 3
     have hsz:=HSP.out.box.size
     rw [hEf] at x3
     obtain ⟨b7,hb7⟩:∃ z,by_.tmod 60=z:=⟨_,rfl⟩
     have w2:IntKind.i64.wrap b7=b7:=by
      have hb8:=Int.tmod_lt_of_pos by_ (b:=60) (by omega)
      have hb9:=Int.lt_tmod_of_pos by_ (b:=60) (by omega)
      rw [IntKind.wrap_i64];omega
     obtain ⟨c7,hc7⟩:∃ z,IntKind.i32.wrap b7=z:=⟨_,rfl⟩
     obtain ⟨z7,hz7⟩:∃ z,IntKind.i32.wrap (EE-c7)=z:=⟨_,rfl⟩
     have hz8 : -2147483648≤z7∧z7≤2147483647:=by rw [← hz7,IntKind.wrap_i32];omega
     have HSN:=Lib.hid (HSP.out.setE z7 hz8)
     clear hEf
     go_upto_region 31 with fail
     clear HSP x3 fz hsz
     generalize wr.setCell ⟨X,3,none⟩ (.int .i32 z7)=V9 at *
     obtain ⟨EZ,hEZ⟩:∃ z,({ f with E:=z7 }:Fr).E=z:=⟨_,rfl⟩
     have q0:=HSN.out.box.cell (j:=0) rfl
     have q1:=HSN.out.box.cell (j:=1) rfl
     have q2:=HSN.out.box.cell (j:=2) rfl
     have q3:=HSN.out.box.cell (j:=3) rfl
     have q4:=HSN.out.box.cell (j:=4) rfl
     have c0:=HSN.out.res.cell (j:=0) rfl
     have c1:=HSN.out.res.cell (j:=1) rfl
     have c2:=HSN.out.res.cell (j:=2) rfl
     have c3:=HSN.out.res.cell (j:=3) rfl
     have c4:=HSN.out.res.cell (j:=4) rfl
     have g0:=HSN.out.res.frozen 0
     have g1:=HSN.out.res.frozen 1
     have g2:=HSN.out.res.frozen 2
     have g3:=HSN.out.res.frozen 3
     have g4:=HSN.out.res.frozen 4
     have hRZ:=HSN.out.res.size
     have HR5:=Lib.hid (((((HSN.out.res.set 0 (.slice qC LC kC)).set 1 (.slice qU LU kU)).set 2 (.slice qS LS kS)).set 3 (.int .i32 EZ)).set 4 (.slice qJ k kJ))
     have hdn:=HSN.out.done (.slice qC LC kC) (.slice qU LU kU) (.slice qS LS kS) (.int .i32 EZ) (.slice qJ k kJ)
     unfold bkV at hdn
     rw [hEZ] at hdn q3
     have HDN:=Lib.hid hdn
     clear hdn
     go_wp2_with fail
     have z0:=HR5.out.cell (j:=0) rfl
     have z1:=HR5.out.cell (j:=1) rfl
     have z2:=HR5.out.cell (j:=2) rfl
     have z3:=HR5.out.cell (j:=3) rfl
     have z4:=HR5.out.cell (j:=4) rfl
     refine bodyPost_ret (v:=.agg #[.slice qC LC kC,.slice qU LU kU,.slice qS LS kS,.int .i32 EZ,.slice qJ k kJ]) (by simp [results,Tryz.results18,go_sem,z0,z1,z2,z3,z4]) rfl ?_
     exact ⟨_,rfl,HDN.out.1,HDN.out.2⟩
    ·-- an account out
     have hcl:=HLN.out.1
     have hoc:=HSP.out.c
     rw [hcl] at hoc
     obtain ⟨gC,rfl⟩:∃ g,qC=some ⟨g,0,none⟩:=by
      rcases hoc.2 with ⟨h',h0⟩ | ⟨g',cap',cur,h',_⟩
      ·omega
      ·injection h' with e1;exact ⟨g',e1⟩
     obtain ⟨p0,hp0⟩:∃ p,at_ % LC=p:=⟨_,rfl⟩
     obtain ⟨m1,m2⟩:=mod_int hp0
     have hc300:=HSP.out.fi.c
     rw [hcl] at hc300
     have hcap:LC≤kC:=by
      rcases hoc.2 with ⟨h',h0⟩ | ⟨g',cap',cur,h',_,_,h3,_⟩
      ·omega
      ·injection h' with e1 e2 e3;omega
     have hpl:p0<LC:=hp0 ▸ Nat.mod_lt _ hLC0
     obtain ⟨a,ha⟩:∃ a,f.C[p0]?=some a:=⟨_,List.getElem?_eq_getElem (by rw [hcl];exact hpl)⟩
     have w1:IntKind.i64.wrap (p0:Int)=(p0:Int):=by rw [IntKind.wrap_i64];omega
     have y0:wr.cell? ⟨gC,p0 * 4,none⟩=some (.int .u32 (a.code:Int)):=by
      rw [hoc.cellAt _ (by omega)]
      have:=flat_get cc_len (j:=0) (u:=.int .u32 (a.code:Int)) ha rfl
      simpa using this
     have x0:=HSP.out.box.cell (j:=0) rfl
     have e0:¬ LC=0:=by omega
     have e1:((LC:Int) == 0)=false:=by simp;omega
     have hRC:Recs cc 4 wr (.slice (some ⟨gC,0,none⟩) LC kC) f.C:=recs_of_owns cc_len hoc hcl.symm (by omega)
     have HSQ:=Lib.hid (HSP.out.below (Below.refl _ _).drew)
     have KU:=Lib.hid (without_c (some ⟨gC,0,none⟩) LC kC f.C a.code wr.drew hRC hcap HRC.out (by omega) hcl.symm)
     have HOU:Hid ((outA f.C a.code).length≤300):=Lib.hid (Nat.le_trans (List.length_filter_le _ _) (by omega))
     clear hoc hp0 ha hcl hRC hc300 hcap
     go_upto_region 30 with fail
     go_still_tail 15,hmix
     go_upto_region 31 with (go_at_call 49;refine KU.out.mono ?_;rintro e w4 ⟨v4,rfl,o4,h4⟩;obtain ⟨qN,cN,rfl⟩:=owns_form o4;have HO4:=Lib.hid o4;have HS4:=Lib.hid (HSQ.out.below h4);have HZ4:=Lib.hid h4.size;have s1:=HS4.out.box.cell (j:=0) rfl;have s2:=HS4.out.box.frozen 0;have s3:=HS4.out.box.size;clear o4 h4)
     have HSN:=Lib.hid (HS4.out.setC (owns_mono HO4.out (show W.heap.size≤wr.drew.heap.size from HWr.out)) HOU.out (fun a9 h9=>HNM.out a9 ((List.mem_filter.1 h9).1)))
     clear HSP HSQ HS4 HO4 s1 s2 s3 x0 y0
     generalize w4.setCell ⟨X,0,none⟩ (.slice qN (outA f.C a.code).length cN)=V9 at *
     obtain ⟨EZ,hEZ⟩:∃ z,({ f with C:=outA f.C a.code }:Fr).E=z:=⟨_,rfl⟩
     have q0:=HSN.out.box.cell (j:=0) rfl
     have q1:=HSN.out.box.cell (j:=1) rfl
     have q2:=HSN.out.box.cell (j:=2) rfl
     have q3:=HSN.out.box.cell (j:=3) rfl
     have q4:=HSN.out.box.cell (j:=4) rfl
     have c0:=HSN.out.res.cell (j:=0) rfl
     have c1:=HSN.out.res.cell (j:=1) rfl
     have c2:=HSN.out.res.cell (j:=2) rfl
     have c3:=HSN.out.res.cell (j:=3) rfl
     have c4:=HSN.out.res.cell (j:=4) rfl
     have g0:=HSN.out.res.frozen 0
     have g1:=HSN.out.res.frozen 1
     have g2:=HSN.out.res.frozen 2
     have g3:=HSN.out.res.frozen 3
     have g4:=HSN.out.res.frozen 4
     have hRZ:=HSN.out.res.size
     have HR5:=Lib.hid (((((HSN.out.res.set 0 (.slice qN (outA f.C a.code).length cN)).set 1 (.slice qU LU kU)).set 2 (.slice qS LS kS)).set 3 (.int .i32 EZ)).set 4 (.slice qJ k kJ))
     have hdn:=HSN.out.done (.slice qN (outA f.C a.code).length cN) (.slice qU LU kU) (.slice qS LS kS) (.int .i32 EZ) (.slice qJ k kJ)
     unfold bkV at hdn
     rw [hEZ] at hdn q3
     have HDN:=Lib.hid hdn
     clear hdn
     go_wp2_with fail
     have z0:=HR5.out.cell (j:=0) rfl
     have z1:=HR5.out.cell (j:=1) rfl
     have z2:=HR5.out.cell (j:=2) rfl
     have z3:=HR5.out.cell (j:=3) rfl
     have z4:=HR5.out.cell (j:=4) rfl
     refine bodyPost_ret (v:=.agg #[.slice qN (outA f.C a.code).length cN,.slice qU LU kU,.slice qS LS kS,.int .i32 EZ,.slice qJ k kJ]) (by simp [results,Tryz.results18,go_sem,z0,z1,z2,z3,z4]) rfl ?_
     exact ⟨_,rfl,HDN.out.1,HDN.out.2⟩
    ·-- a day
     have x4:=HSP.out.box.cell (j:=4) rfl
     by_cases hk0:k=0
     ·subst hk0
      have HSN:=HSP
      go_upto_region 31 with fail
      clear HSP x4
      generalize wr=V9 at *
      obtain ⟨EZ,hEZ⟩:∃ z,(f).E=z:=⟨_,rfl⟩
      have q0:=HSN.out.box.cell (j:=0) rfl
      have q1:=HSN.out.box.cell (j:=1) rfl
      have q2:=HSN.out.box.cell (j:=2) rfl
      have q3:=HSN.out.box.cell (j:=3) rfl
      have q4:=HSN.out.box.cell (j:=4) rfl
      have c0:=HSN.out.res.cell (j:=0) rfl
      have c1:=HSN.out.res.cell (j:=1) rfl
      have c2:=HSN.out.res.cell (j:=2) rfl
      have c3:=HSN.out.res.cell (j:=3) rfl
      have c4:=HSN.out.res.cell (j:=4) rfl
      have g0:=HSN.out.res.frozen 0
      have g1:=HSN.out.res.frozen 1
      have g2:=HSN.out.res.frozen 2
      have g3:=HSN.out.res.frozen 3
      have g4:=HSN.out.res.frozen 4
      have hRZ:=HSN.out.res.size
      have HR5:=Lib.hid (((((HSN.out.res.set 0 (.slice qC LC kC)).set 1 (.slice qU LU kU)).set 2 (.slice qS LS kS)).set 3 (.int .i32 EZ)).set 4 (.slice qJ 0 kJ))
      have hdn:=HSN.out.done (.slice qC LC kC) (.slice qU LU kU) (.slice qS LS kS) (.int .i32 EZ) (.slice qJ 0 kJ)
      unfold bkV at hdn
      rw [hEZ] at hdn q3
      have HDN:=Lib.hid hdn
      clear hdn
      go_wp2_with fail
      have z0:=HR5.out.cell (j:=0) rfl
      have z1:=HR5.out.cell (j:=1) rfl
      have z2:=HR5.out.cell (j:=2) rfl
      have z3:=HR5.out.cell (j:=3) rfl
      have z4:=HR5.out.cell (j:=4) rfl
      refine bodyPost_ret (v:=.agg #[.slice qC LC kC,.slice qU LU kU,.slice qS LS kS,.int .i32 EZ,.slice qJ 0 kJ]) (by simp [results,Tryz.results18,go_sem,z0,z1,z2,z3,z4]) rfl ?_
      exact ⟨_,rfl,HDN.out.1,HDN.out.2⟩
     ·have hk1:0<k:=Nat.pos_of_ne_zero hk0
      have hjr:=HSP.out.j.row
      rw [HPLn.out] at hjr
      obtain ⟨gJ,rfl⟩:∃ g,qJ=some ⟨g,0,none⟩:=by
       rcases hjr.2 with ⟨h',h0⟩ | ⟨g',cap',cur,h',_⟩
       ·omega
       ·injection h' with e1;exact ⟨g',e1⟩
      obtain ⟨p0,hp0⟩:∃ p,at_ % k=p:=⟨_,rfl⟩
      obtain ⟨m1,m2⟩:=mod_int hp0
      have hpl:p0<k:=hp0 ▸ Nat.mod_lt _ hk1
      obtain ⟨p,hp⟩:∃ p,pre[p0]?=some p:=⟨_,List.getElem?_eq_getElem (by rw [HPLn.out];exact hpl)⟩
      have w1:IntKind.i64.wrap (p0:Int)=(p0:Int):=by rw [IntKind.wrap_i64];omega
      obtain ⟨y0,y1⟩:=row_cell hjr hp hpl
      have hll:=HSP.out.j.lines p (List.mem_of_getElem? hp)
      have hpn:=HNP.out p (List.mem_of_getElem? hp)
      have hpj:=HSP.out.jl.2 p (List.mem_of_getElem? hp)
      have hl0:0<p.2.2.length:=List.length_pos_iff.2 hpn
      obtain ⟨LL,hLL⟩:∃ n,p.2.2.length=n:=⟨_,rfl⟩
      rw [hLL] at hll hl0 hpj
      obtain ⟨gL,cL,hvL⟩:∃ g c,p.2.1 = .slice (some ⟨g,0,none⟩) LL c:=by
       rcases hll.2 with ⟨h',h0⟩ | ⟨g',cap',cur,h',_⟩
       ·omega
       ·exact ⟨g',cap',h'⟩
      rw [hvL] at hll y1
      obtain ⟨i0,hi0⟩:∃ i,at_ / 3 % LL=i:=⟨_,rfl⟩
      obtain ⟨m3,m4⟩:=mod_int hi0
      have hil:i0<LL:=hi0 ▸ Nat.mod_lt _ hl0
      obtain ⟨a3,ha3⟩:∃ a,at_ / 3=a:=⟨_,rfl⟩
      rw [ha3] at m3 m4
      have d1:(at_:Int).tdiv 3=(a3:Int):=by rw [Int.tdiv_eq_ediv_of_nonneg (by omega)];omega
      have d2:(at_:Int) / 3=(a3:Int):=by omega
      have w3:IntKind.i64.wrap (a3:Int)=(a3:Int):=by rw [IntKind.wrap_i64];omega
      have w4:IntKind.i64.wrap (i0:Int)=(i0:Int):=by rw [IntKind.wrap_i64];omega
      have e0:¬ k=0:=hk0
      have e1:((k:Int) == 0)=false:=by simp;omega
      have e2:¬ LL=0:=by omega
      have e3:((LL:Int) == 0)=false:=by simp;omega
      obtain ⟨l,hl9⟩:∃ l,p.2.2[i0]?=some l:=⟨_,List.getElem?_eq_getElem (by rw [hLL];exact hil)⟩
      have z0:wr.cell? ⟨gL,i0 * 4,none⟩=some (.int .u32 (l.acc:Int)):=by
       rw [hll.cellAt _ (by omega)]
       have:=flat_get lc_len (j:=0) (u:=.int .u32 (l.acc:Int)) hl9 rfl
       simpa using this
      have z1:wr.cell? ⟨gL,i0 * 4+1,none⟩=some (.int .u16 (l.ent.n:Int)):=by
       rw [hll.cellAt _ (by omega)]
       exact flat_get lc_len (j:=1) hl9 rfl
      have z2:wr.cell? ⟨gL,i0 * 4+2,none⟩=some (.int .u16 (l.ctr:Int)):=by
       rw [hll.cellAt _ (by omega)]
       exact flat_get lc_len (j:=2) hl9 rfl
      have z3:wr.cell? ⟨gL,i0 * 4+3,none⟩=some (.int .i64 l.amt):=by
       rw [hll.cellAt _ (by omega)]
       exact flat_get lc_len (j:=3) hl9 rfl
      have fJ:=hjr.frozenAt (p0 * 2)
      have fL:=fun j=>hll.frozenAt j
      have fL0:=fL (i0 * 4)
      have fL1:=fL (i0 * 4+1)
      have fL2:=fL (i0 * 4+2)
      have fL3:=fL (i0 * 4+3)
      have hgJ:=(hjr.lt gJ rfl).2
      have hgL:=(hll.lt gL rfl).2
      have HLLr:=Lib.hid hll
      have HPq:=Lib.hid hp
      have HPJ:=Lib.hid hpj
      obtain ⟨dd,hdd⟩:∃ d,p.1=d:=⟨_,rfl⟩
      rw [hdd] at y0
      obtain ⟨lA,hlA⟩:∃ z:Int,(l.acc:Int)=z:=⟨_,rfl⟩
      obtain ⟨lM,hlM⟩:∃ z:Int,l.amt=z:=⟨_,rfl⟩
      rw [hlA] at z0
      rw [hlM] at z3
      clear hjr hp0 hp hll hpn hpj hLL hvL hi0 ha3 fL hl9 hdd hlA hlM
      go_upto_region 11 with fail
      go_quiet (fail)
      generalize nq=nA at *
      go_upto_region 12 with fail
      go_quiet (fail)
      go_upto_region 13 with fail
      obtain ⟨b7,hb7⟩:∃ z,by_.tmod 50=z:=⟨_,rfl⟩
      have v2:IntKind.i64.wrap b7=b7:=by
       have hb8:=Int.tmod_lt_of_pos by_ (b:=50) (by omega)
       have hb9:=Int.lt_tmod_of_pos by_ (b:=50) (by omega)
       rw [IntKind.wrap_i64];omega
      obtain ⟨c7,hc7⟩:∃ z,IntKind.i32.wrap b7=z:=⟨_,rfl⟩
      obtain ⟨z7,hz7⟩:∃ z,IntKind.i32.wrap (dd+c7)=z:=⟨_,rfl⟩
      have hz8 : -2147483648≤z7∧z7≤2147483647:=by rw [← hz7,IntKind.wrap_i32];omega
      have HSN:=Lib.hid ((HSP.out.drewN (nA+nq)).day HPLn.out HPq.out z7 hz8)
      go_upto_region 31 with fail
      clear HSP HLLr HPq HPJ x4 y0 y1 z0 z1 z2 z3 fJ fL0 fL1 fL2 fL3 hgJ hgL
      generalize (wr.drewN (nA+nq)).setCell ⟨gJ,p0 * 2,none⟩ (.int .i32 z7)=V9 at *
      obtain ⟨EZ,hEZ⟩:∃ z,(f).E=z:=⟨_,rfl⟩
      have q0:=HSN.out.box.cell (j:=0) rfl
      have q1:=HSN.out.box.cell (j:=1) rfl
      have q2:=HSN.out.box.cell (j:=2) rfl
      have q3:=HSN.out.box.cell (j:=3) rfl
      have q4:=HSN.out.box.cell (j:=4) rfl
      have c0:=HSN.out.res.cell (j:=0) rfl
      have c1:=HSN.out.res.cell (j:=1) rfl
      have c2:=HSN.out.res.cell (j:=2) rfl
      have c3:=HSN.out.res.cell (j:=3) rfl
      have c4:=HSN.out.res.cell (j:=4) rfl
      have g0:=HSN.out.res.frozen 0
      have g1:=HSN.out.res.frozen 1
      have g2:=HSN.out.res.frozen 2
      have g3:=HSN.out.res.frozen 3
      have g4:=HSN.out.res.frozen 4
      have hRZ:=HSN.out.res.size
      have HR5:=Lib.hid (((((HSN.out.res.set 0 (.slice qC LC kC)).set 1 (.slice qU LU kU)).set 2 (.slice qS LS kS)).set 3 (.int .i32 EZ)).set 4 (.slice (some ⟨gJ,0,none⟩) k kJ))
      have hdn:=HSN.out.done (.slice qC LC kC) (.slice qU LU kU) (.slice qS LS kS) (.int .i32 EZ) (.slice (some ⟨gJ,0,none⟩) k kJ)
      unfold bkV at hdn
      rw [hEZ] at hdn q3
      have HDN:=Lib.hid hdn
      clear hdn
      go_wp2_with fail
      have z0:=HR5.out.cell (j:=0) rfl
      have z1:=HR5.out.cell (j:=1) rfl
      have z2:=HR5.out.cell (j:=2) rfl
      have z3:=HR5.out.cell (j:=3) rfl
      have z4:=HR5.out.cell (j:=4) rfl
      refine bodyPost_ret (v:=.agg #[.slice qC LC kC,.slice qU LU kU,.slice qS LS kS,.int .i32 EZ,.slice (some ⟨gJ,0,none⟩) k kJ]) (by simp [results,Tryz.results18,go_sem,z0,z1,z2,z3,z4]) rfl ?_
      exact ⟨_,rfl,HDN.out.1,HDN.out.2⟩
    ·-- an amount
     have x4:=HSP.out.box.cell (j:=4) rfl
     by_cases hk0:k=0
     ·subst hk0
      have HSN:=HSP
      go_upto_region 31 with fail
      clear HSP x4
      generalize wr=V9 at *
      obtain ⟨EZ,hEZ⟩:∃ z,(f).E=z:=⟨_,rfl⟩
      have q0:=HSN.out.box.cell (j:=0) rfl
      have q1:=HSN.out.box.cell (j:=1) rfl
      have q2:=HSN.out.box.cell (j:=2) rfl
      have q3:=HSN.out.box.cell (j:=3) rfl
      have q4:=HSN.out.box.cell (j:=4) rfl
      have c0:=HSN.out.res.cell (j:=0) rfl
      have c1:=HSN.out.res.cell (j:=1) rfl
      have c2:=HSN.out.res.cell (j:=2) rfl
      have c3:=HSN.out.res.cell (j:=3) rfl
      have c4:=HSN.out.res.cell (j:=4) rfl
      have g0:=HSN.out.res.frozen 0
      have g1:=HSN.out.res.frozen 1
      have g2:=HSN.out.res.frozen 2
      have g3:=HSN.out.res.frozen 3
      have g4:=HSN.out.res.frozen 4
      have hRZ:=HSN.out.res.size
      have HR5:=Lib.hid (((((HSN.out.res.set 0 (.slice qC LC kC)).set 1 (.slice qU LU kU)).set 2 (.slice qS LS kS)).set 3 (.int .i32 EZ)).set 4 (.slice qJ 0 kJ))
      have hdn:=HSN.out.done (.slice qC LC kC) (.slice qU LU kU) (.slice qS LS kS) (.int .i32 EZ) (.slice qJ 0 kJ)
      unfold bkV at hdn
      rw [hEZ] at hdn q3
      have HDN:=Lib.hid hdn
      clear hdn
      go_wp2_with fail
      have z0:=HR5.out.cell (j:=0) rfl
      have z1:=HR5.out.cell (j:=1) rfl
      have z2:=HR5.out.cell (j:=2) rfl
      have z3:=HR5.out.cell (j:=3) rfl
      have z4:=HR5.out.cell (j:=4) rfl
      refine bodyPost_ret (v:=.agg #[.slice qC LC kC,.slice qU LU kU,.slice qS LS kS,.int .i32 EZ,.slice qJ 0 kJ]) (by simp [results,Tryz.results18,go_sem,z0,z1,z2,z3,z4]) rfl ?_
      exact ⟨_,rfl,HDN.out.1,HDN.out.2⟩
     ·have hk1:0<k:=Nat.pos_of_ne_zero hk0
      have hjr:=HSP.out.j.row
      rw [HPLn.out] at hjr
      obtain ⟨gJ,rfl⟩:∃ g,qJ=some ⟨g,0,none⟩:=by
       rcases hjr.2 with ⟨h',h0⟩ | ⟨g',cap',cur,h',_⟩
       ·omega
       ·injection h' with e1;exact ⟨g',e1⟩
      obtain ⟨p0,hp0⟩:∃ p,at_ % k=p:=⟨_,rfl⟩
      obtain ⟨m1,m2⟩:=mod_int hp0
      have hpl:p0<k:=hp0 ▸ Nat.mod_lt _ hk1
      obtain ⟨p,hp⟩:∃ p,pre[p0]?=some p:=⟨_,List.getElem?_eq_getElem (by rw [HPLn.out];exact hpl)⟩
      have w1:IntKind.i64.wrap (p0:Int)=(p0:Int):=by rw [IntKind.wrap_i64];omega
      obtain ⟨y0,y1⟩:=row_cell hjr hp hpl
      have hll:=HSP.out.j.lines p (List.mem_of_getElem? hp)
      have hpn:=HNP.out p (List.mem_of_getElem? hp)
      have hpj:=HSP.out.jl.2 p (List.mem_of_getElem? hp)
      have hl0:0<p.2.2.length:=List.length_pos_iff.2 hpn
      obtain ⟨LL,hLL⟩:∃ n,p.2.2.length=n:=⟨_,rfl⟩
      rw [hLL] at hll hl0 hpj
      obtain ⟨gL,cL,hvL⟩:∃ g c,p.2.1 = .slice (some ⟨g,0,none⟩) LL c:=by
       rcases hll.2 with ⟨h',h0⟩ | ⟨g',cap',cur,h',_⟩
       ·omega
       ·exact ⟨g',cap',h'⟩
      rw [hvL] at hll y1
      obtain ⟨i0,hi0⟩:∃ i,at_ / 3 % LL=i:=⟨_,rfl⟩
      obtain ⟨m3,m4⟩:=mod_int hi0
      have hil:i0<LL:=hi0 ▸ Nat.mod_lt _ hl0
      obtain ⟨a3,ha3⟩:∃ a,at_ / 3=a:=⟨_,rfl⟩
      rw [ha3] at m3 m4
      have d1:(at_:Int).tdiv 3=(a3:Int):=by rw [Int.tdiv_eq_ediv_of_nonneg (by omega)];omega
      have d2:(at_:Int) / 3=(a3:Int):=by omega
      have w3:IntKind.i64.wrap (a3:Int)=(a3:Int):=by rw [IntKind.wrap_i64];omega
      have w4:IntKind.i64.wrap (i0:Int)=(i0:Int):=by rw [IntKind.wrap_i64];omega
      have e0:¬ k=0:=hk0
      have e1:((k:Int) == 0)=false:=by simp;omega
      have e2:¬ LL=0:=by omega
      have e3:((LL:Int) == 0)=false:=by simp;omega
      obtain ⟨l,hl9⟩:∃ l,p.2.2[i0]?=some l:=⟨_,List.getElem?_eq_getElem (by rw [hLL];exact hil)⟩
      have z0:wr.cell? ⟨gL,i0 * 4,none⟩=some (.int .u32 (l.acc:Int)):=by
       rw [hll.cellAt _ (by omega)]
       have:=flat_get lc_len (j:=0) (u:=.int .u32 (l.acc:Int)) hl9 rfl
       simpa using this
      have z1:wr.cell? ⟨gL,i0 * 4+1,none⟩=some (.int .u16 (l.ent.n:Int)):=by
       rw [hll.cellAt _ (by omega)]
       exact flat_get lc_len (j:=1) hl9 rfl
      have z2:wr.cell? ⟨gL,i0 * 4+2,none⟩=some (.int .u16 (l.ctr:Int)):=by
       rw [hll.cellAt _ (by omega)]
       exact flat_get lc_len (j:=2) hl9 rfl
      have z3:wr.cell? ⟨gL,i0 * 4+3,none⟩=some (.int .i64 l.amt):=by
       rw [hll.cellAt _ (by omega)]
       exact flat_get lc_len (j:=3) hl9 rfl
      have fJ:=hjr.frozenAt (p0 * 2)
      have fL:=fun j=>hll.frozenAt j
      have fL0:=fL (i0 * 4)
      have fL1:=fL (i0 * 4+1)
      have fL2:=fL (i0 * 4+2)
      have fL3:=fL (i0 * 4+3)
      have hgJ:=(hjr.lt gJ rfl).2
      have hgL:=(hll.lt gL rfl).2
      have HLLr:=Lib.hid hll
      have HPq:=Lib.hid hp
      have HPJ:=Lib.hid hpj
      obtain ⟨dd,hdd⟩:∃ d,p.1=d:=⟨_,rfl⟩
      rw [hdd] at y0
      obtain ⟨lA,hlA⟩:∃ z:Int,(l.acc:Int)=z:=⟨_,rfl⟩
      obtain ⟨lM,hlM⟩:∃ z:Int,l.amt=z:=⟨_,rfl⟩
      rw [hlA] at z0
      rw [hlM] at z3
      clear hjr hp0 hp hll hpn hpj hLL hvL hi0 ha3 fL hl9 hdd hlA hlM
      go_upto_region 11 with fail
      go_quiet (fail)
      generalize nq=nA at *
      go_upto_region 12 with fail
      go_quiet (fail)
      go_upto_region 13 with fail
      obtain ⟨z7,hz7⟩:∃ z,IntKind.i64.wrap (lM+by_)=z:=⟨_,rfl⟩
      have hz8 : -9223372036854775808≤z7∧z7≤9223372036854775807:=by rw [← hz7,IntKind.wrap_i64];omega
      obtain ⟨pre',hpl',hsn⟩:=(HSP.out.drewN (nA+nq)).line (ls:=p.2.2.flatMap lc) (t:=fun x=>{ x with amt:=z7,hm:=hz8 }) HLLr.out i0 (jf:=3) (u:=.int .i64 z7) (by omega) (fun x=>rfl)
      have HSN:=Lib.hid hsn
      clear hsn hpl'
      go_upto_region 31 with fail
      clear HSP HLLr HPq HPJ x4 y0 y1 z0 z1 z2 z3 fJ fL0 fL1 fL2 fL3 hgJ hgL
      generalize (wr.drewN (nA+nq)).setCell ⟨gL,i0 * 4+3,none⟩ (.int .i64 z7)=V9 at *
      obtain ⟨EZ,hEZ⟩:∃ z,(f).E=z:=⟨_,rfl⟩
      have q0:=HSN.out.box.cell (j:=0) rfl
      have q1:=HSN.out.box.cell (j:=1) rfl
      have q2:=HSN.out.box.cell (j:=2) rfl
      have q3:=HSN.out.box.cell (j:=3) rfl
      have q4:=HSN.out.box.cell (j:=4) rfl
      have c0:=HSN.out.res.cell (j:=0) rfl
      have c1:=HSN.out.res.cell (j:=1) rfl
      have c2:=HSN.out.res.cell (j:=2) rfl
      have c3:=HSN.out.res.cell (j:=3) rfl
      have c4:=HSN.out.res.cell (j:=4) rfl
      have g0:=HSN.out.res.frozen 0
      have g1:=HSN.out.res.frozen 1
      have g2:=HSN.out.res.frozen 2
      have g3:=HSN.out.res.frozen 3
      have g4:=HSN.out.res.frozen 4
      have hRZ:=HSN.out.res.size
      have HR5:=Lib.hid (((((HSN.out.res.set 0 (.slice qC LC kC)).set 1 (.slice qU LU kU)).set 2 (.slice qS LS kS)).set 3 (.int .i32 EZ)).set 4 (.slice (some ⟨gJ,0,none⟩) k kJ))
      have hdn:=HSN.out.done (.slice qC LC kC) (.slice qU LU kU) (.slice qS LS kS) (.int .i32 EZ) (.slice (some ⟨gJ,0,none⟩) k kJ)
      unfold bkV at hdn
      rw [hEZ] at hdn q3
      have HDN:=Lib.hid hdn
      clear hdn
      go_wp2_with fail
      have z0:=HR5.out.cell (j:=0) rfl
      have z1:=HR5.out.cell (j:=1) rfl
      have z2:=HR5.out.cell (j:=2) rfl
      have z3:=HR5.out.cell (j:=3) rfl
      have z4:=HR5.out.cell (j:=4) rfl
      refine bodyPost_ret (v:=.agg #[.slice qC LC kC,.slice qU LU kU,.slice qS LS kS,.int .i32 EZ,.slice (some ⟨gJ,0,none⟩) k kJ]) (by simp [results,Tryz.results18,go_sem,z0,z1,z2,z3,z4]) rfl ?_
      exact ⟨_,rfl,HDN.out.1,HDN.out.2⟩
    ·-- a Counter
     have x4:=HSP.out.box.cell (j:=4) rfl
     by_cases hk0:k=0
     ·subst hk0
      have HSN:=HSP
      go_upto_region 31 with fail
      clear HSP x4
      generalize wr=V9 at *
      obtain ⟨EZ,hEZ⟩:∃ z,(f).E=z:=⟨_,rfl⟩
      have q0:=HSN.out.box.cell (j:=0) rfl
      have q1:=HSN.out.box.cell (j:=1) rfl
      have q2:=HSN.out.box.cell (j:=2) rfl
      have q3:=HSN.out.box.cell (j:=3) rfl
      have q4:=HSN.out.box.cell (j:=4) rfl
      have c0:=HSN.out.res.cell (j:=0) rfl
      have c1:=HSN.out.res.cell (j:=1) rfl
      have c2:=HSN.out.res.cell (j:=2) rfl
      have c3:=HSN.out.res.cell (j:=3) rfl
      have c4:=HSN.out.res.cell (j:=4) rfl
      have g0:=HSN.out.res.frozen 0
      have g1:=HSN.out.res.frozen 1
      have g2:=HSN.out.res.frozen 2
      have g3:=HSN.out.res.frozen 3
      have g4:=HSN.out.res.frozen 4
      have hRZ:=HSN.out.res.size
      have HR5:=Lib.hid (((((HSN.out.res.set 0 (.slice qC LC kC)).set 1 (.slice qU LU kU)).set 2 (.slice qS LS kS)).set 3 (.int .i32 EZ)).set 4 (.slice qJ 0 kJ))
      have hdn:=HSN.out.done (.slice qC LC kC) (.slice qU LU kU) (.slice qS LS kS) (.int .i32 EZ) (.slice qJ 0 kJ)
      unfold bkV at hdn
      rw [hEZ] at hdn q3
      have HDN:=Lib.hid hdn
      clear hdn
      go_wp2_with fail
      have z0:=HR5.out.cell (j:=0) rfl
      have z1:=HR5.out.cell (j:=1) rfl
      have z2:=HR5.out.cell (j:=2) rfl
      have z3:=HR5.out.cell (j:=3) rfl
      have z4:=HR5.out.cell (j:=4) rfl
      refine bodyPost_ret (v:=.agg #[.slice qC LC kC,.slice qU LU kU,.slice qS LS kS,.int .i32 EZ,.slice qJ 0 kJ]) (by simp [results,Tryz.results18,go_sem,z0,z1,z2,z3,z4]) rfl ?_
      exact ⟨_,rfl,HDN.out.1,HDN.out.2⟩
     ·have hk1:0<k:=Nat.pos_of_ne_zero hk0
      have hjr:=HSP.out.j.row
      rw [HPLn.out] at hjr
      obtain ⟨gJ,rfl⟩:∃ g,qJ=some ⟨g,0,none⟩:=by
       rcases hjr.2 with ⟨h',h0⟩ | ⟨g',cap',cur,h',_⟩
       ·omega
       ·injection h' with e1;exact ⟨g',e1⟩
      obtain ⟨p0,hp0⟩:∃ p,at_ % k=p:=⟨_,rfl⟩
      obtain ⟨m1,m2⟩:=mod_int hp0
      have hpl:p0<k:=hp0 ▸ Nat.mod_lt _ hk1
      obtain ⟨p,hp⟩:∃ p,pre[p0]?=some p:=⟨_,List.getElem?_eq_getElem (by rw [HPLn.out];exact hpl)⟩
      have w1:IntKind.i64.wrap (p0:Int)=(p0:Int):=by rw [IntKind.wrap_i64];omega
      obtain ⟨y0,y1⟩:=row_cell hjr hp hpl
      have hll:=HSP.out.j.lines p (List.mem_of_getElem? hp)
      have hpn:=HNP.out p (List.mem_of_getElem? hp)
      have hpj:=HSP.out.jl.2 p (List.mem_of_getElem? hp)
      have hl0:0<p.2.2.length:=List.length_pos_iff.2 hpn
      obtain ⟨LL,hLL⟩:∃ n,p.2.2.length=n:=⟨_,rfl⟩
      rw [hLL] at hll hl0 hpj
      obtain ⟨gL,cL,hvL⟩:∃ g c,p.2.1 = .slice (some ⟨g,0,none⟩) LL c:=by
       rcases hll.2 with ⟨h',h0⟩ | ⟨g',cap',cur,h',_⟩
       ·omega
       ·exact ⟨g',cap',h'⟩
      rw [hvL] at hll y1
      obtain ⟨i0,hi0⟩:∃ i,at_ / 3 % LL=i:=⟨_,rfl⟩
      obtain ⟨m3,m4⟩:=mod_int hi0
      have hil:i0<LL:=hi0 ▸ Nat.mod_lt _ hl0
      obtain ⟨a3,ha3⟩:∃ a,at_ / 3=a:=⟨_,rfl⟩
      rw [ha3] at m3 m4
      have d1:(at_:Int).tdiv 3=(a3:Int):=by rw [Int.tdiv_eq_ediv_of_nonneg (by omega)];omega
      have d2:(at_:Int) / 3=(a3:Int):=by omega
      have w3:IntKind.i64.wrap (a3:Int)=(a3:Int):=by rw [IntKind.wrap_i64];omega
      have w4:IntKind.i64.wrap (i0:Int)=(i0:Int):=by rw [IntKind.wrap_i64];omega
      have e0:¬ k=0:=hk0
      have e1:((k:Int) == 0)=false:=by simp;omega
      have e2:¬ LL=0:=by omega
      have e3:((LL:Int) == 0)=false:=by simp;omega
      obtain ⟨l,hl9⟩:∃ l,p.2.2[i0]?=some l:=⟨_,List.getElem?_eq_getElem (by rw [hLL];exact hil)⟩
      have z0:wr.cell? ⟨gL,i0 * 4,none⟩=some (.int .u32 (l.acc:Int)):=by
       rw [hll.cellAt _ (by omega)]
       have:=flat_get lc_len (j:=0) (u:=.int .u32 (l.acc:Int)) hl9 rfl
       simpa using this
      have z1:wr.cell? ⟨gL,i0 * 4+1,none⟩=some (.int .u16 (l.ent.n:Int)):=by
       rw [hll.cellAt _ (by omega)]
       exact flat_get lc_len (j:=1) hl9 rfl
      have z2:wr.cell? ⟨gL,i0 * 4+2,none⟩=some (.int .u16 (l.ctr:Int)):=by
       rw [hll.cellAt _ (by omega)]
       exact flat_get lc_len (j:=2) hl9 rfl
      have z3:wr.cell? ⟨gL,i0 * 4+3,none⟩=some (.int .i64 l.amt):=by
       rw [hll.cellAt _ (by omega)]
       exact flat_get lc_len (j:=3) hl9 rfl
      have fJ:=hjr.frozenAt (p0 * 2)
      have fL:=fun j=>hll.frozenAt j
      have fL0:=fL (i0 * 4)
      have fL1:=fL (i0 * 4+1)
      have fL2:=fL (i0 * 4+2)
      have fL3:=fL (i0 * 4+3)
      have hgJ:=(hjr.lt gJ rfl).2
      have hgL:=(hll.lt gL rfl).2
      have HLLr:=Lib.hid hll
      have HPq:=Lib.hid hp
      have HPJ:=Lib.hid hpj
      obtain ⟨dd,hdd⟩:∃ d,p.1=d:=⟨_,rfl⟩
      rw [hdd] at y0
      obtain ⟨lA,hlA⟩:∃ z:Int,(l.acc:Int)=z:=⟨_,rfl⟩
      obtain ⟨lM,hlM⟩:∃ z:Int,l.amt=z:=⟨_,rfl⟩
      rw [hlA] at z0
      rw [hlM] at z3
      clear hjr hp0 hp hll hpn hpj hLL hvL hi0 ha3 fL hl9 hdd hlA hlM
      go_upto_region 11 with fail
      go_quiet (fail)
      generalize nq=nA at *
      go_upto_region 12 with fail
      go_quiet (fail)
      go_upto_region 13 with fail
      obtain ⟨b7,hb7⟩:∃ z,by_.tmod 12=z:=⟨_,rfl⟩
      have v2:IntKind.i64.wrap b7=b7:=by
       have hb8:=Int.tmod_lt_of_pos by_ (b:=12) (by omega)
       have hb9:=Int.lt_tmod_of_pos by_ (b:=12) (by omega)
       rw [IntKind.wrap_i64];omega
      obtain ⟨z7,hz7,hz8⟩:=u16_of b7
      obtain ⟨pre',hpl',hsn⟩:=(HSP.out.drewN (nA+nq)).line (ls:=p.2.2.flatMap lc) (t:=fun x=>{ x with ctr:=z7,hc:=hz8 }) HLLr.out i0 (jf:=2) (u:=.int .u16 (z7:Int)) (by omega) (fun x=>rfl)
      have HSN:=Lib.hid hsn
      clear hsn hpl'
      go_upto_region 31 with fail
      clear HSP HLLr HPq HPJ x4 y0 y1 z0 z1 z2 z3 fJ fL0 fL1 fL2 fL3 hgJ hgL
      generalize (wr.drewN (nA+nq)).setCell ⟨gL,i0 * 4+2,none⟩ (.int .u16 (z7:Int))=V9 at *
      obtain ⟨EZ,hEZ⟩:∃ z,(f).E=z:=⟨_,rfl⟩
      have q0:=HSN.out.box.cell (j:=0) rfl
      have q1:=HSN.out.box.cell (j:=1) rfl
      have q2:=HSN.out.box.cell (j:=2) rfl
      have q3:=HSN.out.box.cell (j:=3) rfl
      have q4:=HSN.out.box.cell (j:=4) rfl
      have c0:=HSN.out.res.cell (j:=0) rfl
      have c1:=HSN.out.res.cell (j:=1) rfl
      have c2:=HSN.out.res.cell (j:=2) rfl
      have c3:=HSN.out.res.cell (j:=3) rfl
      have c4:=HSN.out.res.cell (j:=4) rfl
      have g0:=HSN.out.res.frozen 0
      have g1:=HSN.out.res.frozen 1
      have g2:=HSN.out.res.frozen 2
      have g3:=HSN.out.res.frozen 3
      have g4:=HSN.out.res.frozen 4
      have hRZ:=HSN.out.res.size
      have HR5:=Lib.hid (((((HSN.out.res.set 0 (.slice qC LC kC)).set 1 (.slice qU LU kU)).set 2 (.slice qS LS kS)).set 3 (.int .i32 EZ)).set 4 (.slice (some ⟨gJ,0,none⟩) k kJ))
      have hdn:=HSN.out.done (.slice qC LC kC) (.slice qU LU kU) (.slice qS LS kS) (.int .i32 EZ) (.slice (some ⟨gJ,0,none⟩) k kJ)
      unfold bkV at hdn
      rw [hEZ] at hdn q3
      have HDN:=Lib.hid hdn
      clear hdn
      go_wp2_with fail
      have z0:=HR5.out.cell (j:=0) rfl
      have z1:=HR5.out.cell (j:=1) rfl
      have z2:=HR5.out.cell (j:=2) rfl
      have z3:=HR5.out.cell (j:=3) rfl
      have z4:=HR5.out.cell (j:=4) rfl
      refine bodyPost_ret (v:=.agg #[.slice qC LC kC,.slice qU LU kU,.slice qS LS kS,.int .i32 EZ,.slice (some ⟨gJ,0,none⟩) k kJ]) (by simp [results,Tryz.results18,go_sem,z0,z1,z2,z3,z4]) rfl ?_
      exact ⟨_,rfl,HDN.out.1,HDN.out.2⟩
    ·-- an entity
     have x4:=HSP.out.box.cell (j:=4) rfl
     by_cases hk0:k=0
     ·subst hk0
      have HSN:=HSP
      go_upto_region 31 with fail
      clear HSP x4
      generalize wr=V9 at *
      obtain ⟨EZ,hEZ⟩:∃ z,(f).E=z:=⟨_,rfl⟩
      have q0:=HSN.out.box.cell (j:=0) rfl
      have q1:=HSN.out.box.cell (j:=1) rfl
      have q2:=HSN.out.box.cell (j:=2) rfl
      have q3:=HSN.out.box.cell (j:=3) rfl
      have q4:=HSN.out.box.cell (j:=4) rfl
      have c0:=HSN.out.res.cell (j:=0) rfl
      have c1:=HSN.out.res.cell (j:=1) rfl
      have c2:=HSN.out.res.cell (j:=2) rfl
      have c3:=HSN.out.res.cell (j:=3) rfl
      have c4:=HSN.out.res.cell (j:=4) rfl
      have g0:=HSN.out.res.frozen 0
      have g1:=HSN.out.res.frozen 1
      have g2:=HSN.out.res.frozen 2
      have g3:=HSN.out.res.frozen 3
      have g4:=HSN.out.res.frozen 4
      have hRZ:=HSN.out.res.size
      have HR5:=Lib.hid (((((HSN.out.res.set 0 (.slice qC LC kC)).set 1 (.slice qU LU kU)).set 2 (.slice qS LS kS)).set 3 (.int .i32 EZ)).set 4 (.slice qJ 0 kJ))
      have hdn:=HSN.out.done (.slice qC LC kC) (.slice qU LU kU) (.slice qS LS kS) (.int .i32 EZ) (.slice qJ 0 kJ)
      unfold bkV at hdn
      rw [hEZ] at hdn q3
      have HDN:=Lib.hid hdn
      clear hdn
      go_wp2_with fail
      have z0:=HR5.out.cell (j:=0) rfl
      have z1:=HR5.out.cell (j:=1) rfl
      have z2:=HR5.out.cell (j:=2) rfl
      have z3:=HR5.out.cell (j:=3) rfl
      have z4:=HR5.out.cell (j:=4) rfl
      refine bodyPost_ret (v:=.agg #[.slice qC LC kC,.slice qU LU kU,.slice qS LS kS,.int .i32 EZ,.slice qJ 0 kJ]) (by simp [results,Tryz.results18,go_sem,z0,z1,z2,z3,z4]) rfl ?_
      exact ⟨_,rfl,HDN.out.1,HDN.out.2⟩
     ·have hk1:0<k:=Nat.pos_of_ne_zero hk0
      have hjr:=HSP.out.j.row
      rw [HPLn.out] at hjr
      obtain ⟨gJ,rfl⟩:∃ g,qJ=some ⟨g,0,none⟩:=by
       rcases hjr.2 with ⟨h',h0⟩ | ⟨g',cap',cur,h',_⟩
       ·omega
       ·injection h' with e1;exact ⟨g',e1⟩
      obtain ⟨p0,hp0⟩:∃ p,at_ % k=p:=⟨_,rfl⟩
      obtain ⟨m1,m2⟩:=mod_int hp0
      have hpl:p0<k:=hp0 ▸ Nat.mod_lt _ hk1
      obtain ⟨p,hp⟩:∃ p,pre[p0]?=some p:=⟨_,List.getElem?_eq_getElem (by rw [HPLn.out];exact hpl)⟩
      have w1:IntKind.i64.wrap (p0:Int)=(p0:Int):=by rw [IntKind.wrap_i64];omega
      obtain ⟨y0,y1⟩:=row_cell hjr hp hpl
      have hll:=HSP.out.j.lines p (List.mem_of_getElem? hp)
      have hpn:=HNP.out p (List.mem_of_getElem? hp)
      have hpj:=HSP.out.jl.2 p (List.mem_of_getElem? hp)
      have hl0:0<p.2.2.length:=List.length_pos_iff.2 hpn
      obtain ⟨LL,hLL⟩:∃ n,p.2.2.length=n:=⟨_,rfl⟩
      rw [hLL] at hll hl0 hpj
      obtain ⟨gL,cL,hvL⟩:∃ g c,p.2.1 = .slice (some ⟨g,0,none⟩) LL c:=by
       rcases hll.2 with ⟨h',h0⟩ | ⟨g',cap',cur,h',_⟩
       ·omega
       ·exact ⟨g',cap',h'⟩
      rw [hvL] at hll y1
      obtain ⟨i0,hi0⟩:∃ i,at_ / 3 % LL=i:=⟨_,rfl⟩
      obtain ⟨m3,m4⟩:=mod_int hi0
      have hil:i0<LL:=hi0 ▸ Nat.mod_lt _ hl0
      obtain ⟨a3,ha3⟩:∃ a,at_ / 3=a:=⟨_,rfl⟩
      rw [ha3] at m3 m4
      have d1:(at_:Int).tdiv 3=(a3:Int):=by rw [Int.tdiv_eq_ediv_of_nonneg (by omega)];omega
      have d2:(at_:Int) / 3=(a3:Int):=by omega
      have w3:IntKind.i64.wrap (a3:Int)=(a3:Int):=by rw [IntKind.wrap_i64];omega
      have w4:IntKind.i64.wrap (i0:Int)=(i0:Int):=by rw [IntKind.wrap_i64];omega
      have e0:¬ k=0:=hk0
      have e1:((k:Int) == 0)=false:=by simp;omega
      have e2:¬ LL=0:=by omega
      have e3:((LL:Int) == 0)=false:=by simp;omega
      obtain ⟨l,hl9⟩:∃ l,p.2.2[i0]?=some l:=⟨_,List.getElem?_eq_getElem (by rw [hLL];exact hil)⟩
      have z0:wr.cell? ⟨gL,i0 * 4,none⟩=some (.int .u32 (l.acc:Int)):=by
       rw [hll.cellAt _ (by omega)]
       have:=flat_get lc_len (j:=0) (u:=.int .u32 (l.acc:Int)) hl9 rfl
       simpa using this
      have z1:wr.cell? ⟨gL,i0 * 4+1,none⟩=some (.int .u16 (l.ent.n:Int)):=by
       rw [hll.cellAt _ (by omega)]
       exact flat_get lc_len (j:=1) hl9 rfl
      have z2:wr.cell? ⟨gL,i0 * 4+2,none⟩=some (.int .u16 (l.ctr:Int)):=by
       rw [hll.cellAt _ (by omega)]
       exact flat_get lc_len (j:=2) hl9 rfl
      have z3:wr.cell? ⟨gL,i0 * 4+3,none⟩=some (.int .i64 l.amt):=by
       rw [hll.cellAt _ (by omega)]
       exact flat_get lc_len (j:=3) hl9 rfl
      have fJ:=hjr.frozenAt (p0 * 2)
      have fL:=fun j=>hll.frozenAt j
      have fL0:=fL (i0 * 4)
      have fL1:=fL (i0 * 4+1)
      have fL2:=fL (i0 * 4+2)
      have fL3:=fL (i0 * 4+3)
      have hgJ:=(hjr.lt gJ rfl).2
      have hgL:=(hll.lt gL rfl).2
      have HLLr:=Lib.hid hll
      have HPq:=Lib.hid hp
      have HPJ:=Lib.hid hpj
      obtain ⟨dd,hdd⟩:∃ d,p.1=d:=⟨_,rfl⟩
      rw [hdd] at y0
      obtain ⟨lA,hlA⟩:∃ z:Int,(l.acc:Int)=z:=⟨_,rfl⟩
      obtain ⟨lM,hlM⟩:∃ z:Int,l.amt=z:=⟨_,rfl⟩
      rw [hlA] at z0
      rw [hlM] at z3
      clear hjr hp0 hp hll hpn hpj hLL hvL hi0 ha3 fL hl9 hdd hlA hlM
      go_upto_region 11 with fail
      go_quiet (fail)
      generalize nq=nA at *
      go_upto_region 12 with fail
      go_quiet (fail)
      go_upto_region 13 with fail
      obtain ⟨c7,hc7⟩:∃ z,IntKind.u64.wrap by_=z:=⟨_,rfl⟩
      have hc8:0≤c7∧c7<18446744073709551616:=by rw [← hc7,IntKind.wrap_u64];omega
      obtain ⟨r7,hr7⟩:∃ z,c7.tmod 12=z:=⟨_,rfl⟩
      have hr8:r7=c7 % 12:=by rw [← hr7,Int.tmod_eq_emod_of_nonneg hc8.1]
      have hr9:c7 % 12=r7:=hr8.symm
      have v2:IntKind.u64.wrap r7=r7:=by rw [IntKind.wrap_u64];omega
      have v3:IntKind.u64.wrap (1+r7)=1+r7:=by rw [IntKind.wrap_u64];omega
      obtain ⟨z7,hz7,hz8⟩:=u16_of (1+r7)
      clear hr8
      obtain ⟨pre',hpl',hsn⟩:=(HSP.out.drewN (nA+nq)).line (ls:=p.2.2.flatMap lc) (t:=fun x=>{ x with ent:=⟨z7,hz8⟩ }) HLLr.out i0 (jf:=1) (u:=.int .u16 (z7:Int)) (by omega) (fun x=>rfl)
      have HSN:=Lib.hid hsn
      clear hsn hpl'
      go_upto_region 31 with fail
      clear HSP HLLr HPq HPJ x4 y0 y1 z0 z1 z2 z3 fJ fL0 fL1 fL2 fL3 hgJ hgL
      generalize (wr.drewN (nA+nq)).setCell ⟨gL,i0 * 4+1,none⟩ (.int .u16 (z7:Int))=V9 at *
      obtain ⟨EZ,hEZ⟩:∃ z,(f).E=z:=⟨_,rfl⟩
      have q0:=HSN.out.box.cell (j:=0) rfl
      have q1:=HSN.out.box.cell (j:=1) rfl
      have q2:=HSN.out.box.cell (j:=2) rfl
      have q3:=HSN.out.box.cell (j:=3) rfl
      have q4:=HSN.out.box.cell (j:=4) rfl
      have c0:=HSN.out.res.cell (j:=0) rfl
      have c1:=HSN.out.res.cell (j:=1) rfl
      have c2:=HSN.out.res.cell (j:=2) rfl
      have c3:=HSN.out.res.cell (j:=3) rfl
      have c4:=HSN.out.res.cell (j:=4) rfl
      have g0:=HSN.out.res.frozen 0
      have g1:=HSN.out.res.frozen 1
      have g2:=HSN.out.res.frozen 2
      have g3:=HSN.out.res.frozen 3
      have g4:=HSN.out.res.frozen 4
      have hRZ:=HSN.out.res.size
      have HR5:=Lib.hid (((((HSN.out.res.set 0 (.slice qC LC kC)).set 1 (.slice qU LU kU)).set 2 (.slice qS LS kS)).set 3 (.int .i32 EZ)).set 4 (.slice (some ⟨gJ,0,none⟩) k kJ))
      have hdn:=HSN.out.done (.slice qC LC kC) (.slice qU LU kU) (.slice qS LS kS) (.int .i32 EZ) (.slice (some ⟨gJ,0,none⟩) k kJ)
      unfold bkV at hdn
      rw [hEZ] at hdn q3
      have HDN:=Lib.hid hdn
      clear hdn
      go_wp2_with fail
      have z0:=HR5.out.cell (j:=0) rfl
      have z1:=HR5.out.cell (j:=1) rfl
      have z2:=HR5.out.cell (j:=2) rfl
      have z3:=HR5.out.cell (j:=3) rfl
      have z4:=HR5.out.cell (j:=4) rfl
      refine bodyPost_ret (v:=.agg #[.slice qC LC kC,.slice qU LU kU,.slice qS LS kS,.int .i32 EZ,.slice (some ⟨gJ,0,none⟩) k kJ]) (by simp [results,Tryz.results18,go_sem,z0,z1,z2,z3,z4]) rfl ?_
      exact ⟨_,rfl,HDN.out.1,HDN.out.2⟩
    ·-- an account
     have x4:=HSP.out.box.cell (j:=4) rfl
     by_cases hk0:k=0
     ·subst hk0
      have HSN:=HSP
      go_upto_region 31 with fail
      clear HSP x4
      generalize wr=V9 at *
      obtain ⟨EZ,hEZ⟩:∃ z,(f).E=z:=⟨_,rfl⟩
      have q0:=HSN.out.box.cell (j:=0) rfl
      have q1:=HSN.out.box.cell (j:=1) rfl
      have q2:=HSN.out.box.cell (j:=2) rfl
      have q3:=HSN.out.box.cell (j:=3) rfl
      have q4:=HSN.out.box.cell (j:=4) rfl
      have c0:=HSN.out.res.cell (j:=0) rfl
      have c1:=HSN.out.res.cell (j:=1) rfl
      have c2:=HSN.out.res.cell (j:=2) rfl
      have c3:=HSN.out.res.cell (j:=3) rfl
      have c4:=HSN.out.res.cell (j:=4) rfl
      have g0:=HSN.out.res.frozen 0
      have g1:=HSN.out.res.frozen 1
      have g2:=HSN.out.res.frozen 2
      have g3:=HSN.out.res.frozen 3
      have g4:=HSN.out.res.frozen 4
      have hRZ:=HSN.out.res.size
      have HR5:=Lib.hid (((((HSN.out.res.set 0 (.slice qC LC kC)).set 1 (.slice qU LU kU)).set 2 (.slice qS LS kS)).set 3 (.int .i32 EZ)).set 4 (.slice qJ 0 kJ))
      have hdn:=HSN.out.done (.slice qC LC kC) (.slice qU LU kU) (.slice qS LS kS) (.int .i32 EZ) (.slice qJ 0 kJ)
      unfold bkV at hdn
      rw [hEZ] at hdn q3
      have HDN:=Lib.hid hdn
      clear hdn
      go_wp2_with fail
      have z0:=HR5.out.cell (j:=0) rfl
      have z1:=HR5.out.cell (j:=1) rfl
      have z2:=HR5.out.cell (j:=2) rfl
      have z3:=HR5.out.cell (j:=3) rfl
      have z4:=HR5.out.cell (j:=4) rfl
      refine bodyPost_ret (v:=.agg #[.slice qC LC kC,.slice qU LU kU,.slice qS LS kS,.int .i32 EZ,.slice qJ 0 kJ]) (by simp [results,Tryz.results18,go_sem,z0,z1,z2,z3,z4]) rfl ?_
      exact ⟨_,rfl,HDN.out.1,HDN.out.2⟩
     ·have hk1:0<k:=Nat.pos_of_ne_zero hk0
      have hjr:=HSP.out.j.row
      rw [HPLn.out] at hjr
      obtain ⟨gJ,rfl⟩:∃ g,qJ=some ⟨g,0,none⟩:=by
       rcases hjr.2 with ⟨h',h0⟩ | ⟨g',cap',cur,h',_⟩
       ·omega
       ·injection h' with e1;exact ⟨g',e1⟩
      obtain ⟨p0,hp0⟩:∃ p,at_ % k=p:=⟨_,rfl⟩
      obtain ⟨m1,m2⟩:=mod_int hp0
      have hpl:p0<k:=hp0 ▸ Nat.mod_lt _ hk1
      obtain ⟨p,hp⟩:∃ p,pre[p0]?=some p:=⟨_,List.getElem?_eq_getElem (by rw [HPLn.out];exact hpl)⟩
      have w1:IntKind.i64.wrap (p0:Int)=(p0:Int):=by rw [IntKind.wrap_i64];omega
      obtain ⟨y0,y1⟩:=row_cell hjr hp hpl
      have hll:=HSP.out.j.lines p (List.mem_of_getElem? hp)
      have hpn:=HNP.out p (List.mem_of_getElem? hp)
      have hpj:=HSP.out.jl.2 p (List.mem_of_getElem? hp)
      have hl0:0<p.2.2.length:=List.length_pos_iff.2 hpn
      obtain ⟨LL,hLL⟩:∃ n,p.2.2.length=n:=⟨_,rfl⟩
      rw [hLL] at hll hl0 hpj
      obtain ⟨gL,cL,hvL⟩:∃ g c,p.2.1 = .slice (some ⟨g,0,none⟩) LL c:=by
       rcases hll.2 with ⟨h',h0⟩ | ⟨g',cap',cur,h',_⟩
       ·omega
       ·exact ⟨g',cap',h'⟩
      rw [hvL] at hll y1
      obtain ⟨i0,hi0⟩:∃ i,at_ / 3 % LL=i:=⟨_,rfl⟩
      obtain ⟨m3,m4⟩:=mod_int hi0
      have hil:i0<LL:=hi0 ▸ Nat.mod_lt _ hl0
      obtain ⟨a3,ha3⟩:∃ a,at_ / 3=a:=⟨_,rfl⟩
      rw [ha3] at m3 m4
      have d1:(at_:Int).tdiv 3=(a3:Int):=by rw [Int.tdiv_eq_ediv_of_nonneg (by omega)];omega
      have d2:(at_:Int) / 3=(a3:Int):=by omega
      have w3:IntKind.i64.wrap (a3:Int)=(a3:Int):=by rw [IntKind.wrap_i64];omega
      have w4:IntKind.i64.wrap (i0:Int)=(i0:Int):=by rw [IntKind.wrap_i64];omega
      have e0:¬ k=0:=hk0
      have e1:((k:Int) == 0)=false:=by simp;omega
      have e2:¬ LL=0:=by omega
      have e3:((LL:Int) == 0)=false:=by simp;omega
      obtain ⟨l,hl9⟩:∃ l,p.2.2[i0]?=some l:=⟨_,List.getElem?_eq_getElem (by rw [hLL];exact hil)⟩
      have z0:wr.cell? ⟨gL,i0 * 4,none⟩=some (.int .u32 (l.acc:Int)):=by
       rw [hll.cellAt _ (by omega)]
       have:=flat_get lc_len (j:=0) (u:=.int .u32 (l.acc:Int)) hl9 rfl
       simpa using this
      have z1:wr.cell? ⟨gL,i0 * 4+1,none⟩=some (.int .u16 (l.ent.n:Int)):=by
       rw [hll.cellAt _ (by omega)]
       exact flat_get lc_len (j:=1) hl9 rfl
      have z2:wr.cell? ⟨gL,i0 * 4+2,none⟩=some (.int .u16 (l.ctr:Int)):=by
       rw [hll.cellAt _ (by omega)]
       exact flat_get lc_len (j:=2) hl9 rfl
      have z3:wr.cell? ⟨gL,i0 * 4+3,none⟩=some (.int .i64 l.amt):=by
       rw [hll.cellAt _ (by omega)]
       exact flat_get lc_len (j:=3) hl9 rfl
      have fJ:=hjr.frozenAt (p0 * 2)
      have fL:=fun j=>hll.frozenAt j
      have fL0:=fL (i0 * 4)
      have fL1:=fL (i0 * 4+1)
      have fL2:=fL (i0 * 4+2)
      have fL3:=fL (i0 * 4+3)
      have hgJ:=(hjr.lt gJ rfl).2
      have hgL:=(hll.lt gL rfl).2
      have HLLr:=Lib.hid hll
      have HPq:=Lib.hid hp
      have HPJ:=Lib.hid hpj
      obtain ⟨dd,hdd⟩:∃ d,p.1=d:=⟨_,rfl⟩
      rw [hdd] at y0
      obtain ⟨lA,hlA⟩:∃ z:Int,(l.acc:Int)=z:=⟨_,rfl⟩
      obtain ⟨lM,hlM⟩:∃ z:Int,l.amt=z:=⟨_,rfl⟩
      rw [hlA] at z0
      rw [hlM] at z3
      clear hjr hp0 hp hll hpn hpj hLL hvL hi0 ha3 fL hl9 hdd hlA hlM
      go_upto_region 11 with fail
      go_quiet (fail)
      generalize nq=nA at *
      go_upto_region 12 with fail
      go_quiet (fail)
      go_upto_region 13 with fail
      obtain ⟨b7,hb7⟩:∃ z,by_.tmod 5=z:=⟨_,rfl⟩
      have v2:IntKind.i64.wrap b7=b7:=by
       have hb8:=Int.tmod_lt_of_pos by_ (b:=5) (by omega)
       have hb9:=Int.lt_tmod_of_pos by_ (b:=5) (by omega)
       rw [IntKind.wrap_i64];omega
      obtain ⟨c7,hc7⟩:∃ z,IntKind.u32.wrap b7=z:=⟨_,rfl⟩
      obtain ⟨z7,hz7,hz8⟩:=u32_of (lA+c7)
      obtain ⟨pre',hpl',hsn⟩:=(HSP.out.drewN (nA+nq)).line (ls:=p.2.2.flatMap lc) (t:=fun x=>{ x with acc:=z7,ha:=hz8 }) HLLr.out i0 (jf:=0) (u:=.int .u32 (z7:Int)) (by omega) (fun x=>rfl)
      have HSN:=Lib.hid hsn
      clear hsn hpl'
      go_upto_region 31 with fail
      clear HSP HLLr HPq HPJ x4 y0 y1 z0 z1 z2 z3 fJ fL0 fL1 fL2 fL3 hgJ hgL
      generalize (wr.drewN (nA+nq)).setCell ⟨gL,i0 * 4,none⟩ (.int .u32 (z7:Int))=V9 at *
      obtain ⟨EZ,hEZ⟩:∃ z,(f).E=z:=⟨_,rfl⟩
      have q0:=HSN.out.box.cell (j:=0) rfl
      have q1:=HSN.out.box.cell (j:=1) rfl
      have q2:=HSN.out.box.cell (j:=2) rfl
      have q3:=HSN.out.box.cell (j:=3) rfl
      have q4:=HSN.out.box.cell (j:=4) rfl
      have c0:=HSN.out.res.cell (j:=0) rfl
      have c1:=HSN.out.res.cell (j:=1) rfl
      have c2:=HSN.out.res.cell (j:=2) rfl
      have c3:=HSN.out.res.cell (j:=3) rfl
      have c4:=HSN.out.res.cell (j:=4) rfl
      have g0:=HSN.out.res.frozen 0
      have g1:=HSN.out.res.frozen 1
      have g2:=HSN.out.res.frozen 2
      have g3:=HSN.out.res.frozen 3
      have g4:=HSN.out.res.frozen 4
      have hRZ:=HSN.out.res.size
      have HR5:=Lib.hid (((((HSN.out.res.set 0 (.slice qC LC kC)).set 1 (.slice qU LU kU)).set 2 (.slice qS LS kS)).set 3 (.int .i32 EZ)).set 4 (.slice (some ⟨gJ,0,none⟩) k kJ))
      have hdn:=HSN.out.done (.slice qC LC kC) (.slice qU LU kU) (.slice qS LS kS) (.int .i32 EZ) (.slice (some ⟨gJ,0,none⟩) k kJ)
      unfold bkV at hdn
      rw [hEZ] at hdn q3
      have HDN:=Lib.hid hdn
      clear hdn
      go_wp2_with fail
      have z0:=HR5.out.cell (j:=0) rfl
      have z1:=HR5.out.cell (j:=1) rfl
      have z2:=HR5.out.cell (j:=2) rfl
      have z3:=HR5.out.cell (j:=3) rfl
      have z4:=HR5.out.cell (j:=4) rfl
      refine bodyPost_ret (v:=.agg #[.slice qC LC kC,.slice qU LU kU,.slice qS LS kS,.int .i32 EZ,.slice (some ⟨gJ,0,none⟩) k kJ]) (by simp [results,Tryz.results18,go_sem,z0,z1,z2,z3,z4]) rfl ?_
      exact ⟨_,rfl,HDN.out.1,HDN.out.2⟩
end Go.Proofs.YtmpefjnfelfnfaaGreatDoor

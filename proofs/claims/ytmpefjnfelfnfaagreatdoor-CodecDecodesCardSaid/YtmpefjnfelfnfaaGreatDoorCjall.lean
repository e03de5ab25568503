/- Law 11's Decode on its way: what lies in memory. -/
import Derived.Test.YtmpefjnfelfnfaaGreatDoorCebc
import Derived.Test.YtmpefjnfelfnfaaGreatDoorCgall
import Derived.Test.YtmpefjnfelfnfaaGreatDoorTall
import Derived.Test.YtmpefjnfelfnfaaGreatDoorXio
set_option maxRecDepth 100000
set_option maxHeartbeats 8000000
namespace Go.Proofs.YtmpefjnfelfnfaaGreatDoor
open Go.RowKit
set_option linter.unusedVariables false
set_option linter.unusedSimpArgs false
theorem BlkB.lt {n:Nat} {v:Value} (h:BlkB n v):∃ (b o m c:Nat),v = .slice (some ⟨b,o,none⟩) m c∧b<n:=h
theorem RM.keep {n g:Nat} {w w':World} {r:Rd} {row:Option Nat} (h:RM n w g r) (hg:w.grownBy w' row) (h1:some g≠row) (h2:∀ k,row=some k→n≤k) (hn:n≤w.heap.size):RM n w' g r:=by
 obtain ⟨hb,vb,hB,hR,b,o,m,c,rfl,hlt⟩:=h
 refine ⟨hb,_,(hg.block g hB.size h1).trans hB,?_,b,o,m,c,rfl,hlt⟩
 rcases hR with ⟨r',cap',e1,e2⟩ | ⟨g',off,cap',e1,e2,e3,e4,e5⟩
 ·exact .inl ⟨r',cap',e1,e2⟩
 ·cases e1
  exact .inr ⟨b,o,c,rfl,Nat.lt_of_lt_of_le e2 hg.size,e3,e4,fun i x hx j u hu=>hg.cell (e5 i x hx j u hu) (fun e=>by have:=h2 _ e.symm;simp only at this;omega)⟩
theorem grown_of_below {w w':World} (hb:Below w.heap.size w w'):w.grownBy w' none:=⟨hb.os,hb.tape,hb.output,hb.size,fun k hk _=>hb.block k hk⟩
def z5:List Value:=[.slice none 0 0,.slice none 0 0,.slice none 0 0,.int .i32 0,.slice none 0 0]
structure Free (Z:Nat) (vC vU vS vJ:Value) (vs:List Jm):Prop where
 c:vC.ownBlock≠some Z
 u:vU.ownBlock≠some Z
 s:vS.ownBlock≠some Z
 j:vJ.ownBlock≠some Z
 l:∀ p ∈ vs,p.2.1.ownBlock≠some Z
structure LD (w0:World) (n:Nat) (w:World) (r:Rd) (vC vU vS:Value) (E:Int) (vJ:Value) (C:List Ac) (U:List Nat) (S:List Int) (vs:List Jm):Prop where
 res:HBox w n z5 41
 rd:RM n w (n+1) r
 out:HBox w (n+2) [vC,vU,vS,.int .i32 E,vJ] 41
 c:w.ownsRow (n+3) 76 4 vC C.length (C.flatMap cc)
 u:w.ownsRow (n+3) 52 1 vU U.length (U.flatMap uc)
 s:w.ownsRow (n+3) 34 1 vS S.length (S.flatMap dcl)
 j:JOwn (n+3) w vJ vs
 bel:Below n w0 w
 sz:n+3≤w.heap.size
section
variable {w0 w w':World} {n:Nat} {r r':Rd} {vC vU vS:Value} {E:Int} {vJ:Value} {C:List Ac} {U:List Nat} {S:List Int} {vs:List Jm}
theorem JOwn.kept {base:Nat} {row:Option Nat} (h:JOwn base w vJ vs) (hg:w.grownBy w' row) (h1:vJ.ownBlock=none∨vJ.ownBlock≠row) (h2:∀ p ∈ vs,p.2.1.ownBlock=none∨p.2.1.ownBlock≠row):JOwn base w' vJ vs :=
 ⟨h.row.kept hg h1,fun p hp=>(h.lines p hp).kept hg (h2 p hp)⟩
theorem LD.far {Z:Nat} (h:LD w0 n w r vC vU vS E vJ C U S vs) (hg:w.grownBy w' (some Z)) (hZ:n+3≤Z) (hF:Free Z vC vU vS vJ vs):LD w0 n w' r vC vU vS E vJ C U S vs :=
 ⟨h.res.grown hg (fun e=>by have:=Option.some.inj e;omega),h.rd.keep hg (fun e=>by have:=Option.some.inj e;omega) (fun k e=>by have:=Option.some.inj e;omega) (by have:=h.sz;omega),h.out.grown hg (fun e=>by have:=Option.some.inj e;omega),h.c.kept hg (.inr hF.c),h.u.kept hg (.inr hF.u),h.s.kept hg (.inr hF.s),h.j.kept hg (.inr hF.j) (fun p hp=>.inr (hF.l p hp)),h.bel.grown hg (by have:=h.sz;omega) (fun k e=>by have:=Option.some.inj e;omega),Nat.le_trans h.sz hg.size⟩
theorem LD.stay (h:LD w0 n w r vC vU vS E vJ C U S vs) (hb:Below w.heap.size w w'):LD w0 n w' r vC vU vS E vJ C U S vs :=
 ⟨h.res.stay hb,h.rd.keep (grown_of_below hb) (by simp) (fun k e=>by cases e) (by have:=h.sz;omega),h.out.stay hb,own_below h.c hb,own_below h.u hb,own_below h.s hb,h.j.below hb,h.bel.trans (hb.mono (by have:=h.sz;omega)),Nat.le_trans h.sz hb.size⟩
theorem LD.alloc (h:LD w0 n w r vC vU vS E vJ C U S vs) (o:Obj):LD w0 n (w.alloc o) r vC vU vS E vJ C U S vs:=h.stay ((Below.refl _ _).alloc (Nat.le_refl _) o)
theorem LD.drew (h:LD w0 n w r vC vU vS E vJ C U S vs):LD w0 n w.drew r vC vU vS E vJ C U S vs:=h.stay (Below.refl _ _).drew
theorem LD.call (h:LD w0 n w r vC vU vS E vJ C U S vs) (hr:RM n w' (n+1) r') (hg:w.grownBy w' (some (n+1))):LD w0 n w' r' vC vU vS E vJ C U S vs :=
 ⟨h.res.grown hg (fun e=>by have:=Option.some.inj e;omega),hr,h.out.grown hg (fun e=>by have:=Option.some.inj e;omega),own_farP h.c hg (by omega),own_farP h.u hg (by omega),own_farP h.s hg (by omega),h.j.far hg (by omega),h.bel.grown hg (by have:=h.sz;omega) (fun k e=>by have:=Option.some.inj e;omega),Nat.le_trans h.sz hg.size⟩
theorem own_lt {base m:Nat} {e:TypeId} {size k:Nat} {v:Value} {xs:List Value} (h:w.ownsRow base e size v k xs) (hm:m<base∨w.heap.size≤m):v.ownBlock≠some m:=by
 obtain ⟨q,c,rfl⟩:=owns_form h
 exact owns_far h hm
theorem LD.free (h:LD w0 n w r vC vU vS E vJ C U S vs):Free w.heap.size vC vU vS vJ vs :=
 ⟨own_lt h.c (.inr (Nat.le_refl _)),own_lt h.u (.inr (Nat.le_refl _)),own_lt h.s (.inr (Nat.le_refl _)),own_lt h.j.row (.inr (Nat.le_refl _)),fun p hp=>own_lt (h.j.lines p hp) (.inr (Nat.le_refl _))⟩
theorem LD.outs (h:LD w0 n w r vC vU vS E vJ C U S vs) {vC' vU' vS' vJ':Value} {E':Int} {C':List Ac} {U':List Nat} {S':List Int} {vs':List Jm} {j:Nat} {u:Value}
 (hc:w.ownsRow (n+3) 76 4 vC' C'.length (C'.flatMap cc)) (hu:w.ownsRow (n+3) 52 1 vU' U'.length (U'.flatMap uc)) (hs:w.ownsRow (n+3) 34 1 vS' S'.length (S'.flatMap dcl)) (hj:JOwn (n+3) w vJ' vs')
 (e:[vC,vU,vS,.int .i32 E,vJ].set j u=[vC',vU',vS',.int .i32 E',vJ']):LD w0 n (w.setCell ⟨n+2,j,none⟩ u) r vC' vU' vS' E' vJ' C' U' S' vs':=by
 have hg:=set_grown w ⟨n+2,j,none⟩ u
 exact ⟨h.res.grown hg (fun e=>by have:=Option.some.inj e;simp only at this;omega),h.rd.keep hg (fun e=>by have:=Option.some.inj e;simp only at this;omega) (fun k e=>by have:=Option.some.inj e;simp only at this;omega) (by have:=h.sz;omega),e ▸ h.out.set j u,own_farP hc hg (by simp only;omega),own_farP hu hg (by simp only;omega),own_farP hs hg (by simp only;omega),hj.far hg (by simp only;omega),h.bel.grown hg (by have:=h.sz;omega) (fun k e=>by have:=Option.some.inj e;simp only at this;omega),Nat.le_trans h.sz hg.size⟩
theorem LD.row {T:TypeId} {size k:Nat} {v:Value} {xs:List Value} (h:LD w0 n w r vC vU vS E vJ C U S vs) (ho:w.ownsRow (n+3) T size v k xs) (hg:w.grownBy w' v.ownBlock):HBox w' n z5 41∧RM n w' (n+1) r∧HBox w' (n+2) [vC,vU,vS,.int .i32 E,vJ] 41∧Below n w0 w'∧n+3≤w'.heap.size:=by
 have hb:∀ m,m<n+3→some m≠v.ownBlock:=fun m hm e=>own_lt ho (.inl hm) e.symm
 exact ⟨h.res.grown hg (hb _ (by omega)),h.rd.keep hg (hb _ (by omega)) (fun k e=>by have:=ho.lt k e;omega) (by have:=h.sz;omega),h.out.grown hg (hb _ (by omega)),h.bel.grown hg (by have:=h.sz;omega) (fun k e=>by have:=ho.lt k e;omega),Nat.le_trans h.sz hg.size⟩
theorem LD.pushC {v:Value} {a:Ac} (h:LD w0 n w r vC vU vS E vJ C U S vs) (hg:w.grownBy w' vC.ownBlock) (ho:w'.ownsRow (n+3) 76 4 v (C.length+1) (C.flatMap cc ++ cc a)):LD w0 n (w'.setCell ⟨n+2,0,none⟩ v) r v vU vS E vJ (C ++ [a]) U S vs:=by
 obtain ⟨h1,h2,h3,h4,h5⟩:=h.row h.c hg
 have ho2:w'.ownsRow (n+3) 76 4 v (C ++ [a]).length ((C ++ [a]).flatMap cc):=by rw [List.length_append,flat_snoc];exact ho
 have hU:=h.u.kept hg (owns_apart h.u h.c (by decide))
 have hS:=h.s.kept hg (owns_apart h.s h.c (by decide))
 have hJ:=h.j.kept hg (owns_apart h.j.row h.c (by decide)) (fun p hp=>owns_apart (h.j.lines p hp) h.c (by decide))
 have hg2:=set_grown w' ⟨n+2,0,none⟩ v
 exact ⟨h1.grown hg2 (fun e=>by have:=Option.some.inj e;simp only at this;omega),h2.keep hg2 (fun e=>by have:=Option.some.inj e;simp only at this;omega) (fun k e=>by have:=Option.some.inj e;simp only at this;omega) (by omega),h3.set 0 v,own_farP ho2 hg2 (by simp only;omega),own_farP hU hg2 (by simp only;omega),own_farP hS hg2 (by simp only;omega),hJ.far hg2 (by simp only;omega),h4.grown hg2 (by omega) (fun k e=>by have:=Option.some.inj e;simp only at this;omega),Nat.le_trans h5 hg2.size⟩
theorem LD.pushU {v:Value} {a:Nat} (h:LD w0 n w r vC vU vS E vJ C U S vs) (hg:w.grownBy w' vU.ownBlock) (ho:w'.ownsRow (n+3) 52 1 v (U.length+1) (U.flatMap uc ++ uc a)):LD w0 n (w'.setCell ⟨n+2,1,none⟩ v) r vC v vS E vJ C (U ++ [a]) S vs:=by
 obtain ⟨h1,h2,h3,h4,h5⟩:=h.row h.u hg
 have ho2:w'.ownsRow (n+3) 52 1 v (U ++ [a]).length ((U ++ [a]).flatMap uc):=by rw [List.length_append,flat_snoc];exact ho
 have hC:=h.c.kept hg (owns_apart h.c h.u (by decide))
 have hS:=h.s.kept hg (owns_apart h.s h.u (by decide))
 have hJ:=h.j.kept hg (owns_apart h.j.row h.u (by decide)) (fun p hp=>owns_apart (h.j.lines p hp) h.u (by decide))
 have hg2:=set_grown w' ⟨n+2,1,none⟩ v
 exact ⟨h1.grown hg2 (fun e=>by have:=Option.some.inj e;simp only at this;omega),h2.keep hg2 (fun e=>by have:=Option.some.inj e;simp only at this;omega) (fun k e=>by have:=Option.some.inj e;simp only at this;omega) (by omega),h3.set 1 v,own_farP hC hg2 (by simp only;omega),own_farP ho2 hg2 (by simp only;omega),own_farP hS hg2 (by simp only;omega),hJ.far hg2 (by simp only;omega),h4.grown hg2 (by omega) (fun k e=>by have:=Option.some.inj e;simp only at this;omega),Nat.le_trans h5 hg2.size⟩
theorem LD.pushS {v:Value} {a:Int} (h:LD w0 n w r vC vU vS E vJ C U S vs) (hg:w.grownBy w' vS.ownBlock) (ho:w'.ownsRow (n+3) 34 1 v (S.length+1) (S.flatMap dcl ++ dcl a)):LD w0 n (w'.setCell ⟨n+2,2,none⟩ v) r vC vU v E vJ C U (S ++ [a]) vs:=by
 obtain ⟨h1,h2,h3,h4,h5⟩:=h.row h.s hg
 have ho2:w'.ownsRow (n+3) 34 1 v (S ++ [a]).length ((S ++ [a]).flatMap dcl):=by rw [List.length_append,flat_snoc];exact ho
 have hC:=h.c.kept hg (owns_apart h.c h.s (by decide))
 have hU:=h.u.kept hg (owns_apart h.u h.s (by decide))
 have hJ:=h.j.kept hg (owns_apart h.j.row h.s (by decide)) (fun p hp=>owns_apart (h.j.lines p hp) h.s (by decide))
 have hg2:=set_grown w' ⟨n+2,2,none⟩ v
 exact ⟨h1.grown hg2 (fun e=>by have:=Option.some.inj e;simp only at this;omega),h2.keep hg2 (fun e=>by have:=Option.some.inj e;simp only at this;omega) (fun k e=>by have:=Option.some.inj e;simp only at this;omega) (by omega),h3.set 2 v,own_farP hC hg2 (by simp only;omega),own_farP hU hg2 (by simp only;omega),own_farP ho2 hg2 (by simp only;omega),hJ.far hg2 (by simp only;omega),h4.grown hg2 (by omega) (fun k e=>by have:=Option.some.inj e;simp only at this;omega),Nat.le_trans h5 hg2.size⟩
theorem LD.setE (h:LD w0 n w r vC vU vS E vJ C U S vs) (d:Int):LD w0 n (w.setCell ⟨n+2,3,none⟩ (.int .i32 d)) r vC vU vS d vJ C U S vs :=
 h.outs h.c h.u h.s h.j rfl
structure LJ (w0:World) (n:Nat) (w:World) (r:Rd) (vC vU vS:Value) (E:Int) (vJ:Value) (C:List Ac) (U:List Nat) (S:List Int) (vs:List Jm) (Z:Nat) (d:Int) (vL:Value) (ls:List Ln):Prop where
 ld:LD w0 n w r vC vU vS E vJ C U S vs
 box:HBox w Z [.int .i32 d,vL] 67
 row:w.ownsRow (n+3) 89 4 vL ls.length (ls.flatMap lc)
 ap:∀ p ∈ vs,p.2.1.ownBlock=none∨p.2.1.ownBlock≠vL.ownBlock
 fr:Free Z vC vU vS vJ vs
 zl:vL.ownBlock≠some Z
 z:n+3≤Z
end
section
variable {w0 w w':World} {n:Nat} {r r':Rd} {vC vU vS:Value} {E:Int} {vJ:Value} {C:List Ac} {U:List Nat} {S:List Int} {vs:List Jm} {Z:Nat} {d:Int} {vL:Value} {ls:List Ln}
theorem LJ.stay (h:LJ w0 n w r vC vU vS E vJ C U S vs Z d vL ls) (hb:Below w.heap.size w w'):LJ w0 n w' r vC vU vS E vJ C U S vs Z d vL ls :=
 ⟨h.ld.stay hb,h.box.stay hb,own_below h.row hb,h.ap,h.fr,h.zl,h.z⟩
theorem LJ.alloc (h:LJ w0 n w r vC vU vS E vJ C U S vs Z d vL ls) (o:Obj):LJ w0 n (w.alloc o) r vC vU vS E vJ C U S vs Z d vL ls:=h.stay ((Below.refl _ _).alloc (Nat.le_refl _) o)
theorem LJ.call (h:LJ w0 n w r vC vU vS E vJ C U S vs Z d vL ls) (hr:RM n w' (n+1) r') (hg:w.grownBy w' (some (n+1))):LJ w0 n w' r' vC vU vS E vJ C U S vs Z d vL ls :=
 ⟨h.ld.call hr hg,h.box.grown hg (fun e=>by have:=Option.some.inj e;have:=h.z;omega),own_farP h.row hg (by omega),h.ap,h.fr,h.zl,h.z⟩
theorem LJ.far {Y:Nat} (h:LJ w0 n w r vC vU vS E vJ C U S vs Z d vL ls) (hg:w.grownBy w' (some Y)) (hY:n+3≤Y) (hF:Free Y vC vU vS vJ vs) (hL:vL.ownBlock≠some Y) (hZ:Z≠Y):LJ w0 n w' r vC vU vS E vJ C U S vs Z d vL ls :=
 ⟨h.ld.far hg hY hF,h.box.grown hg (fun e=>hZ (Option.some.inj e)),h.row.kept hg (.inr hL),h.ap,h.fr,h.zl,h.z⟩
theorem LJ.free (h:LJ w0 n w r vC vU vS E vJ C U S vs Z d vL ls):Free w.heap.size vC vU vS vJ vs∧vL.ownBlock≠some w.heap.size∧Z≠w.heap.size∧n+3≤w.heap.size :=
 ⟨h.ld.free,own_lt h.row (.inr (Nat.le_refl _)),by have:=h.box.size;omega,h.ld.sz⟩
theorem LJ.push {v:Value} {l:Ln} (h:LJ w0 n w r vC vU vS E vJ C U S vs Z d vL ls) (hg:w.grownBy w' vL.ownBlock) (ho:w'.ownsRow (n+3) 89 4 v (ls.length+1) (ls.flatMap lc ++ lc l)) (hap:v.ownBlock=vL.ownBlock ∨ ∀ k,v.ownBlock=some k→w.heap.size≤k):LJ w0 n (w'.setCell ⟨Z,1,none⟩ v) r vC vU vS E vJ C U S vs Z d v (ls ++ [l]):=by
 obtain ⟨h1,h2,h3,h4,h5⟩:=h.ld.row h.row hg
 have hZ:=h.z
 have ho2:w'.ownsRow (n+3) 89 4 v (ls ++ [l]).length ((ls ++ [l]).flatMap lc):=by rw [List.length_append,flat_snoc];exact ho
 have hC:=h.ld.c.kept hg (owns_apart h.ld.c h.row (by decide))
 have hU:=h.ld.u.kept hg (owns_apart h.ld.u h.row (by decide))
 have hS:=h.ld.s.kept hg (owns_apart h.ld.s h.row (by decide))
 have hJ:=h.ld.j.kept hg (owns_apart h.ld.j.row h.row (by decide)) h.ap
 have hB:HBox w' Z [.int .i32 d,vL] 67:=h.box.grown hg (fun e=>h.zl e.symm)
 have hLD:LD w0 n w' r vC vU vS E vJ C U S vs:=⟨h1,h2,h3,hC,hU,hS,hJ,h4,h5⟩
 have hg2:=set_grown w' ⟨Z,1,none⟩ v
 have hvZ:v.ownBlock≠some Z:=by
  obtain ⟨q,c,rfl⟩:=owns_form ho2
  exact owns_type_far ho2 hB (by decide)
 refine ⟨hLD.far hg2 hZ h.fr,hB.set 1 v,ho2.kept hg2 (.inr hvZ),fun p hp=>?_,h.fr,hvZ,hZ⟩
 rcases hap with e | e
 ·rw [e];exact h.ap p hp
 ·cases hk:v.ownBlock with
  | none =>
   cases hq:p.2.1.ownBlock with
   | none=>exact .inl rfl
   | some k=>exact .inr (by simp)
  | some k =>
   refine .inr (fun e2=>?_)
   have:=(h.ld.j.lines p hp).lt k e2
   have:=e k hk
   omega
theorem LJ.done {v:Value} (h:LJ w0 n w r vC vU vS E vJ C U S vs Z d vL ls) (hg:w.grownBy w' vJ.ownBlock) (ho:w'.ownsRow (n+3) 67 2 v (vs.length+1) (vs.flatMap jc ++ [.int .i32 d,vL])):LD w0 n (w'.setCell ⟨n+2,4,none⟩ v) r vC vU vS E v C U S (vs ++ [(d,vL,ls)]):=by
 obtain ⟨h1,h2,h3,h4,h5⟩:=h.ld.row h.ld.j.row hg
 have hC:=h.ld.c.kept hg (owns_apart h.ld.c h.ld.j.row (by decide))
 have hU:=h.ld.u.kept hg (owns_apart h.ld.u h.ld.j.row (by decide))
 have hS:=h.ld.s.kept hg (owns_apart h.ld.s h.ld.j.row (by decide))
 have hJ:=h.ld.j.push h.row hg ho
 have hg2:=set_grown w' ⟨n+2,4,none⟩ v
 exact ⟨h1.grown hg2 (fun e=>by have:=Option.some.inj e;simp only at this;omega),h2.keep hg2 (fun e=>by have:=Option.some.inj e;simp only at this;omega) (fun k e=>by have:=Option.some.inj e;simp only at this;omega) (by omega),h3.set 4 v,own_farP hC hg2 (by simp only;omega),own_farP hU hg2 (by simp only;omega),own_farP hS hg2 (by simp only;omega),hJ.far hg2 (by simp only;omega),h4.grown hg2 (by omega) (fun k e=>by have:=Option.some.inj e;simp only at this;omega),Nat.le_trans h5 hg2.size⟩
end
structure LB (w0:World) (n:Nat) (w:World) (r:Rd) (vC vU vS:Value) (E:Int) (vJ:Value) (C:List Ac) (U:List Nat) (S:List Int) (vs:List Jm) (Z:Nat) (cs:List Value) (T:TypeId):Prop where
 ld:LD w0 n w r vC vU vS E vJ C U S vs
 box:HBox w Z cs T
 fr:Free Z vC vU vS vJ vs
 z:n+3≤Z
section
variable {w0 w w':World} {n:Nat} {r r':Rd} {vC vU vS:Value} {E:Int} {vJ:Value} {C:List Ac} {U:List Nat} {S:List Int} {vs:List Jm} {Z:Nat} {cs:List Value} {T:TypeId}
theorem LD.box (h:LD w0 n w r vC vU vS E vJ C U S vs) (cs:List Value) (T:TypeId):LB w0 n (w.alloc (.cells cs.toArray T)) r vC vU vS E vJ C U S vs w.heap.size cs T :=
 ⟨h.alloc _,HBox.new w cs T,h.free,h.sz⟩
theorem LB.stay (h:LB w0 n w r vC vU vS E vJ C U S vs Z cs T) (hb:Below w.heap.size w w'):LB w0 n w' r vC vU vS E vJ C U S vs Z cs T:=⟨h.ld.stay hb,h.box.stay hb,h.fr,h.z⟩
theorem LB.call (h:LB w0 n w r vC vU vS E vJ C U S vs Z cs T) (hr:RM n w' (n+1) r') (hg:w.grownBy w' (some (n+1))):LB w0 n w' r' vC vU vS E vJ C U S vs Z cs T :=
 ⟨h.ld.call hr hg,h.box.grown hg (fun e=>by have:=Option.some.inj e;have:=h.z;omega),h.fr,h.z⟩
theorem LB.set (h:LB w0 n w r vC vU vS E vJ C U S vs Z cs T) (j:Nat) (u:Value):LB w0 n (w.setCell ⟨Z,j,none⟩ u) r vC vU vS E vJ C U S vs Z (cs.set j u) T :=
 ⟨h.ld.far (set_grown w ⟨Z,j,none⟩ u) h.z h.fr,h.box.set j u,h.fr,h.z⟩
theorem LB.set2 {c0 c1:Value} (h:LB w0 n w r vC vU vS E vJ C U S vs Z [c0,c1] T) (d0 d1:Value):LB w0 n ((w.setCell ⟨Z,0,none⟩ d0).setCell ⟨Z,1,none⟩ d1) r vC vU vS E vJ C U S vs Z [d0,d1] T :=
 (h.set 0 d0).set 1 d1
theorem LB.jour {d:Int} (h:LB w0 n w r vC vU vS E vJ C U S vs Z [.int .i32 d,.slice none 0 0] 67):LJ w0 n w r vC vU vS E vJ C U S vs Z d (.slice none 0 0) [] :=
 ⟨h.ld,h.box,World.ownsRow_nil _ _ _ _,fun p hp=>by
  cases hq:p.2.1.ownBlock with
  | none=>exact .inl rfl
  | some k=>exact .inr (fun e=>nomatch e),h.fr,(fun e=>nomatch e),h.z⟩
end
structure LL (w0:World) (n:Nat) (w:World) (r:Rd) (vC vU vS:Value) (E:Int) (vJ:Value) (C:List Ac) (U:List Nat) (S:List Int) (vs:List Jm) (Z:Nat) (d:Int) (vL:Value) (ls:List Ln) (Y:Nat) (cs:List Value) (T:TypeId):Prop where
 lj:LJ w0 n w r vC vU vS E vJ C U S vs Z d vL ls
 box:HBox w Y cs T
 fr:Free Y vC vU vS vJ vs
 zl:vL.ownBlock≠some Y
 zz:Z≠Y
 z:n+3≤Y
section
variable {w0 w w':World} {n:Nat} {r r':Rd} {vC vU vS:Value} {E:Int} {vJ:Value} {C:List Ac} {U:List Nat} {S:List Int} {vs:List Jm} {Z:Nat} {d:Int} {vL:Value} {ls:List Ln} {Y:Nat} {cs:List Value} {T:TypeId}
theorem LJ.boxl (h:LJ w0 n w r vC vU vS E vJ C U S vs Z d vL ls) (cs:List Value) (T:TypeId):LL w0 n (w.alloc (.cells cs.toArray T)) r vC vU vS E vJ C U S vs Z d vL ls w.heap.size cs T :=
 ⟨h.alloc _,HBox.new w cs T,h.free.1,h.free.2.1,h.free.2.2.1,h.free.2.2.2⟩
theorem LL.call (h:LL w0 n w r vC vU vS E vJ C U S vs Z d vL ls Y cs T) (hr:RM n w' (n+1) r') (hg:w.grownBy w' (some (n+1))):LL w0 n w' r' vC vU vS E vJ C U S vs Z d vL ls Y cs T :=
 ⟨h.lj.call hr hg,h.box.grown hg (fun e=>by have:=Option.some.inj e;have:=h.z;omega),h.fr,h.zl,h.zz,h.z⟩
theorem LL.set (h:LL w0 n w r vC vU vS E vJ C U S vs Z d vL ls Y cs T) (j:Nat) (u:Value):LL w0 n (w.setCell ⟨Y,j,none⟩ u) r vC vU vS E vJ C U S vs Z d vL ls Y (cs.set j u) T :=
 ⟨h.lj.far (set_grown w ⟨Y,j,none⟩ u) h.z h.fr h.zl h.zz,h.box.set j u,h.fr,h.zl,h.zz,h.z⟩
end
theorem LD.start {w:World} {n b off cap L:Nat} {l:List Nat} (hn:w.heap.size=n) (hR:Recs byc 1 w (.slice (some ⟨b,off,none⟩) L cap) l) (hl:l.length=L) (hb:∀ c ∈ l,c<256) (hlt:b<n) :
 LD w n (((w.alloc (.cells #[.slice none 0 0,.slice none 0 0,.slice none 0 0,.int .i32 0,.slice none 0 0] 41)).alloc (.cells #[.slice (some ⟨b,off,none⟩) L cap,.int .i64 0] 133)).alloc (.cells #[.slice none 0 0,.slice none 0 0,.slice none 0 0,.int .i32 0,.slice none 0 0] 41)) ⟨l,0⟩ (.slice none 0 0) (.slice none 0 0) (.slice none 0 0) 0 (.slice none 0 0) [] [] [] []:=by
 subst hn
 have h1:=HBox.new w z5 41
 have b1:=(Below.refl w.heap.size w).alloc (Nat.le_refl _) (.cells z5.toArray 41)
 have s1:(w.alloc (.cells z5.toArray 41)).heap.size=w.heap.size+1:=by simp
 have R1:=hR.stay b1
 show LD w w.heap.size (((w.alloc (.cells z5.toArray 41)).alloc _).alloc (.cells z5.toArray 41)) _ _ _ _ _ _ _ _ _ _
 generalize w.alloc (.cells z5.toArray 41)=W1 at h1 b1 s1 R1 ⊢
 have h2:=heap_alloc_new W1 (.cells #[.slice (some ⟨b,off,none⟩) L cap,.int .i64 0] 133)
 have b2:=(Below.refl W1.heap.size W1).alloc (Nat.le_refl _) (.cells #[.slice (some ⟨b,off,none⟩) L cap,.int .i64 0] 133)
 have s2:(W1.alloc (.cells #[.slice (some ⟨b,off,none⟩) L cap,.int .i64 0] 133)).heap.size=w.heap.size+2:=by simp [s1]
 have R2:=R1.stay b2
 have h1':=h1.stay b2
 have b2':=b1.trans (b2.mono (by omega))
 generalize W1.alloc (.cells #[.slice (some ⟨b,off,none⟩) L cap,.int .i64 0] 133)=W2 at h2 s2 R2 h1' b2' ⊢
 rw [s1] at h2
 have h3:=HBox.new W2 z5 41
 have b3:=(Below.refl W2.heap.size W2).alloc (Nat.le_refl _) (.cells z5.toArray 41)
 have s3:(W2.alloc (.cells z5.toArray 41)).heap.size=w.heap.size+3:=by simp [s2]
 have h2':RBk W2 (w.heap.size+1) (.slice (some ⟨b,off,none⟩) L cap) 0:=h2
 rw [s2] at h3
 exact ⟨h1'.stay b3,⟨hb,_,(b3.block _ h2'.size).trans h2',R2.stay b3,b,off,L,cap,rfl,hlt⟩,h3,World.ownsRow_nil _ _ _ _,World.ownsRow_nil _ _ _ _,World.ownsRow_nil _ _ _ _,⟨World.ownsRow_nil _ _ _ _,fun p hp=>by cases hp⟩,b2'.trans (b3.mono (by omega)),by omega⟩
theorem racc_cc (s:Rd):cc (racc s).1=[.int .u32 ((rnum 999999 s).1:Int),.string (rname (rnum 999999 s).2).1,.int .u8 ((rnum 255 (rname (rnum 999999 s).2).2).1:Int),.int .u32 ((rnum 999999 (rnum 255 (rname (rnum 999999 s).2).2).2).1:Int)]:=by
 have h1:=rnum_le 999999 s
 have h2:=rnum_le 255 (rname (rnum 999999 s).2).2
 have h3:=rnum_le 999999 (rnum 255 (rname (rnum 999999 s).2).2).2
 have h4:(rname (rnum 999999 s).2).1.size≤30:=by
  unfold rname
  simp only
  rw [nameOf_size,List.length_take]
  have:=rmany_le 30 1 (rnum 999999 s).2
  omega
 show [Value.int .u32 (((rnum 999999 s).1 % 4294967296:Nat):Int),.string (capN (rname (rnum 999999 s).2).1),.int .u8 (((rnum 255 (rname (rnum 999999 s).2).2).1 % 256:Nat):Int),.int .u32 (((rnum 999999 (rnum 255 (rname (rnum 999999 s).2).2).2).1 % 4294967296:Nat):Int)]=_
 rw [Nat.mod_eq_of_lt (by omega),Nat.mod_eq_of_lt (by omega),Nat.mod_eq_of_lt (by omega),capN_small h4]
theorem racc_rd (s:Rd):(racc s).2=(rnum 999999 (rnum 255 (rname (rnum 999999 s).2).2).2).2:=rfl
theorem rline_lc (s:Rd):lc (rline s).1=[.int .u32 ((rnum 999999 s).1:Int),.int .u16 ((rnum 999 (rnum 999999 s).2).1:Int),.int .u16 ((rnum 999 (rnum 999 (rnum 999999 s).2).2).1:Int),.int .i64 (rsig (rnum 999 (rnum 999 (rnum 999999 s).2).2).2).1]:=by
 have h1:=rnum_le 999999 s
 have h2:=rnum_le 999 (rnum 999999 s).2
 have h3:=rnum_le 999 (rnum 999 (rnum 999999 s).2).2
 have h4 : -9223372036854775808≤(rsig (rnum 999 (rnum 999 (rnum 999999 s).2).2).2).1∧(rsig (rnum 999 (rnum 999 (rnum 999999 s).2).2).2).1≤9223372036854775807:=unsig_in (rnum_le 18446744073709551615 _)
 show [Value.int .u32 (((rnum 999999 s).1 % 4294967296:Nat):Int),.int .u16 (((rnum 999 (rnum 999999 s).2).1 % 65536:Nat):Int),.int .u16 (((rnum 999 (rnum 999 (rnum 999999 s).2).2).1 % 65536:Nat):Int),.int .i64 (IntKind.i64.wrap (rsig (rnum 999 (rnum 999 (rnum 999999 s).2).2).2).1)]=_
 rw [Nat.mod_eq_of_lt (by omega),Nat.mod_eq_of_lt (by omega),Nat.mod_eq_of_lt (by omega),show IntKind.i64.wrap (rsig (rnum 999 (rnum 999 (rnum 999999 s).2).2).2).1=(rsig (rnum 999 (rnum 999 (rnum 999999 s).2).2).2).1 by rw [IntKind.wrap_i64];omega]
theorem rline_rd (s:Rd):(rline s).2=(rsig (rnum 999 (rnum 999 (rnum 999999 s).2).2).2).2:=rfl
theorem info_ac11:(Tryz.prog.info? 76).map (fun i=>(i.zero,i.size,i.bytes))=some (some (.agg #[.int .u32 0,.string ⟨#[]⟩,.int .u8 0,.int .u32 0]),4,32):=by kernel_rfl
theorem info_u11:(Tryz.prog.info? 52).map (fun i=>(i.zero,i.size,i.bytes))=some (some (.int .u16 0),1,2):=by kernel_rfl
def R13 (G ZP VB VM VS NM V2:Value) (P:World→Prop):Nat→Value→World→Prop
 | 4,v,_=>v=VB
 | 5,v,_=>v=VM
 | 6,v,_=>v=VS
 | 7,v,_=>v=NM
 | 11,v,_=>v=VB
 | 12,v,_=>v=VM
 | 13,v,_=>v=V2
 | 14,v,_=>v=ZP
 | 15,_,w=>P w
 | _,v,_=>v=G
def R20 (n:Nat) (T:TypeId) (x:Value) (f:List Value):Nat→Value→World→Prop
 | 6,v,w=>∃ g,v = .slice (some ⟨g,0,none⟩) 1 1∧HBox w g [x] T∧n+3≤g
 | 0,v,_=>v=(f[0]?).getD undef
 | 1,v,_=>v=(f[1]?).getD undef
 | 2,v,_=>v=(f[2]?).getD undef
 | 3,v,_=>v=(f[3]?).getD undef
 | 4,v,_=>v=(f[4]?).getD undef
 | 5,v,_=>v=(f[5]?).getD undef
 | _,_,_=>True
theorem R20.stay {n:Nat} {T:TypeId} {x:Value} {f:List Value} {w w':World} {row:Option Nat} (hg:w.grownBy w' row) (hr:∀ k,row=some k→k<n+3):∀ j u,R20 n T x f j u w→R20 n T x f j u w'
 | 0,_,h=>h
 | 1,_,h=>h
 | 2,_,h=>h
 | 3,_,h=>h
 | 4,_,h=>h
 | 5,_,h=>h
 | 6,_,⟨g,h1,h2,h3⟩=>⟨g,h1,h2.grown hg (fun e=>by have:=hr g e.symm;omega),h3⟩
 | _+7,_,h=>h
theorem hbox_cells {w:World} {b:Nat} {cs:List Value} {T:TypeId} (h:HBox w b cs T):∀ j u,cs[j]?=some u→w.cell? ((⟨b,0,none⟩:Addr).add j)=some u:=fun j u hu=>by
 have e:(⟨b,0,none⟩:Addr).add j=⟨b,j,none⟩:=by unfold Addr.add;split <;> simp_all
 rw [e]
 exact h.cell hu
theorem grown_alloc (w:World) (o:Obj):w.grownBy (w.alloc o) none:=grown_of_below ((Below.refl w.heap.size w).alloc (Nat.le_refl _) o)
theorem R13.put {G ZP VB VM VS NM V2:Value} {P:World→Prop} {w w':World} (h:P w→P w'):∀ j u,R13 G ZP VB VM VS NM V2 P j u w→R13 G ZP VB VM VS NM V2 P j u w'
 | 0,_,h=>h
 | 1,_,h=>h
 | 2,_,h=>h
 | 3,_,h=>h
 | 4,_,h=>h
 | 5,_,h=>h
 | 6,_,h=>h
 | 7,_,h=>h
 | 8,_,h=>h
 | 9,_,h=>h
 | 10,_,h=>h
 | 11,_,h=>h
 | 12,_,h=>h
 | 13,_,h=>h
 | 14,_,h=>h
 | 15,_,k=>h k
 | _+16,_,h=>h
theorem RM.cut {n g b o cp m:Nat} {w:World} {s:Rd} {ra:Option Addr} (hb:∀ c ∈ s.b,c<256) (hB:RBk w g (.slice (some ⟨b,o,none⟩) s.b.length cp) s.c) (hR:Recs byc 1 w (.slice (some ⟨b,o,none⟩) s.b.length cp) s.b) (hlt:b<n) (hm:m≤s.b.length) (hra:(if cp=m then some (⟨b,o,none⟩:Addr) else some ⟨b,o+m,none⟩)=ra):RM n (w.setCell ⟨g,0,none⟩ (.slice ra (s.b.length-m) (cp-m))) g ⟨s.b.drop m,s.c⟩:=by
 have hD:=byc_drop hR rfl m hm
 rw [hra] at hD
 refine ⟨fun c hc=>hb c (List.mem_of_mem_drop hc),_,hB.set0 _,byc_set hD hB ⟨_,_,_,rfl⟩,?_⟩
 rw [← hra]
 split
 ·exact ⟨_,_,_,_,rfl,hlt⟩
 ·exact ⟨_,_,_,_,rfl,hlt⟩
theorem ldecode_c {I:World→Prop} (D:DayC I) (BC:BookC I) (vb:Value) (l:List Nat) (w:World) (hI:I w) (hR:Recs byc 1 w vb l) (hb:∀ c ∈ l,c<256) :
 Calls Tryz.prog 42 #[vb] w fun e w'=>DecR l e w w':=by
 obtain ⟨rr,cap,rfl,hml⟩:=hR.form
 obtain ⟨n0,hXe⟩:∃ X,w.heap.size=X:=⟨_,rfl⟩
 have HXE:=Lib.hid hXe
 have hb1:=(Below.refl w.heap.size w).alloc (Nat.le_refl _) (.cells #[.slice none 0 0,.slice none 0 0,.slice none 0 0,.int .i32 0,.slice none 0 0] 41)
 have hbx:HBox (w.alloc (.cells #[.slice none 0 0,.slice none 0 0,.slice none 0 0,.int .i32 0,.slice none 0 0] 41)) w.heap.size [.slice none 0 0,.slice none 0 0,.slice none 0 0,.int .i32 0,.slice none 0 0] 41:=HBox.new w [.slice none 0 0,.slice none 0 0,.slice none 0 0,.int .i32 0,.slice none 0 0] 41
 rw [hXe] at hbx
 obtain ⟨L,hL⟩:∃ L,l.length=L:=⟨_,rfl⟩
 have HLL:=Lib.hid hL
 rw [hL] at hR hml ⊢
 have HR:=Lib.hid hR
 have HB1:=Lib.hid hb1
 have HX1:=Lib.hid hbx
 have HI:=Lib.hid hI
 have HD:=Lib.hid D
 have HBC:=Lib.hid BC
 have HBY:=Lib.hid hb
 clear hR hb1 hbx hI D BC hb hL hXe
 by_cases h1:1048576<L
 ·have EQ:Hid (decB l=(⟨[],[],[],0⟩,[],2)):=Lib.hid (by unfold decB;rw [HLL.out,if_pos h1])
  have t1:decide ((1048576:Int)<(L:Int))=true:=decide_eq_true (by omega)
  go_enter Tryz.func42,Tryz.ntmps42
  go_upto_region 1 with fail
  rw [HXE.out]
  generalize w.alloc (.cells #[.slice none 0 0,.slice none 0 0,.slice none 0 0,.int .i32 0,.slice none 0 0] 41)=W1 at HB1 HX1 ⊢
  have y0:=HX1.out.cell (j:=0) rfl
  have f0:=HX1.out.frozen 0
  have y1:=HX1.out.cell (j:=1) rfl
  have f1:=HX1.out.frozen 1
  have y2:=HX1.out.cell (j:=2) rfl
  have f2:=HX1.out.frozen 2
  have y3:=HX1.out.cell (j:=3) rfl
  have f3:=HX1.out.frozen 3
  have y4:=HX1.out.cell (j:=4) rfl
  have f4:=HX1.out.frozen 4
  have hs:=HX1.out.size
  have HZ:=Lib.hid (HBox.set5 HX1.out (.slice none 0 0) (.slice none 0 0) (.slice none 0 0) (.int .i32 0) (.slice none 0 0))
  have HBZ:=Lib.hid (HB1.out.grown (grown_sets5 W1 n0 (.slice none 0 0) (.slice none 0 0) (.slice none 0 0) (.int .i32 0) (.slice none 0 0)) HB1.out.size (fun k hk=>by cases hk;exact Nat.le_of_eq HXE.out))
  go_wp2_with fail
  have a0:=HZ.out.cell (j:=0) rfl
  have a1:=HZ.out.cell (j:=1) rfl
  have a2:=HZ.out.cell (j:=2) rfl
  have a3:=HZ.out.cell (j:=3) rfl
  have a4:=HZ.out.cell (j:=4) rfl
  exact bodyPost_ret (v:=.tuple #[.agg #[.slice none 0 0,.slice none 0 0,.slice none 0 0,.int .i32 0,.slice none 0 0],.int .i64 2]) (by simp [results,Tryz.results42,go_sem,a0,a1,a2,a3,a4]) rfl (dec_zero EQ.out HBZ.out)
 have t1:decide ((1048576:Int)<(L:Int))=false:=decide_eq_false (by omega)
 by_cases h2:L<4
 ·have EQ:Hid (decB l=(⟨[],[],[],0⟩,[],3)):=Lib.hid (by unfold decB;rw [HLL.out,if_neg h1,if_pos h2])
  have t2:decide ((L:Int)<4)=true:=decide_eq_true (by omega)
  go_enter Tryz.func42,Tryz.ntmps42
  go_upto_region 1 with fail
  rw [HXE.out]
  generalize w.alloc (.cells #[.slice none 0 0,.slice none 0 0,.slice none 0 0,.int .i32 0,.slice none 0 0] 41)=W1 at HB1 HX1 ⊢
  have y0:=HX1.out.cell (j:=0) rfl
  have f0:=HX1.out.frozen 0
  have y1:=HX1.out.cell (j:=1) rfl
  have f1:=HX1.out.frozen 1
  have y2:=HX1.out.cell (j:=2) rfl
  have f2:=HX1.out.frozen 2
  have y3:=HX1.out.cell (j:=3) rfl
  have f3:=HX1.out.frozen 3
  have y4:=HX1.out.cell (j:=4) rfl
  have f4:=HX1.out.frozen 4
  have hs:=HX1.out.size
  have HZ:=Lib.hid (HBox.set5 HX1.out (.slice none 0 0) (.slice none 0 0) (.slice none 0 0) (.int .i32 0) (.slice none 0 0))
  have HBZ:=Lib.hid (HB1.out.grown (grown_sets5 W1 n0 (.slice none 0 0) (.slice none 0 0) (.slice none 0 0) (.int .i32 0) (.slice none 0 0)) HB1.out.size (fun k hk=>by cases hk;exact Nat.le_of_eq HXE.out))
  go_wp2_with fail
  have a0:=HZ.out.cell (j:=0) rfl
  have a1:=HZ.out.cell (j:=1) rfl
  have a2:=HZ.out.cell (j:=2) rfl
  have a3:=HZ.out.cell (j:=3) rfl
  have a4:=HZ.out.cell (j:=4) rfl
  exact bodyPost_ret (v:=.tuple #[.agg #[.slice none 0 0,.slice none 0 0,.slice none 0 0,.int .i32 0,.slice none 0 0],.int .i64 3]) (by simp [results,Tryz.results42,go_sem,a0,a1,a2,a3,a4]) rfl (dec_zero EQ.out HBZ.out)
 have t2:decide ((L:Int)<4)=false:=decide_eq_false (by omega)
 obtain ⟨y,hy⟩:∃ y,l[0]?=some y:=⟨l[0]'(by have:=HLL.out;omega),List.getElem?_eq_getElem (by have:=HLL.out;omega)⟩
 obtain ⟨b,off,rfl,hb9,_⟩:=HR.out.at hy
 have hcap:L≤cap:=by
  rcases HR.out with ⟨_,_,h,h'⟩ | ⟨_,_,_,h,_,_,h',_⟩
  ·have:=HLL.out;rw [h'] at this;simp at this;omega
  ·cases h;have:=HLL.out;omega
 have hcv:=name_of (P:=Tryz.prog) (w.alloc (.cells #[.slice none 0 0,.slice none 0 0,.slice none 0 0,.int .i32 0,.slice none 0 0] 41)) 25 5 9 rfl rfl rfl (by rw [HLL.out];exact HR.out.stay HB1.out) HBY.out 4 (by have:=HLL.out;omega)
 have hnl:nameL (nameOf (l.take 4))=l.take 4:=nameL_of (fun c hc=>HBY.out c (List.mem_of_mem_take hc))
 obtain ⟨S0,hS⟩:∃ S,nameOf (l.take 4)=S:=⟨_,rfl⟩
 rw [hS] at hcv hnl
 have hT:nameL ⟨#[84,82,80,49]⟩=[84,82,80,49]:=by decide
 by_cases h3:l.take 4=[84,82,80,49]
 case neg =>
  have EQ:Hid (decB l=(⟨[],[],[],0⟩,[],1)):=Lib.hid (by unfold decB;rw [HLL.out,if_neg h1,if_neg h2,if_pos h3])
  have hST:S0≠⟨#[84,82,80,49]⟩:=fun e=>h3 (by rw [← hnl,e];exact hT)
  have t3:(S0.toList == ([84,82,80,49]:List UInt8))=false:=by
   rw [beq_eq_false_iff_ne]
   intro h9
   apply h3
   rw [← hnl]
   unfold nameL
   rw [← ByteArray.toList_eq,h9]
   rfl
  clear hy hS hnl hT h3 hb9
  go_enter Tryz.func42,Tryz.ntmps42
  go_upto_region 1 with fail
  rw [HXE.out]
  generalize w.alloc (.cells #[.slice none 0 0,.slice none 0 0,.slice none 0 0,.int .i32 0,.slice none 0 0] 41)=W1 at HB1 HX1 hcv ⊢
  have y0:=HX1.out.cell (j:=0) rfl
  have f0:=HX1.out.frozen 0
  have y1:=HX1.out.cell (j:=1) rfl
  have f1:=HX1.out.frozen 1
  have y2:=HX1.out.cell (j:=2) rfl
  have f2:=HX1.out.frozen 2
  have y3:=HX1.out.cell (j:=3) rfl
  have f3:=HX1.out.frozen 3
  have y4:=HX1.out.cell (j:=4) rfl
  have f4:=HX1.out.frozen 4
  have hs:=HX1.out.size
  have HZ:=Lib.hid (HBox.set5 HX1.out (.slice none 0 0) (.slice none 0 0) (.slice none 0 0) (.int .i32 0) (.slice none 0 0))
  have HBZ:=Lib.hid (HB1.out.grown (grown_sets5 W1 n0 (.slice none 0 0) (.slice none 0 0) (.slice none 0 0) (.int .i32 0) (.slice none 0 0)) HB1.out.size (fun k hk=>by cases hk;exact Nat.le_of_eq HXE.out))
  go_wp2_with fail
  have a0:=HZ.out.cell (j:=0) rfl
  have a1:=HZ.out.cell (j:=1) rfl
  have a2:=HZ.out.cell (j:=2) rfl
  have a3:=HZ.out.cell (j:=3) rfl
  have a4:=HZ.out.cell (j:=4) rfl
  exact bodyPost_ret (v:=.tuple #[.agg #[.slice none 0 0,.slice none 0 0,.slice none 0 0,.int .i32 0,.slice none 0 0],.int .i64 1]) (by simp [results,Tryz.results42,go_sem,a0,a1,a2,a3,a4]) rfl (dec_zero EQ.out HBZ.out)
 case pos =>
  have hST:S0=⟨#[84,82,80,49]⟩:=by
   rw [← nameOf_L S0,hnl,h3,← hT,nameOf_L]
  subst hST
  have HM:Hid (markE l=0):=Lib.hid (by unfold markE;rw [HLL.out,if_neg h1,if_neg h2,if_neg (by simp [h3])])
  have hD:=byc_drop HR.out HLL.out 4 (by omega)
  have hlt:b<n0:=by have:=HXE.out;omega
  obtain ⟨off',hra⟩:=if_addr (cap=4) b off 4
  rw [hra] at hD
  have HLD:=Lib.hid (LD.start HXE.out hD (by rw [List.length_drop,HLL.out]) (fun c hc=>HBY.out c (List.mem_of_mem_drop hc)) hlt)
  clear hy hS hnl hT h3 hb9 hD
  go_enter Tryz.func42,Tryz.ntmps42
  go_upto_region 1 with fail
  rw [HXE.out]
  go_upto_region 9 with fail
  rw [HXE.out,show n0+1+1=n0+2 from rfl]
  generalize ((w.alloc (.cells #[.slice none 0 0,.slice none 0 0,.slice none 0 0,.int .i32 0,.slice none 0 0] 41)).alloc (.cells #[.slice (some ⟨b,off',none⟩) (L-4) (cap-4),.int .i64 0] 133)).alloc (.cells #[.slice none 0 0,.slice none 0 0,.slice none 0 0,.int .i32 0,.slice none 0 0] 41)=W3 at HLD ⊢
  clear HB1 HX1 hra hcv HR hcap t1 t2 h1 h2 hml
  obtain ⟨r0,hr0⟩:∃ r,(⟨l.drop 4,0⟩:Rd)=r:=⟨_,rfl⟩
  rw [hr0] at HLD
  have HR0:=Lib.hid hr0
  obtain ⟨m1,r1,hq⟩:∃ m r,rmany 200 4 r0=(m,r):=⟨_,_,rfl⟩
  have K9:=Lib.hid (HLD.out.rd.many 200 4 (by omega) (by omega))
  have hm1:=rmany_le 200 4 r0
  rw [hq] at K9 hm1
  simp only at K9 hm1
  have HQ1:=Lib.hid hq
  clear hq hr0
  go_wp2_with (go_at_call 77;refine K9.out.mono ?_;rintro e w2 ⟨rfl,o2,h2⟩;have HLD2:=Lib.hid (HLD.out.call o2 h2);clear o2 h2)
  go_loopw [32] (fun i wx=>∃ (k:Nat) (vC:Value),i = .int .i64 (k:Int)∧k≤m1∧Hid (LD w n0 wx (rrep racc k r1).2 vC (.slice none 0 0) (.slice none 0 0) 0 (.slice none 0 0) (rrep racc k r1).1 [] [] [])) (fun i _=>m1-(intOf i).toNat)
  case atStart=>exact ⟨0,_,rfl,Nat.zero_le _,HLD2⟩
  case round =>
   clear HLD HLD2 K9
   obtain ⟨k,vC,rfl,hk,HLD⟩:=hrel
   rename World=>wr
   by_cases hlt:k<m1
   ·have t4:decide ((k:Int)<(m1:Int))=true:=decide_eq_true (by omega)
    obtain ⟨s,hs⟩:∃ s,(rrep racc k r1).2=s:=⟨_,rfl⟩
    have hlen:=rrep_len racc k r1
    have hlast:=rrep_last racc k r1
    obtain ⟨C,hC⟩:∃ C,(rrep racc k r1).1=C:=⟨_,rfl⟩
    rw [hs,hC] at HLD hlast
    rw [hC] at hlen
    have HLAST:=Lib.hid hlast
    have HLEN:=Lib.hid hlen
    clear hlast hlen hs hC
    have e0:=racc_cc s
    have e9:=racc_rd s
    have b1:=rnum_le 999999 s
    have b2:=rmany_le 30 1 (rnum 999999 s).2
    have b3:=rnum_le 255 (rname (rnum 999999 s).2).2
    have b4:=rnum_le 999999 (rnum 255 (rname (rnum 999999 s).2).2).2
    have K1:=fun (W:World) (h:RM n0 W (n0+1) s)=>h.num 999999 (by decide)
    have K2:=fun (W:World) (h:RM n0 W (n0+1) (rnum 999999 s).2)=>h.many 30 1 (by decide) (by decide)
    have K3:=fun (W:World) (h:RM n0 W (n0+1) (rname (rnum 999999 s).2).2)=>h.num 255 (by decide)
    have K4:=fun (W:World) (h:RM n0 W (n0+1) (rnum 255 (rname (rnum 999999 s).2).2).2)=>h.num 999999 (by decide)
    obtain ⟨c1,s1,h1⟩:∃ m r,rnum 999999 s=(m,r):=⟨_,_,rfl⟩
    simp only [h1] at e0 e9 b1 b2 b3 b4 K1 K2 K3 K4
    obtain ⟨m,s2,h2⟩:∃ m r,rmany 30 1 s1=(m,r):=⟨_,_,rfl⟩
    obtain ⟨nm,s3,h3⟩:∃ m r,rname s1=(m,r):=⟨_,_,rfl⟩
    simp only [h2,h3] at e0 e9 b2 b3 b4 K2 K3 K4
    have hnm:nm=nameOf (s2.b.take m)∧s3=⟨s2.b.drop m,s2.c⟩:=by
     unfold rname at h3
     simp only [h2,Prod.mk.injEq] at h3
     exact ⟨h3.1.symm,h3.2.symm⟩
    obtain ⟨kd,s4,h4⟩:∃ m r,rnum 255 s3=(m,r):=⟨_,_,rfl⟩
    simp only [h4] at e0 e9 b3 b4 K3 K4
    obtain ⟨pr,s5,h5⟩:∃ m r,rnum 999999 s4=(m,r):=⟨_,_,rfl⟩
    simp only [h5] at e0 e9 b4 K4
    have u1:IntKind.u32.wrap (c1:Int)=(c1:Int):=by rw [IntKind.wrap_u32];omega
    have u3:IntKind.u8.wrap (kd:Int)=(kd:Int):=by rw [IntKind.wrap_u8];omega
    have u4:IntKind.u32.wrap (pr:Int)=(pr:Int):=by rw [IntKind.wrap_u32];omega
    have MB:Hid (m≤s2.b.length):=Lib.hid (by
     have h9:=h2
     unfold rmany at h9
     split at h9
     ·simp only [Prod.mk.injEq] at h9;omega
     ·split at h9
      ·simp only [Prod.mk.injEq] at h9;omega
      ·rename_i g1 g2
       rw [h9] at g1 g2
       simp only at g1 g2
       have g3:s2.c=0:=by simpa using g2
       have:¬ s2.b.length<m * 1:=fun h=>g1 ⟨g3,h⟩
       omega)
    have E0:=Lib.hid e0
    have E9:=Lib.hid e9
    have HNM:=Lib.hid hnm
    have K1:=Lib.hid K1
    have K2:=Lib.hid K2
    have K3:=Lib.hid K3
    have K4:=Lib.hid K4
    clear e0 e9 hnm h1 h2 h3 h4 h5
    go_upto_region 12 with (go_at_call 78;refine (K1.out _ HLD.out.rd).mono ?_;rintro e w2 ⟨rfl,o2,h2⟩;have HLD2:=Lib.hid (HLD.out.call o2 h2);clear o2 h2)
    have HLB:Hid (LB w n0 (w2.alloc (.cells #[.int .u32 (c1:Int),.string ⟨#[]⟩,.int .u8 0,.int .u32 0] 76)) s1 vC (.slice none 0 0) (.slice none 0 0) 0 (.slice none 0 0) C [] [] [] w2.heap.size [.int .u32 (c1:Int),.string ⟨#[]⟩,.int .u8 0,.int .u32 0] 76):=Lib.hid (HLD2.out.box [.int .u32 (c1:Int),.string ⟨#[]⟩,.int .u8 0,.int .u32 0] 76)
    obtain ⟨Z,hZ⟩:∃ Z,w2.heap.size=Z:=⟨_,rfl⟩
    rw [hZ] at HLB ⊢
    generalize w2.alloc (.cells #[.int .u32 (c1:Int),.string ⟨#[]⟩,.int .u8 0,.int .u32 0] 76)=W5 at HLB ⊢
    clear hZ HLD HLD2 K1
    go_upto_region 13 with (go_at_call 77;refine (K2.out _ HLB.out.ld.rd).mono ?_;rintro e w6 ⟨rfl,o2,h2⟩;have HLB2:=Lib.hid (HLB.out.call o2 h2);clear o2 h2)
    clear HLB K2
    obtain ⟨b6,vb,p1,p2,bb,oo,mm,cp,rfl,hbn⟩:=HLB2.out.ld.rd
    have hml:=MB.out
    obtain ⟨_,_,hf,hml2⟩:=p2.form
    injection hf with hf1 hf2 hf3
    subst hf2 hf3
    have hcp:s2.b.length≤cp:=by
     rcases p2 with ⟨_,_,h,h'⟩ | ⟨_,_,_,h,_,_,h',_⟩
     ·rw [h'];simp
     ·cases h;exact h'
    obtain ⟨LB2,hLB2⟩:∃ n,s2.b.length=n:=⟨_,rfl⟩
    have P1:=Lib.hid p1
    have P2:=Lib.hid p2
    have B6:=Lib.hid b6
    have HLE:=Lib.hid hLB2
    rw [hLB2] at P1 P2 hml hcp hml2
    clear p1 p2 b6 hLB2 hf1
    obtain ⟨oo',hra⟩:=if_addr (cp=m) bb oo m
    have HRA:=Lib.hid hra
    have hmix:Tryz.prog.follows .mixedOrders=true:=by kernel_rfl
    have hZ3:=HLB2.out.z
    have HW:Hid (Below w6.heap.size w6 w6.drew):=Lib.hid (Below.refl _ _).drew
    have hmcp:m≤cp:=by omega
    refine wp_region_part 16 (fun w'=>w6.drew.grownBy w' (some Z) ∧ ∃ v,LB w n0 w' s2 vC (.slice none 0 0) (.slice none 0 0) 0 (.slice none 0 0) C [] [] [] Z [.int .u32 (c1:Int),v,.int .u8 0,.int .u32 0] 76) (R13 (.pointer (some ⟨n0+1,0,none⟩)) (.pointer (some ⟨Z,1,none⟩)) (.slice (some ⟨bb,oo,none⟩) LB2 cp) (.int .i64 (m:Int)) (.slice (some ⟨bb,oo,none⟩) m cp) (.string nm) (.slice (some ⟨bb,oo',none⟩) (LB2-m) (cp-m)) (fun w'=>LB w n0 w' s2 vC (.slice none 0 0) (.slice none 0 0) 0 (.slice none 0 0) C [] [] [] Z [.int .u32 (c1:Int),.string nm,.int .u8 0,.int .u32 0] 76)) hmix (by decide) (by kernel_rfl) (by kernel_rfl) (by kernel_rfl) ⟨⟨rfl,rfl,rfl,Nat.le_refl _,fun _ _ _=>rfl⟩,_,HLB2.out.stay HW.out⟩ ?_ ?_
    ·intro a w' i hi hC hfar hrd
     obtain ⟨hg,vv,hLB⟩:=hC
     have hBk:RBk w' (n0+1) (.slice (some ⟨bb,oo,none⟩) LB2 cp) s2.c:=(hg.block (n0+1) (Nat.lt_of_lt_of_le P1.out.size HW.out.size) (fun e=>by have:=Option.some.inj e;omega)).trans ((HW.out.block _ P1.out.size).trans P1.out)
     have hRw:Recs byc 1 w' (.slice (some ⟨bb,oo,none⟩) LB2 cp) s2.b:=(P2.out.stay HW.out).grown hg (by omega)
     have x0:=hBk.cell0
     have hC:w6.drew.grownBy w' (some Z) ∧ ∃ v,LB w n0 w' s2 vC (.slice none 0 0) (.slice none 0 0) 0 (.slice none 0 0) C [] [] [] Z [.int .u32 (c1:Int),v,.int .u8 0,.int .u32 0] 76:=⟨hg,vv,hLB⟩
     rcases (by omega:i=0∨i=1∨i=2∨i=3∨i=4∨i=5∨i=6∨i=7∨i=8∨i=9∨i=10∨i=11∨i=12∨i=13∨i=14∨i=15) with rfl | rfl | rfl | rfl | rfl | rfl | rfl | rfl | rfl | rfl | rfl | rfl | rfl | rfl | rfl | rfl
     ·refine op_run (.move (.tmp 4)) (some 40) (by unfold opIs;kernel_rfl) (.pointer (some ⟨n0+1,0,none⟩)) (w':=w') (fun o ho=>by unfold execOp;rw [ho];simp only [(hfar 4 (by kernel_rfl)).trans (show _=((.pointer (some ⟨n0+1,0,none⟩)):Value) by kernel_rfl)];go_simp) ?_
      exact ⟨_,congrArg (fun d=>a.put d (.pointer (some ⟨n0+1,0,none⟩))) (by kernel_rfl),hC,rfl,fun j u h=>h⟩
     ·refine op_run (.move (.tmp 4)) (some 41) (by unfold opIs;kernel_rfl) (.pointer (some ⟨n0+1,0,none⟩)) (w':=w') (fun o ho=>by unfold execOp;rw [ho];simp only [(hfar 4 (by kernel_rfl)).trans (show _=((.pointer (some ⟨n0+1,0,none⟩)):Value) by kernel_rfl)];go_simp) ?_
      exact ⟨_,congrArg (fun d=>a.put d (.pointer (some ⟨n0+1,0,none⟩))) (by kernel_rfl),hC,rfl,fun j u h=>h⟩
     ·refine op_run (.nilCheck (.tmp 41)) (some 42) (by unfold opIs;kernel_rfl) (.pointer (some ⟨n0+1,0,none⟩)) (w':=w') (fun o ho=>by unfold execOp;rw [ho];simp only [show a.eval (.tmp 41)=(.pointer (some ⟨n0+1,0,none⟩)) from hrd 1 41 (by kernel_rfl) (by kernel_rfl)];go_simp) ?_
      exact ⟨_,congrArg (fun d=>a.put d (.pointer (some ⟨n0+1,0,none⟩))) (by kernel_rfl),hC,rfl,fun j u h=>h⟩
     ·refine op_run (.fieldAddr 133 (.tmp 42) 0) (some 43) (by unfold opIs;kernel_rfl) (.pointer (some ⟨n0+1,0,none⟩)) (w':=w') (fun o ho=>by unfold execOp;rw [ho];simp only [show a.eval (.tmp 42)=(.pointer (some ⟨n0+1,0,none⟩)) from hrd 2 42 (by kernel_rfl) (by kernel_rfl)];go_simp) ?_
      exact ⟨_,congrArg (fun d=>a.put d (.pointer (some ⟨n0+1,0,none⟩))) (by kernel_rfl),hC,rfl,fun j u h=>h⟩
     ·refine op_load 25 (.tmp 43) (some 44) (by unfold opIs;kernel_rfl) _ (.slice (some ⟨bb,oo,none⟩) LB2 cp) (hrd 3 43 (by kernel_rfl) (by kernel_rfl)) (by go_simp) ?_
      exact ⟨_,congrArg (fun d=>a.put d (.slice (some ⟨bb,oo,none⟩) LB2 cp)) (by kernel_rfl),hC,rfl,fun j u h=>h⟩
     ·refine op_run (.move (.tmp 7)) (some 45) (by unfold opIs;kernel_rfl) (.int .i64 (m:Int)) (w':=w') (fun o ho=>by unfold execOp;rw [ho];simp only [(hfar 7 (by kernel_rfl)).trans (show _=((.int .i64 (m:Int)):Value) by kernel_rfl)];go_simp) ?_
      exact ⟨_,congrArg (fun d=>a.put d (.int .i64 (m:Int))) (by kernel_rfl),hC,rfl,fun j u h=>h⟩
     ·have q45:=(show a.eval (.tmp 45)=(.int .i64 (m:Int):Value) from hrd 5 45 (by kernel_rfl) (by kernel_rfl))
      simp only [Act.eval] at q45
      refine op_run (.slice 25 (.tmp 44) none (some (.tmp 45)) none) (some 46) (by unfold opIs;kernel_rfl) (.slice (some ⟨bb,oo,none⟩) m cp) (w':=w') (fun o ho=>by unfold execOp;rw [ho];simp only [show a.eval (.tmp 44)=(.slice (some ⟨bb,oo,none⟩) LB2 cp) from hrd 4 44 (by kernel_rfl) (by kernel_rfl),show a.eval (.tmp 45)=(.int .i64 (m:Int)) from hrd 5 45 (by kernel_rfl) (by kernel_rfl)];go_simp) ?_
      exact ⟨_,congrArg (fun d=>a.put d (.slice (some ⟨bb,oo,none⟩) m cp)) (by kernel_rfl),hC,rfl,fun j u h=>h⟩
     ·have hcv:=name_of (P:=Tryz.prog) w' 25 5 9 rfl rfl rfl (by rw [HLE.out];exact hRw) B6.out m (by rw [HLE.out];exact hml)
      rw [← HNM.out.1] at hcv
      refine op_run (.convert 25 9 (.tmp 46)) (some 47) (by unfold opIs;kernel_rfl) (.string nm) (w':=w') (fun o ho=>by unfold execOp;rw [ho];simp only [show a.eval (.tmp 46)=(.slice (some ⟨bb,oo,none⟩) m cp) from hrd 6 46 (by kernel_rfl) (by kernel_rfl)];go_simp) ?_
      exact ⟨_,congrArg (fun d=>a.put d (.string nm)) (by kernel_rfl),hC,rfl,fun j u h=>h⟩
     ·refine op_run (.move (.tmp 4)) (some 48) (by unfold opIs;kernel_rfl) (.pointer (some ⟨n0+1,0,none⟩)) (w':=w') (fun o ho=>by unfold execOp;rw [ho];simp only [(hfar 4 (by kernel_rfl)).trans (show _=((.pointer (some ⟨n0+1,0,none⟩)):Value) by kernel_rfl)];go_simp) ?_
      exact ⟨_,congrArg (fun d=>a.put d (.pointer (some ⟨n0+1,0,none⟩))) (by kernel_rfl),hC,rfl,fun j u h=>h⟩
     ·refine op_run (.nilCheck (.tmp 48)) (some 49) (by unfold opIs;kernel_rfl) (.pointer (some ⟨n0+1,0,none⟩)) (w':=w') (fun o ho=>by unfold execOp;rw [ho];simp only [show a.eval (.tmp 48)=(.pointer (some ⟨n0+1,0,none⟩)) from hrd 8 48 (by kernel_rfl) (by kernel_rfl)];go_simp) ?_
      exact ⟨_,congrArg (fun d=>a.put d (.pointer (some ⟨n0+1,0,none⟩))) (by kernel_rfl),hC,rfl,fun j u h=>h⟩
     ·refine op_run (.fieldAddr 133 (.tmp 49) 0) (some 50) (by unfold opIs;kernel_rfl) (.pointer (some ⟨n0+1,0,none⟩)) (w':=w') (fun o ho=>by unfold execOp;rw [ho];simp only [show a.eval (.tmp 49)=(.pointer (some ⟨n0+1,0,none⟩)) from hrd 9 49 (by kernel_rfl) (by kernel_rfl)];go_simp) ?_
      exact ⟨_,congrArg (fun d=>a.put d (.pointer (some ⟨n0+1,0,none⟩))) (by kernel_rfl),hC,rfl,fun j u h=>h⟩
     ·refine op_load 25 (.tmp 50) (some 51) (by unfold opIs;kernel_rfl) _ (.slice (some ⟨bb,oo,none⟩) LB2 cp) (hrd 10 50 (by kernel_rfl) (by kernel_rfl)) (by go_simp) ?_
      exact ⟨_,congrArg (fun d=>a.put d (.slice (some ⟨bb,oo,none⟩) LB2 cp)) (by kernel_rfl),hC,rfl,fun j u h=>h⟩
     ·refine op_run (.move (.tmp 7)) (some 52) (by unfold opIs;kernel_rfl) (.int .i64 (m:Int)) (w':=w') (fun o ho=>by unfold execOp;rw [ho];simp only [(hfar 7 (by kernel_rfl)).trans (show _=((.int .i64 (m:Int)):Value) by kernel_rfl)];go_simp) ?_
      exact ⟨_,congrArg (fun d=>a.put d (.int .i64 (m:Int))) (by kernel_rfl),hC,rfl,fun j u h=>h⟩
     ·have hra2:=HRA.out
      have q52:=(show a.eval (.tmp 52)=(.int .i64 (m:Int):Value) from hrd 12 52 (by kernel_rfl) (by kernel_rfl))
      simp only [Act.eval] at q52
      refine op_run (.slice 25 (.tmp 51) (some (.tmp 52)) none none) (some 53) (by unfold opIs;kernel_rfl) (.slice (some ⟨bb,oo',none⟩) (LB2-m) (cp-m)) (w':=w') (fun o ho=>by unfold execOp;rw [ho];simp only [show a.eval (.tmp 51)=(.slice (some ⟨bb,oo,none⟩) LB2 cp) from hrd 11 51 (by kernel_rfl) (by kernel_rfl),show a.eval (.tmp 52)=(.int .i64 (m:Int)) from hrd 12 52 (by kernel_rfl) (by kernel_rfl)];go_simp) ?_
      exact ⟨_,congrArg (fun d=>a.put d (.slice (some ⟨bb,oo',none⟩) (LB2-m) (cp-m))) (by kernel_rfl),hC,rfl,fun j u h=>h⟩
     ·refine op_run (.fieldAddr 76 (.tmp 6) 1) (some 54) (by unfold opIs;kernel_rfl) (.pointer (some ⟨Z,1,none⟩)) (w':=w') (fun o ho=>by unfold execOp;rw [ho];simp only [(hfar 6 (by kernel_rfl)).trans (show _=(.pointer (some ⟨Z,0,none⟩):Value) by kernel_rfl)];go_simp) ?_
      exact ⟨_,congrArg (fun d=>a.put d (.pointer (some ⟨Z,1,none⟩))) (by kernel_rfl),hC,rfl,fun j u h=>h⟩
     ·have z1:=hLB.box.cell (j:=1) rfl
      have zf:=hLB.box.frozen 1
      have zs:=hLB.box.size
      have hn:=hLB.set 1 (.string nm)
      simp only [List.set_cons_zero,List.set_cons_succ] at hn
      refine op_store (w':=w'.setCell ⟨Z,1,none⟩ (.string nm)) 9 (.tmp 54) (.tmp 47) none (by unfold opIs;kernel_rfl) _ _ (hrd 14 54 (by kernel_rfl) (by kernel_rfl)) (hrd 7 47 (by kernel_rfl) (by kernel_rfl)) (by go_simp) ?_
      exact ⟨undef,(congrArg (fun d=>a.put d undef) (show none=_ by kernel_rfl)),⟨grown_trans hg (set_grown w' ⟨Z,1,none⟩ (.string nm)),_,hn⟩,hn,R13.put (fun _=>hn)⟩
    ·intro bv w' hC hR
     obtain ⟨hg,_⟩:=hC
     have q0:bv 0=(.pointer (some ⟨n0+1,0,none⟩):Value):=hR 0 (by omega)
     have q13:bv 13=(.slice (some ⟨bb,oo',none⟩) (LB2-m) (cp-m):Value):=hR 13 (by omega)
     have hLB:LB w n0 w' s2 vC (.slice none 0 0) (.slice none 0 0) 0 (.slice none 0 0) C [] [] [] Z [.int .u32 (c1:Int),.string nm,.int .u8 0,.int .u32 0] 76:=hR 15 (by omega)
     have hBk:RBk w' (n0+1) (.slice (some ⟨bb,oo,none⟩) LB2 cp) s2.c:=(hg.block (n0+1) (Nat.lt_of_lt_of_le P1.out.size HW.out.size) (fun e=>by have:=Option.some.inj e;omega)).trans ((HW.out.block _ P1.out.size).trans P1.out)
     have hRw:Recs byc 1 w' (.slice (some ⟨bb,oo,none⟩) LB2 cp) s2.b:=(P2.out.stay HW.out).grown hg (by omega)
     have x0:=hBk.cell0
     have f0:=hBk.frozen 0
     have hs:=hBk.size
     have hcut:=RM.cut (n:=n0) (m:=m) B6.out (by rw [HLE.out];exact hBk) (by rw [HLE.out];exact hRw) hbn (by rw [HLE.out];exact hml) HRA.out
     rw [HLE.out,← HNM.out.2] at hcut
     have HLB3:=Lib.hid (hLB.call hcut (set_grown w' ⟨n0+1,0,none⟩ (.slice (some ⟨bb,oo',none⟩) (LB2-m) (cp-m))))
     simp only [List.take_succ_cons,List.take_zero,List.drop_succ_cons,List.drop_zero,putL,if_true,Nat.reduceAdd,Act.put,List.getElem_toArray,List.getElem_cons_zero,List.getElem_cons_succ,List.setIfInBounds_toArray,List.set_cons_zero,List.set_cons_succ]
     rw [q0,q13]
     clear hR q0 q13 hBk hRw hcut hLB hg HLB2 P1 P2 HW hZ3
     go_upto_region 14 with fail
     generalize w'.setCell ⟨n0+1,0,none⟩ (.slice (some ⟨bb,oo',none⟩) (LB2-m) (cp-m))=W7 at HLB3 ⊢
     clear x0 f0 hs hra HRA hbn hml hcp hmcp
     go_upto_region 15 with (go_at_call 78;refine (K3.out _ HLB3.out.ld.rd).mono ?_;rintro e w8 ⟨rfl,o2,h2⟩;have HLB4:=Lib.hid (HLB3.out.call o2 h2);have z2:=HLB4.out.box.cell (j:=2) rfl;have zf:=HLB4.out.box.frozen 2;have zs:=HLB4.out.box.size;clear o2 h2)
     have HLB5:=Lib.hid (HLB4.out.set 2 (.int .u8 (kd:Int)))
     simp only [List.set_cons_zero,List.set_cons_succ] at HLB5
     generalize w8.setCell ⟨Z,2,none⟩ (.int .u8 (kd:Int))=W9 at HLB5 ⊢
     clear HLB3 HLB4 z2 zf zs K3
     go_upto_region 16 with (go_at_call 78;refine (K4.out _ HLB5.out.ld.rd).mono ?_;rintro e w10 ⟨rfl,o2,h2⟩;have HLB6:=Lib.hid (HLB5.out.call o2 h2);have z2:=HLB6.out.box.cell (j:=3) rfl;have zf:=HLB6.out.box.frozen 3;have zs:=HLB6.out.box.size;clear o2 h2)
     have HLB7:=Lib.hid (HLB6.out.set 3 (.int .u32 (pr:Int)))
     simp only [List.set_cons_zero,List.set_cons_succ] at HLB7
     generalize w10.setCell ⟨Z,3,none⟩ (.int .u32 (pr:Int))=W11 at HLB7 ⊢
     clear HLB5 HLB6 z2 zf zs K4
     have z0:=HLB7.out.box.cell (j:=0) rfl
     have z1:=HLB7.out.box.cell (j:=1) rfl
     have z2:=HLB7.out.box.cell (j:=2) rfl
     have z3:=HLB7.out.box.cell (j:=3) rfl
     have o0:=HLB7.out.ld.out.cell (j:=0) rfl
     obtain ⟨i0,hi,hz0,hz1,hz2⟩:=info_parts info_ac11
     go_upto_region 17 with (at_builtin;refine wpList_append_own_at _ rfl (.tmp 67) (.tmp 69) 31 rfl (n0+3) 76 i0 (.agg #[.int .u32 0,.string ⟨#[]⟩,.int .u8 0,.int .u32 0]) 4 32 Tryz.underlying31 hi hz0 hz1 hz2 rfl (by decide) _ C.length _ rfl (HLB7.out.ld.c.alloc _) ⟨_,0,none⟩ 1 1 [.int .u32 (c1:Int),.string nm,.int .u8 (kd:Int),.int .u32 (pr:Int)] rfl rfl (cells_new _ [.int .u32 (c1:Int),.string nm,.int .u8 (kd:Int),.int .u32 (pr:Int)] _) (fun v hv=>by simp at hv;rcases hv with rfl | rfl | rfl | rfl <;> rfl) (by unfold maxLen;have:=HLEN.out;omega) (by have:=HLEN.out;omega) (by have:=HLB7.out.ld.sz;simp;omega) ?_;intro v12 w12 ho hg _ _;have hb12:=((HLB7.out.ld.alloc _).row (HLB7.out.ld.c.alloc _) hg).2.2.1;have p0:=hb12.cell (j:=0) rfl;have pf:=hb12.frozen 0;have ps:=hb12.size;obtain ⟨q12,d12,rfl⟩:=owns_form ho;have HLD12:=Lib.hid ((HLB7.out.ld.alloc _).pushC (a:=(racc s).1) hg (by rw [E0.out];exact ho));clear ho hg hb12)
     generalize w12.setCell ⟨n0+2,0,none⟩ (.slice q12 (C.length+1) d12)=W13 at HLD12 ⊢
     clear HLB7 z0 z1 z2 z3 o0 p0 pf ps i0 hi hz0 hz1 hz2
     go_wp2_with fail
     go_round
     case rel=>exact ⟨k+1,_,rfl,by omega,Lib.hid (by rw [HLAST.out,E9.out];exact HLD12.out)⟩
     case measure =>
      show m1-((k:Int)+1).toNat<m1-((k:Int)).toNat
      omega
   ·obtain rfl:k=m1:=by omega
    have t4:decide ((k:Int)<(k:Int))=false:=decide_eq_false (by omega)
    obtain ⟨C,r2,hq⟩:∃ C r,rrep racc k r1=(C,r):=⟨_,_,rfl⟩
    have hlC:=rrep_len racc k r1
    rw [hq] at HLD hlC
    simp only at HLD hlC
    have HQ2:=Lib.hid hq
    have HLC:=Lib.hid hlC
    clear hq hlC
    obtain ⟨m2,r3,hq⟩:∃ m r,rmany 40 1 r2=(m,r):=⟨_,_,rfl⟩
    have K9:=Lib.hid (HLD.out.rd.many 40 1 (by omega) (by omega))
    have hm2:=rmany_le 40 1 r2
    rw [hq] at K9 hm2
    simp only at K9 hm2
    have HQ3:=Lib.hid hq
    clear hq
    go_wp2_with (go_at_call 77;refine K9.out.mono ?_;rintro e w2 ⟨rfl,o2,h2⟩;have HLD2:=Lib.hid (HLD.out.call o2 h2);clear o2 h2)
    go_loopw [76] (fun i wx=>∃ (k2:Nat) (vU:Value),i = .int .i64 (k2:Int)∧k2≤m2∧Hid (LD w n0 wx (rrep (rnum 999) k2 r3).2 vC vU (.slice none 0 0) 0 (.slice none 0 0) C (rrep (rnum 999) k2 r3).1 [] [])) (fun i _=>m2-(intOf i).toNat)
    case atStart=>exact ⟨0,_,rfl,Nat.zero_le _,HLD2⟩
    case round =>
     clear HLD HLD2 K9 t4
     obtain ⟨k2,vU,rfl,hk2,HLD⟩:=hrel
     rename World=>wr
     by_cases hlt2:k2<m2
     ·have t4:decide ((k2:Int)<(m2:Int))=true:=decide_eq_true (by omega)
      obtain ⟨s,hs⟩:∃ s,(rrep (rnum 999) k2 r3).2=s:=⟨_,rfl⟩
      have hlen:=rrep_len (rnum 999) k2 r3
      have hlast:=rrep_last (rnum 999) k2 r3
      obtain ⟨U,hU⟩:∃ C,(rrep (rnum 999) k2 r3).1=C:=⟨_,rfl⟩
      rw [hs,hU] at HLD hlast
      rw [hU] at hlen
      have K1:=fun (W:World) (h:RM n0 W (n0+1) s)=>h.num 999 (by decide)
      have b1:=rnum_le 999 s
      obtain ⟨c1,s1,h1⟩:∃ m r,rnum 999 s=(m,r):=⟨_,_,rfl⟩
      rw [h1] at hlast
      simp only [h1] at K1 b1 hlast
      have u1:IntKind.u16.wrap (c1:Int)=(c1:Int):=by rw [IntKind.wrap_u16];omega
      have HLAST:=Lib.hid hlast
      have HLEN:=Lib.hid hlen
      have K1:=Lib.hid K1
      have hmix:Tryz.prog.follows .mixedOrders=true:=by kernel_rfl
      clear hlast hlen hs hU h1
      obtain ⟨i0,hi,hz0,hz1,hz2⟩:=info_parts info_u11
      go_upto_region 20 with fail
      refine wp_region_part3 7 (fun st w'=>LD w n0 w' (if st 4=true then s1 else s) vC vU (.slice none 0 0) 0 (.slice none 0 0) C U [] []) (R20 n0 52 (.int .u16 (c1:Int)) [(.pointer (some ⟨n0+2,0,none⟩)),(.pointer (some ⟨n0+2,1,none⟩)),vU,(.pointer (some ⟨n0+1,0,none⟩)),.int .u64 (c1:Int),(.int .u16 (c1:Int))]) (fun _ _ _ _=>True) hmix (by decide) (by kernel_rfl) (by kernel_rfl) (by kernel_rfl) (by simpa using HLD.out.drew) ?_ ?_
      ·intro st a w' i hi hsi hdn hC hfar hrd
       rcases (by omega:i=0∨i=1∨i=2∨i=3∨i=4∨i=5∨i=6) with rfl | rfl | rfl | rfl | rfl | rfl | rfl
       ·refine op_run (.fieldAddr 41 (.tmp 5) 0) (some 78) (by unfold opIs;kernel_rfl) (.pointer (some ⟨n0+2,0,none⟩)) (w':=w') (fun o ho=>by unfold execOp;rw [ho];simp only [(hfar 5 (by kernel_rfl)).trans (show _=((.pointer (some ⟨n0+2,0,none⟩)):Value) by kernel_rfl)];go_simp) ?_
        exact ⟨_,congrArg (fun d=>a.put d (.pointer (some ⟨n0+2,0,none⟩))) (by kernel_rfl),(by simpa using hC),rfl,(fun j u h=>h),fun _ _ _ _ _ _ _=>⟨trivial,trivial⟩⟩
       ·refine op_run (.fieldAddr 38 (.tmp 78) 1) (some 79) (by unfold opIs;kernel_rfl) (.pointer (some ⟨n0+2,1,none⟩)) (w':=w') (fun o ho=>by unfold execOp;rw [ho];simp only [show a.eval (.tmp 78)=(.pointer (some ⟨n0+2,0,none⟩)) from hrd 0 78 (by kernel_rfl) (by kernel_rfl)];go_simp) ?_
        exact ⟨_,congrArg (fun d=>a.put d (.pointer (some ⟨n0+2,1,none⟩))) (by kernel_rfl),(by simpa using hC),rfl,(fun j u h=>h),fun _ _ _ _ _ _ _=>⟨trivial,trivial⟩⟩
       ·have o0:=hC.out.cell (j:=1) rfl
        refine op_load 32 (.tmp 79) (some 80) (by unfold opIs;kernel_rfl) _ vU (hrd 1 79 (by kernel_rfl) (by kernel_rfl)) (by go_simp) ?_
        exact ⟨_,congrArg (fun d=>a.put d vU) (by kernel_rfl),(by simpa using hC),rfl,(fun j u h=>h),fun _ _ _ _ _ _ _=>⟨trivial,trivial⟩⟩
       ·refine op_run (.move (.tmp 4)) (some 81) (by unfold opIs;kernel_rfl) (.pointer (some ⟨n0+1,0,none⟩)) (w':=w') (fun o ho=>by unfold execOp;rw [ho];simp only [(hfar 4 (by kernel_rfl)).trans (show _=((.pointer (some ⟨n0+1,0,none⟩)):Value) by kernel_rfl)];go_simp) ?_
        exact ⟨_,congrArg (fun d=>a.put d (.pointer (some ⟨n0+1,0,none⟩))) (by kernel_rfl),(by simpa using hC),rfl,(fun j u h=>h),fun _ _ _ _ _ _ _=>⟨trivial,trivial⟩⟩
       ·have h:=hC
        rw [hsi] at h
        simp only [Bool.false_eq_true,if_false] at h
        refine op_call (.call { callee:=.value (.func 78),args:=#[.tmp 81,.const (.int .u64 999)],argTypes:=#[131,86] }) (some 82) (by unfold opIs;kernel_rfl) 78 #[(.pointer (some ⟨n0+1,0,none⟩)),.int .u64 999] (fun o ho=>by unfold execOp;rw [ho];simp only [resolve,List.map_toArray,List.map_cons,List.map_nil,show a.eval (.tmp 81)=(.pointer (some ⟨n0+1,0,none⟩)) from hrd 3 81 (by kernel_rfl) (by kernel_rfl)];go_simp) (K1.out w' h.rd) ?_
        rintro e w'' ⟨rfl,o2,h2⟩
        exact ⟨_,rfl,_,congrArg (fun d=>a.put d _) (by kernel_rfl),(by simpa using h.call o2 h2),rfl,R20.stay h2 (fun k hk=>by cases hk;omega),fun _ _ _ _ _ _ _=>⟨trivial,trivial⟩⟩
       ·refine op_run (.convert 86 52 (.tmp 82)) (some 83) (by unfold opIs;kernel_rfl) (.int .u16 (c1:Int)) (w':=w') (fun o ho=>by unfold execOp;rw [ho];simp only [show a.eval (.tmp 82)=(.int .u64 (c1:Int)) from hrd 4 82 (by kernel_rfl) (by kernel_rfl)];go_simp) ?_
        exact ⟨_,congrArg (fun d=>a.put d (.int .u16 (c1:Int))) (by kernel_rfl),(by simpa using hC),rfl,(fun j u h=>h),fun _ _ _ _ _ _ _=>⟨trivial,trivial⟩⟩
       ·refine op_run (.buildSlice 32 1 #[(0,.tmp 83)]) (some 84) (by unfold opIs;kernel_rfl) (.slice (some ⟨w'.heap.size,0,none⟩) 1 1) (w':=w'.alloc (.cells #[(.int .u16 (c1:Int))] 52)) (fun o ho=>by unfold execOp;rw [ho];simp only [List.map_toArray,List.map_cons,List.map_nil,show a.eval (.tmp 83)=(.int .u16 (c1:Int)) from hrd 5 83 (by kernel_rfl) (by kernel_rfl)];go_simp) ?_
        exact ⟨_,congrArg (fun d=>a.put d (.slice (some ⟨w'.heap.size,0,none⟩) 1 1)) (by kernel_rfl),(by simpa using hC.alloc _),⟨_,rfl,HBox.new w' [(.int .u16 (c1:Int))] _,hC.sz⟩,R20.stay (grown_alloc w' _) (fun k hk=>by cases hk),fun _ _ _ _ _ _ _=>⟨trivial,trivial⟩⟩
      ·intro st bv w' hall hC hR _
       rw [hall 4 (by omega)] at hC
       simp only [if_true] at hC
       have q2:bv 2=vU:=hR 2 (by omega)
       obtain ⟨gB,q6,hB,hgB⟩:=hR 6 (by omega)
       have HCC:=Lib.hid hC
       have HBB:=Lib.hid hB
       simp only [List.take_succ_cons,List.take_zero,List.drop_succ_cons,List.drop_zero,putL,if_true,Nat.reduceAdd,Act.put,List.getElem_toArray,List.getElem_cons_zero,List.getElem_cons_succ,List.setIfInBounds_toArray,List.set_cons_zero,List.set_cons_succ]
       rw [q2,q6]
       clear hR q2 q6 hall hC hB
       go_upto_region 21 with (at_builtin;refine wpList_append_own_at _ rfl (.tmp 80) (.tmp 84) 32 rfl (n0+3) 52 i0 (.int .u16 0) 1 2 Tryz.underlying32 hi hz0 hz1 hz2 rfl (by decide) _ U.length _ rfl HCC.out.u ⟨gB,0,none⟩ 1 1 [.int .u16 (c1:Int)] rfl rfl (hbox_cells HBB.out) (fun v hv=>by simp at hv;subst hv;rfl) (by unfold maxLen;have:=HLEN.out;omega) (by have:=HLEN.out;omega) HCC.out.sz ?_;intro v12 w12 ho hg _ _;have hb12:=(HCC.out.row HCC.out.u hg).2.2.1;have p0:=hb12.cell (j:=1) rfl;have pf:=hb12.frozen 1;have ps:=hb12.size;obtain ⟨q12,d12,rfl⟩:=owns_form ho;have HLD12:=Lib.hid (HCC.out.pushU (a:=c1) hg ho);clear ho hg hb12)
       generalize w12.setCell ⟨n0+2,1,none⟩ (.slice q12 (U.length+1) d12)=W13 at HLD12 ⊢
       clear HCC HBB p0 pf ps i0 hi hz0 hz1 hz2
       go_wp2_with fail
       go_round
       case rel=>exact ⟨k2+1,_,rfl,by omega,Lib.hid (by rw [HLAST.out];exact HLD12.out)⟩
       case measure =>
        show m2-((k2:Int)+1).toNat<m2-((k2:Int)).toNat
        omega
     ·obtain rfl:k2=m2:=by omega
      have t4:decide ((k2:Int)<(k2:Int))=false:=decide_eq_false (by omega)
      obtain ⟨U,r4,hq⟩:∃ C r,rrep (rnum 999) k2 r3=(C,r):=⟨_,_,rfl⟩
      have hlC:=rrep_len (rnum 999) k2 r3
      rw [hq] at HLD hlC
      simp only at HLD hlC
      have HQ4:=Lib.hid hq
      have HLU:=Lib.hid hlC
      clear hq hlC
      obtain ⟨m3,r5,hq⟩:∃ m r,rmany 60 1 r4=(m,r):=⟨_,_,rfl⟩
      have K9:=Lib.hid (HLD.out.rd.many 60 1 (by omega) (by omega))
      have hm3:=rmany_le 60 1 r4
      rw [hq] at K9 hm3
      simp only at K9 hm3
      have HQ5:=Lib.hid hq
      clear hq
      go_wp2_with (go_at_call 77;refine K9.out.mono ?_;rintro e w2 ⟨rfl,o2,h2⟩;have HLD2:=Lib.hid (HLD.out.call o2 h2);clear o2 h2)
      go_loopw [91] (fun i wx=>∃ (k3:Nat) (vS:Value),i = .int .i64 (k3:Int)∧k3≤m3∧Hid (LD w n0 wx (rrep rday k3 r5).2 vC vU vS 0 (.slice none 0 0) C U (rrep rday k3 r5).1 [])) (fun i _=>m3-(intOf i).toNat)
      case atStart=>exact ⟨0,_,rfl,Nat.zero_le _,HLD2⟩
      case round =>
       clear HLD HLD2 K9 t4
       obtain ⟨k3,vS,rfl,hk3,HLD⟩:=hrel
       rename World=>wr
       by_cases hlt3:k3<m3
       ·have t4:decide ((k3:Int)<(m3:Int))=true:=decide_eq_true (by omega)
        obtain ⟨s,hs⟩:∃ s,(rrep rday k3 r5).2=s:=⟨_,rfl⟩
        have hlen:=rrep_len rday k3 r5
        have hlast:=rrep_last rday k3 r5
        obtain ⟨S,hS⟩:∃ C,(rrep rday k3 r5).1=C:=⟨_,rfl⟩
        rw [hs,hS] at HLD hlast
        rw [hS] at hlen
        have K1:=fun (W:World) (h:RM n0 W (n0+1) s)=>h.day
        obtain ⟨d1,s1,h1⟩:∃ m r,rday s=(m,r):=⟨_,_,rfl⟩
        rw [h1] at hlast
        simp only [h1] at K1 hlast
        have HLAST:=Lib.hid hlast
        have HLEN:=Lib.hid hlen
        have K1:=Lib.hid K1
        have hmix:Tryz.prog.follows .mixedOrders=true:=by kernel_rfl
        clear hlast hlen hs hS h1
        obtain ⟨i0,hi,hz0,hz1,hz2⟩:=info_parts infoD
        go_upto_region 24 with fail
        refine wp_region_part3 7 (fun st w'=>LD w n0 w' (if st 5=true then s1 else s) vC vU vS 0 (.slice none 0 0) C U S []) (R20 n0 34 (.int .i32 d1) [(.pointer (some ⟨n0+2,0,none⟩)),(.pointer (some ⟨n0+2,2,none⟩)),(.pointer (some ⟨n0+2,2,none⟩)),vS,(.pointer (some ⟨n0+1,0,none⟩)),(.int .i32 d1)]) (fun _ _ _ _=>True) hmix (by decide) (by kernel_rfl) (by kernel_rfl) (by kernel_rfl) (by simpa using HLD.out.drew) ?_ ?_
        ·intro st a w' i hi hsi hdn hC hfar hrd
         rcases (by omega:i=0∨i=1∨i=2∨i=3∨i=4∨i=5∨i=6) with rfl | rfl | rfl | rfl | rfl | rfl | rfl
         ·refine op_run (.fieldAddr 41 (.tmp 5) 0) (some 93) (by unfold opIs;kernel_rfl) (.pointer (some ⟨n0+2,0,none⟩)) (w':=w') (fun o ho=>by unfold execOp;rw [ho];simp only [(hfar 5 (by kernel_rfl)).trans (show _=((.pointer (some ⟨n0+2,0,none⟩)):Value) by kernel_rfl)];go_simp) ?_
          exact ⟨_,congrArg (fun d=>a.put d (.pointer (some ⟨n0+2,0,none⟩))) (by kernel_rfl),(by simpa using hC),rfl,(fun j u h=>h),fun _ _ _ _ _ _ _=>⟨trivial,trivial⟩⟩
         ·refine op_run (.fieldAddr 38 (.tmp 93) 2) (some 94) (by unfold opIs;kernel_rfl) (.pointer (some ⟨n0+2,2,none⟩)) (w':=w') (fun o ho=>by unfold execOp;rw [ho];simp only [show a.eval (.tmp 93)=(.pointer (some ⟨n0+2,0,none⟩)) from hrd 0 93 (by kernel_rfl) (by kernel_rfl)];go_simp) ?_
          exact ⟨_,congrArg (fun d=>a.put d (.pointer (some ⟨n0+2,2,none⟩))) (by kernel_rfl),(by simpa using hC),rfl,(fun j u h=>h),fun _ _ _ _ _ _ _=>⟨trivial,trivial⟩⟩
         ·refine op_run (.fieldAddr 36 (.tmp 94) 0) (some 95) (by unfold opIs;kernel_rfl) (.pointer (some ⟨n0+2,2,none⟩)) (w':=w') (fun o ho=>by unfold execOp;rw [ho];simp only [show a.eval (.tmp 94)=(.pointer (some ⟨n0+2,2,none⟩)) from hrd 1 94 (by kernel_rfl) (by kernel_rfl)];go_simp) ?_
          exact ⟨_,congrArg (fun d=>a.put d (.pointer (some ⟨n0+2,2,none⟩))) (by kernel_rfl),(by simpa using hC),rfl,(fun j u h=>h),fun _ _ _ _ _ _ _=>⟨trivial,trivial⟩⟩
         ·have o0:=hC.out.cell (j:=2) rfl
          refine op_load 33 (.tmp 95) (some 96) (by unfold opIs;kernel_rfl) _ vS (hrd 2 95 (by kernel_rfl) (by kernel_rfl)) (by go_simp) ?_
          exact ⟨_,congrArg (fun d=>a.put d vS) (by kernel_rfl),(by simpa using hC),rfl,(fun j u h=>h),fun _ _ _ _ _ _ _=>⟨trivial,trivial⟩⟩
         ·refine op_run (.move (.tmp 4)) (some 97) (by unfold opIs;kernel_rfl) (.pointer (some ⟨n0+1,0,none⟩)) (w':=w') (fun o ho=>by unfold execOp;rw [ho];simp only [(hfar 4 (by kernel_rfl)).trans (show _=((.pointer (some ⟨n0+1,0,none⟩)):Value) by kernel_rfl)];go_simp) ?_
          exact ⟨_,congrArg (fun d=>a.put d (.pointer (some ⟨n0+1,0,none⟩))) (by kernel_rfl),(by simpa using hC),rfl,(fun j u h=>h),fun _ _ _ _ _ _ _=>⟨trivial,trivial⟩⟩
         ·have h:=hC
          rw [hsi] at h
          simp only [Bool.false_eq_true,if_false] at h
          refine op_call (.call { callee:=.value (.func 79),args:=#[.tmp 97],argTypes:=#[131] }) (some 98) (by unfold opIs;kernel_rfl) 79 #[(.pointer (some ⟨n0+1,0,none⟩))] (fun o ho=>by unfold execOp;rw [ho];simp only [resolve,List.map_toArray,List.map_cons,List.map_nil,show a.eval (.tmp 97)=(.pointer (some ⟨n0+1,0,none⟩)) from hrd 4 97 (by kernel_rfl) (by kernel_rfl)];go_simp) (K1.out w' h.rd) ?_
          rintro e w'' ⟨rfl,o2,h2⟩
          exact ⟨_,rfl,_,congrArg (fun d=>a.put d _) (by kernel_rfl),(by simpa using h.call o2 h2),rfl,R20.stay h2 (fun k hk=>by cases hk;omega),fun _ _ _ _ _ _ _=>⟨trivial,trivial⟩⟩
         ·refine op_run (.buildSlice 33 1 #[(0,.tmp 98)]) (some 99) (by unfold opIs;kernel_rfl) (.slice (some ⟨w'.heap.size,0,none⟩) 1 1) (w':=w'.alloc (.cells #[(.int .i32 d1)] 34)) (fun o ho=>by unfold execOp;rw [ho];simp only [List.map_toArray,List.map_cons,List.map_nil,show a.eval (.tmp 98)=(.int .i32 d1) from hrd 5 98 (by kernel_rfl) (by kernel_rfl)];go_simp) ?_
          exact ⟨_,congrArg (fun d=>a.put d (.slice (some ⟨w'.heap.size,0,none⟩) 1 1)) (by kernel_rfl),(by simpa using hC.alloc _),⟨_,rfl,HBox.new w' [(.int .i32 d1)] _,hC.sz⟩,R20.stay (grown_alloc w' _) (fun k hk=>by cases hk),fun _ _ _ _ _ _ _=>⟨trivial,trivial⟩⟩
        ·intro st bv w' hall hC hR _
         rw [hall 5 (by omega)] at hC
         simp only [if_true] at hC
         have q2:bv 3=vS:=hR 3 (by omega)
         obtain ⟨gB,q6,hB,hgB⟩:=hR 6 (by omega)
         have HCC:=Lib.hid hC
         have HBB:=Lib.hid hB
         simp only [List.take_succ_cons,List.take_zero,List.drop_succ_cons,List.drop_zero,putL,if_true,Nat.reduceAdd,Act.put,List.getElem_toArray,List.getElem_cons_zero,List.getElem_cons_succ,List.setIfInBounds_toArray,List.set_cons_zero,List.set_cons_succ]
         rw [q2,q6]
         clear hR q2 q6 hall hC hB
         go_upto_region 25 with (at_builtin;refine wpList_append_own_at _ rfl (.tmp 96) (.tmp 99) 33 rfl (n0+3) 34 i0 (.int .i32 0) 1 4 Tryz.underlying33 hi hz0 hz1 hz2 rfl (by decide) _ S.length _ rfl HCC.out.s ⟨gB,0,none⟩ 1 1 [.int .i32 d1] rfl rfl (hbox_cells HBB.out) (fun v hv=>by simp at hv;subst hv;rfl) (by unfold maxLen;have:=HLEN.out;omega) (by have:=HLEN.out;omega) HCC.out.sz ?_;intro v12 w12 ho hg _ _;have hb12:=(HCC.out.row HCC.out.s hg).2.2.1;have p0:=hb12.cell (j:=2) rfl;have pf:=hb12.frozen 2;have ps:=hb12.size;obtain ⟨q12,d12,rfl⟩:=owns_form ho;have HLD12:=Lib.hid (HCC.out.pushS (a:=d1) hg ho);clear ho hg hb12)
         generalize w12.setCell ⟨n0+2,2,none⟩ (.slice q12 (S.length+1) d12)=W13 at HLD12 ⊢
         clear HCC HBB p0 pf ps i0 hi hz0 hz1 hz2
         go_wp2_with fail
         go_round
         case rel=>exact ⟨k3+1,_,rfl,by omega,Lib.hid (by rw [HLAST.out];exact HLD12.out)⟩
         case measure =>
          show m3-((k3:Int)+1).toNat<m3-((k3:Int)).toNat
          omega
       ·obtain rfl:k3=m3:=by omega
        have t4:decide ((k3:Int)<(k3:Int))=false:=decide_eq_false (by omega)
        obtain ⟨S,r6,hq⟩:∃ C r,rrep rday k3 r5=(C,r):=⟨_,_,rfl⟩
        have hlC:=rrep_len rday k3 r5
        rw [hq] at HLD hlC
        simp only at HLD hlC
        have HQ6:=Lib.hid hq
        have HLS:=Lib.hid hlC
        clear hq hlC
        have K1:=HLD.out.rd.day
        obtain ⟨E,r7,hq⟩:∃ m r,rday r6=(m,r):=⟨_,_,rfl⟩
        simp only [hq] at K1
        have K1:=Lib.hid K1
        have HQ7:=Lib.hid hq
        clear hq
        obtain ⟨m4,r8,hq⟩:∃ m r,rmany 2000 2 r7=(m,r):=⟨_,_,rfl⟩
        have K9:=fun (W:World) (h:RM n0 W (n0+1) r7)=>h.many 2000 2 (by omega) (by omega)
        have hm4:=rmany_le 2000 2 r7
        rw [hq] at hm4
        simp only [hq] at K9 hm4
        have K9:=Lib.hid K9
        have HQ8:=Lib.hid hq
        clear hq
        go_upto_region 27 with (go_at_call 79;refine K1.out.mono ?_;rintro e w2 ⟨rfl,o2,h2⟩;have HLD2:=Lib.hid (HLD.out.call o2 h2);have o3:=HLD2.out.out.cell (j:=3) rfl;have f3:=HLD2.out.out.frozen 3;have z3:=HLD2.out.out.size;clear o2 h2)
        have HLD3:=Lib.hid (HLD2.out.setE E)
        generalize w2.setCell ⟨n0+2,3,none⟩ (.int .i32 E)=W3 at HLD3 ⊢
        clear HLD HLD2 K1 o3 f3 z3
        go_wp2_with (go_at_call 77;refine (K9.out _ HLD3.out.rd).mono ?_;rintro e w2 ⟨rfl,o2,h2⟩;have HLD2:=Lib.hid (HLD3.out.call o2 h2);clear o2 h2)
        go_loopw [112] (fun i wx=>∃ (k4:Nat) (vJ:Value) (vs:List Jm),i = .int .i64 (k4:Int)∧k4≤m4∧Hid (LD w n0 wx (rrep rjour k4 r8).2 vC vU vS E vJ C U S vs)∧Hid (vs.map jOf=(rrep rjour k4 r8).1)∧Hid (∀ p ∈ vs,p.2.2.length≤60 ∧ -2147483648≤p.1∧p.1≤2147483647)) (fun i _=>m4-(intOf i).toNat)
        case atStart=>exact ⟨0,_,[],rfl,Nat.zero_le _,HLD2,Lib.hid rfl,Lib.hid (fun p hp=>by cases hp)⟩
        case round =>
         clear HLD3 HLD2 K9 t4
         obtain ⟨k4,vJ,vs,rfl,hk4,HLD,HVS,HP6⟩:=hrel
         rename World=>wr
         by_cases hlt4:k4<m4
         ·have t4:decide ((k4:Int)<(m4:Int))=true:=decide_eq_true (by omega)
          obtain ⟨s,hs⟩:∃ s,(rrep rjour k4 r8).2=s:=⟨_,rfl⟩
          have hlen:=rrep_len rjour k4 r8
          have hlast:=rrep_last rjour k4 r8
          rw [hs] at HLD hlast
          rw [← HVS.out] at hlast hlen
          rw [List.length_map] at hlen
          have HLAST:=Lib.hid hlast
          have HLEN:=Lib.hid hlen
          clear hlast hlen hs HVS
          have K1:=fun (W:World) (h:RM n0 W (n0+1) s)=>h.day
          have hd : -2147483648≤(rday s).1∧(rday s).1≤2147483647:=by
           have h0:(rday s).1=IntKind.i32.wrap (rsig s).1:=by
            unfold rday
            split <;> rfl
           rw [h0,IntKind.wrap_i32]
           omega
          have hj:rjour s=(((rday s).1,(rrep rline (rmany 60 4 (rday s).2).1 (rmany 60 4 (rday s).2).2).1),(rrep rline (rmany 60 4 (rday s).2).1 (rmany 60 4 (rday s).2).2).2):=rfl
          obtain ⟨d1,s1,h1⟩:∃ m r,rday s=(m,r):=⟨_,_,rfl⟩
          simp only [h1] at K1 hd hj
          have K2:=fun (W:World) (h:RM n0 W (n0+1) s1)=>h.many 60 4 (by omega) (by omega)
          have hm5:=rmany_le 60 4 s1
          obtain ⟨m5,s2,h2⟩:∃ m r,rmany 60 4 s1=(m,r):=⟨_,_,rfl⟩
          simp only [h2] at K2 hm5 hj
          have K1:=Lib.hid K1
          have K2:=Lib.hid K2
          have HJ:=Lib.hid hj
          have HDI:=Lib.hid hd
          clear h1 h2 hj hd
          go_upto_region 30 with (go_at_call 79;refine (K1.out _ HLD.out.rd).mono ?_;rintro e w2 ⟨rfl,o2,h2⟩;have HLD2:=Lib.hid (HLD.out.call o2 h2);clear o2 h2)
          have HLJ:Hid (LJ w n0 (w2.alloc (.cells #[.int .i32 d1,.slice none 0 0] 67)) s1 vC vU vS E vJ C U S vs w2.heap.size d1 (.slice none 0 0) []):=Lib.hid (HLD2.out.box [.int .i32 d1,.slice none 0 0] 67).jour
          obtain ⟨Z,hZ⟩:∃ Z,w2.heap.size=Z:=⟨_,rfl⟩
          rw [hZ] at HLJ ⊢
          generalize w2.alloc (.cells #[.int .i32 d1,.slice none 0 0] 67)=W5 at HLJ ⊢
          clear hZ HLD HLD2 K1 t4
          go_wp2_with (go_at_call 77;refine (K2.out _ HLJ.out.ld.rd).mono ?_;rintro e w6 ⟨rfl,o2,h2⟩;have HLJ2:=Lib.hid (HLJ.out.call o2 h2);clear o2 h2)
          go_loopw [119] (fun i wx=>∃ (q:Nat) (vL:Value),i = .int .i64 (q:Int)∧q≤m5∧Hid (LJ w n0 wx (rrep rline q s2).2 vC vU vS E vJ C U S vs Z d1 vL (rrep rline q s2).1)) (fun i _=>m5-(intOf i).toNat)
          case atStart=>exact ⟨0,_,rfl,Nat.zero_le _,HLJ2⟩
          case round =>
           clear HLJ HLJ2 K2
           obtain ⟨q,vL,rfl,hq5,HLJ⟩:=hrel
           rename World=>wr
           by_cases hlt5:q<m5
           ·have t4:decide ((q:Int)<(m5:Int))=true:=decide_eq_true (by omega)
            obtain ⟨sq,hs⟩:∃ s,(rrep rline q s2).2=s:=⟨_,rfl⟩
            have hlen:=rrep_len rline q s2
            have hlast:=rrep_last rline q s2
            obtain ⟨ls,hls⟩:∃ C,(rrep rline q s2).1=C:=⟨_,rfl⟩
            rw [hs,hls] at HLJ hlast
            rw [hls] at hlen
            have e0:=rline_lc sq
            have e9:=rline_rd sq
            have b1:=rnum_le 999999 sq
            have b2:=rnum_le 999 (rnum 999999 sq).2
            have b3:=rnum_le 999 (rnum 999 (rnum 999999 sq).2).2
            have K1:=fun (W:World) (h:RM n0 W (n0+1) sq)=>h.num 999999 (by decide)
            have K2:=fun (W:World) (h:RM n0 W (n0+1) (rnum 999999 sq).2)=>h.num 999 (by decide)
            have K3:=fun (W:World) (h:RM n0 W (n0+1) (rnum 999 (rnum 999999 sq).2).2)=>h.num 999 (by decide)
            have K4:=fun (W:World) (h:RM n0 W (n0+1) (rnum 999 (rnum 999 (rnum 999999 sq).2).2).2)=>h.signed
            obtain ⟨c1,x1,h1⟩:∃ m r,rnum 999999 sq=(m,r):=⟨_,_,rfl⟩
            simp only [h1] at e0 e9 b1 b2 b3 K1 K2 K3 K4
            obtain ⟨c2,x2,h2⟩:∃ m r,rnum 999 x1=(m,r):=⟨_,_,rfl⟩
            simp only [h2] at e0 e9 b2 b3 K2 K3 K4
            obtain ⟨c3,x3,h3⟩:∃ m r,rnum 999 x2=(m,r):=⟨_,_,rfl⟩
            simp only [h3] at e0 e9 b3 K3 K4
            obtain ⟨c4,x4,h4⟩:∃ m r,rsig x3=(m,r):=⟨_,_,rfl⟩
            simp only [h4] at e0 e9 K4
            have u1:IntKind.u32.wrap (c1:Int)=(c1:Int):=by rw [IntKind.wrap_u32];omega
            have u2:IntKind.u16.wrap (c2:Int)=(c2:Int):=by rw [IntKind.wrap_u16];omega
            have u3:IntKind.u16.wrap (c3:Int)=(c3:Int):=by rw [IntKind.wrap_u16];omega
            have HLAST:=Lib.hid hlast
            have HLEN:=Lib.hid hlen
            have E0:=Lib.hid e0
            have E9:=Lib.hid e9
            have K1:=Lib.hid K1
            have K2:=Lib.hid K2
            have K3:=Lib.hid K3
            have K4:=Lib.hid K4
            clear hlast hlen hs hls e0 e9 h1 h2 h3 h4
            go_upto_region 33 with (go_at_call 78;refine (K1.out _ HLJ.out.ld.rd).mono ?_;rintro e w2 ⟨rfl,o2,h2⟩;have HLJ2:=Lib.hid (HLJ.out.call o2 h2);clear o2 h2)
            have HLL:Hid (LL w n0 (w2.alloc (.cells #[.int .u32 (c1:Int),.int .u16 0,.int .u16 0,.int .i64 0] 89)) x1 vC vU vS E vJ C U S vs Z d1 vL ls w2.heap.size [.int .u32 (c1:Int),.int .u16 0,.int .u16 0,.int .i64 0] 89):=Lib.hid (HLJ2.out.boxl [.int .u32 (c1:Int),.int .u16 0,.int .u16 0,.int .i64 0] 89)
            obtain ⟨Y,hY⟩:∃ Z,w2.heap.size=Z:=⟨_,rfl⟩
            rw [hY] at HLL ⊢
            generalize w2.alloc (.cells #[.int .u32 (c1:Int),.int .u16 0,.int .u16 0,.int .i64 0] 89)=W5 at HLL ⊢
            clear hY HLJ HLJ2 K1
            go_upto_region 34 with (go_at_call 78;refine (K2.out _ HLL.out.lj.ld.rd).mono ?_;rintro e w8 ⟨rfl,o2,h2⟩;have HLL2:=Lib.hid (HLL.out.call o2 h2);have z2:=HLL2.out.box.cell (j:=1) rfl;have zf:=HLL2.out.box.frozen 1;have zs:=HLL2.out.box.size;clear o2 h2)
            have HLL3:=Lib.hid (HLL2.out.set 1 (.int .u16 (c2:Int)))
            simp only [List.set_cons_zero,List.set_cons_succ] at HLL3
            generalize w8.setCell ⟨Y,1,none⟩ (.int .u16 (c2:Int))=W9 at HLL3 ⊢
            clear HLL HLL2 z2 zf zs K2
            go_upto_region 35 with (go_at_call 78;refine (K3.out _ HLL3.out.lj.ld.rd).mono ?_;rintro e w8 ⟨rfl,o2,h2⟩;have HLL2:=Lib.hid (HLL3.out.call o2 h2);have z2:=HLL2.out.box.cell (j:=2) rfl;have zf:=HLL2.out.box.frozen 2;have zs:=HLL2.out.box.size;clear o2 h2)
            have HLL4:=Lib.hid (HLL2.out.set 2 (.int .u16 (c3:Int)))
            simp only [List.set_cons_zero,List.set_cons_succ] at HLL4
            generalize w8.setCell ⟨Y,2,none⟩ (.int .u16 (c3:Int))=W9 at HLL4 ⊢
            clear HLL3 HLL2 z2 zf zs K3
            go_upto_region 36 with (go_at_call 80;refine (K4.out _ HLL4.out.lj.ld.rd).mono ?_;rintro e w8 ⟨rfl,o2,h2⟩;have HLL2:=Lib.hid (HLL4.out.call o2 h2);have z2:=HLL2.out.box.cell (j:=3) rfl;have zf:=HLL2.out.box.frozen 3;have zs:=HLL2.out.box.size;clear o2 h2)
            have HLL5:=Lib.hid (HLL2.out.set 3 (.int .i64 c4))
            simp only [List.set_cons_zero,List.set_cons_succ] at HLL5
            generalize w8.setCell ⟨Y,3,none⟩ (.int .i64 c4)=W9 at HLL5 ⊢
            clear HLL4 HLL2 z2 zf zs K4
            have z0:=HLL5.out.box.cell (j:=0) rfl
            have z1:=HLL5.out.box.cell (j:=1) rfl
            have z2:=HLL5.out.box.cell (j:=2) rfl
            have z3:=HLL5.out.box.cell (j:=3) rfl
            have o0:=HLL5.out.lj.box.cell (j:=1) rfl
            obtain ⟨i0,hi,hz0,hz1,hz2⟩:=info_parts infoL
            go_upto_region 37 with (at_builtin;refine wpList_append_own_at _ rfl (.tmp 137) (.tmp 139) 64 rfl (n0+3) 89 i0 (.agg #[.int .u32 0,.int .u16 0,.int .u16 0,.int .i64 0]) 4 16 Tryz.underlying64 hi hz0 hz1 hz2 rfl (by decide) _ ls.length _ rfl (HLL5.out.lj.row.alloc _) ⟨_,0,none⟩ 1 1 [.int .u32 (c1:Int),.int .u16 (c2:Int),.int .u16 (c3:Int),.int .i64 c4] rfl rfl (cells_new _ [.int .u32 (c1:Int),.int .u16 (c2:Int),.int .u16 (c3:Int),.int .i64 c4] _) (fun v hv=>by simp at hv;rcases hv with rfl | rfl | rfl | rfl <;> rfl) (by unfold maxLen;have:=HLEN.out;omega) (by have:=HLEN.out;omega) (by have:=HLL5.out.lj.ld.sz;simp;omega) ?_;intro v12 w12 ho hg _ hat;have hb12:=(HLL5.out.lj.alloc _).box.grown hg (fun e=>HLL5.out.lj.zl e.symm);have p0:=hb12.cell (j:=1) rfl;have pf:=hb12.frozen 1;have ps:=hb12.size;obtain ⟨q12,d12,rfl⟩:=owns_form ho;have HLJ12:=Lib.hid ((HLL5.out.lj.alloc _).push (l:=(rline sq).1) hg (by rw [E0.out];exact ho) (hat.imp id (fun h k hk=>by rw [h] at hk;cases hk;exact Nat.le_refl _)));clear ho hg hb12 hat)
            generalize w12.setCell ⟨Z,1,none⟩ (.slice q12 (ls.length+1) d12)=W13 at HLJ12 ⊢
            clear HLL5 z0 z1 z2 z3 o0 p0 pf ps i0 hi hz0 hz1 hz2
            go_wp2_with fail
            go_round
            case rel=>exact ⟨q+1,_,rfl,by omega,Lib.hid (by rw [HLAST.out,E9.out];exact HLJ12.out)⟩
            case measure =>
             show m5-((q:Int)+1).toNat<m5-((q:Int)).toNat
             omega
           ·obtain rfl:q=m5:=by omega
            have t4:decide ((q:Int)<(q:Int))=false:=decide_eq_false (by omega)
            have hlen:=rrep_len rline q s2
            obtain ⟨ls,s9,hq⟩:∃ C r,rrep rline q s2=(C,r):=⟨_,_,rfl⟩
            rw [hq] at HLJ HJ hlen
            simp only at HLJ HJ hlen
            obtain ⟨rL,cL,rfl⟩:=owns_form HLJ.out.row
            have HLN:=Lib.hid hlen
            clear hq hlen
            have z0:=HLJ.out.box.cell (j:=0) rfl
            have z1:=HLJ.out.box.cell (j:=1) rfl
            have o0:=HLJ.out.ld.out.cell (j:=4) rfl
            obtain ⟨i0,hi,hz0,hz1,hz2⟩:=info_parts infoJ
            go_upto_region 39 with (at_builtin;refine wpList_append_own_at _ rfl (.tmp 144) (.tmp 146) 39 rfl (n0+3) 67 i0 (.agg #[.int .i32 0,.slice none 0 0]) 2 32 Tryz.underlying39 hi hz0 hz1 hz2 rfl (by decide) _ vs.length _ rfl (HLJ.out.ld.j.row.alloc _) ⟨_,0,none⟩ 1 1 [.int .i32 d1,.slice rL ls.length cL] rfl rfl (cells_new _ [.int .i32 d1,.slice rL ls.length cL] _) (fun v hv=>by simp at hv;rcases hv with rfl | rfl <;> rfl) (by unfold maxLen;have:=HLEN.out;omega) (by have:=HLEN.out;omega) (by have:=HLJ.out.ld.sz;simp;omega) ?_;intro v12 w12 ho hg _ _;have hb12:=((HLJ.out.ld.alloc _).row (HLJ.out.ld.j.row.alloc _) hg).2.2.1;have p0:=hb12.cell (j:=4) rfl;have pf:=hb12.frozen 4;have ps:=hb12.size;obtain ⟨q12,d12,rfl⟩:=owns_form ho;have HLD12:=Lib.hid ((HLJ.out.alloc _).done hg ho);clear ho hg hb12)
            generalize w12.setCell ⟨n0+2,4,none⟩ (.slice q12 (vs.length+1) d12)=W13 at HLD12 ⊢
            clear HLJ z0 z1 o0 p0 pf ps i0 hi hz0 hz1 hz2
            go_wp2_with fail
            go_round
            case rel=>exact ⟨k4+1,_,vs ++ [(d1,.slice rL ls.length cL,ls)],rfl,by omega,Lib.hid (by rw [HLAST.out,HJ.out];exact HLD12.out),Lib.hid (by rw [HLAST.out,HJ.out,List.map_append];rfl),Lib.hid (fun p hp=>by
             rcases List.mem_append.1 hp with hp | hp
             ·exact HP6.out p hp
             ·simp only [List.mem_singleton] at hp
              subst hp
              exact ⟨by show ls.length≤60;have:=HLN.out;omega,HDI.out⟩)⟩
            case measure =>
             show m4-((k4:Int)+1).toNat<m4-((k4:Int)).toNat
             omega
         ·obtain rfl:k4=m4:=by omega
          have t4:decide ((k4:Int)<(k4:Int))=false:=decide_eq_false (by omega)
          obtain ⟨J,r9,hq⟩:∃ C r,rrep rjour k4 r8=(C,r):=⟨_,_,rfl⟩
          have hln:=rrep_len rjour k4 r8
          rw [hq] at HLD HVS hln
          simp only at HLD HVS hln
          have hP:rbd r0=((C,U,S,E,J),r9):=by
           unfold rbd rpair rlist
           simp only [HQ1.out,HQ2.out,HQ3.out,HQ4.out,HQ5.out,HQ6.out,HQ7.out,HQ8.out,hq]
          rw [← HR0.out] at hP
          have HBAD:=Lib.hid (fun h=>decB_bad (l:=l) HM.out h)
          have HGOOD:=Lib.hid (fun h=>decB_good (l:=l) HM.out h)
          have HIN:=Lib.hid (fun h=>rbd_in (l:=l) HBY.out h)
          rw [hP] at HBAD HGOOD HIN
          obtain ⟨b9,vb,p1,p2,bk9⟩:=HLD.out.rd
          obtain ⟨rr9,cap9,rfl,_⟩:=p2.form
          have HLN:=Lib.hid hln
          clear hq hln hP
          have x0:=p1.cell0
          have x1:=p1.cell1
          have fx:=p1.frozen 1
          have sx:=p1.size
          have P1:=Lib.hid p1
          have P2:=Lib.hid p2
          have BK9:=Lib.hid bk9
          have B9:=Lib.hid b9
          clear p1 p2 bk9 b9
          by_cases hc:r9.c=0
          case neg =>
           have hde:decE ((C,U,S,E,J),r9)=r9.c:=by unfold decE;rw [if_pos hc]
           have eq0:=HBAD.out (by rw [hde];exact hc)
           rw [hde] at eq0
           obtain ⟨c9,hc9⟩:∃ c,r9.c=c:=⟨_,rfl⟩
           rw [hc9] at x1 eq0 hc
           have EQ:=Lib.hid eq0
           have t5:(c9 == 0)=false:=by rw [beq_eq_false_iff_ne];exact hc
           have t6:(c9 != 0)=true:=by rw [bne_iff_ne];exact hc
           clear eq0 hde hc9
           have y0:=HLD.out.res.cell (j:=0) rfl
           have f0:=HLD.out.res.frozen 0
           have y1:=HLD.out.res.cell (j:=1) rfl
           have f1:=HLD.out.res.frozen 1
           have y2:=HLD.out.res.cell (j:=2) rfl
           have f2:=HLD.out.res.frozen 2
           have y3:=HLD.out.res.cell (j:=3) rfl
           have f3:=HLD.out.res.frozen 3
           have y4:=HLD.out.res.cell (j:=4) rfl
           have f4:=HLD.out.res.frozen 4
           have hs:=HLD.out.res.size
           have HZ:=Lib.hid (HBox.set5 HLD.out.res (.slice none 0 0) (.slice none 0 0) (.slice none 0 0) (.int .i32 0) (.slice none 0 0))
           have HBZ:=Lib.hid (HLD.out.bel.grown (grown_sets5 wr n0 (.slice none 0 0) (.slice none 0 0) (.slice none 0 0) (.int .i32 0) (.slice none 0 0)) (by have:=HLD.out.sz;omega) (fun k hk=>by cases hk;exact Nat.le_refl _))
           go_upto_region 45 with fail
           go_region
           all_goals (try go_wp2_with fail)
           have a0:=HZ.out.cell (j:=0) rfl
           have a1:=HZ.out.cell (j:=1) rfl
           have a2:=HZ.out.cell (j:=2) rfl
           have a3:=HZ.out.cell (j:=3) rfl
           have a4:=HZ.out.cell (j:=4) rfl
           exact bodyPost_ret (v:=.tuple #[.agg #[.slice none 0 0,.slice none 0 0,.slice none 0 0,.int .i32 0,.slice none 0 0],.int .i64 c9]) (by simp [results,Tryz.results42,go_sem,a0,a1,a2,a3,a4]) rfl (dec_zero EQ.out (by rw [HXE.out];exact HBZ.out.drew))
          case pos =>
           rw [hc] at x1
           by_cases hbz:r9.b=[]
           case neg =>
            have hde:decE ((C,U,S,E,J),r9)=4:=by unfold decE;rw [if_neg (by simp [hc]),if_pos hbz]
            have eq0:=HBAD.out (by rw [hde];decide)
            rw [hde] at eq0
            have EQ:=Lib.hid eq0
            have hlp:0<r9.b.length:=List.length_pos_iff.2 hbz
            obtain ⟨L9,hL9⟩:∃ n,r9.b.length=n:=⟨_,rfl⟩
            rw [hL9] at x0 hlp
            have t5:decide ((0:Int)<(L9:Int))=true:=decide_eq_true (by omega)
            have t6:decide (0<L9)=true:=decide_eq_true hlp
            have t7:(L9:Int) > 0:=by omega
            clear eq0 hde hbz hL9
            go_upto_region 41 with fail
            go_upto_region 42 with fail
            have HLD4:=Lib.hid (HLD.out.call (r':=⟨r9.b,4⟩) ⟨B9.out,_,P1.out.set1 4,byc_set P2.out P1.out ⟨_,_,_,rfl⟩,BK9.out⟩ (set_grown wr ⟨n0+1,1,none⟩ (.int .i64 4)))
            have PX:=Lib.hid (P1.out.set1 4)
            generalize wr.setCell ⟨n0+1,1,none⟩ (.int .i64 4)=W14 at HLD4 PX ⊢
            clear x0 x1 fx sx
            have x1:=PX.out.cell1
            have y0:=HLD4.out.res.cell (j:=0) rfl
            have f0:=HLD4.out.res.frozen 0
            have y1:=HLD4.out.res.cell (j:=1) rfl
            have f1:=HLD4.out.res.frozen 1
            have y2:=HLD4.out.res.cell (j:=2) rfl
            have f2:=HLD4.out.res.frozen 2
            have y3:=HLD4.out.res.cell (j:=3) rfl
            have f3:=HLD4.out.res.frozen 3
            have y4:=HLD4.out.res.cell (j:=4) rfl
            have f4:=HLD4.out.res.frozen 4
            have hs:=HLD4.out.res.size
            have HZ:=Lib.hid (HBox.set5 HLD4.out.res (.slice none 0 0) (.slice none 0 0) (.slice none 0 0) (.int .i32 0) (.slice none 0 0))
            have HBZ:=Lib.hid (HLD4.out.bel.grown (grown_sets5 W14 n0 (.slice none 0 0) (.slice none 0 0) (.slice none 0 0) (.int .i32 0) (.slice none 0 0)) (by have:=HLD4.out.sz;omega) (fun k hk=>by cases hk;exact Nat.le_refl _))
            go_upto_region 45 with fail
            go_region
            all_goals (try go_wp2_with fail)
            have a0:=HZ.out.cell (j:=0) rfl
            have a1:=HZ.out.cell (j:=1) rfl
            have a2:=HZ.out.cell (j:=2) rfl
            have a3:=HZ.out.cell (j:=3) rfl
            have a4:=HZ.out.cell (j:=4) rfl
            exact bodyPost_ret (v:=.tuple #[.agg #[.slice none 0 0,.slice none 0 0,.slice none 0 0,.int .i32 0,.slice none 0 0],.int .i64 4]) (by simp [results,Tryz.results42,go_sem,a0,a1,a2,a3,a4]) rfl (dec_zero EQ.out (by rw [HXE.out];exact HBZ.out.drew))
           case pos =>
            rw [hbz] at x0
            have hde:decE ((C,U,S,E,J),r9)=chkB ⟨C,U,S,E⟩ J:=by
             unfold decE
             rw [if_neg (by simp [hc]),if_neg (by simp [hbz])]
             rfl
            have hin:=HIN.out hc
            obtain ⟨rC,cC,rfl⟩:=own_formP HLD.out.c
            obtain ⟨rU,cU,rfl⟩:=own_formP HLD.out.u
            obtain ⟨rS,cS,rfl⟩:=own_formP HLD.out.s
            obtain ⟨rJ,cJ,rfl⟩:=own_formP HLD.out.j.row
            have hvl:vs.length=J.length:=by rw [← HVS.out,List.length_map]
            have hl1:=HLC.out
            have hl2:=HLU.out
            have hl3:=HLS.out
            have hl4:=HLN.out
            have hfi:FrIn ⟨C,U,S,E⟩:=⟨by show C.length≤300;omega,⟨by show U.length≤100;omega,fun x hx=>by have:=hin.2.1.2 x hx;omega⟩,⟨by show S.length≤100;omega,hin.2.2.1.2⟩,hin.2.2.2.1⟩
            have HBND:Hid (C.length≤100000∧U.length≤100000∧S.length≤100000∧vs.length≤100000):=Lib.hid ⟨by omega,by omega,by omega,by omega⟩
            have hFM:FrM ⟨C,U,S,E⟩ (.slice rC C.length cC) (.slice rU U.length cU) (.slice rS S.length cS) wr:=⟨recs_of_ownsP cc_len HLD.out.c rfl HBND.out.1,recs_of_ownsP uc_len HLD.out.u rfl HBND.out.2.1,recs_of_ownsP dcl_len HLD.out.s rfl HBND.out.2.2.1⟩
            have hJM:JRow wr (.slice rJ vs.length cJ) vs:=⟨recs_of_ownsP jc_len HLD.out.j.row rfl HBND.out.2.2.2,fun p hp=>recs_of_ownsP lc_len (HLD.out.j.lines p hp) rfl (by have:=(HP6.out p hp).1;omega)⟩
            have hI9:I wr:=HD.out.stay HI.out (by rw [HXE.out];exact HLD.out.bel)
            have K7:=check10_c HD.out HBC.out ⟨C,U,S,E⟩ (.slice rC C.length cC) (.slice rU U.length cU) (.slice rS S.length cS) (.slice rJ vs.length cJ) vs wr hI9 hFM hfi hJM (by omega) (fun p hp=>⟨by have:=(HP6.out p hp).1;omega,(HP6.out p hp).2⟩)
            unfold bkV at K7
            simp only at K7
            rw [HVS.out] at K7
            obtain ⟨KK,hKK⟩:∃ k,chkB ⟨C,U,S,E⟩ J=k:=⟨_,rfl⟩
            rw [hKK] at K7 hde
            have K7:=Lib.hid K7
            have HDE:=Lib.hid hde
            have o0:=HLD.out.out.cell (j:=0) rfl
            have o1:=HLD.out.out.cell (j:=1) rfl
            have o2:=HLD.out.out.cell (j:=2) rfl
            have o3:=HLD.out.out.cell (j:=3) rfl
            have o4:=HLD.out.out.cell (j:=4) rfl
            clear hde hin hvl hl1 hl2 hl3 hl4 hfi hFM hJM hI9 hKK hbz HIN
            go_upto_region 44 with (go_at_call 81;refine K7.out.mono ?_;rintro e w2 ⟨rfl,h2⟩;have HLD2:=Lib.hid (HLD.out.stay h2);clear x0 x1 fx sx o0 o1 o2 o3 o4;obtain ⟨b8,vb8,p8,q8,bk8⟩:=HLD2.out.rd;obtain ⟨rr8,cap8,rfl,_⟩:=q8.form;have fx:=p8.frozen 1;have sx:=p8.size;have x1:=p8.cell1;have P8:=Lib.hid p8;have Q8:=Lib.hid q8;have B8:=Lib.hid b8;have BK8:=Lib.hid bk8;clear p8 q8 b8 bk8 h2)
            have HLD5:=Lib.hid (HLD2.out.call (r':=⟨r9.b,KK⟩) ⟨B8.out,_,P8.out.set1 KK,byc_set Q8.out P8.out ⟨_,_,_,rfl⟩,BK8.out⟩ (set_grown w2 ⟨n0+1,1,none⟩ (.int .i64 KK)))
            have PX:=Lib.hid (P8.out.set1 KK)
            generalize w2.setCell ⟨n0+1,1,none⟩ (.int .i64 KK)=W15 at HLD5 PX ⊢
            clear x1 fx sx
            have x1:=PX.out.cell1
            by_cases hk:KK=0
            case neg =>
             have eq0:=HBAD.out (by rw [HDE.out];exact hk)
             rw [HDE.out] at eq0
             have EQ:=Lib.hid eq0
             have t6:(KK != 0)=true:=by rw [bne_iff_ne];exact hk
             clear eq0
             have y0:=HLD5.out.res.cell (j:=0) rfl
             have f0:=HLD5.out.res.frozen 0
             have y1:=HLD5.out.res.cell (j:=1) rfl
             have f1:=HLD5.out.res.frozen 1
             have y2:=HLD5.out.res.cell (j:=2) rfl
             have f2:=HLD5.out.res.frozen 2
             have y3:=HLD5.out.res.cell (j:=3) rfl
             have f3:=HLD5.out.res.frozen 3
             have y4:=HLD5.out.res.cell (j:=4) rfl
             have f4:=HLD5.out.res.frozen 4
             have hs:=HLD5.out.res.size
             have HZ:=Lib.hid (HBox.set5 HLD5.out.res (.slice none 0 0) (.slice none 0 0) (.slice none 0 0) (.int .i32 0) (.slice none 0 0))
             have HBZ:=Lib.hid (HLD5.out.bel.grown (grown_sets5 W15 n0 (.slice none 0 0) (.slice none 0 0) (.slice none 0 0) (.int .i32 0) (.slice none 0 0)) (by have:=HLD5.out.sz;omega) (fun k hk=>by cases hk;exact Nat.le_refl _))
             go_upto_region 45 with fail
             go_region
             all_goals (try go_wp2_with fail)
             have a0:=HZ.out.cell (j:=0) rfl
             have a1:=HZ.out.cell (j:=1) rfl
             have a2:=HZ.out.cell (j:=2) rfl
             have a3:=HZ.out.cell (j:=3) rfl
             have a4:=HZ.out.cell (j:=4) rfl
             exact bodyPost_ret (v:=.tuple #[.agg #[.slice none 0 0,.slice none 0 0,.slice none 0 0,.int .i32 0,.slice none 0 0],.int .i64 KK]) (by simp [results,Tryz.results42,go_sem,a0,a1,a2,a3,a4]) rfl (dec_zero EQ.out (by rw [HXE.out];exact HBZ.out.drew))
            case pos =>
             subst hk
             have o0:=HLD5.out.out.cell (j:=0) rfl
             have y0:=HLD5.out.res.cell (j:=0) rfl
             have f0:=HLD5.out.res.frozen 0
             have o1:=HLD5.out.out.cell (j:=1) rfl
             have y1:=HLD5.out.res.cell (j:=1) rfl
             have f1:=HLD5.out.res.frozen 1
             have o2:=HLD5.out.out.cell (j:=2) rfl
             have y2:=HLD5.out.res.cell (j:=2) rfl
             have f2:=HLD5.out.res.frozen 2
             have o3:=HLD5.out.out.cell (j:=3) rfl
             have y3:=HLD5.out.res.cell (j:=3) rfl
             have f3:=HLD5.out.res.frozen 3
             have o4:=HLD5.out.out.cell (j:=4) rfl
             have y4:=HLD5.out.res.cell (j:=4) rfl
             have f4:=HLD5.out.res.frozen 4
             have hs:=HLD5.out.res.size
             have HZ:=Lib.hid (HBox.set5 HLD5.out.res (.slice rC C.length cC) (.slice rU U.length cU) (.slice rS S.length cS) (.int .i32 E) (.slice rJ vs.length cJ))
             have HBZ:=Lib.hid (HLD5.out.bel.grown (grown_sets5 W15 n0 (.slice rC C.length cC) (.slice rU U.length cU) (.slice rS S.length cS) (.int .i32 E) (.slice rJ vs.length cJ)) (by have:=HLD5.out.sz;omega) (fun k hk=>by cases hk;exact Nat.le_refl _))
             have R1:=Lib.hid (own_farP HLD5.out.c (grown_sets5 W15 n0 (.slice rC C.length cC) (.slice rU U.length cU) (.slice rS S.length cS) (.int .i32 E) (.slice rJ vs.length cJ)) (by omega))
             have R2:=Lib.hid (own_farP HLD5.out.u (grown_sets5 W15 n0 (.slice rC C.length cC) (.slice rU U.length cU) (.slice rS S.length cS) (.int .i32 E) (.slice rJ vs.length cJ)) (by omega))
             have R3:=Lib.hid (own_farP HLD5.out.s (grown_sets5 W15 n0 (.slice rC C.length cC) (.slice rU U.length cU) (.slice rS S.length cS) (.int .i32 E) (.slice rJ vs.length cJ)) (by omega))
             have R4:=Lib.hid (own_farP HLD5.out.j.row (grown_sets5 W15 n0 (.slice rC C.length cC) (.slice rU U.length cU) (.slice rS S.length cS) (.int .i32 E) (.slice rJ vs.length cJ)) (by omega))
             have R5:=Lib.hid (fun p hp=>own_farP (HLD5.out.j.lines p hp) (grown_sets5 W15 n0 (.slice rC C.length cC) (.slice rU U.length cU) (.slice rS S.length cS) (.int .i32 E) (.slice rJ vs.length cJ)) (by omega))
             go_wp2_with fail
             have a0:=HZ.out.cell (j:=0) rfl
             have a1:=HZ.out.cell (j:=1) rfl
             have a2:=HZ.out.cell (j:=2) rfl
             have a3:=HZ.out.cell (j:=3) rfl
             have a4:=HZ.out.cell (j:=4) rfl
             refine bodyPost_ret (v:=.tuple #[.agg #[.slice rC C.length cC,.slice rU U.length cU,.slice rS S.length cS,.int .i32 E,.slice rJ vs.length cJ],.int .i64 0]) (by simp [results,Tryz.results42,go_sem,a0,a1,a2,a3,a4]) rfl ?_
             have eg:=HGOOD.out HDE.out
             refine ⟨.slice rC C.length cC,.slice rU U.length cU,.slice rS S.length cS,.slice rJ vs.length cJ,vs,?_,?_,?_,?_,by rw [HXE.out];exact HBZ.out⟩
             ·rw [eg];rfl
             ·rw [eg]
              exact ⟨recs_of_ownsP cc_len R1.out rfl HBND.out.1,recs_of_ownsP uc_len R2.out rfl HBND.out.2.1,recs_of_ownsP dcl_len R3.out rfl HBND.out.2.2.1⟩
             ·exact ⟨recs_of_ownsP jc_len R4.out rfl HBND.out.2.2.2,fun p hp=>recs_of_ownsP lc_len (R5.out p hp) rfl (by have:=(HP6.out p hp).1;omega)⟩
             ·rw [eg];exact HVS.out
end Go.Proofs.YtmpefjnfelfnfaaGreatDoor

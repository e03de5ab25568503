/- Laws 14's and 15's Awake: parse.Parse of the example is reckoned. -/
import Derived.Test.YtjgmbjfijpmhdaaGreatDoorZEwz
import Derived.Test.YtjgmbjfijpmhdaaGreatDoorZEwall
set_option maxRecDepth 100000
set_option maxHeartbeats 2000000
namespace Go.Proofs.YtjgmbjfijpmhdaaGreatDoor
open Go Go.RowKit Go.Lib Ev
set_option linter.unusedVariables false
set_option linter.unusedSimpArgs false
def isI (k:IntKind) (z:Int):Option Value→Bool
 | some (.int k' n)=>decide (k'=k) && decide (n=z)
 | _=>false
theorem isI_eq {k:IntKind} {z:Int} {o:Option Value} (h:isI k z o=true):o=some (.int k z):=by
 unfold isI at h
 split at h
 ·simp only [Bool.and_eq_true,decide_eq_true_eq] at h
  rw [h.1,h.2]
 ·cases h
def exQ (t:Value) (s:St):Bool:=match t with
 | .tuple t=>match t.toList with
  | [.slice (some a) n _,y,z]=>isI .i64 0 (some y) && isI .i64 0 (some z) && decide (n=1) && (match a.spot with | none=>true | some _=>false) && (match get s.es a.block with
   | some (.cells cs _ _ _)=>isI .u32 1 (cs[a.off+1]?).join && isI .u32 2 (cs[a.off+2]?).join && isI .i64 0 (cs[a.off+7]?).join
   | _=>false)
  | _=>false
 | _=>false
def exP:Option (Value × St)→Bool
 | some (v,s)=>exQ v s
 | none=>false
theorem exParse:exP (evG Tryz.prog sp 100000 49 [.string ⟨#[114,101,110,117,109,98,101,114,32,49,32,116,111,32,50,59]⟩] ⟨tabS,[],1000⟩)=true:=by kernel_rfl
theorem exCall (w:World) (hI:InS w):Calls Tryz.prog 49 #[.string ⟨#[114,101,110,117,109,98,101,114,32,49,32,116,111,32,50,59]⟩] w fun e w'=>∃ g off c,e = .returned (.tuple #[.slice (some ⟨g,off,none⟩) 1 c,.int .i64 0,.int .i64 0])∧w'.cell? ⟨g,off+1,none⟩=some (.int .u32 1)∧w'.cell? ⟨g,off+2,none⟩=some (.int .u32 2)∧w'.cell? ⟨g,off+7,none⟩=some (.int .i64 0)∧Below w.heap.size w w':=by
 have h:=exParse
 unfold exP at h
 split at h
 ·rename_i v s' he
  refine (evG_ok sp_ok mixed _ [.string _] _ v s' he (Ev.own w) _ w.heap.size w w #[.string _] (own_in (tabS_ok hI)) (fun n hn=>⟨match w.heap[n]? with | some o=>Ev.cellsIn o | none=>0,by simp only [Ev.own,if_pos hn];rfl⟩) (fun n h1 h2=>?_) (VRl.cons (.string _) (VRl.nil _))).mono ?_
  ·have:¬ n<1000:=by simp only at h1;omega
   simp only [Ev.own,if_neg this]
  ·rintro e w' ⟨y,rfl,_,_,ρ',M',_,_,hJ,_,hy⟩
   clear he hI
   unfold exQ at h
   split at h
   ·rename_i t
    split at h
    ·rename_i a n c y1 y2 ht
     simp only [Bool.and_eq_true,decide_eq_true_eq] at h
     obtain ⟨⟨⟨⟨h1,h2⟩,h3⟩,h4⟩,h5⟩:=h
     have h1:=isI_eq h1
     have h2:=isI_eq h2
     cases h1
     cases h2
     subst h3
     obtain ⟨blk,off,spot⟩:=a
     simp only at h4 h5 ht
     cases spot with
     | some _=>cases h4
     | none =>
      split at h5
      ·rename_i cs e m r hg
       simp only [Bool.and_eq_true] at h5
       obtain ⟨⟨i1,i2⟩,i7⟩:=h5
       have i1:=isI_eq i1
       have i2:=isI_eq i2
       have i7:=isI_eq i7
       have ht':t=#[.slice (some ⟨blk,off,none⟩) 1 c,.int .i64 0,.int .i64 0]:=by apply Array.ext';rw [ht]
       subst ht'
       cases hy with
       | @tuple _ b hsz hel =>
        obtain ⟨bl⟩:=b
        match bl,hsz with
        | [b0,b1,b2],_ =>
         have e0:=hel 0 _ b0 rfl rfl
         have e1:=hel 1 _ b1 rfl rfl
         have e2:=hel 2 _ b2 rfl rfl
         cases e1
         cases e2
         cases e0 with
         | @slice _ k off sp n c c' f1 f2 f3 f4 =>
          obtain ⟨b',k',o,_,_,q1,q2,q3,_⟩:=hJ.see hg rfl
          rw [f1] at q1
          cases q1
          obtain ⟨cc,e',fz,rfl⟩:∃ cc e' fz,o = .cells cc e' fz:=by cases o <;> first | exact ⟨_,_,_,rfl⟩ | exact q3.elim
          obtain ⟨g1,g2,g3,g4,g5⟩:=q3
          have see:∀ i z kk,(cs[off+i]?).join=some (.int kk z)→w'.cell? ⟨k.1,off+i,none⟩=some (.int kk z):=by
           intro i z kk hi
           obtain ⟨v',hv,hr⟩:=g5 _ _ hi
           cases hr
           simp [World.cell?,q2,hv]
          exact ⟨_,_,_,rfl,see 1 _ _ i1,see 2 _ _ i2,see 7 _ _ i7,hJ.bel⟩
      ·cases h5
    ·cases h
   ·cases h
 ·cases h
theorem awake14_ev (w:World) (hI:InS w) :
 Calls Tryz.prog 28 #[] w fun e w'=>e = .returned (.bool true)∧Below w.heap.size w w':=by
 have KA:=hid (fun (w':World) (h:Below w.heap.size w w')=>awake13_ev w' (hI.stay h))
 have KK1:=hid (exCall w hI)
 clear hI
 go_enter Tryz.func28,Tryz.ntmps28
 go_wp2_with (first
  | (go_at_call 50;refine (KA.out _ HB1.out).mono ?_;rintro e w2 ⟨rfl,h2⟩;have HB2:=hid (HB1.out.trans (h2.mono HB1.out.size));clear h2)
  | (go_at_call 49;refine KK1.out.mono ?_;rintro e w1 ⟨g,off,c,rfl,x1,x2,x3,h1⟩;have HB1:=hid h1;clear h1))
 go_ret
 exact ⟨rfl,HB2.out⟩
def rowI (k:IntKind):List Int→List (Option Value)→Bool
 | [],[]=>true
 | z :: l,o :: r=>isI k z o && rowI k l r
 | _,_=>false
def isT (l:List UInt8):Option Value→Bool
 | some (.string b)=>decide (b.data.toList=l)
 | _=>false
def rowT:List (List UInt8)→List (Option Value)→Bool
 | [],[]=>true
 | z :: l,o :: r=>isT z o && rowT l r
 | _,_=>false
def hasRow (s:St) (g:Nat) (q:List (Option Value)→Bool):Bool:=match get s.es g with
 | some (.cells cs _ false _)=>q cs
 | _=>false
theorem rowI_eq {k:IntKind}:∀ {l:List Int} {cs:List (Option Value)},rowI k l cs=true→cs=l.map fun z=>some (.int k z)
 | [],[],_=>rfl
 | z :: l,o :: r,h=>by
  simp only [rowI,Bool.and_eq_true] at h
  rw [isI_eq h.1,rowI_eq h.2];rfl
 | [],_ :: _,h=>by cases h
 | _ :: _,[],h=>by cases h
theorem rowT_eq:∀ {l:List (List UInt8)} {cs:List (Option Value)},rowT l cs=true→cs=l.map fun z=>some (strV z)
 | [],[],_=>rfl
 | z :: l,o :: r,h=>by
  simp only [rowT,Bool.and_eq_true] at h
  have h1:o=some (strV z):=by
   have h1:=h.1
   unfold isT at h1
   split at h1
   ·rename_i b
    have:=of_decide_eq_true h1
    subst this
    rfl
   ·cases h1
  rw [h1,rowT_eq h.2];rfl
 | [],_ :: _,h=>by cases h
 | _ :: _,[],h=>by cases h
theorem row_mem {ρ:Ren} {M:Mem} {s:St} {base:Nat} {w0 w:World} (hI:In ρ M s base w0 w) (hG:GR ρ) {g:Nat} (hg:g<1000) {q:List (Option Value)→Bool} (h:hasRow s g q=true) (xs:List Value) (hq:∀ cs,q cs=true→cs=xs.map some) (hx:∀ v ∈ xs,∀ y,VR ρ v y→y=v):∃ e fz,w.heap[g]?=some (.cells xs.toArray e fz):=by
 unfold hasRow at h
 split at h
 ·rename_i cs e r hs
  obtain ⟨b',k,o,_,_,q1,q2,q3,_⟩:=hI.see hs rfl
  obtain ⟨z,q4⟩:=hG g hg
  rw [q4] at q1
  cases q1
  obtain ⟨cc,e',fz,rfl⟩:∃ cc e' fz,o = .cells cc e' fz:=by cases o <;> first | exact ⟨_,_,_,rfl⟩ | exact q3.elim
  obtain ⟨g1,g2,g3,g4,g5⟩:=q3
  have hc:=hq cs h
  subst hc
  refine ⟨e',fz,?_⟩
  rw [q2]
  have:cc=xs.toArray:=by
   apply Array.ext
   ·have:=g3 rfl;simpa using this
   ·intro i h1 h2
    have h3:i<xs.length:=by simpa using h2
    obtain ⟨v',hv,hr⟩:=g5 i xs[i] (by simp [h3])
    have:=hx _ (List.getElem_mem h3) _ hr
    subst this
    have h4:=(Array.getElem?_eq_some_iff.1 hv).2
    rw [h4]
    simp
  rw [this]
 ·cases h
theorem ints_are {ρ:Ren} {k:IntKind} {l:List Int}:∀ v ∈ l.map (fun z=>Value.int k z),∀ y,VR ρ v y→y=v:=by
 intro v hv y hy
 obtain ⟨z,_,rfl⟩:=List.mem_map.1 hv
 cases hy
 rfl
theorem strs_are {ρ:Ren} {l:List (List UInt8)}:∀ v ∈ l.map strV,∀ y,VR ρ v y→y=v:=by
 intro v hv y hy
 obtain ⟨z,_,rfl⟩:=List.mem_map.1 hv
 unfold strV at hy ⊢
 cases hy
 rfl
def spA:FuncId→List Value→St→Option (Value × St):=fun f args s=>match Nat.beq f 28,args with
 | true,[]=>match hasRow s 6 (rowI .u64 Lib.pow10Tab) && hasRow s 0 (rowI .i64 lens) && hasRow s 2 (rowT wordsL) && hasRow s 1 (rowT linksL) with
  | true=>some (.bool true,s)
  | false=>none
 | _,_=>none
theorem map_some {α:Type} (f:α→Value) (l:List α):(l.map fun z=>some (f z))=(l.map f).map some:=by simp
theorem spA_ok:CallOk Tryz.prog spA:=by
 intro f args s v s' h ρ M base w0 w args' hI hG hF hA
 unfold spA at h
 split at h
 ·rename_i hf
  have:=Nat.eq_of_beq_eq_true hf
  subst this
  split at h
  ·rename_i hc
   cases h
   simp only [Bool.and_eq_true] at hc
   obtain ⟨⟨⟨c1,c2⟩,c3⟩,c4⟩:=hc
   obtain ⟨_,_,m1⟩:=row_mem hI hG (by decide) c1 (Lib.pow10Tab.map fun z=>Value.int .u64 z) (fun cs hq=>(rowI_eq hq).trans (map_some _ _)) ints_are
   obtain ⟨_,_,m2⟩:=row_mem hI hG (by decide) c2 (lens.map fun z=>Value.int .i64 z) (fun cs hq=>(rowI_eq hq).trans (map_some _ _)) ints_are
   obtain ⟨_,_,m3⟩:=row_mem hI hG (by decide) c3 (wordsL.map strV) (fun cs hq=>(rowT_eq hq).trans (map_some _ _)) strs_are
   obtain ⟨_,_,m4⟩:=row_mem hI hG (by decide) c4 (linksL.map strV) (fun cs hq=>(rowT_eq hq).trans (map_some _ _)) strs_are
   have v1:∀ {name:String} {g:Nat} {e:TypeId} {fz:Nat × Nat} {c:Array Value},Tryz.prog.globalNamed name=some g→w.heap[g]?=some (.cells c e fz)→w.var? Tryz.prog name=some c:=by
    intro name g e fz c h1 h2
    unfold World.var?
    rw [h1]
    simp [h2]
   have hS:InS w:=⟨⟨v1 (by kernel_rfl) m1,(Array.getElem?_eq_some_iff.1 m1).1,v1 (by kernel_rfl) m2⟩,⟨v1 (by kernel_rfl) m3,v1 (by kernel_rfl) m4⟩⟩
   have ha:args'=#[]:=flat_args hA rfl
   subst ha
   refine (awake14_ev w hS).mono ?_
   rintro e w' ⟨rfl,hb⟩
   exact ⟨_,rfl,DoneC.later hI hb (.bool true)⟩
  ·cases h
 ·cases h
noncomputable def sp15:FuncId→List Value→St→Option (Value × St):=fun f args s=>match spA f args s with
 | some r=>some r
 | none=>sp f args s
theorem sp15_ok:CallOk Tryz.prog sp15:=by
 intro f args s v s' h
 unfold sp15 at h
 split at h
 ·rename_i r hr;cases h;exact spA_ok f args s v s' hr
 ·exact sp_ok f args s v s' h
theorem awake15_ev (w:World) (hI:InS w):Calls Tryz.prog 9 #[] w fun e w'=>e = .returned (.bool true)∧Below w.heap.size w w':=awake mixed sp15_ok 100000 (by kernel_rfl) (tabS_ok hI)

/- A slice of numbers of 64 bits with a sign, in memory: what it holds, behind a call that makes memory, parts of it, what owns a row of them. -/
import Derived.Test.YtjgmbjfijpmhdaaGreatDoorChecked
import Derived.Test.YtjgmbjfijpmhdaaGreatDoorZOne
import Derived.WalkKit
import Derived.Below
import Derived.OwnWalk
import Derived.Laws.AppendOwn
import Derived.Lib.SliceRun
import Derived.Lib.ItoaMem
import Derived.LoopTactic
import Derived.Maps.AppendAt
import Derived.RegionTactic
import Derived.Deep.RegionWith
import Derived.Deep.OwnRows
import Derived.Test.YtjgmbjfijpmhdaaGreatDoorZTwo
namespace Go.Proofs.YtjgmbjfijpmhdaaGreatDoor
open Go.RowKit
set_option linter.unusedVariables false
set_option linter.unusedSimpArgs false
def Amts (w:World) (v:Value) (zs:List Int):Prop :=
 (∃ r cap,v = .slice r 0 cap∧zs=[]) ∨ ∃ b off cap,v = .slice (some ⟨b,off,none⟩) zs.length cap∧b<w.heap.size∧zs.length≤9223372036854775807∧zs.length≤cap ∧
  ∀ i,i<zs.length→w.cell? ⟨b,off+i,none⟩=some (.int .i64 (zs.getD i 0))∧(Lit.int .i64 (zs.getD i 0)).wf=true
theorem Amts.stay {w w':World} {v:Value} {zs:List Int} (h:Amts w v zs) (hb:Below w.heap.size w w'):Amts w' v zs:=by
 rcases h with h | ⟨b,off,cap,h1,h2,h3,h5,h4⟩
 ·exact .inl h
 ·exact .inr ⟨b,off,cap,h1,Nat.lt_of_lt_of_le h2 hb.size,h3,h5,fun i hi=>⟨by rw [hb.cell (p:=⟨b,off+i,none⟩) h2];exact (h4 i hi).1,(h4 i hi).2⟩⟩
def Nums (k:IntKind) (w:World) (v:Value) (zs:List Int):Prop :=
 (∃ r cap,v = .slice r 0 cap∧zs=[]) ∨ ∃ b off cap,v = .slice (some ⟨b,off,none⟩) zs.length cap∧b<w.heap.size∧zs.length≤9223372036854775807∧zs.length≤cap ∧
  ∀ i,i<zs.length→w.cell? ⟨b,off+i,none⟩=some (.int k (zs.getD i 0))∧(Lit.int k (zs.getD i 0)).wf=true
theorem Nums.stay {k:IntKind} {w w':World} {v:Value} {zs:List Int} (h:Nums k w v zs) (hb:Below w.heap.size w w'):Nums k w' v zs:=by
 rcases h with h | ⟨b,off,cap,h1,h2,h3,h5,h4⟩
 ·exact .inl h
 ·exact .inr ⟨b,off,cap,h1,Nat.lt_of_lt_of_le h2 hb.size,h3,h5,fun i hi=>⟨by rw [hb.cell (p:=⟨b,off+i,none⟩) h2];exact (h4 i hi).1,(h4 i hi).2⟩⟩
theorem owns_stay {w w':World} {base:Nat} {e:TypeId} {size:Nat} {v:Value} {n:Nat} {xs:List Value} (h:w.ownsRow base e size v n xs) (hb:Below w.heap.size w w'):w'.ownsRow base e size v n xs:=by
 refine ⟨h.1,?_⟩
 rcases h.2 with hn | ⟨g,cap,cur,rfl,hg,hgg,rest⟩
 ·exact .inl hn
 ·refine .inr ⟨g,cap,cur,rfl,hg,?_,rest⟩
  rw [hb.block g (Array.getElem?_eq_some_iff.1 hgg).1]
  exact hgg
theorem Amts.form {w:World} {v:Value} {zs:List Int} (h:Amts w v zs):∃ r cap,v = .slice r zs.length cap∧zs.length≤9223372036854775807 ∧
 (0<zs.length → ∃ b off,r=some ⟨b,off,none⟩∧b<w.heap.size∧zs.length≤cap ∧ ∀ i,i<zs.length→w.cell? ⟨b,off+i,none⟩=some (.int .i64 (zs.getD i 0))∧(Lit.int .i64 (zs.getD i 0)).wf=true):=by
 rcases h with ⟨r,cap,rfl,rfl⟩ | ⟨b,off,cap,rfl,hb,hl,hc,hz⟩
 ·exact ⟨r,cap,rfl,by simp,fun h=>by simp at h⟩
 ·exact ⟨_,cap,rfl,hl,fun _=>⟨b,off,rfl,hb,hc,hz⟩⟩
def sumTo (f:Nat→Nat):Nat→Nat
 | 0=>0
 | j+1=>sumTo f j+f j
def bst (G:Nat→Int) (r:Nat→Nat):Nat→Int
 | 0=>-1
 | i+1=>if G i=0∧(bst G r i<0∨r (bst G r i).toNat<r i) then (i:Int) else bst G r i
def give (n:Nat) (r:Nat→Nat):Nat→(Nat→Int)→(Nat→Int)→Option (Nat→Int)
 | 0,_,O=>some O
 | m+1,G,O=>if bst G r n<0 then none else give n r m (fun j=>if j=(bst G r n).toNat then 1 else G j) (fun j=>if j=(bst G r n).toNat then IntKind.u64.wrap (O j+1) else O j)
theorem sumTo_bound (f:Nat→Nat) (c n:Nat) (h:∀ i,i<n→f i≤c):sumTo f n≤n * c:=by
 induction n with
 | zero=>simp [sumTo]
 | succ n ih =>
  have:=ih (fun i hi=>h i (by omega))
  have:=h n (by omega)
  unfold sumTo;rw [Nat.succ_mul];omega
def wOf (zs:List Int) (i:Nat):Nat:=(zs.getD i 0).toNat
structure Ws (w:World) (b off cap:Nat) (zs:List Int):Prop where
 blk:b<w.heap.size
 pos:0<zs.length
 few:zs.length≤8
 cap:zs.length≤cap
 cell:∀ i,i<zs.length→w.cell? ⟨b,off+i,none⟩=some (.int .i64 (wOf zs i:Nat))∧1≤wOf zs i∧wOf zs i≤1000000
theorem Ws.sum {w:World} {b off cap:Nat} {zs:List Int} (h:Ws w b off cap zs) (j:Nat) (hj:j≤zs.length):sumTo (wOf zs) j≤j * 1000000 :=
 sumTo_bound _ _ _ (fun i hi=>(h.cell i (by omega)).2.2)
theorem wrap64_wf (n:Int):(Lit.int .i64 (wrap64 n)).wf=true:=WalkArith.wf_i64 (by rw [w64w];omega)

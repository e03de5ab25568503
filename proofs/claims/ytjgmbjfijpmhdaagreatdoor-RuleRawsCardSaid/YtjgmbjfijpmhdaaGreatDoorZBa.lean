/- Slices of records in memory, whatever the record: what a call owns, parts of one, one that came in. -/
import Derived.WalkKit
import Derived.Carry
import Derived.Deep.Slices
namespace Go.Proofs.YtjgmbjfijpmhdaaGreatDoor
open Go.RowKit
set_option linter.unusedVariables false
set_option linter.unusedSimpArgs false
section
variable {α:Type}
def Recs (enc:α→List Value) (k:Nat) (w:World) (v:Value) (xs:List α):Prop :=
 (∃ r cap,v = .slice r 0 cap∧xs=[]) ∨ ∃ g off cap,v = .slice (some ⟨g,off,none⟩) xs.length cap∧g<w.heap.size∧xs.length≤9223372036854775807∧xs.length≤cap ∧
  ∀ i x,xs[i]?=some x → ∀ j u,(enc x)[j]?=some u→w.cell? ⟨g,off+i * k+j,none⟩=some u
theorem Recs.stay {enc:α→List Value} {k:Nat} {w w':World} {v:Value} {xs:List α} (h:Recs enc k w v xs) (hb:Below w.heap.size w w'):Recs enc k w' v xs:=by
 rcases h with h | ⟨g,off,cap,h1,h2,h3,h4,h5⟩
 ·exact .inl h
 ·exact .inr ⟨g,off,cap,h1,Nat.lt_of_lt_of_le h2 hb.size,h3,h4,fun i x hx j u hu=>by rw [hb.cell (p:=⟨g,off+i * k+j,none⟩) h2];exact h5 i x hx j u hu⟩
theorem flat_get {enc:α→List Value} {k:Nat} (hk:∀ x,(enc x).length=k):∀ {xs:List α} {i j:Nat} {x:α} {u:Value},xs[i]?=some x→(enc x)[j]?=some u→(xs.flatMap enc)[i * k+j]?=some u
 | [],i,j,x,u,h,_=>by simp at h
 | y :: r,0,j,x,u,h,hu=>by
  simp only [List.getElem?_cons_zero,Option.some.injEq] at h
  subst h
  have hj:j<(enc y).length:=(List.getElem?_eq_some_iff.1 hu).1
  rw [List.flatMap_cons,Nat.zero_mul,Nat.zero_add,List.getElem?_append_left hj]
  exact hu
 | y :: r,i+1,j,x,u,h,hu=>by
  simp only [List.getElem?_cons_succ] at h
  rw [List.flatMap_cons,List.getElem?_append_right (by rw [hk,Nat.add_mul];omega),hk,show (i+1) * k+j-k=i * k+j by rw [Nat.add_mul];omega]
  exact flat_get hk h hu
theorem flat_len {enc:α→List Value} {k:Nat} (hk:∀ x,(enc x).length=k):∀ xs:List α,(xs.flatMap enc).length=xs.length * k
 | []=>by simp
 | y :: r=>by rw [List.flatMap_cons,List.length_append,hk,flat_len hk r,List.length_cons,Nat.add_mul];omega
end
theorem box_cell (w:World) (c:Array Value) (T:TypeId) (j:Nat) (v:Value) (hv:c[j]?=some v):(w.alloc (.cells c T)).cell? ⟨w.heap.size,j,none⟩=some v:=by simp [hv]
theorem Recs.at {α:Type} {enc:α→List Value} {k:Nat} {w:World} {r:Option Addr} {n cap:Nat} {xs:List α} (h:Recs enc k w (.slice r n cap) xs) {i:Nat} {x:α} (hx:xs[i]?=some x) :
 ∃ g off,r=some ⟨g,off,none⟩∧g<w.heap.size ∧ ∀ j u,(enc x)[j]?=some u→w.cell? ⟨g,off+i * k+j,none⟩=some u:=by
 rcases h with ⟨r',cap',h1,h2⟩ | ⟨g,off,cap',h1,h2,h3,h4,h5⟩
 ·rw [h2] at hx;simp at hx
 ·cases h1
  exact ⟨g,off,rfl,h2,fun j u hu=>h5 i x hx j u hu⟩
theorem Recs.form {α:Type} {enc:α→List Value} {k:Nat} {w:World} {v:Value} {xs:List α} (h:Recs enc k w v xs):∃ r cap,v = .slice r xs.length cap∧xs.length≤9223372036854775807:=by
 rcases h with ⟨r',cap',h1,h2⟩ | ⟨g,off,cap',h1,h2,h3,h4,h5⟩
 ·rw [h2];exact ⟨r',cap',h1,by simp⟩
 ·exact ⟨_,cap',h1,h3⟩
theorem flat_one {α:Type} {enc:α→List Value} (h:∀ x,∀ v ∈ enc x,v.oneCell'=true) (xs:List α):∀ v ∈ xs.flatMap enc,v.oneCell'=true:=fun v hv=>by
 obtain ⟨x,_,hx⟩:=List.mem_flatMap.1 hv
 exact h x v hx
theorem recs_flat {α:Type} {enc:α→List Value} {k:Nat} (hk:∀ x,(enc x).length=k) (hk0:0<k) {w:World} {g off n cap:Nat} {xs:List α} (h:Recs enc k w (.slice (some ⟨g,off,none⟩) n cap) xs):∀ j u,(xs.flatMap enc)[j]?=some u→w.cell? ⟨g,off+j,none⟩=some u:=by
 intro j u hu
 have hj:j<xs.length * k:=by have:=(List.getElem?_eq_some_iff.1 hu).1;rwa [flat_len hk] at this
 have hi:j / k<xs.length:=(Nat.div_lt_iff_lt_mul hk0).2 hj
 have hm:j % k<k:=Nat.mod_lt _ hk0
 have ex:xs[j / k]?=some xs[j / k]:=List.getElem?_eq_getElem hi
 have hl:j % k<(enc xs[j / k]).length:=by rw [hk];exact hm
 have eu:(enc xs[j / k])[j % k]?=some (enc xs[j / k])[j % k]:=List.getElem?_eq_getElem hl
 have hf:=flat_get hk ex eu
 have hd:j / k * k+j % k=j:=by rw [Nat.mul_comm];exact Nat.div_add_mod j k
 rw [hd,hu] at hf
 obtain ⟨g',off',e,_,hc⟩:=h.at ex
 cases e
 have:=hc _ _ eu
 rw [Nat.add_assoc,hd] at this
 rw [this,hf]
theorem recs_of_owns {α:Type} {enc:α→List Value} {k:Nat} (hk:∀ x,(enc x).length=k) {w:World} {base n:Nat} {e:TypeId} {v:Value} {xs:List α} (h:w.ownsRow base e k v n (xs.flatMap enc)) (hn:n=xs.length) (hm:n≤1000):Recs enc k w v xs:=by
 have hcl:=h.lt
 rcases h.2 with ⟨rfl,h0⟩ | ⟨g,cap,cur,rfl,hb,hg,hnc,hcm,_⟩
 ·have:xs=[]:=List.eq_nil_of_length_eq_zero (by omega)
  subst this
  exact .inl ⟨_,_,rfl,rfl⟩
 ·have hc:=h.cells (g:=g) rfl
  refine .inr ⟨g,0,cap,by rw [hn],(hcl g rfl).2,by omega,by omega,fun i x hx j u hu=>?_⟩
  have:=hc _ _ (flat_get hk hx hu)
  rw [Nat.zero_add]
  have e0:(⟨g,0,none⟩:Addr).add (i * k+j)=⟨g,i * k+j,none⟩:=by simp [Addr.add];intro h1 h2;omega
  rw [e0] at this
  exact this
theorem Recs.drop {α:Type} {enc:α→List Value} {k:Nat} {w:World} {g off n cap:Nat} {xs:List α} (h:Recs enc k w (.slice (some ⟨g,off,none⟩) n cap) xs) (hg:g<w.heap.size) (hn:n=xs.length) (hc:n≤cap) (hm:n≤1000) (i:Nat) (hi:i≤n):Recs enc k w (.slice (some ⟨g,off+i * k,none⟩) (n-i) (cap-i)) (xs.drop i):=by
 refine .inr ⟨g,off+i * k,cap-i,by rw [List.length_drop,hn],hg,by rw [List.length_drop];omega,by rw [List.length_drop];omega,fun j x hx l u hu=>?_⟩
 rw [List.getElem?_drop] at hx
 obtain ⟨g',off',e,_,hcc⟩:=h.at hx
 cases e
 have:=hcc l u hu
 rw [Nat.add_mul] at this
 rw [show off+i * k+j * k+l=off+(i * k+j * k)+l by omega]
 exact this
theorem Recs.take {α:Type} {enc:α→List Value} {k:Nat} {w:World} {g off n cap:Nat} {xs:List α} (h:Recs enc k w (.slice (some ⟨g,off,none⟩) n cap) xs) (hg:g<w.heap.size) (hn:n=xs.length) (hc:n≤cap) (hm:n≤1000) (i:Nat) (hi:i≤n):Recs enc k w (.slice (some ⟨g,off,none⟩) i cap) (xs.take i):=by
 have hl:(xs.take i).length=i:=by rw [List.length_take];omega
 refine .inr ⟨g,off,cap,by rw [hl],hg,by rw [hl];omega,by rw [hl];omega,fun j x hx l u hu=>?_⟩
 have hx':xs[j]?=some x:=by
  rw [List.getElem?_take] at hx
  split at hx
  ·exact hx
  ·cases hx
 obtain ⟨g',off',e,_,hcc⟩:=h.at hx'
 cases e
 exact hcc l u hu
theorem Recs.grown {α:Type} {enc:α→List Value} {k:Nat} {w w':World} {g o n cap m:Nat} {xs:List α} (h:Recs enc k w (.slice (some ⟨g,o,none⟩) n cap) xs) (hg:w.grownBy w' (some m)) (hne:g≠m):Recs enc k w' (.slice (some ⟨g,o,none⟩) n cap) xs:=by
 rcases h with ⟨r',cap',h1,h2⟩ | ⟨g',off,cap',h1,h2,h3,h4,h5⟩
 ·exact .inl ⟨r',cap',h1,h2⟩
 ·cases h1
  exact .inr ⟨g,o,cap,rfl,Nat.lt_of_lt_of_le h2 hg.size,h3,h4,fun i x hx j u hu=>hg.cell (h5 i x hx j u hu) (fun e=>hne (Option.some.inj e))⟩
theorem owns_form {w:World} {base:Nat} {e:TypeId} {size:Nat} {v:Value} {n:Nat} {xs:List Value} (h:w.ownsRow base e size v n xs):∃ r cap,v = .slice r n cap:=by
 rcases h.2 with ⟨rfl,h0⟩ | ⟨g,cap,cur,rfl,_⟩
 ·subst h0;exact ⟨_,_,rfl⟩
 ·exact ⟨_,_,rfl⟩
theorem cells_new (w:World) (cs:List Value) (T:TypeId):∀ j u,cs[j]?=some u→(w.alloc (.cells cs.toArray T)).cell? ((⟨w.heap.size,0,none⟩:Addr).add j)=some u:=fun j u hu=>by
 have e:(⟨w.heap.size,0,none⟩:Addr).add j=⟨w.heap.size,j,none⟩:=by unfold Addr.add;split <;> simp_all
 rw [e]
 exact box_cell w cs.toArray T j u (by simpa using hu)
theorem flat_snoc {α:Type} (enc:α→List Value) (xs:List α) (x:α):(xs ++ [x]).flatMap enc=xs.flatMap enc ++ enc x:=by simp

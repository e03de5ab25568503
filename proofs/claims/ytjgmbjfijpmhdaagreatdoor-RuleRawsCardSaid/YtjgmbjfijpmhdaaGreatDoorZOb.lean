/- More laws for a region that draws its order: three that may come next, operations under a guard, a new pair, pairs loaded and stored. -/
import Derived.Test.YtjgmbjfijpmhdaaGreatDoorZTall
import Derived.Test.YtjgmbjfijpmhdaaGreatDoorChecked
import Derived.Test.YtjgmbjfijpmhdaaGreatDoorZOne
import Derived.Below
namespace Go.Proofs.YtjgmbjfijpmhdaaGreatDoor
open Go.RowKit
set_option linter.unusedVariables false
set_option linter.unusedSimpArgs false
section
variable {P:Program} {md:Region.Mode} {ops:Array Oper} {Q:Exit→Act→World→Prop}
theorem any3 {fuel:Nat} {listed:Array Bool} {a:Act} {w:World} (i j k:Nat) (hr:Region.ready md ops listed=[i,j,k])
 (h:wpOp P ops Q i (wpAny P md ops Q fuel (listed.setIfInBounds i true)) a w)
 (h':wpOp P ops Q j (wpAny P md ops Q fuel (listed.setIfInBounds j true)) a w)
 (h'':wpOp P ops Q k (wpAny P md ops Q fuel (listed.setIfInBounds k true)) a w):wpAny P md ops Q (fuel+1) listed a w :=
 wpAny_all hr (by simp) (fun l hl=>by
  have hl':l=i∨l=j∨l=k:=by simpa using hl
  rcases hl' with rfl | rfl | rfl
  ·exact h
  ·exact h'
  ·exact h'')
def opWants (ops:Array Oper) (a:Act) (i:Nat) (op:Op) (dst:Option Tmp):Prop:=(ops[i]?).map (fun o=>(Region.wanted o (yielded ops a.tmps),o.op,o.dst))=some (true,op,dst)
theorem opw_any {i:Nat} {op:Op} {dst:Option Tmp} {K:Act→World→Prop} {a:Act} {w:World} (ho:opWants ops a i op dst)
 (h:∀ o:Oper,o.op=op→o.dst=dst→o.wp P a w K Q):wpOp P ops Q i K a w:=by
 unfold opWants at ho
 cases hq:ops[i]? with
 | none=>rw [hq] at ho;cases ho
 | some o =>
  rw [hq] at ho
  simp only [Option.map_some,Option.some.injEq,Prod.mk.injEq] at ho
  refine wpOp_step hq (fun K' hK=>?_)
  rw [if_pos ho.1]
  exact Oper.wp_mono hK (h o ho.2.1 ho.2.2)
theorem take_op {i:Nat} {fuel:Nat} {listed:Array Bool} {a:Act} {w:World} (op:Op) (dst:Option Tmp) (v:Value) (ho:opWants ops a i op dst)
 (hs:Region.noSelect ops=true) (hf:Region.free md ops listed i=true) (hr:(Region.ready md ops listed).contains i=true)
 (hQ:∀ c a w,Q (.panic c) (a.put dst v) w→Q (.panic c) a w) (hy:∀ o:Oper,o.op=op → ∀ w,(execOp a.eval o).run P w = .ok (.value v) w)
 (h:wpAny P md ops Q fuel (listed.setIfInBounds i true) (a.put dst v) w):wpAny P md ops Q (fuel+1) listed a w:=by
 unfold opWants at ho
 cases hq:ops[i]? with
 | none=>rw [hq] at ho;cases ho
 | some o =>
  rw [hq] at ho
  simp only [Option.map_some,Option.some.injEq,Prod.mk.injEq] at ho
  obtain ⟨h1,h2,rfl⟩:=ho
  exact wpAny_take (v:=v) hq hs hf hr hQ (Or.inl ⟨h1,hy o h2⟩) h
end
structure Pair (w:World) (b:Nat) (u v:Value):Prop where
 hi:w.cell? ⟨b,0,none⟩=some u
 lo:w.cell? ⟨b,1,none⟩=some v
 fh:w.frozen? ⟨b,0,none⟩=false
 fl:w.frozen? ⟨b,1,none⟩=false
 size:b<w.heap.size
theorem Pair.stay {w w':World} {b:Nat} {u v:Value} (h:Pair w b u v) (hb:Below w.heap.size w w'):Pair w' b u v :=
 ⟨(hb.cell (p:=⟨b,0,none⟩) h.size).trans h.hi,(hb.cell (p:=⟨b,1,none⟩) h.size).trans h.lo,(hb.frozen (p:=⟨b,0,none⟩) h.size).trans h.fh,(hb.frozen (p:=⟨b,1,none⟩) h.size).trans h.fl,Nat.lt_of_lt_of_le h.size hb.size⟩
theorem Pair.drew {w:World} {b:Nat} {u v:Value} (h:Pair w b u v):Pair w.drew b u v:=⟨h.hi,h.lo,h.fh,h.fl,h.size⟩
theorem Pair.new (w:World) (u v:Value) (t:TypeId):Pair (w.alloc (.cells #[u,v] t)) w.heap.size u v:=by
 refine ⟨?_,?_,?_,?_,?_⟩ <;> simp
theorem Pair.set {w:World} {b:Nat} {x y:Int} (h:Pair w b (.int .i64 x) (.int .u64 y)) (x' y':Int):Pair ((w.setCell ⟨b,0,none⟩ (.int .i64 x')).setCell ⟨b,1,none⟩ (.int .u64 y')) b (.int .i64 x') (.int .u64 y'):=by
 have h1:=h.hi
 have h2:=h.lo
 have h3:=h.fh
 have h4:=h.fl
 have h5:=h.size
 exact ⟨by go_simp,by go_simp,by go_simp,by go_simp,by go_simp⟩
theorem bel_new {wr w:World} (h:Below wr.heap.size wr w) (o:Obj):Below wr.heap.size wr (w.alloc o):=h.alloc h.size o
theorem bel_call {wr w w':World} (h:Below wr.heap.size wr w) (hb:Below w.heap.size w w'):Below wr.heap.size wr w':=h.trans (hb.mono h.size)

/- Laws for a region that draws its order, one operation at a time: a long load, a long store, a call by its contract. -/
import Derived.WalkKit
import Derived.RegionTactic
import Derived.Deep.MidRow
namespace Go.Proofs.YtmpefjnfelfnfaaGreatDoor
open Go.RowKit
set_option linter.unusedVariables false
set_option linter.unusedSimpArgs false
section
variable {P : Program} {md : Region.Mode} {ops : Array Oper} {Q : Exit → Act → World → Prop}
theorem any1 {fuel : Nat} {listed : Array Bool} {a : Act} {w : World} (i : Nat) (hr : Region.ready md ops listed = [i])
    (h : wpOp P ops Q i (wpAny P md ops Q fuel (listed.setIfInBounds i true)) a w) : wpAny P md ops Q (fuel + 1) listed a w :=
  wpAny_all hr (by simp) (fun j hj => by
    obtain rfl : j = i := by simpa using hj
    exact h)
theorem any2 {fuel : Nat} {listed : Array Bool} {a : Act} {w : World} (i k : Nat) (hr : Region.ready md ops listed = [i, k])
    (h : wpOp P ops Q i (wpAny P md ops Q fuel (listed.setIfInBounds i true)) a w)
    (h' : wpOp P ops Q k (wpAny P md ops Q fuel (listed.setIfInBounds k true)) a w) : wpAny P md ops Q (fuel + 1) listed a w :=
  wpAny_all hr (by simp) (fun j hj => by
    have hj' : j = i ∨ j = k := by simpa using hj
    rcases hj' with rfl | rfl
    · exact h
    · exact h')
/-- What an operation is, its order apart. -/
def opIs (ops : Array Oper) (i : Nat) (op : Op) (dst : Option Tmp) : Prop := (ops[i]?).map (fun o => (o.guard, o.op, o.dst)) = some (none, op, dst)
theorem opIs.out {i : Nat} {op : Op} {dst : Option Tmp} (h : opIs ops i op dst) : ∃ o, ops[i]? = some o ∧ o.guard = none ∧ o.op = op ∧ o.dst = dst := by
  unfold opIs at h
  cases hq : ops[i]? with
  | none => rw [hq] at h; cases h
  | some o =>
    rw [hq] at h
    simp only [Option.map_some, Option.some.injEq, Prod.mk.injEq] at h
    exact ⟨o, rfl, h.1, h.2.1, h.2.2⟩
theorem op_any {i : Nat} {op : Op} {dst : Option Tmp} {K : Act → World → Prop} {a : Act} {w : World} (ho : opIs ops i op dst)
    (h : ∀ o : Oper, o.op = op → o.dst = dst → o.wp P a w K Q) : wpOp P ops Q i K a w := by
  obtain ⟨o, h1, h2, h3, h4⟩ := ho.out
  refine wpOp_step h1 (fun K' hK => ?_)
  have e : Region.wanted o (yielded ops a.tmps) = true := by simp [Region.wanted, h2]
  rw [if_pos e]
  exact Oper.wp_mono hK (h o h3 h4)
theorem op_load {i : Nat} {K : Act → World → Prop} {a : Act} {w : World} (ty : TypeId) (x : Operand) (dst : Option Tmp) (ho : opIs ops i (.load ty x) dst) (p v : Value) (hx : a.eval x = p)
    (hl : (Instr.loadAt ty p).run P w = .ok v w) (hk : K (a.put dst v) w) : wpOp P ops Q i K a w := by
  refine op_any ho (fun o h1 h2 => ?_)
  subst h2
  unfold Oper.wp execOp
  simp only [h1, hx, Sem.run_bind, hl, Result.andThen_ok]
  exact hk
theorem op_store {i : Nat} {K : Act → World → Prop} {a : Act} {w w' : World} (ty : TypeId) (x y : Operand) (dst : Option Tmp) (ho : opIs ops i (.store ty x y) dst) (p v : Value) (hx : a.eval x = p) (hy : a.eval y = v)
    (hl : (Instr.storeAt ty p v).run P w = .ok () w') (hk : K (a.put dst undef) w') : wpOp P ops Q i K a w := by
  refine op_any ho (fun o h1 h2 => ?_)
  subst h2
  unfold Oper.wp execOp
  simp only [h1, hx, hy, Sem.run_bind, hl, Result.andThen_ok]
  exact hk
theorem op_call {i : Nat} {K : Act → World → Prop} {a : Act} {w : World} (op : Op) (dst : Option Tmp) (ho : opIs ops i op dst) (f : FuncId) (args : Array Value)
    (hrun : ∀ o : Oper, o.op = op → (execOp a.eval o).run P w = .ok (.enter f args) w) {R : Ending → World → Prop} (hc : Calls P f args w R)
    (hk : ∀ e w', R e w' → ∃ v, e = .returned v ∧ K (a.put dst v) w') : wpOp P ops Q i K a w := by
  refine op_any ho (fun o h1 h2 => ?_)
  subst h2
  unfold Oper.wp
  rw [hrun o h1, Oper.upon_enter]
  refine hc.mono fun e w'' hh => ?_
  obtain ⟨v, rfl, hq⟩ := hk e w'' hh
  exact hq
end
end Go.Proofs.YtmpefjnfelfnfaaGreatDoor

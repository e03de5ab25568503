/- Laws for a region that draws its order: an operation under a guard ('&&', '||'). Speaks of any program. -/
import Derived.Test.YtmpefjnfelfnfaaGreatDoorTn
import Derived.Test.YtmpefjnfelfnfaaGreatDoorOa
namespace Go.Proofs.YtmpefjnfelfnfaaGreatDoor
open Go.RowKit
set_option linter.unusedVariables false
set_option linter.unusedSimpArgs false
section
variable {P : Program} {ops : Array Oper} {Q : Exit → Act → World → Prop}
/-- What a guarded operation is, its order apart. -/
def opG (ops : Array Oper) (i : Nat) (gd : Option (Nat × Bool)) (op : Op) (dst : Option Tmp) : Prop := (ops[i]?).map (fun o => (o.guard, o.op, o.dst)) = some (gd, op, dst)
theorem opG.out {i : Nat} {gd : Option (Nat × Bool)} {op : Op} {dst : Option Tmp} (h : opG ops i gd op dst) : ∃ o, ops[i]? = some o ∧ o.guard = gd ∧ o.op = op ∧ o.dst = dst := by
  unfold opG at h
  cases hq : ops[i]? with
  | none => rw [hq] at h; cases h
  | some o =>
    rw [hq] at h
    simp only [Option.map_some, Option.some.injEq, Prod.mk.injEq] at h
    exact ⟨o, rfl, h.1, h.2.1, h.2.2⟩
/-- The guard holds. -/
def gdB (ops : Array Oper) (a : Act) : Option (Nat × Bool) → Prop
  | none => True
  | some (j, b) => yielded ops a.tmps j = some b
theorem anyG {i : Nat} {gd : Option (Nat × Bool)} {op : Op} {dst : Option Tmp} {K : Act → World → Prop} {a : Act} {w : World} (ho : opG ops i gd op dst) (hg : gdB ops a gd)
    (h : ∀ o : Oper, o.op = op → o.dst = dst → o.wp P a w K Q) : wpOp P ops Q i K a w := by
  obtain ⟨o, h1, h2, h3, h4⟩ := ho.out
  refine wpOp_step h1 (fun K' hK => ?_)
  have e : Region.wanted o (yielded ops a.tmps) = true := by
    cases gd with
    | none => simp [Region.wanted, h2]
    | some gd =>
      obtain ⟨j, b⟩ := gd
      have hg' : yielded ops a.tmps j = some b := hg
      simp [Region.wanted, h2, hg']
  rw [if_pos e]
  exact Oper.wp_mono hK (h o h3 h4)
theorem skipG {i j : Nat} {b c : Bool} {op : Op} {dst : Option Tmp} {K : Act → World → Prop} {a : Act} {w : World} (ho : opG ops i (some (j, b)) op dst) (hy : yielded ops a.tmps j = some c) (hne : c ≠ b) (h : K (a.put dst undef) w) : wpOp P ops Q i K a w := by
  obtain ⟨o, h1, h2, h3, h4⟩ := ho.out
  refine wpOp_step h1 (fun K' hK => ?_)
  have e : ¬ Region.wanted o (yielded ops a.tmps) = true := by
    simp [Region.wanted, h2, hy, hne]
  rw [if_neg e, h4]
  exact hK _ _ h
theorem yields {j : Nat} {t : Tmp} {b : Bool} {a : Act} (hd : (ops[j]?).bind (·.dst) = some t) (he : a.eval (.tmp t) = .bool b) : yielded ops a.tmps j = some b := by
  unfold yielded
  rw [hd]
  simp only [Act.eval] at he
  simp only [Option.bind_some]
  cases h : a.tmps[t]? with
  | none => simp [h, undef] at he
  | some v => simp [h] at he; subst he; rfl
theorem runG {i : Nat} {gd : Option (Nat × Bool)} {K : Act → World → Prop} {a : Act} {w w' : World} (op : Op) (dst : Option Tmp) (ho : opG ops i gd op dst) (hg : gdB ops a gd) (v : Value) (hrun : ∀ o : Oper, o.op = op → (execOp a.eval o).run P w = .ok (.value v) w') (hk : K (a.put dst v) w') : wpOp P ops Q i K a w := by
  refine anyG ho hg (fun o h1 h2 => ?_)
  unfold Oper.wp
  rw [hrun o h1]
  subst h2
  exact hk
theorem loadG {i : Nat} {gd : Option (Nat × Bool)} {K : Act → World → Prop} {a : Act} {w : World} (ty : TypeId) (x : Operand) (dst : Option Tmp) (ho : opG ops i gd (.load ty x) dst) (hg : gdB ops a gd) (p v : Value) (hx : a.eval x = p)
    (hl : (Instr.loadAt ty p).run P w = .ok v w) (hk : K (a.put dst v) w) : wpOp P ops Q i K a w := by
  refine anyG ho hg (fun o h1 h2 => ?_)
  subst h2
  unfold Oper.wp execOp
  simp only [h1, hx, Sem.run_bind, hl, Result.andThen_ok]
  exact hk
theorem callG {i : Nat} {gd : Option (Nat × Bool)} {K : Act → World → Prop} {a : Act} {w : World} (op : Op) (dst : Option Tmp) (ho : opG ops i gd op dst) (hg : gdB ops a gd) (f : FuncId) (args : Array Value)
    (hrun : ∀ o : Oper, o.op = op → (execOp a.eval o).run P w = .ok (.enter f args) w) {R : Ending → World → Prop} (hc : Calls P f args w R)
    (hk : ∀ e w', R e w' → ∃ v, e = .returned v ∧ K (a.put dst v) w') : wpOp P ops Q i K a w := by
  refine anyG ho hg (fun o h1 h2 => ?_)
  subst h2
  unfold Oper.wp
  rw [hrun o h1, Oper.upon_enter]
  refine hc.mono fun e w'' hh => ?_
  obtain ⟨v, rfl, hq⟩ := hk e w'' hh
  exact hq
end
end Go.Proofs.YtmpefjnfelfnfaaGreatDoor

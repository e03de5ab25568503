/- A key and how much more, as a record; an array of 128 numbers loaded, stored whole; a load in a region's quiet head; records at an index. -/
import Derived.Test.YtnmnjoleebhhiaaGreatDoorVt
import Derived.Test.YtnmnjoleebhhiaaGreatDoorVn
namespace Go.Proofs.YtnmnjoleebhhiaaGreatDoor
open Go.RowKit Go.Sort
set_option linter.unusedVariables false
set_option linter.unusedSimpArgs false
/-- A key, and how much more. -/
structure Mt where
  k : Kt
  n : Int
  hn : (Lit.int .i64 n).wf = true
def mc (x : Mt) : List Value := [.int .u32 (x.k.a : Int), .int .u16 (x.k.e : Int), .int .u16 (x.k.p : Int), .int .i64 x.n]
def mp (x : Mt) : Kt × Int := (x.k.small, x.n)
theorem mc_len (x : Mt) : (mc x).length = 4 := rfl
/-- The record at an index: its slice's address, its cells. -/
theorem Recs.at {α : Type} {enc : α → List Value} {k : Nat} {w : World} {r : Option Addr} {n cap : Nat} {xs : List α} (h : Recs enc k w (.slice r n cap) xs) {i : Nat} {x : α} (hx : xs[i]? = some x) :
    ∃ g off, r = some ⟨g, off, none⟩ ∧ g < w.heap.size ∧ ∀ j u, (enc x)[j]? = some u → w.cell? ⟨g, off + i * k + j, none⟩ = some u := by
  rcases h with ⟨r', cap', h1, h2⟩ | ⟨g, off, cap', h1, h2, h3, h4, h5⟩
  · rw [h2] at hx; simp at hx
  · cases h1
    exact ⟨g, off, rfl, h2, fun j u hu => h5 i x hx j u hu⟩
theorem Recs.form {α : Type} {enc : α → List Value} {k : Nat} {w : World} {v : Value} {xs : List α} (h : Recs enc k w v xs) : ∃ r cap, v = .slice r xs.length cap ∧ xs.length ≤ 9223372036854775807 := by
  rcases h with ⟨r', cap', h1, h2⟩ | ⟨g, off, cap', h1, h2, h3, h4, h5⟩
  · rw [h2]; exact ⟨r', cap', h1, by simp⟩
  · exact ⟨_, cap', h1, h3⟩
theorem field_hi (a b : Value) (w : World) : (Instr.field 42 (.agg #[a, b]) 0).run Tryz.prog w = .ok a w := by kernel_rfl
theorem field_lo (a b : Value) (w : World) : (Instr.field 42 (.agg #[a, b]) 1).run Tryz.prog w = .ok b w := by kernel_rfl
section
variable {P : Program} {ops : Array Oper} {C : World → Prop} {Q : Act → Prop} {a : Act} {o : Oper} {rest : List Oper}
theorem quiet_load (ty : TypeId) (x : Operand) (hg : o.guard = none) (hop : o.op = .load ty x) (p v : Value) (hx : a.eval x = p) (hl : ∀ w, C w → (Instr.loadAt ty p).run P w = .ok v w) (h : wpQuiet P ops C Q rest (a.put o.dst v)) :
    wpQuiet P ops C Q (o :: rest) a := by
  unfold wpQuiet
  have e : Region.wanted o (yielded ops a.tmps) = true := by simp [Region.wanted, hg]
  rw [if_pos e]
  refine ⟨v, fun w hw => ?_, h⟩
  unfold Oper.quietAt execOp
  simp only [hop, hx, Sem.run_bind, hl w hw, Result.andThen_ok]
  exact ⟨rfl, rfl⟩
end
end Go.Proofs.YtnmnjoleebhhiaaGreatDoor

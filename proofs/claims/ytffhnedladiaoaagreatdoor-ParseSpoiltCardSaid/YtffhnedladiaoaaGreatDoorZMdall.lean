/- Package script: an op's text. -/
import Derived.Test.YtffhnedladiaoaaGreatDoorZMt1
import Derived.Test.YtffhnedladiaoaaGreatDoorZTall
import Derived.OwnWalk
import Derived.Maps.AppendAt
import Derived.Laws.MakeOwn
namespace Go.Proofs.YtffhnedladiaoaaGreatDoor
open Go.RowKit Go.Lib Go.Shelf
set_option linter.unusedVariables false
set_option linter.unusedSimpArgs false
end Go.Proofs.YtffhnedladiaoaaGreatDoor
/- Package script: weights. -/
namespace Go.Proofs.YtffhnedladiaoaaGreatDoor
open Go.RowKit Go.Lib
set_option linter.unusedVariables false
set_option linter.unusedSimpArgs false
def sc (s : List UInt8) : List Value := [strV s]
theorem dec_len (k n : Nat) (h : n < 10 ^ (k + 1)) : (decDigits n).length ≤ k + 1 := by
  revert n
  induction k with
  | zero => intro n hn; rw [decDigits, dif_pos (by simpa using hn)]; simp
  | succ k ih =>
    intro n hn
    rw [decDigits]
    split
    · simp
    · rw [List.length_append]
      have := ih (n / 10) (by rw [Nat.pow_succ] at hn; omega)
      simp; omega
/-- What the region of a round holds, operation by operation. -/
def RW (B : Nat) (v : Value) (p : Nat × Nat) (X : Nat) : Nat → Value → World → Prop
  | 0, u, _ => u = v
  | 1, u, _ => u = .pointer (some ⟨X, 0, none⟩)
  | 2, u, _ => u = .int .u32 (p.1 : Int)
  | 3, u, _ => u = strV (decDigits p.1)
  | 4, u, _ => u = strV (decDigits p.1 ++ [32])
  | 5, u, _ => u = .pointer (some ⟨X, 1, none⟩)
  | 6, u, _ => u = .int .i64 (p.2 : Int)
  | 7, u, _ => u = strV (decDigits p.2)
  | 8, u, _ => u = strV (pT p)
  | _ + 9, u, w => ∃ g, u = .slice (some ⟨g, 0, none⟩) 1 1 ∧ B ≤ g ∧ w.heap[g]? = some (.cells #[strV (pT p)] 9 (0, 0))
theorem RW.stay {B : Nat} {v : Value} {p : Nat × Nat} {X : Nat} {w w' : World} (hb : Below w.heap.size w w') : ∀ (j : Nat) (u : Value), RW B v p X j u w → RW B v p X j u w'
  | 0, _, h => h
  | 1, _, h => h
  | 2, _, h => h
  | 3, _, h => h
  | 4, _, h => h
  | 5, _, h => h
  | 6, _, h => h
  | 7, _, h => h
  | 8, _, h => h
  | _ + 9, _, ⟨g, h1, h2, h3⟩ => ⟨g, h1, h2, (hb.block g (Array.getElem?_eq_some_iff.1 h3).1).trans h3⟩
end Go.Proofs.YtffhnedladiaoaaGreatDoor
/- Package script: what an op's text is put together of. -/
namespace Go.Proofs.YtffhnedladiaoaaGreatDoor
open Go.RowKit Go.Lib Go.Sort
set_option linter.unusedVariables false
set_option linter.unusedSimpArgs false
/-- How much an op holds where the laws ask. -/
structure OpIn (o : Opp) : Prop where
  ok : OkO o
  frm : o.frm < 4294967296
  tgt : o.to < 4294967296
  name : o.name.length ≤ 1000000
  parts : o.parts.length ≤ 1000 ∧ ∀ p ∈ o.parts, p.1 < 4294967296 ∧ p.2 < 9223372036854775808
  starts : o.starts.length ≤ 900
end Go.Proofs.YtffhnedladiaoaaGreatDoor
/- Package script: what an op about periods is put together of. -/
namespace Go.Proofs.YtffhnedladiaoaaGreatDoor
open Go.RowKit Go.Lib Go.Sort
set_option linter.unusedVariables false
set_option linter.unusedSimpArgs false
end Go.Proofs.YtffhnedladiaoaaGreatDoor
/- Package script: an op's text. -/
namespace Go.Proofs.YtffhnedladiaoaaGreatDoor
open Go.RowKit Go.Lib
set_option linter.unusedVariables false
set_option linter.unusedSimpArgs false
theorem digL_lenS : ∀ k n, (digL n k).length = k
  | 0, _ => rfl
  | k + 1, n => by unfold digL; rw [List.length_cons, digL_lenS k]
theorem dayT_len {n : Int} (h : IsDay n) : (dayT n).length = 10 := by
  obtain ⟨y, m, d, _, _, e⟩ := dayT_of h
  rw [e]
  unfold dateL
  simp [digL_lenS]
end Go.Proofs.YtffhnedladiaoaaGreatDoor

/- Scripts in plain words: tokens, read as ops. -/
import Derived.Test.YtffhnedladiaoaaGreatDoorZMsc
import Derived.Test.YtffhnedladiaoaaGreatDoorZLxa
namespace Go.Proofs.YtffhnedladiaoaaGreatDoor
open Go.RowKit
set_option linter.unusedVariables false
set_option linter.unusedSimpArgs false
/-- What reads tokens: an answer and the tokens behind it, or the first error and its token's place. -/
abbrev Rd (α : Type) := List Tk → Except (Nat × Int) (α × List Tk)
def atT (l : List Tk) : Nat := (l.head?.map (·.at_)).getD 0
def isT (k : Nat) (s : List UInt8) : List Tk → Bool
  | t :: _ => t.kind == k && (s == [] || t.text == s)
  | [] => false
def needT (k : Nat) (s : List UInt8) : Rd Tk
  | [] => .error (0, 1)
  | t :: r => if isT k s (t :: r) then .ok (t, r) else .error (t.at_, 1)
def numR (a b : Int) : Rd Nat
  | [] => .error (0, 1)
  | t :: r => if t.kind = 2 then (if t.num < a ∨ b < t.num then .error (t.at_, 5) else .ok (t.num.toNat, r)) else .error (t.at_, 1)
def thenR {α β : Type} (f : Rd α) (g : α → Rd β) : Rd β := fun l => match f l with
  | .error e => .error e
  | .ok (a, r) => g a r
def backR {α : Type} (a : α) : Rd α := fun l => .ok (a, l)
/-- A split's parts: so many may come yet. -/
def partsR : Nat → Rd (List (Nat × Nat))
  | 0 => fun l => .error (atT l, 2)
  | n + 1 => thenR (numR 1 999999) fun c => thenR (numR 1 1000000) fun w => fun l =>
    if isT 5 [44] l then thenR (needT 5 [44]) (fun _ => thenR (partsR n) fun ps => backR ((c, w) :: ps)) l else .ok ([(c, w)], l)
/-- An op behind its word. -/
def opR (k : Nat) : Rd Opp :=
  if k = 7 then fun l => thenR (needT 1 (linkK 7)) (fun _ => thenR (needT 3 []) fun e => backR ⟨7, 0, 0, [], [], (l.takeWhile fun t => t.kind == 3).map (·.day), e.day⟩) (l.dropWhile fun t => t.kind == 3)
  else if k = 1 then thenR (numR 1 999999) fun a => thenR (needT 4 []) fun t => backR ⟨1, a, 0, t.text, [], [], 0⟩
  else if k = 2 then thenR (numR 1 999999) fun a => thenR (needT 1 (linkK 2)) fun _ => thenR (numR 0 999999) fun b => backR ⟨2, a, b, [], [], [], 0⟩
  else if k = 4 then thenR (numR 1 999999) fun a => thenR (needT 1 (linkK 4)) fun _ => thenR (partsR 8) fun ps => backR ⟨4, a, 0, [], ps, [], 0⟩
  else thenR (numR 1 (if k = 5 ∨ k = 6 then 999 else 999999)) fun a => thenR (needT 1 (linkK k)) fun _ => thenR (numR 1 (if k = 5 ∨ k = 6 then 999 else 999999)) fun b => backR ⟨k, a, b, [], [], [], 0⟩
/-- Which kind's word a token is. -/
def kindT (l : List Tk) : Option Nat := (List.range 8).find? fun k => isT 1 (wordK k) l
/-- Ops: so many may come yet. -/
def opsR : Nat → List Tk → Except (Nat × Int) (List (Opp × Nat))
  | 0, l => if isT 0 [] l then .ok [] else .error (atT l, 2)
  | n + 1, l => if isT 0 [] l then .ok [] else match kindT l with
    | none => .error (atT l, 17)
    | some k => match thenR (opR k) (fun o => thenR (needT 5 [59]) fun _ => backR o) l.tail with
      | .error e => .error e
      | .ok (o, r) => match opsR n r with
        | .error e => .error e
        | .ok os => .ok ((o, atT l) :: os)
/-- Parse: a text's ops and where they stand, or where it goes wrong, and why. -/
noncomputable def prsT (s : List UInt8) : List (Opp × Nat) × Nat × Int :=
  if (splT s).2.2 ≠ 0 then ([], (splT s).2.1, (splT s).2.2) else match opsR 100 (splT s).1 with
    | .error e => ([], e.1, e.2)
    | .ok os => (os, 0, 0)
end Go.Proofs.YtffhnedladiaoaaGreatDoor

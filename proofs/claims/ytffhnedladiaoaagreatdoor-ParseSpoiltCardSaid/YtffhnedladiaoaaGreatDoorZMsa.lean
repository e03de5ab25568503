/- Scripts' ops in plain words: their texts; which are the same. -/
import Derived.Test.YtffhnedladiaoaaGreatDoorZLxb
import Derived.Lib.ItoaNum
namespace Go.Proofs.YtffhnedladiaoaaGreatDoor
open Go.RowKit Go.Lib
set_option linter.unusedVariables false
set_option linter.unusedSimpArgs false
/-- An op as chapter 14 may answer it. -/
structure Opp where
  kind : Nat
  frm : Nat
  «to» : Nat
  name : List UInt8
  parts : List (Nat × Nat)
  starts : List Int
  en : Int
def wordK : Nat → List UInt8
  | 0 => [114, 101, 110, 117, 109, 98, 101, 114]
  | 1 => [114, 101, 110, 97, 109, 101]
  | 2 => [114, 101, 112, 97, 114, 101, 110, 116]
  | 3 => [109, 101, 114, 103, 101]
  | 4 => [115, 112, 108, 105, 116]
  | 5 => [114, 101, 99, 111, 100, 101]
  | 6 => [106, 111, 105, 110]
  | 7 => [99, 97, 108, 101, 110, 100, 97, 114]
  | _ => []
def linkK : Nat → List UInt8
  | 0 => [116, 111]
  | 1 => []
  | 2 => [117, 110, 100, 101, 114]
  | 3 => [105, 110, 116, 111]
  | 4 => [105, 110, 116, 111]
  | 5 => [116, 111]
  | 6 => [105, 110, 116, 111]
  | 7 => [117, 110, 116, 105, 108]
  | _ => []
open Classical in
/-- A day's text. -/
noncomputable def dayT (n : Int) : List UInt8 := if h : ∃ y m d, RightD y m d ∧ n = numD y m d then dateL h.choose h.choose_spec.choose h.choose_spec.choose_spec.choose else []
def pT (p : Nat × Nat) : List UInt8 := decDigits p.1 ++ 32 :: decDigits p.2
def moreT (ps : List (Nat × Nat)) : List UInt8 := ps.flatMap fun p => 44 :: 32 :: pT p
def partsT : List (Nat × Nat) → List UInt8
  | [] => []
  | p :: ps => 32 :: (pT p ++ moreT ps)
noncomputable def startsT (ds : List Int) : List UInt8 := ds.flatMap fun d => dayT d ++ [32]
/-- What stands behind an op's word. -/
noncomputable def restO (o : Opp) : List UInt8 :=
  if o.kind = 1 then decDigits o.frm ++ 32 :: 34 :: (o.name ++ [34, 59])
  else if o.kind = 4 then decDigits o.frm ++ 32 :: (linkK 4 ++ (partsT o.parts ++ [59]))
  else if o.kind = 7 then startsT o.starts ++ (linkK 7 ++ 32 :: (dayT o.en ++ [59]))
  else decDigits o.frm ++ 32 :: (linkK o.kind ++ 32 :: (decDigits o.to ++ [59]))
noncomputable def textO (o : Opp) : List UInt8 := wordK o.kind ++ 32 :: restO o
/-- Is there such a day? -/
def IsDay (n : Int) : Prop := ∃ y m d, RightD y m d ∧ n = numD y m d
/-- An op whose fields are those of its kind. -/
structure OkO (o : Opp) : Prop where
  kind : o.kind ≤ 7
  name : (∀ c ∈ o.name, c ≠ 34) ∧ (o.kind ≠ 1 → o.name = [])
  parts : (o.kind = 4 → o.parts ≠ []) ∧ (o.kind ≠ 4 → o.parts = [])
  days : (o.kind = 7 → (∀ d ∈ o.starts, IsDay d) ∧ IsDay o.en) ∧ (o.kind ≠ 7 → o.starts = [] ∧ o.en = 0)
  «to» : (o.kind = 1 ∨ o.kind = 4 ∨ o.kind = 7) → o.to = 0
  frm : o.kind = 7 → o.frm = 0
end Go.Proofs.YtffhnedladiaoaaGreatDoor

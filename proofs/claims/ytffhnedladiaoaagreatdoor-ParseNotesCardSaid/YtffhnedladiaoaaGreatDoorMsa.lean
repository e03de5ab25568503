/- Scripts' ops in plain words: their texts; which are the same. -/
import Derived.Test.YtffhnedladiaoaaGreatDoorLxb
import Derived.Lib.ItoaNum
namespace Go.Proofs.YtffhnedladiaoaaGreatDoor
open Go.RowKit Go.Lib
set_option linter.unusedVariables false
set_option linter.unusedSimpArgs false
/-- An op as chapter 14 may answer it. -/
structure Opp where
  kind : Nat
  frm : Nat
  «to» : Nat
  name : List UInt8
  parts : List (Nat × Nat)
  starts : List Int
  en : Int
def wordK : Nat → List UInt8
  | 0 => [114, 101, 110, 117, 109, 98, 101, 114]
  | 1 => [114, 101, 110, 97, 109, 101]
  | 2 => [114, 101, 112, 97, 114, 101, 110, 116]
  | 3 => [109, 101, 114, 103, 101]
  | 4 => [115, 112, 108, 105, 116]
  | 5 => [114, 101, 99, 111, 100, 101]
  | 6 => [106, 111, 105, 110]
  | 7 => [99, 97, 108, 101, 110, 100, 97, 114]
  | _ => []
def linkK : Nat → List UInt8
  | 0 => [116, 111]
  | 1 => []
  | 2 => [117, 110, 100, 101, 114]
  | 3 => [105, 110, 116, 111]
  | 4 => [105, 110, 116, 111]
  | 5 => [116, 111]
  | 6 => [105, 110, 116, 111]
  | 7 => [117, 110, 116, 105, 108]
  | _ => []
open Classical in
/-- A day's text. -/
noncomputable def dayT (n : Int) : List UInt8 := if h : ∃ y m d, RightD y m d ∧ n = numD y m d then dateL h.choose h.choose_spec.choose h.choose_spec.choose_spec.choose else []
def pT (p : Nat × Nat) : List UInt8 := decDigits p.1 ++ 32 :: decDigits p.2
def moreT (ps : List (Nat × Nat)) : List UInt8 := ps.flatMap fun p => 44 :: 32 :: pT p
def partsT : List (Nat × Nat) → List UInt8
  | [] => []
  | p :: ps => 32 :: (pT p ++ moreT ps)
noncomputable def startsT (ds : List Int) : List UInt8 := ds.flatMap fun d => dayT d ++ [32]
/-- What stands behind an op's word. -/
noncomputable def restO (o : Opp) : List UInt8 :=
  if o.kind = 1 then decDigits o.frm ++ 32 :: 34 :: (o.name ++ [34, 59])
  else if o.kind = 4 then decDigits o.frm ++ 32 :: (linkK 4 ++ (partsT o.parts ++ [59]))
  else if o.kind = 7 then startsT o.starts ++ (linkK 7 ++ 32 :: (dayT o.en ++ [59]))
  else decDigits o.frm ++ 32 :: (linkK o.kind ++ 32 :: (decDigits o.to ++ [59]))
noncomputable def textO (o : Opp) : List UInt8 := wordK o.kind ++ 32 :: restO o
/-- Is there such a day? -/
def IsDay (n : Int) : Prop := ∃ y m d, RightD y m d ∧ n = numD y m d
/-- An op whose fields are those of its kind. -/
structure OkO (o : Opp) : Prop where
  kind : o.kind ≤ 7
  name : (∀ c ∈ o.name, c ≠ 34) ∧ (o.kind ≠ 1 → o.name = [])
  parts : (o.kind = 4 → o.parts ≠ []) ∧ (o.kind ≠ 4 → o.parts = [])
  days : (o.kind = 7 → (∀ d ∈ o.starts, IsDay d) ∧ IsDay o.en) ∧ (o.kind ≠ 7 → o.starts = [] ∧ o.en = 0)
  «to» : (o.kind = 1 ∨ o.kind = 4 ∨ o.kind = 7) → o.to = 0
  frm : o.kind = 7 → o.frm = 0
/-- Where a run of signs of one sort ends. -/
theorem cut_run {p : UInt8 → Bool} {c d : UInt8} {r r' : List UInt8} (hc : p c = false) (hd : p d = false) : ∀ (xs ys : List UInt8), (∀ x ∈ xs, p x = true) → (∀ y ∈ ys, p y = true) → xs ++ c :: r = ys ++ d :: r' → xs = ys ∧ c = d ∧ r = r'
  | [], [], _, _, h => by simp at h; exact ⟨rfl, h.1, h.2⟩
  | [], y :: ys, _, hy, h => by
    simp only [List.nil_append, List.cons_append, List.cons.injEq] at h
    rw [h.1, hy y (by simp)] at hc; cases hc
  | x :: xs, [], hx, _, h => by
    simp only [List.nil_append, List.cons_append, List.cons.injEq] at h
    rw [← h.1, hx x (by simp)] at hd; cases hd
  | x :: xs, y :: ys, hx, hy, h => by
    simp only [List.cons_append, List.cons.injEq] at h
    obtain ⟨e1, e2, e3⟩ := cut_run hc hd xs ys (fun z hz => hx z (by simp [hz])) (fun z hz => hy z (by simp [hz])) h.2
    exact ⟨by rw [h.1, e1], e2, e3⟩
theorem dg_ofNat {k : Nat} (h : k < 10) : digB (UInt8.ofNat (48 + k)) = true ∧ ((UInt8.ofNat (48 + k)).toNat : Int) - 48 = k := by
  have e : (UInt8.ofNat (48 + k)).toNat = 48 + k := by simp; omega
  refine ⟨?_, by omega⟩
  unfold digB
  simp only [Bool.and_eq_true, decide_eq_true_eq, UInt8.le_iff_toNat_le, e]
  have h48 : (48 : UInt8).toNat = 48 := rfl
  have h57 : (57 : UInt8).toNat = 57 := rfl
  omega
theorem numL_add (l : List UInt8) (b : UInt8) : numL (l ++ [b]) = numL l * 10 + ((b.toNat : Int) - 48) := by unfold numL; simp
theorem dec_dig : ∀ n : Nat, (∀ c ∈ decDigits n, digB c = true) ∧ numL (decDigits n) = n ∧ decDigits n ≠ [] := by
  intro n
  induction n using Nat.strongRecOn with
  | _ n ih =>
    rw [decDigits]
    split
    · rename_i h
      obtain ⟨h1, h2⟩ := dg_ofNat h
      refine ⟨fun c hc => by simp at hc; rw [hc]; simpa using h1, ?_, by simp⟩
      unfold numL
      simpa using h2
    · rename_i h
      obtain ⟨a1, a2, a3⟩ := ih (n / 10) (by omega)
      obtain ⟨h1, h2⟩ := dg_ofNat (show n % 10 < 10 by omega)
      refine ⟨fun c hc => ?_, ?_, by simp⟩
      · rcases List.mem_append.1 hc with hc | hc
        · exact a1 c hc
        · simp at hc; rw [hc]; simpa using h1
      · rw [numL_add, a2, h2]; omega
theorem dec_inj {n m : Nat} (h : decDigits n = decDigits m) : n = m := by
  have a := (dec_dig n).2.1
  have b := (dec_dig m).2.1
  rw [h] at a
  omega
/-- A number, and what stands behind it. -/
theorem cut_num {n m : Nat} {c d : UInt8} {r r' : List UInt8} (hc : digB c = false) (hd : digB d = false) (h : decDigits n ++ c :: r = decDigits m ++ d :: r') : n = m ∧ c = d ∧ r = r' := by
  obtain ⟨e1, e2, e3⟩ := cut_run hc hd _ _ (dec_dig n).1 (dec_dig m).1 h
  exact ⟨dec_inj e1, e2, e3⟩
theorem cut_part {p q : Nat × Nat} {c d : UInt8} {r r' : List UInt8} (hc : digB c = false) (hd : digB d = false) (h : pT p ++ c :: r = pT q ++ d :: r') : p = q ∧ c = d ∧ r = r' := by
  unfold pT at h
  rw [List.append_assoc, List.append_assoc, List.cons_append, List.cons_append] at h
  obtain ⟨e1, _, h2⟩ := cut_num (by decide) (by decide) h
  obtain ⟨e2, e3, e4⟩ := cut_num hc hd h2
  exact ⟨Prod.ext e1 e2, e3, e4⟩
theorem more_head (ps : List (Nat × Nat)) (r : List UInt8) : ∃ c x, moreT ps ++ 59 :: r = c :: x ∧ digB c = false := by
  cases ps with
  | nil => exact ⟨59, r, rfl, by decide⟩
  | cons p ps => exact ⟨44, _, rfl, by decide⟩
theorem cut_more : ∀ (ps qs : List (Nat × Nat)) (r r' : List UInt8), moreT ps ++ 59 :: r = moreT qs ++ 59 :: r' → ps = qs ∧ r = r'
  | [], [], r, r', h => by unfold moreT at h; simp at h; exact ⟨rfl, h⟩
  | [], q :: qs, r, r', h => by unfold moreT at h; simp at h
  | p :: ps, [], r, r', h => by unfold moreT at h; simp at h
  | p :: ps, q :: qs, r, r', h => by
    have e : ∀ (p : Nat × Nat) (ps : List (Nat × Nat)) (r : List UInt8), moreT (p :: ps) ++ 59 :: r = 44 :: 32 :: (pT p ++ (moreT ps ++ 59 :: r)) := fun p ps r => by unfold moreT; simp
    rw [e, e] at h
    simp only [List.cons.injEq, true_and] at h
    obtain ⟨c, x, h1, hc⟩ := more_head ps r
    obtain ⟨d, y, h2, hd⟩ := more_head qs r'
    rw [h1, h2] at h
    obtain ⟨e1, e2, e3⟩ := cut_part hc hd h
    rw [e2, e3, ← h2] at h1
    obtain ⟨e4, e5⟩ := cut_more ps qs r r' h1
    exact ⟨by rw [e1, e4], e5⟩
theorem cut_parts {ps qs : List (Nat × Nat)} {r r' : List UInt8} (hp : ps ≠ []) (hq : qs ≠ []) (h : partsT ps ++ 59 :: r = partsT qs ++ 59 :: r') : ps = qs ∧ r = r' := by
  cases ps with
  | nil => exact absurd rfl hp
  | cons p ps =>
    cases qs with
    | nil => exact absurd rfl hq
    | cons q qs =>
      unfold partsT at h
      rw [List.cons_append, List.cons_append, List.append_assoc, List.append_assoc] at h
      simp only [List.cons.injEq, true_and] at h
      obtain ⟨c, x, h1, hc⟩ := more_head ps r
      obtain ⟨d, y, h2, hd⟩ := more_head qs r'
      rw [h1, h2] at h
      obtain ⟨e1, e2, e3⟩ := cut_part hc hd h
      rw [e2, e3, ← h2] at h1
      obtain ⟨e4, e5⟩ := cut_more ps qs r r' h1
      exact ⟨by rw [e1, e4], e5⟩
end Go.Proofs.YtffhnedladiaoaaGreatDoor

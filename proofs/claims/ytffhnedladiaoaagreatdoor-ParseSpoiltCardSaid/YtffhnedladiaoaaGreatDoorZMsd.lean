/- Scripts' ops in plain words: what an op's text is put together of; the ops that law 13 makes. -/
import Derived.Test.YtffhnedladiaoaaGreatDoorZMsc
import Derived.Test.YtffhnedladiaoaaGreatDoorZJall
import Derived.Test.YtffhnedladiaoaaGreatDoorZCall
import Derived.Lib.Join
namespace Go.Proofs.YtffhnedladiaoaaGreatDoor
open Go.RowKit Go.Lib
set_option linter.unusedVariables false
set_option linter.unusedSimpArgs false
/-- Law 13's text grows part by part, day by day. -/
theorem partsT_next {ps : List (Nat × Nat)} {k : Nat} {p : Nat × Nat} (h : ps[k]? = some p) : partsT (ps.take (k + 1)) = partsT (ps.take k) ++ ((if k = 0 then [] else [44]) ++ 32 :: pT p) := by
  obtain ⟨hk, e⟩ := List.getElem?_eq_some_iff.1 h
  cases ps with
  | nil => simp at hk
  | cons q qs =>
    cases k with
    | zero => simp at e; subst e; simp [partsT, moreT]
    | succ k =>
      have h' : qs[k]? = some p := by simpa using h
      rw [List.take_succ_cons, List.take_succ_cons]
      have hm : moreT (qs.take (k + 1)) = moreT (qs.take k) ++ 44 :: 32 :: pT p := by
        unfold moreT
        rw [List.take_add_one, h', List.flatMap_append]
        simp
      simp [partsT, hm]
noncomputable def blankT (ds : List Int) : List UInt8 := ds.flatMap fun d => 32 :: dayT d
theorem blankT_next {ds : List Int} {k : Nat} {d : Int} (h : ds[k]? = some d) : blankT (ds.take (k + 1)) = blankT (ds.take k) ++ 32 :: dayT d := by
  unfold blankT
  rw [List.take_add_one, h, List.flatMap_append]
  simp
theorem blankT_rest (ds : List Int) (x : List UInt8) : blankT ds ++ 32 :: x = 32 :: (startsT ds ++ x) := by
  unfold blankT startsT
  induction ds with
  | nil => rfl
  | cons d ds ih =>
    rw [List.flatMap_cons, List.flatMap_cons, List.append_assoc, ih]
    simp
theorem isDay_of {n : Int} (h1 : -719162 ≤ n) (h2 : n ≤ 2932896) : IsDay n := by
  obtain ⟨y, m, d, h3, h4⟩ := num_some h1 h2
  exact ⟨y, m, d, h3, h4.symm⟩
/-- An op by small numbers. -/
structure On where
  kind : Nat
  a : Nat
  b : Nat
  name : Nat
  parts : List (Nat × Nat)
  first : Int
  long : List Nat
def rawP (x : On) : List (Nat × Nat) := (1 + x.b, 1) :: (x.parts.take 7).map fun p => (1 + p.1, 1 + p.2 % 1000000)
def rawO (x : On) : Opp where
  kind := x.kind % 8
  frm := if x.kind % 8 = 7 then 0 else 1 + x.a
  «to» := if x.kind % 8 = 1 ∨ x.kind % 8 = 4 ∨ x.kind % 8 = 7 then 0 else if x.kind % 8 = 2 then x.b else 1 + x.b
  name := if x.kind % 8 = 1 then (nm5 (x.name % 5)).data.toList else []
  parts := if x.kind % 8 = 4 then rawP x else []
  starts := if x.kind % 8 = 7 then mkS x.first x.long else []
  en := if x.kind % 8 = 7 then mkE x.first x.long else 0
/-- Small numbers that an op may hold. -/
structure OnIn (x : On) : Prop where
  kind : x.kind < 256
  a : x.a < 256
  b : x.b < 256
  name : x.name < 256
  parts : ∀ p ∈ x.parts, p.1 < 256 ∧ p.2 < 4294967296
  first : -32768 ≤ x.first ∧ x.first ≤ 32767
theorem nm5_good : ∀ k : Fin 5, ∀ c ∈ (nm5 k.val).data.toList, c ≠ 34 ∧ c ≠ 59 ∧ c ≠ 10 := by decide
theorem raw_ok {x : On} (h : OnIn x) : OkO (rawO x) ∧ ∀ c ∈ (rawO x).name, c ≠ 59 ∧ c ≠ 10 := by
  have hk : x.kind % 8 < 8 := Nat.mod_lt _ (by omega)
  have hn : ∀ c ∈ (rawO x).name, c ≠ 34 ∧ c ≠ 59 ∧ c ≠ 10 := fun c hc => by
    unfold rawO at hc
    simp only at hc
    split at hc
    · exact nm5_good ⟨x.name % 5, Nat.mod_lt _ (by omega)⟩ c hc
    · cases hc
  refine ⟨⟨?_, ⟨fun c hc => (hn c hc).1, fun k => ?_⟩, ⟨fun k => ?_, fun k => ?_⟩, ⟨fun k => ?_, fun k => ?_⟩, fun k => ?_, fun k => ?_⟩, fun c hc => (hn c hc).2⟩
  · show x.kind % 8 ≤ 7; omega
  · have k : ¬ x.kind % 8 = 1 := k
    show (if x.kind % 8 = 1 then _ else _) = _; rw [if_neg k]
  · have k : x.kind % 8 = 4 := k
    show (if x.kind % 8 = 4 then _ else _) ≠ _; rw [if_pos k]; simp [rawP]
  · have k : ¬ x.kind % 8 = 4 := k
    show (if x.kind % 8 = 4 then _ else _) = _; rw [if_neg k]
  · have k' : x.kind % 8 = 7 := k
    have hE := mkE_le x.first x.long
    have hf := h.first
    refine ⟨fun d hd => ?_, ?_⟩
    · have hd' : d ∈ (if x.kind % 8 = 7 then mkS x.first x.long else []) := hd
      rw [if_pos k'] at hd'
      have := mkS_mem hd'
      exact isDay_of (by omega) (by omega)
    · show IsDay (if x.kind % 8 = 7 then mkE x.first x.long else 0)
      rw [if_pos k']
      exact isDay_of (by omega) (by omega)
  · have k' : ¬ x.kind % 8 = 7 := k
    exact ⟨show (if x.kind % 8 = 7 then _ else _) = _ by rw [if_neg k'], show (if x.kind % 8 = 7 then _ else _) = _ by rw [if_neg k']⟩
  · have k : x.kind % 8 = 1 ∨ x.kind % 8 = 4 ∨ x.kind % 8 = 7 := k
    show (if x.kind % 8 = 1 ∨ x.kind % 8 = 4 ∨ x.kind % 8 = 7 then _ else _) = _
    rw [if_pos k]
  · have k : x.kind % 8 = 7 := k
    show (if x.kind % 8 = 7 then _ else _) = _
    rw [if_pos k]
end Go.Proofs.YtffhnedladiaoaaGreatDoor

/- Scripts in plain words: two texts with a line feed between; tokens printed again. -/
import Derived.Test.YtffhnedladiaoaaGreatDoorZLxa
namespace Go.Proofs.YtffhnedladiaoaaGreatDoor
open Go.RowKit
set_option linter.unusedVariables false
set_option linter.unusedSimpArgs false
theorem tw_app {p : UInt8 → Bool} {x : UInt8} (h : p x = false) (b : List UInt8) : ∀ s : List UInt8, (s ++ x :: b).takeWhile p = s.takeWhile p
  | [] => by simp [List.takeWhile_cons, h]
  | c :: r => by
    rw [List.cons_append, List.takeWhile_cons, List.takeWhile_cons, tw_app h b r]
theorem tw_self {p : UInt8 → Bool} : ∀ (s : List UInt8), (∀ c ∈ s, p c = true) → s.takeWhile p = s
  | [], _ => rfl
  | c :: r, h => by
    rw [List.takeWhile_cons, if_pos (h c (by simp)), tw_self r (fun x hx => h x (by simp [hx]))]
theorem tw_all {p : UInt8 → Bool} {x : UInt8} (h : p x = false) (b : List UInt8) (s : List UInt8) (hs : ∀ c ∈ s, p c = true) : (s ++ x :: b).takeWhile p = s := by
  rw [tw_app h, tw_self s hs]
theorem tw_mem {p : UInt8 → Bool} {s : List UInt8} {c : UInt8} (h : c ∈ s.takeWhile p) : p c = true := List.all_eq_true.1 List.all_takeWhile c h
theorem head_app {s : List UInt8} (h : s ≠ []) (t : List UInt8) : (s ++ t).head? = s.head? := by
  cases s with
  | nil => exact absurd rfl h
  | cons c r => rfl
/-- A token's bytes as they are printed again. -/
def bodyT (t : Tk) : List UInt8 := if t.kind = 4 then 34 :: (t.text ++ [34]) else t.text
theorem low_not {b : UInt8} (h : lowB b = true) : b ≠ 32 ∧ b ≠ 10 ∧ b ≠ 35 := by
  refine ⟨?_, ?_, ?_⟩ <;> (rintro rfl; exact absurd h (by decide))
theorem oneF_again {s : List UInt8} {t : Tk} {n : Nat} (h : oneF s = .ok (t, n)) (rest : List UInt8) :
    oneF (bodyT t ++ 32 :: rest) = .ok (t, (bodyT t).length) ∧ (bodyT t).length = n ∧ t.at_ = 0 ∧ t.kind ≠ 0 ∧ ∃ c r, bodyT t = c :: r ∧ c ≠ 32 ∧ c ≠ 10 ∧ c ≠ 35 := by
  unfold oneF at h
  split at h
  · rename_i h1
    cases h
    have e : (s.takeWhile lowB ++ 32 :: rest).takeWhile lowB = s.takeWhile lowB := tw_all (by decide) rest _ (fun c hc => tw_mem hc)
    refine ⟨?_, rfl, rfl, (by show (_ : Nat) ≠ 0; simp), ?_⟩
    · show oneF (s.takeWhile lowB ++ 32 :: rest) = _
      unfold oneF
      rw [e, if_pos h1]
      rfl
    · show ∃ c r, s.takeWhile lowB = c :: r ∧ _
      cases hs : s.takeWhile lowB with
      | nil => exact absurd hs h1
      | cons c r => exact ⟨c, r, rfl, low_not (tw_mem (s := s) (by rw [hs]; simp))⟩
  · rename_i h1
    split at h
    · rename_i h2
      obtain ⟨T, hT⟩ : ∃ T, s.takeWhile dimB = T := ⟨_, rfl⟩
      have hTm : ∀ c ∈ T, dimB c = true := fun c hc => tw_mem (s := s) (by rw [hT]; exact hc)
      have hTh : T.head? = s.head? := by
        rw [← hT]
        cases s with
        | nil => rfl
        | cons c r =>
          rw [List.takeWhile_cons]
          split
          · rfl
          · rename_i hd
            rw [List.takeWhile_cons, if_neg hd] at h2
            exact absurd rfl h2.1
      rw [hT] at h h2
      obtain ⟨c, r, hcr⟩ : ∃ c r, T = c :: r := by
        cases T with
        | nil => exact absurd rfl h2.1
        | cons c r => exact ⟨c, r, rfl⟩
      have hc45 : c ≠ 45 := by
        rintro rfl
        rw [hcr] at hTh
        exact h2.2 hTh.symm
      have hcd : digB c = true := by
        have := hTm c (by rw [hcr]; simp)
        unfold dimB at this
        rcases Bool.or_eq_true _ _ ▸ this with h | h
        · exact h
        · exact absurd (beq_iff_eq.1 h) hc45
      have hcl : lowB c = false := by
        unfold digB at hcd
        unfold lowB
        simp only [Bool.and_eq_true, decide_eq_true_eq, Bool.and_eq_false_iff, decide_eq_false_iff_not] at hcd ⊢
        left
        intro h
        have := UInt8.le_trans h hcd.2
        exact absurd this (by decide)
      have hcn : c ≠ 32 ∧ c ≠ 10 ∧ c ≠ 35 := by
        refine ⟨?_, ?_, ?_⟩ <;> (rintro rfl; exact absurd hcd (by decide))
      have e1 : (T ++ 32 :: rest).takeWhile lowB = [] := by rw [hcr, List.cons_append, List.takeWhile_cons, hcl]; rfl
      have e2 : (T ++ 32 :: rest).takeWhile dimB = T := tw_all (by decide) rest _ hTm
      have e3 : (T ++ 32 :: rest).head? = s.head? := by rw [head_app h2.1, hTh]
      have key : oneF (T ++ 32 :: rest) = (if (45 : UInt8) ∈ T then
          match dayOf T with
          | none => .error 13
          | some d => .ok (⟨3, T, 0, d, 0⟩, T.length)
        else if 7 < T.length ∨ (1 < T.length ∧ s.head? = some 48) then .error 5
        else .ok (⟨2, T, numL T, 0, 0⟩, T.length)) := by
        conv => lhs; unfold oneF
        rw [e1, e2, e3, if_neg (by simp), if_pos h2]
        rfl
      split at h
      · rename_i h3
        split at h
        · cases h
        · rename_i d hd
          cases h
          refine ⟨?_, rfl, rfl, (by show (_ : Nat) ≠ 0; simp), c, r, hcr, hcn⟩
          show oneF (T ++ 32 :: rest) = _
          rw [key, if_pos h3, hd]
          rfl
      · rename_i h3
        split at h
        · cases h
        · rename_i h4
          cases h
          refine ⟨?_, rfl, rfl, (by show (_ : Nat) ≠ 0; simp), c, r, hcr, hcn⟩
          show oneF (T ++ 32 :: rest) = _
          rw [key, if_neg h3, if_neg h4]
          rfl
    · split at h
      · cases h
      · rename_i _ c r _
        split at h
        · rename_i h4
          cases h
          refine ⟨?_, rfl, rfl, (by show (_ : Nat) ≠ 0; simp), c, [], rfl, ?_⟩
          · show oneF (c :: 32 :: rest) = _
            unfold oneF
            rcases h4 with rfl | rfl <;> simp [List.takeWhile_cons, lowB, dimB, digB, bodyT]
          · rcases h4 with rfl | rfl <;> decide
        · split at h
          · rename_i h4 h5
            split at h
            · rename_i h6
              cases h
              obtain ⟨q, hq⟩ : ∃ q, r.takeWhile inQ = q := ⟨_, rfl⟩
              have hqm : ∀ x ∈ q, inQ x = true := fun x hx => tw_mem (s := r) (by rw [hq]; exact hx)
              rw [hq]
              refine ⟨?_, by simp [bodyT], rfl, (by show (4 : Nat) ≠ 0; simp), 34, q ++ [34], rfl, by decide⟩
              show oneF ((34 :: (q ++ [34])) ++ 32 :: rest) = _
              have e : (34 :: (q ++ [34])) ++ 32 :: rest = 34 :: (q ++ 34 :: 32 :: rest) := by simp
              rw [e]
              unfold oneF
              have e1 : (q ++ 34 :: 32 :: rest).takeWhile inQ = q := tw_all (by decide) _ _ hqm
              have e2 : ((34 : UInt8) :: (q ++ 34 :: 32 :: rest)).takeWhile lowB = [] := by rw [List.takeWhile_cons]; rfl
              have e3 : ((34 : UInt8) :: (q ++ 34 :: 32 :: rest)).takeWhile dimB = [] := by rw [List.takeWhile_cons]; rfl
              have e4 : (q ++ 34 :: 32 :: rest).drop q.length = 34 :: 32 :: rest := by rw [List.drop_append_of_le_length (Nat.le_refl _), List.drop_length]; rfl
              rw [e2, e3, if_neg (by simp), if_neg (by simp)]
              simp only [e1, e4]
              simp [bodyT]
            · cases h
          · cases h
theorem oneF_ne {s : List UInt8} {e : Int} (h : oneF s = .error e) : e ≠ 0 := by
  unfold oneF at h
  split at h
  · cases h
  · split at h
    · split at h
      · split at h
        · cases h; decide
        · cases h
      · split at h
        · cases h; decide
        · cases h
    · split at h
      · cases h; decide
      · split at h
        · cases h
        · split at h
          · split at h
            · cases h
            · cases h; decide
          · cases h; decide
end Go.Proofs.YtffhnedladiaoaaGreatDoor

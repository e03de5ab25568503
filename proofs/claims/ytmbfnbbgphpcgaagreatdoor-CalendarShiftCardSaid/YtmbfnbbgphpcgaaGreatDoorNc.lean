/- Insertion sort in plain words: what stands ahead, what is carried, what is passed, what is to come. -/
import Derived.Test.YtmbfnbbgphpcgaaGreatDoorNa
namespace Go.Proofs.YtmbfnbbgphpcgaaGreatDoor
open Go.RowKit
set_option linter.unusedVariables false
set_option linter.unusedSimpArgs false
def Srt (l : List Nat) : Prop := l.Pairwise (fun a b => a ≤ b)
/-- One number is carried to its place: A ahead of it, B passed (all above it), C to come. -/
structure Car (xs A : List Nat) (x : Nat) (B C : List Nat) : Prop where
  srt : Srt (A ++ B)
  above : ∀ b ∈ B, x ≤ b
  perm : (A ++ x :: (B ++ C)).Perm xs
theorem Car.start {xs D : List Nat} {x : Nat} {C : List Nat} (h : Srt D) (hp : (D ++ x :: C).Perm xs) : Car xs D x [] C := ⟨by simpa using h, by simp, by simpa using hp⟩
theorem Car.step {xs A : List Nat} {b x : Nat} {B C : List Nat} (h : Car xs (A ++ [b]) x B C) (hx : x < b) : Car xs A x (b :: B) C := by
  refine ⟨by simpa using h.srt, fun c hc => ?_, ?_⟩
  · rcases List.mem_cons.1 hc with rfl | hc
    · omega
    · exact h.above c hc
  · refine List.Perm.trans ?_ h.perm
    have e : A ++ [b] ++ x :: (B ++ C) = A ++ b :: x :: (B ++ C) := by simp
    rw [e]
    exact List.Perm.append_left A (List.Perm.swap b x _)
theorem Car.done {xs A : List Nat} {x : Nat} {B C : List Nat} (h : Car xs A x B C) (hx : ∀ b, A.getLast? = some b → b ≤ x) : Srt (A ++ x :: B) ∧ ((A ++ x :: B) ++ C).Perm xs := by
  refine ⟨?_, by simpa using h.perm⟩
  obtain ⟨h1, h2, h3⟩ := List.pairwise_append.1 h.srt
  refine List.pairwise_append.2 ⟨h1, List.pairwise_cons.2 ⟨h.above, h2⟩, fun a ha b hb => ?_⟩
  rcases List.mem_cons.1 hb with rfl | hb
  · obtain ⟨A', c, rfl⟩ : ∃ A' c, A = A' ++ [c] := ⟨A.dropLast, A.getLast (by intro e; rw [e] at ha; cases ha), (List.dropLast_concat_getLast _).symm⟩
    have hc := hx c (by simp)
    rcases List.mem_append.1 ha with ha | ha
    · have := (List.pairwise_append.1 h1).2.2 a ha c (by simp); omega
    · simp at ha; omega
  · exact h3 a ha b hb
theorem swap_set (A : List Nat) (b x : Nat) (R : List Nat) : ((A ++ [b] ++ x :: R).set (A.length + 1) b).set A.length x = A ++ x :: b :: R := by
  have e : A ++ [b] ++ x :: R = A ++ b :: x :: R := by simp
  rw [e, List.set_append_right _ _ (by omega), show A.length + 1 - A.length = 1 by omega, List.set_append_right _ _ (by omega), Nat.sub_self]
  rfl
theorem at_left (A : List Nat) (b x : Nat) (R : List Nat) : (A ++ [b] ++ x :: R)[A.length]? = some b ∧ (A ++ [b] ++ x :: R)[A.length + 1]? = some x := by
  have e : A ++ [b] ++ x :: R = A ++ b :: x :: R := by simp
  rw [e]
  constructor
  · rw [List.getElem?_append_right (by omega), Nat.sub_self]; rfl
  · rw [List.getElem?_append_right (by omega), show A.length + 1 - A.length = 1 by omega]; rfl
theorem snoc_of {A : List Nat} (h : 0 < A.length) : ∃ A' b, A = A' ++ [b] := ⟨A.dropLast, A.getLast (by intro e; rw [e] at h; cases h), (List.dropLast_concat_getLast _).symm⟩
end Go.Proofs.YtmbfnbbgphpcgaaGreatDoor

/- Scripts' ops in plain words: printed, each op has a line and an end. -/
import Derived.Test.YtffhnedladiaoaaGreatDoorMsb
namespace Go.Proofs.YtffhnedladiaoaaGreatDoor
open Go.RowKit Go.Lib
set_option linter.unusedVariables false
set_option linter.unusedSimpArgs false
theorem count_none {c : UInt8} {l : List UInt8} (h : ∀ x ∈ l, x ≠ c) : l.count c = 0 := List.count_eq_zero.2 fun hc => h c hc rfl
theorem dec_count {c : UInt8} (hc : digB c = false) (n : Nat) : (decDigits n).count c = 0 :=
  count_none fun x hx e => by subst e; have := (dec_dig n).1 x hx; rw [hc] at this; cases this
theorem day_count {c : UInt8} (hc : dimB c = false) {n : Int} (h : IsDay n) : (dayT n).count c = 0 :=
  count_none fun x hx e => by subst e; have := dayT_dim h x hx; rw [hc] at this; cases this
theorem word_count : ∀ k : Fin 8, (wordK k.val).count 59 = 0 ∧ (wordK k.val).count 10 = 0 := by decide
theorem link_count : ∀ k : Fin 8, (linkK k.val).count 59 = 0 ∧ (linkK k.val).count 10 = 0 := by decide
theorem part_count {c : UInt8} (hc : digB c = false) (h32 : c ≠ 32) (p : Nat × Nat) : (pT p).count c = 0 := by
  unfold pT
  rw [List.count_append, List.count_cons, dec_count hc, dec_count hc, if_neg (by simpa using fun e => h32 e.symm)]
theorem more_count {c : UInt8} (hc : digB c = false) (h32 : c ≠ 32) (h44 : c ≠ 44) : ∀ ps : List (Nat × Nat), (moreT ps).count c = 0
  | [] => rfl
  | p :: ps => by
    have e : moreT (p :: ps) = 44 :: 32 :: (pT p ++ moreT ps) := by unfold moreT; simp
    rw [e, List.count_cons, List.count_cons, List.count_append, part_count hc h32, more_count hc h32 h44 ps, if_neg (by simpa using fun e => h32 e.symm), if_neg (by simpa using fun e => h44 e.symm)]
theorem parts_count {c : UInt8} (hc : digB c = false) (h32 : c ≠ 32) (h44 : c ≠ 44) (ps : List (Nat × Nat)) : (partsT ps).count c = 0 := by
  cases ps with
  | nil => rfl
  | cons p ps =>
    unfold partsT
    rw [List.count_cons, List.count_append, part_count hc h32, more_count hc h32 h44, if_neg (by simpa using fun e => h32 e.symm)]
theorem starts_count {c : UInt8} (hc : dimB c = false) (h32 : c ≠ 32) : ∀ ds : List Int, (∀ d ∈ ds, IsDay d) → (startsT ds).count c = 0
  | [], _ => rfl
  | d :: ds, h => by
    have e : startsT (d :: ds) = dayT d ++ 32 :: startsT ds := by unfold startsT; simp
    rw [e, List.count_append, List.count_cons, day_count hc (h d (by simp)), starts_count hc h32 ds (fun x hx => h x (by simp [hx])), if_neg (by simpa using fun e => h32 e.symm)]
/-- An op's text has one end, and no line feed. -/
theorem text_count {o : Opp} (ho : OkO o) (hn : ∀ c ∈ o.name, c ≠ 59 ∧ c ≠ 10) : (textO o).count 59 = 1 ∧ (textO o).count 10 = 0 := by
  have hk := ho.kind
  have w := word_count ⟨o.kind, by omega⟩
  have l := link_count ⟨o.kind, by omega⟩
  have l4 := link_count 4
  have l7 := link_count 7
  simp only at w l
  have n1 : o.name.count 59 = 0 := count_none fun x hx => (hn x hx).1
  have n2 : o.name.count 10 = 0 := count_none fun x hx => (hn x hx).2
  have d1 := fun n => dec_count (c := 59) (by decide) n
  have d2 := fun n => dec_count (c := 10) (by decide) n
  have p1 := parts_count (c := 59) (by decide) (by decide) (by decide) o.parts
  have p2 := parts_count (c := 10) (by decide) (by decide) (by decide) o.parts
  have l4a : (linkK 4).count 59 = 0 := by decide
  have l4b : (linkK 4).count 10 = 0 := by decide
  have l7a : (linkK 7).count 59 = 0 := by decide
  have l7b : (linkK 7).count 10 = 0 := by decide
  unfold textO restO
  by_cases k1 : o.kind = 1
  · simp [k1, List.count_append, List.count_cons, n1, n2, d1, d2] at w ⊢
    omega
  · by_cases k4 : o.kind = 4
    · simp [k4, List.count_append, List.count_cons, d1, d2, p1, p2, l4a, l4b] at w ⊢
      omega
    · by_cases k7 : o.kind = 7
      · obtain ⟨s1, s2⟩ := ho.days.1 k7
        have a1 := starts_count (c := 59) (by decide) (by decide) o.starts s1
        have a2 := starts_count (c := 10) (by decide) (by decide) o.starts s1
        have b1 := day_count (c := 59) (by decide) s2
        have b2 := day_count (c := 10) (by decide) s2
        simp [k7, List.count_append, List.count_cons, a1, a2, b1, b2, l7a, l7b] at w ⊢
        omega
      · simp [k1, k4, k7, List.count_append, List.count_cons, d1, d2, l.1, l.2, w.1, w.2]
noncomputable def printO (l : List Opp) : List UInt8 := l.flatMap fun o => textO o ++ [10]
theorem print_app (l m : List Opp) : printO (l ++ m) = printO l ++ printO m := by unfold printO; rw [List.flatMap_append]
theorem print_count : ∀ l : List Opp, (∀ o ∈ l, OkO o ∧ ∀ c ∈ o.name, c ≠ 59 ∧ c ≠ 10) → (printO l).count 59 = l.length ∧ (printO l).count 10 = l.length
  | [], _ => ⟨rfl, rfl⟩
  | o :: l, h => by
    obtain ⟨h1, h2⟩ := h o (by simp)
    obtain ⟨a1, a2⟩ := text_count h1 h2
    obtain ⟨b1, b2⟩ := print_count l (fun x hx => h x (by simp [hx]))
    have e : printO (o :: l) = (textO o ++ [10]) ++ printO l := by unfold printO; rw [List.flatMap_cons]
    rw [e, List.count_append, List.count_append, List.count_append, List.count_append, a1, a2, b1, b2]
    simp
    omega
end Go.Proofs.YtffhnedladiaoaaGreatDoor

/- Lines in another order, and all of the other sign: plain lemmas. -/
import Derived.Test.YtpebdimjpnpmnaaGreatDoorIh
namespace Go.Proofs.YtpebdimjpnpmnaaGreatDoor
open Go.RowKit
set_option linter.unusedVariables false
set_option linter.unusedSimpArgs false
def negA (x : Ln) : Ln := if h : x.amt = -9223372036854775808 then x else x.amtTo (-x.amt) (by have := x.hm; omega)
theorem negA_eq {x : Ln} (h : x.amt ≠ -9223372036854775808) : negA x = x.amtTo (-x.amt) (by have := x.hm; omega) := by unfold negA; rw [dif_neg h]
theorem negA_amt {x : Ln} (h : x.amt ≠ -9223372036854775808) : (negA x).amt = -x.amt ∧ (negA x).ent = x.ent := by rw [negA_eq h]; exact ⟨rfl, rfl⟩
def noMin (ls : List Ln) : Prop := ∀ x ∈ ls, x.amt ≠ -9223372036854775808
theorem sum_neg (L : List (En × Int)) (n : En) : ∀ o : Option Int, (L.map fun p => (p.1, -p.2)).foldl (fun o p => if p.1 = n then some (o.getD 0 + p.2) else o) (o.map fun s => -s) = (L.foldl (fun o p => if p.1 = n then some (o.getD 0 + p.2) else o) o).map fun s => -s := by
  induction L with
  | nil => intro o; rfl
  | cons p r ih =>
    intro o
    rw [List.map_cons, List.foldl_cons, List.foldl_cons, ← ih]
    congr 1
    by_cases h : p.1 = n
    · simp only [h, if_true, Option.map_some, Option.some.injEq]
      cases o <;> simp <;> omega
    · simp only [h, if_false]
theorem sumE_neg {ls : List Ln} (h : noMin ls) (n : En) : sumE (ls.map negA) n = (sumE ls n).map fun s => -s := by
  unfold sumE
  have e : (ls.map negA).map ep = (ls.map ep).map fun p => (p.1, -p.2) := by
    rw [List.map_map, List.map_map]
    refine List.map_congr_left fun x hx => ?_
    obtain ⟨h1, h2⟩ := negA_amt (h x hx)
    show ((negA x).ent, (negA x).amt) = (x.ent, -x.amt)
    rw [h1, h2]
  rw [e]
  exact sum_neg _ n none
theorem sumE_perm {ls ms : List Ln} (h : ls.Perm ms) (n : En) : sumE ls n = sumE ms n := sumK_perm (h.map ep) n
theorem badB_iff (ls : List Ln) : badB ls = true ↔ ∃ x ∈ ls, (sumE ls x.ent).getD 0 % 340282366920938463463374607431768211456 ≠ 0 := by
  unfold badB
  simp [List.any_eq_true]
theorem chkJ_perm {ls ms : List Ln} (h : ls.Perm ms) (d : Int) : chkJ d ls = chkJ d ms := by
  have h1 : (ls.any fun x => decide (x.amt = 0 ∨ x.amt = -9223372036854775808)) = (ms.any fun x => decide (x.amt = 0 ∨ x.amt = -9223372036854775808)) := by
    rw [Bool.eq_iff_iff, List.any_eq_true, List.any_eq_true]
    exact ⟨fun ⟨x, a, b⟩ => ⟨x, h.mem_iff.1 a, b⟩, fun ⟨x, a, b⟩ => ⟨x, h.mem_iff.2 a, b⟩⟩
  have h2 : badB ls = badB ms := by
    rw [Bool.eq_iff_iff, badB_iff, badB_iff]
    constructor
    · rintro ⟨x, a, b⟩; exact ⟨x, h.mem_iff.1 a, by rw [← sumE_perm h]; exact b⟩
    · rintro ⟨x, a, b⟩; exact ⟨x, h.mem_iff.2 a, by rw [sumE_perm h]; exact b⟩
  unfold chkJ
  rw [h.length_eq, h1, h2]
theorem chkJ_neg {ls : List Ln} (h : noMin ls) (d : Int) : chkJ d (ls.map negA) = chkJ d ls := by
  have h1 : ((ls.map negA).any fun x => decide (x.amt = 0 ∨ x.amt = -9223372036854775808)) = (ls.any fun x => decide (x.amt = 0 ∨ x.amt = -9223372036854775808)) := by
    rw [List.any_map]
    rw [Bool.eq_iff_iff, List.any_eq_true, List.any_eq_true]
    constructor
    · rintro ⟨x, a, b⟩
      have hx := x.hm
      have hn := h x a
      refine ⟨x, a, ?_⟩
      simp only [Function.comp, decide_eq_true_eq, (negA_amt hn).1] at b ⊢
      omega
    · rintro ⟨x, a, b⟩
      have hx := x.hm
      have hn := h x a
      refine ⟨x, a, ?_⟩
      simp only [Function.comp, decide_eq_true_eq, (negA_amt hn).1] at b ⊢
      omega
  have h2 : badB (ls.map negA) = badB ls := by
    rw [Bool.eq_iff_iff, badB_iff, badB_iff]
    have hs : ∀ n, ((sumE (ls.map negA) n).getD 0) = -((sumE ls n).getD 0) := fun n => by
      rw [sumE_neg h]
      cases sumE ls n <;> simp
    constructor
    · rintro ⟨y, a, b⟩
      obtain ⟨x, hx, rfl⟩ := List.mem_map.1 a
      refine ⟨x, hx, ?_⟩
      rw [hs, (negA_amt (h x hx)).2] at b
      omega
    · rintro ⟨x, a, b⟩
      refine ⟨negA x, List.mem_map.2 ⟨x, a, rfl⟩, ?_⟩
      rw [hs, (negA_amt (h x a)).2]
      omega
  unfold chkJ
  rw [List.length_map, h1, h2]
theorem rot_perm {α : Type} (l : List α) (i : Nat) : (l.drop i ++ l.take i).Perm l := by
  have h := List.perm_append_comm (l₁ := l.drop i) (l₂ := l.take i)
  rwa [List.take_append_drop] at h
end Go.Proofs.YtpebdimjpnpmnaaGreatDoor

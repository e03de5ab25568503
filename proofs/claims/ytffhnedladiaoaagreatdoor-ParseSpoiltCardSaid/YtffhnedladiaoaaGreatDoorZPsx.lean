/- Law 13's ops are ops that chapter 14 can answer. -/
import Derived.Test.YtffhnedladiaoaaGreatDoorZPsy
import Derived.Test.YtffhnedladiaoaaGreatDoorZMsd
import Derived.Test.YtffhnedladiaoaaGreatDoorZMdall
namespace Go.Proofs.YtffhnedladiaoaaGreatDoor
open Go.RowKit Go.Lib
set_option linter.unusedVariables false
set_option linter.unusedSimpArgs false
theorem raw_fit {x : On} (h : OnIn x) : FitO (rawO x) := by
  have ha := h.a
  have hb := h.b
  refine ⟨(raw_ok h).1, fun k => ?_, fun k1 k4 k7 => ?_, ?_, ?_⟩
  · have k : ¬ x.kind % 8 = 7 := k
    unfold rawO
    simp only
    rw [if_neg k]
    refine ⟨by omega, ?_⟩
    split <;> omega
  · have k1 : ¬ x.kind % 8 = 1 := k1
    have k4 : ¬ x.kind % 8 = 4 := k4
    have k7 : ¬ x.kind % 8 = 7 := k7
    unfold rawO
    simp only
    rw [if_neg (show ¬ (x.kind % 8 = 1 ∨ x.kind % 8 = 4 ∨ x.kind % 8 = 7) by omega)]
    by_cases k2 : x.kind % 8 = 2
    · rw [if_pos k2, if_pos k2]
      refine ⟨by omega, ?_⟩
      split <;> omega
    · rw [if_neg k2, if_neg k2]
      refine ⟨by omega, ?_⟩
      split <;> omega
  · unfold rawO
    simp only
    split
    · intro c hc
      obtain ⟨h1, _, h3⟩ := nm5_good ⟨x.name % 5, Nat.mod_lt _ (by omega)⟩ c hc
      unfold inQ
      simp [h1, h3]
    · intro c hc; cases hc
  · unfold rawO
    simp only
    split
    · refine ⟨by simp [rawP]; omega, fun p hp => ?_⟩
      rcases List.mem_cons.1 hp with rfl | hp
      · exact ⟨⟨by simp only; omega, by simp only; omega⟩, by simp, by simp⟩
      · obtain ⟨y, hy, rfl⟩ := List.mem_map.1 hp
        have := (h.parts y (List.mem_of_mem_take hy)).1
        exact ⟨⟨by simp only; omega, by simp only; omega⟩, by simp only; omega, by simp only; omega⟩
    · exact ⟨by simp, fun p hp => by cases hp⟩
end Go.Proofs.YtffhnedladiaoaaGreatDoor
/- How long the texts of law 13's ops are. -/
namespace Go.Proofs.YtffhnedladiaoaaGreatDoor
open Go.RowKit Go.Lib
set_option linter.unusedVariables false
set_option linter.unusedSimpArgs false
theorem word_len8 : ∀ k, (wordK k).length ≤ 8
  | 0 | 1 | 2 | 3 | 4 | 5 | 6 | 7 => by decide
  | _ + 8 => by simp [wordK]
theorem link_len8 : ∀ k, (linkK k).length ≤ 8
  | 0 | 1 | 2 | 3 | 4 | 5 | 6 | 7 => by decide
  | _ + 8 => by simp [linkK]
theorem pT_len15 {p : Nat × Nat} (h : (1 ≤ p.1 ∧ p.1 ≤ 999999) ∧ (1 ≤ p.2 ∧ p.2 ≤ 1000000)) : (pT p).length ≤ 15 := by
  have h1 := dec_len7 (n := p.1) (by omega)
  have h2 := dec_len7 (n := p.2) (by omega)
  unfold pT
  simp only [List.length_append, List.length_cons]
  omega
theorem moreT_len17 : ∀ {ps : List (Nat × Nat)}, (∀ p ∈ ps, (1 ≤ p.1 ∧ p.1 ≤ 999999) ∧ (1 ≤ p.2 ∧ p.2 ≤ 1000000)) → (moreT ps).length ≤ 17 * ps.length
  | [], _ => by simp [moreT]
  | p :: ps, h => by
    have h1 := pT_len15 (h p (by simp))
    have h2 := moreT_len17 (ps := ps) (fun q hq => h q (by simp [hq]))
    have e : moreT (p :: ps) = (44 :: 32 :: pT p) ++ moreT ps := by unfold moreT; rw [List.flatMap_cons]
    rw [e]
    simp only [List.length_append, List.length_cons]
    omega
theorem startsT_len11 : ∀ {ds : List Int}, (∀ d ∈ ds, IsDay d) → (startsT ds).length ≤ 11 * ds.length
  | [], _ => by simp [startsT]
  | d :: ds, h => by
    have h1 := dayT_len (h d (by simp))
    have h2 := startsT_len11 (ds := ds) (fun q hq => h q (by simp [hq]))
    have e : startsT (d :: ds) = (dayT d ++ [32]) ++ startsT ds := by unfold startsT; rw [List.flatMap_cons]
    rw [e]
    simp only [List.length_append, List.length_cons, List.length_nil]
    omega
theorem fit_len {o : Opp} (h : FitO o) (hn : o.name.length ≤ 200) (hs : o.starts.length ≤ 13) : (textO o).length ≤ 300 := by
  have hw := word_len8 o.kind
  have l4 := link_len8 4
  have l7 := link_len8 7
  have lk := link_len8 o.kind
  have hf : o.kind ≠ 7 → o.frm ≤ 999999 := fun k => by have := (h.frm k).2; split at this <;> omega
  unfold textO
  simp only [List.length_append, List.length_cons]
  suffices (restO o).length ≤ 260 by omega
  unfold restO
  split
  · have h1 := dec_len7 (n := o.frm) (by have := hf (by omega); omega)
    simp only [List.length_append, List.length_cons, List.length_nil]
    omega
  split
  · have h1 := dec_len7 (n := o.frm) (by have := hf (by omega); omega)
    have hp : (partsT o.parts).length ≤ 17 * o.parts.length := by
      have := h.parts.2
      cases ho : o.parts with
      | nil => simp [partsT]
      | cons p ps =>
        rw [ho] at this
        have a := pT_len15 (this p (by simp))
        have b := moreT_len17 (ps := ps) (fun q hq => this q (by simp [hq]))
        simp only [partsT, List.length_append, List.length_cons]
        omega
    have h8 := h.parts.1
    simp only [List.length_append, List.length_cons, List.length_nil]
    omega
  split
  · rename_i h7
    have hd := h.ok.days.1 h7
    have a := startsT_len11 hd.1
    have b := dayT_len hd.2
    simp only [List.length_append, List.length_cons, List.length_nil]
    omega
  · have h1 := dec_len7 (n := o.frm) (by have := hf (by omega); omega)
    have h2 : o.to ≤ 999999 := by have := (h.tgt (by omega) (by omega) (by omega)).2; split at this <;> omega
    have h3 := dec_len7 (n := o.to) (by omega)
    simp only [List.length_append, List.length_cons, List.length_nil]
    omega
theorem nm5_short : ∀ k : Fin 5, (nm5 k.val).data.toList.length ≤ 200 := by decide
theorem raw_len {x : On} (h : OnIn x) : (textO (rawO x)).length ≤ 300 := by
  refine fit_len (raw_fit h) ?_ ?_
  · unfold rawO
    simp only
    split
    · exact nm5_short ⟨x.name % 5, Nat.mod_lt _ (by omega)⟩
    · simp
  · unfold rawO
    simp only
    split
    · rw [mkS_len]; omega
    · simp
end Go.Proofs.YtffhnedladiaoaaGreatDoor

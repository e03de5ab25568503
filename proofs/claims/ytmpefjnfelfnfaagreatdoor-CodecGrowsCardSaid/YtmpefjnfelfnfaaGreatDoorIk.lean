/- A region that draws, by what holds of it whatever has come up so far. Speaks of any program. -/
import Derived.Test.YtmpefjnfelfnfaaGreatDoorVt
namespace Go.Proofs.YtmpefjnfelfnfaaGreatDoor
open Go.RowKit
set_option linter.unusedVariables false
set_option linter.unusedSimpArgs false
theorem nodup_below : ∀ (b : Nat) (l : List Nat), l.Nodup → (∀ x ∈ l, x < b) → l.length ≤ b
  | 0, l, _, h => by
    cases l with
    | nil => simp
    | cons a r => have := h a (List.mem_cons_self ..); omega
  | b + 1, l, hn, h => by
    by_cases hb : b ∈ l
    · have h1 := nodup_below b (l.erase b) (hn.erase _) fun x hx => by
        have hx' := (hn.mem_erase_iff).1 hx
        have := h x hx'.2
        have := hx'.1
        omega
      rw [List.length_erase_of_mem hb] at h1
      omega
    · have := nodup_below b l hn fun x hx => by
        have := h x hx
        have hne : x ≠ b := fun e => hb (e ▸ hx)
        omega
      omega
section
variable {P : Program} {ops : Array Oper} {Q : Exit → Act → World → Prop} {md : Region.Mode}
theorem getD_of {listed : Array Bool} {i : Nat} (hi : i < listed.size) (d d' : Bool) : listed.getD i d = listed.getD i d' := by
  simp [hi]
theorem any_inv {Inv : (Nat → Bool) → Act → World → Prop} (hb : backB md ops = true)
    (step : ∀ (l : Nat → Bool) (a : Act) (w : World) (i : Nat) (o : Oper), Inv l a w → ops[i]? = some o → l i = false → (∀ e ∈ o.after, Region.binds md e = true → l e.on = true) → wpOp P ops Q i (fun a' w' => Inv (fun j => if j = i then true else l j) a' w') a w)
    (done : ∀ (l : Nat → Bool) (a : Act) (w : World), Inv l a w → (∀ i, i < ops.size → l i = true) → Q .normal a w) :
    ∀ (fuel : Nat) (listed : Array Bool) (D : List Nat) (a : Act) (w : World), listed.size = ops.size → D.Nodup → (∀ i, i ∈ D ↔ i < ops.size ∧ listed.getD i false = true) → D.length + fuel = ops.size →
      Inv (fun j => listed.getD j false) a w → wpAny P md ops Q fuel listed a w := by
  have full : ∀ (listed : Array Bool), listed.size = ops.size → Region.ready md ops listed = [] → ∀ i, i < ops.size → listed.getD i false = true := by
    intro listed hs hr i hi
    rcases getD_tf (listed := listed) (i := i) (by omega) with h | h
    · exact h
    · obtain ⟨j, _, hj⟩ := progress hb hs ops.size (Nat.le_refl _) ⟨i, hi, h⟩
      rw [hr] at hj; cases hj
  intro fuel
  induction fuel with
  | zero =>
    intro listed D a w hs hD hm hl hI
    have hall : ∀ i, i < ops.size → listed.getD i false = true := by
      intro i hi
      by_cases h : i ∈ D
      · exact ((hm i).1 h).2
      · have := nodup_below ops.size (i :: D) (List.nodup_cons.2 ⟨h, hD⟩) (fun x hx => by
          rcases List.mem_cons.1 hx with rfl | hx
          · exact hi
          · exact ((hm x).1 hx).1)
        rw [List.length_cons] at this
        omega
    have hr : Region.ready md ops listed = [] := List.eq_nil_iff_forall_not_mem.2 fun i hi => by
      obtain ⟨h1, o, ho, _⟩ := mem_ready.1 hi
      have hlt := (Array.getElem?_eq_some_iff.1 ho).1
      have h2 := hall i hlt
      rw [getD_of (by omega) false true] at h2
      rw [h2] at h1; cases h1
    exact ⟨hr, done _ a w hI hall⟩
  | succ fuel ih =>
    intro listed D a w hs hD hm hl hI
    refine ⟨fun hr => done _ a w hI (full listed hs hr), fun i hi => ?_⟩
    obtain ⟨h1, o, ho, h2⟩ := mem_ready.1 hi
    have hlt := (Array.getElem?_eq_some_iff.1 ho).1
    have h0 : listed.getD i false = false := by rw [getD_of (by omega) false true]; exact h1
    refine wpOp_mono (fun a' w' h => ?_) (step _ a w i o hI ho h0 h2)
    refine ih (listed.setIfInBounds i true) (i :: D) a' w' (by simpa using hs) (List.nodup_cons.2 ⟨fun h => (by rw [((hm i).1 h).2] at h0; cases h0), hD⟩) (fun j => ?_) (by rw [List.length_cons]; omega) ?_
    · rw [List.mem_cons, hm j]
      by_cases e : j = i
      · subst e
        simp [hlt, hs]
      · rw [getD_set_ne false (fun h => e h.symm)]
        simp [e]
    · have hf : (fun j => (listed.setIfInBounds i true).getD j false) = (fun j => if j = i then true else listed.getD j false) := by
        funext j
        by_cases e : j = i
        · subst e
          simp [hlt, hs]
        · rw [if_neg e, getD_set_ne false (fun h => e h.symm)]
      rw [hf]
      exact h
/-- A region that draws: what holds ahead, is kept by whatever comes up, and, when all has come up, is enough. -/
theorem wp_region_inv {id : Nat} {a : Act} {w : World} {l : List Oper} (Inv : (Nat → Bool) → Act → World → Prop) (hm : P.follows .mixedOrders = true) (hb : backB .any l.toArray = true) (h0 : Inv (fun _ => false) a w.drew)
    (step : ∀ (s : Nat → Bool) (a : Act) (w : World) (i : Nat) (o : Oper), Inv s a w → l.toArray[i]? = some o → s i = false → (∀ e ∈ o.after, Region.binds .any e = true → s e.on = true) → wpOp P l.toArray Q i (fun a' w' => Inv (fun j => if j = i then true else s j) a' w') a w)
    (done : ∀ (s : Nat → Bool) (a : Act) (w : World), Inv s a w → (∀ i, i < l.toArray.size → s i = true) → Q .normal a w) : (Code.region id l.toArray true).wp P Q a w := by
  refine wp_region_any hm ?_
  change wpAny _ _ _ _ _ _ _ (World.drew _)
  refine any_inv (Inv := Inv) hb step done _ _ [] a _ (by simp) List.nodup_nil (fun i => ?_) (by simp) ?_
  · simp
    intro hi
    simp [hi]
  · have hf : (fun j => (Array.replicate l.toArray.size false).getD j false) = (fun _ => false) := by
      funext j
      by_cases h : j < l.length <;> simp [h]
    rw [hf]
    exact h0
end
end Go.Proofs.YtmpefjnfelfnfaaGreatDoor

/- Contract of slices.Sort at a few entities. -/
import Derived.Test.YtmbfnbbgphpcgaaGreatDoorNb
import Derived.Test.YtmbfnbbgphpcgaaGreatDoorNc
import Derived.Laws.OwnMore
import Derived.Maps.AppendAt
namespace Go.Proofs.YtmbfnbbgphpcgaaGreatDoor
open Go.RowKit
set_option linter.unusedVariables false
set_option linter.unusedSimpArgs false
theorem isnan16 (x : Int) (w : World) : Calls Tryz.prog 56 #[.int .u16 x] w fun e w' => e = .returned (.bool false) ∧ w' = w := by
  go_enter Tryz.func56, Tryz.ntmps56
  go_wp2
  go_ret
  exact ⟨by simp, rfl⟩
theorem less16 (m n : Nat) (w : World) : Calls Tryz.prog 47 #[.int .u16 (m : Int), .int .u16 (n : Int)] w fun e w' => e = .returned (.bool (decide (m < n))) ∧ w' = w := by
  have K := Lib.hid (fun x => isnan16 x w)
  go_enter Tryz.func47, Tryz.ntmps47
  go_wp2_with (go_at_call 56; refine (K.out _).mono ?_; rintro e w1 ⟨rfl, rfl⟩)
  go_ret
  exact ⟨by simp, rfl⟩
theorem row_at {w : World} {base g n cap : Nat} {e : TypeId} {l : List Nat} (h : w.ownsRow base e 1 (.slice (some ⟨g, 0, none⟩) n cap) n (l.flatMap uc)) {k x : Nat} (hx : l[k]? = some x) : w.cell? ⟨g, k, none⟩ = some (.int .u16 (x : Int)) := by
  have h1 := h.1
  rw [flat_len uc_len] at h1
  have hk := (List.getElem?_eq_some_iff.1 hx).1
  rw [h.cellAt k (by omega)]
  simpa using flat_get (enc := uc) (k := 1) uc_len (j := 0) hx rfl
theorem row_set {w : World} {base g n cap : Nat} {e : TypeId} {l : List Nat} (h : w.ownsRow base e 1 (.slice (some ⟨g, 0, none⟩) n cap) n (l.flatMap uc)) (k y : Nat) : (w.setCell ⟨g, k, none⟩ (.int .u16 (y : Int))).ownsRow base e 1 (.slice (some ⟨g, 0, none⟩) n cap) n ((l.set k y).flatMap uc) := by
  have h2 := (h.stored k (.int .u16 (y : Int))).1
  have e : ∀ (l : List Nat) (k : Nat), (l.flatMap uc).set k (.int .u16 (y : Int)) = (l.set k y).flatMap uc := by
    intro l
    induction l with
    | nil => intro k; rfl
    | cons a r ih =>
      intro k
      cases k with
      | zero => rfl
      | succ k => rw [List.flatMap_cons, List.set_cons_succ, List.flatMap_cons]; show _ :: _ = _ :: _; rw [← ih]; rfl
  rwa [e] at h2
theorem row_setg (w : World) (g k : Nat) (u : Value) : w.grownBy (w.setCell ⟨g, k, none⟩ u) (some g) :=
  ⟨rfl, rfl, rfl, by simp, fun j _ hj => Below.heap_setCell w ⟨g, k, none⟩ u j (fun e => hj (by simp [e]))⟩
end Go.Proofs.YtmbfnbbgphpcgaaGreatDoor

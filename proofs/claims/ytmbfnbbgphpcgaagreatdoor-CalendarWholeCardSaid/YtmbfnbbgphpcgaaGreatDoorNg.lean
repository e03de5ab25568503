/- All that the laws ask of package unit; law 7's Awake. -/
import Derived.Test.YtmbfnbbgphpcgaaGreatDoorNb
import Derived.Test.YtmbfnbbgphpcgaaGreatDoorCm
namespace Go.Proofs.YtmbfnbbgphpcgaaGreatDoor
open Go.RowKit
set_option linter.unusedVariables false
set_option linter.unusedSimpArgs false
/-- All that the laws ask of unit. -/
structure UnitC : Prop where
  code : ∀ (n : Nat) (w : World), n < 65536 → Calls Tryz.prog 26 #[.int .u16 (n : Int)] w fun e w' => e = .returned (.bool (decide (1 ≤ n ∧ n ≤ 999))) ∧ Below w.heap.size w w'
  with' : ∀ (v : Value) (u : List Nat) (n : Nat) (w : World), Recs uc 1 w v u → RiseU u → u.length ≤ 100 → (∀ x ∈ u, x < 65536) → n < 65536 → Calls Tryz.prog 25 #[v, .int .u16 (n : Int)] w fun e w' => ∃ v', e = .returned v' ∧ Recs uc 1 w' v' (withU u n) ∧ Below w.heap.size w w'
  without : ∀ (v : Value) (u : List Nat) (n : Nat) (w : World), Recs uc 1 w v u → RiseU u → u.length ≤ 100 → (∀ x ∈ u, x < 65536) → n < 65536 → Calls Tryz.prog 32 #[v, .int .u16 (n : Int)] w fun e w' => ∃ v', e = .returned v' ∧ Recs uc 1 w' v' (outU u n) ∧ Below w.heap.size w w'
theorem with_ex : withU [1, 3] 2 = [1, 2, 3] := rfl
theorem rise_ex : RiseU [1, 3] := List.Pairwise.cons (fun b hb => by simp at hb; subst hb; omega) (List.Pairwise.cons (fun b hb => by cases hb) List.Pairwise.nil)
set_option maxHeartbeats 1000000 in
set_option maxRecDepth 100000 in
theorem awake7_any {I : World → Prop} (C : AllotC) (D : DayC I) (K : KeyC I) (U : UnitC) (w : World) (hI : I w) :
    Calls Tryz.prog 17 #[] w fun e w' => e = .returned (.bool true) ∧ Below w.heap.size w w' := by
  have hR := recs_lit uc_len [1, 3] #[.int .u16 1, .int .u16 3] 54 2 rfl (by omega) rfl w
  have K1 := U.with' _ [1, 3] 2 _ hR rise_ex (by simp) (by simp) (by omega)
  rw [with_ex] at K1
  have HB0 := Lib.hid ((Below.refl w.heap.size w).alloc (Nat.le_refl _) (.cells #[.int .u16 1, .int .u16 3] 54))
  have H1 := Lib.hid K1
  have H2 : Hid (∀ w, Calls Tryz.prog 26 #[.int .u16 999] w fun e w' => e = .returned (.bool true) ∧ Below w.heap.size w w') := Lib.hid (fun w => U.code 999 w (by omega))
  have H4 := Lib.hid (fun (w' : World) (h : Below w.heap.size w w') => awake6_any C D K w' (D.stay hI h))
  have H5 := Lib.hid (fun (w : World) (v : Value) (h : Recs uc 1 w v [1, 2, 3]) => equal_u v _ [1, 2, 3] _ (h.stay ((Below.refl w.heap.size w).alloc (Nat.le_refl _) (.cells #[.int .u16 1, .int .u16 2, .int .u16 3] 54))) (recs_lit uc_len [1, 2, 3] #[.int .u16 1, .int .u16 2, .int .u16 3] 54 3 rfl (by omega) rfl w))
  clear hR K1
  go_enter Tryz.func17, Tryz.ntmps17
  go_wp2_with (first
    | (go_at_call 25; refine H1.out.mono ?_; rintro e w1 ⟨v1, rfl, h1, h2⟩; have HR1 := Lib.hid h1; have HB1 := Lib.hid (HB0.out.trans (h2.mono HB0.out.size)); clear h1 h2)
    | (go_at_call 24; refine (H5.out _ _ HR1.out).mono ?_; rintro e w2 ⟨rfl, h2⟩; have HB2 := Lib.hid ((HB1.out.alloc HB1.out.size (.cells #[.int .u16 1, .int .u16 2, .int .u16 3] 54)).trans (h2.mono (HB1.out.alloc HB1.out.size (.cells #[.int .u16 1, .int .u16 2, .int .u16 3] 54)).size)); clear h2)
    | (go_at_call 26; refine (H2.out _).mono ?_; rintro e w3 ⟨rfl, h3⟩; have HB3 := Lib.hid (HB2.out.trans (h3.mono HB2.out.size)); clear h3)
    | (go_at_call 27; refine (H4.out _ HB3.out).mono ?_; rintro e w4 ⟨rfl, h4⟩; have HB4 := Lib.hid (HB3.out.trans (h4.mono HB3.out.size)); clear h4))
  go_ret
  exact ⟨by simp, HB4.out⟩
end Go.Proofs.YtmbfnbbgphpcgaaGreatDoor

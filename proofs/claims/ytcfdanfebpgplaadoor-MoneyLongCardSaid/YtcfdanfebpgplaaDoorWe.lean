/- Contracts of package wide: Fits, Cmp. -/
import Derived.Test.YtcfdanfebpgplaaDoorWb
namespace Go.Proofs.YtcfdanfebpgplaaDoor
open Go.RowKit
set_option linter.unusedVariables false
set_option linter.unusedSimpArgs false
/-- 64 bits with a sign are enough. -/
theorem fits_yes (a : Int) (w : World) (h : hiW (wrap64 (loW a)) = hiW a) :
    Calls Tryd.prog 25 #[.agg #[.int .i64 (hiW a), .int .u64 (loW a)]] w fun e w' => e = .returned (.tuple #[.int .i64 (wrap64 (loW a)), .bool true]) ∧ Below w.heap.size w w' := by
  have h2 := lo_wrap a
  have h3 : (Lit.int .i64 (wrap64 (loW a))).wf = true := wrap64_wf _
  go_enter Tryd.func25, Tryd.ntmps25
  go_wp2
  go_region_held3 (fun w' => w'.cell? ⟨w.heap.size, 0, none⟩ = some (.int .i64 (hiW a)) ∧ w'.cell? ⟨w.heap.size, 1, none⟩ = some (.int .u64 (loW a)) ∧ w.heap.size < w'.heap.size ∧ Below w.heap.size w w') (first | assumption | (refine ⟨by go_simp, by go_simp, by simp, ?_⟩; exact ((Below.refl _ _).alloc (Nat.le_refl _) _).drew))
    (first | (go_at_call 24; refine (of_any _ _ h3).mono ?_; rintro e w1 ⟨rfl, hb1⟩; have hS1 := keep2 (by assumption) hb1 (by simp) (by simp) (by simp)))
  go_wp2
  go_ret2
  exact ⟨rfl, hS1.2.2.2⟩
theorem fits_no (a : Int) (w : World) (h : ¬ hiW (wrap64 (loW a)) = hiW a) :
    Calls Tryd.prog 25 #[.agg #[.int .i64 (hiW a), .int .u64 (loW a)]] w fun e w' => e = .returned (.tuple #[.int .i64 0, .bool false]) ∧ Below w.heap.size w w' := by
  have h3 : (Lit.int .i64 (wrap64 (loW a))).wf = true := wrap64_wf _
  go_enter Tryd.func25, Tryd.ntmps25
  go_wp2
  go_region_held3 (fun w' => w'.cell? ⟨w.heap.size, 0, none⟩ = some (.int .i64 (hiW a)) ∧ w'.cell? ⟨w.heap.size, 1, none⟩ = some (.int .u64 (loW a)) ∧ w.heap.size < w'.heap.size ∧ Below w.heap.size w w') (first | assumption | (refine ⟨by go_simp, by go_simp, by simp, ?_⟩; exact ((Below.refl _ _).alloc (Nat.le_refl _) _).drew))
    (first | (go_at_call 24; refine (of_any _ _ h3).mono ?_; rintro e w1 ⟨rfl, hb1⟩; have hS1 := keep2 (by assumption) hb1 (by simp) (by simp) (by simp)))
  go_wp2
  go_ret2
  exact ⟨rfl, hS1.2.2.2⟩
/-- Which is less, by halves. -/
def cmpV (h l h' l' : Int) : Int := if h < h' then -1 else if h' < h then 1 else if l < l' then -1 else if l' < l then 1 else 0
end Go.Proofs.YtcfdanfebpgplaaDoor

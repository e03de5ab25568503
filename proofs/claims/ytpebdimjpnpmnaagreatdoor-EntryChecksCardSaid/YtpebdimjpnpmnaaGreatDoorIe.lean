/- Contract of law 9's Check. -/
import Derived.Test.YtpebdimjpnpmnaaGreatDoorId
import Derived.Test.YtpebdimjpnpmnaaGreatDoorKb
import Derived.Laws.StructEq
import Derived.Deep.DeepCutAuto
import Derived.Deep.CutBlock
namespace Go.Proofs.YtpebdimjpnpmnaaGreatDoor
open Go.RowKit
set_option linter.unusedVariables false
set_option linter.unusedSimpArgs false
theorem run_items (f g : Nat → Int) (w : World) : ∀ is : List Nat, (∀ i ∈ is, i < 128) → (Op.eqItems 9999 3 1 (arr f) (arr g) is).run Tryz.prog w = .ok (decide (∀ i ∈ is, f i = g i)) w
  | [], _ => by simp [Op.eqItems]
  | i :: r, h => by
    have hi := h i (List.mem_cons_self ..)
    have hp : Tryz.prog.plainKey 3 = true := by kernel_rfl
    have p1 : (part 3 (arr f) (i * 1)).run Tryz.prog w = .ok (.int .i64 (f i)) w := run_part_plain w hp (by rw [Nat.mul_one]; exact arr_get hi)
    have p2 : (part 3 (arr g) (i * 1)).run Tryz.prog w = .ok (.int .i64 (g i)) w := run_part_plain w hp (by rw [Nat.mul_one]; exact arr_get hi)
    have p3 : (Op.equalIn 9999 3 (.int .i64 (f i)) (.int .i64 (g i))).run Tryz.prog w = .ok (f i == g i) w := by
      generalize f i = a
      generalize g i = b
      clear p1 p2 hi h hp
      rw [show (9999 : Nat) = 9998 + 1 from rfl]
      generalize 9998 = d
      simp [Op.equalIn, run_underlying Tryz.underlying3]
    have ih := run_items f g w r (fun j hj => h j (List.mem_cons_of_mem _ hj))
    simp only [Op.eqItems, Sem.run_bind, p1, p2, p3, Result.andThen_ok]
    by_cases e : f i = g i
    · have hb : (!(f i == g i)) = false := by rw [beq_iff_eq.2 e]; rfl
      have hd : decide (∀ j ∈ i :: r, f j = g j) = decide (∀ j ∈ r, f j = g j) := decide_eq_decide.2 ⟨fun h j hj => h j (List.mem_cons_of_mem _ hj), fun h j hj => (List.mem_cons.1 hj).elim (fun x => x ▸ e) (h j)⟩
      rw [hb, hd, if_neg (by decide), ih]
    · have hb : (!(f i == g i)) = true := by rw [beq_eq_false_iff_ne.2 e]; rfl
      have hd : decide (∀ j ∈ i :: r, f j = g j) = false := decide_eq_false (fun hh => e (hh i (List.mem_cons_self ..)))
      rw [hb, hd, if_pos rfl]; rfl
theorem neq_arr (f g : Nat → Int) (w : World) : (binOp .neq 36 (.agg (arr f)) (.agg (arr g))).run Tryz.prog w = .ok (.bool (!decide (∀ i ∈ List.range 128, f i = g i))) w := by
  obtain ⟨i, hi⟩ : ∃ i, Tryz.prog.info? 3 = some i := by
    cases h : Tryz.prog.info? 3 with
    | none => exact absurd (show (Tryz.prog.info? 3).isSome = true by kernel_rfl) (by rw [h]; simp)
    | some i => exact ⟨i, rfl⟩
  have hc : Tryz.prog.cellsOf 3 = 1 := by kernel_rfl
  have := run_equalIn_array (P := Tryz.prog) w 9999 (t := 36) (arr f) (arr g) Tryz.underlying36 hi
  rw [hc, run_items f g w _ (fun i hi => List.mem_range.1 hi)] at this
  rw [run_neq_struct, show (10000 : Nat) = 9999 + 1 from rfl, this]
  rfl
theorem bits_zero (s : Int) : decide (∀ i ∈ List.range 128, bitZ s i = 0) = decide (s % 340282366920938463463374607431768211456 = 0) := by
  apply decide_eq_decide.2
  constructor
  · intro h
    have hk : ∀ k, k ≤ 128 → s % 2 ^ k = 0 := by
      intro k
      induction k with
      | zero => intro _; simp
      | succ k ih =>
        intro hk
        rw [mod_step, ih (by omega), h k (List.mem_range.2 (by omega))]
        simp
    have := hk 128 (Nat.le_refl _)
    simpa using this
  · intro h i hi
    have hb := bit_mod s 128 i (List.mem_range.1 hi)
    have h2 : s % 2 ^ 128 = 0 := by simpa using h
    rw [h2] at hb
    unfold bitZ
    rw [← hb]
    simp
theorem build_arr (w : World) : (Instr.build 36 #[]).run Tryz.prog w = .ok (.agg (arr fun _ => 0)) w := by kernel_rfl
end Go.Proofs.YtpebdimjpnpmnaaGreatDoor

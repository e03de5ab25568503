/- Names: which characters may stand in one; contracts of package chart's named and Name, of law 6's name. -/
import Derived.Test.YtdhgkggcnilgoaaGreatDoorCi
import Derived.Test.YtdhgkggcnilgoaaGreatDoorShelf
import Derived.Laws.RangeAny
import Derived.Lib.SlTrimSet
import Derived.Lib.ConvBytes
import Derived.Lib.Bytealg
namespace Go.Proofs.YtdhgkggcnilgoaaGreatDoor
open Go.RowKit Go.Shelf
set_option linter.unusedVariables false
set_option linter.unusedSimpArgs false
def namedB (r : Int) : Bool := (decide (97 ≤ r) && decide (r ≤ 122)) || (decide (65 ≤ r) && decide (r ≤ 90)) || (decide (48 ≤ r) && decide (r ≤ 57)) || r == 32 || r == 46
theorem namedB_sign (b : UInt8) : namedB (b.toNat : Int) = signB b := by
  unfold namedB signB
  have h : ∀ n : Nat, ((n : Int) == 32) = (n == 32) ∧ ((n : Int) == 46) = (n == 46) := fun n => by constructor <;> (rw [Bool.eq_iff_iff]; simp; omega)
  rw [(h _).1, (h _).2]
  have e : ∀ k n : Nat, decide ((k : Int) ≤ (n : Int)) = decide (k ≤ n) := fun k n => by simp
  have e1 := e 97 b.toNat
  have e2 := e b.toNat 122
  have e3 := e 65 b.toNat
  have e4 := e b.toNat 90
  have e5 := e 48 b.toNat
  have e6 := e b.toNat 57
  simp only [Int.cast_ofNat_Int] at e1 e2 e3 e4 e5 e6
  rw [e1, e2, e3, e4, e5, e6]
theorem namedB_high {r : Int} (h : 128 ≤ r) : namedB r = false := by
  unfold namedB
  have h1 : decide (r ≤ 122) = false := decide_eq_false (by omega)
  have h2 : decide (r ≤ 90) = false := decide_eq_false (by omega)
  have h3 : decide (r ≤ 57) = false := decide_eq_false (by omega)
  have h4 : (r == 32) = false := by simp; omega
  have h5 : (r == 46) = false := by simp; omega
  rw [h1, h2, h3, h4, h5]; simp
theorem sign_low {b : UInt8} (h : 128 ≤ b.toNat) : signB b = false := by rw [← namedB_sign]; exact namedB_high (by omega)
theorem named_c (r : Int) (w : World) : Calls Tryz.prog 32 #[.int .i32 r] w fun e w' => e = .returned (.bool (namedB r)) ∧ w' = w := by
  obtain ⟨b, hb⟩ : ∃ b, namedB r = b := ⟨_, rfl⟩
  have HB := Lib.hid hb
  rw [hb]
  clear hb
  go_enter Tryz.func32, Tryz.ntmps32
  go_wp2
  all_goals
    go_ret
    refine ⟨congrArg (fun b => Ending.returned (Value.bool b)) ?_, rfl⟩
    rw [← HB.out, Bool.eq_iff_iff]
    unfold namedB
    simp
    try omega
/-- All that the law's table holds. -/
def tabB : List UInt8 := [97, 98, 99, 100, 101, 102, 103, 104, 105, 106, 107, 108, 109, 110, 111, 112, 113, 114, 115, 116, 117, 118, 119, 120, 121, 122, 65, 66, 67, 68, 69, 70, 71, 72, 73, 74, 75, 76, 77, 78, 79, 80, 81, 82, 83, 84, 85, 86, 87, 88, 89, 90, 48, 49, 50, 51, 52, 53, 54, 55, 56, 57, 32, 46]
theorem tab_fin : ∀ n : Fin 256, decide (Lib.indexByte tabB (UInt8.ofNat n.val) < 0) = !signB (UInt8.ofNat n.val) := by decide +kernel
theorem tab_sign (b : UInt8) : decide (Lib.indexByte tabB b < 0) = !signB b := by
  have h := tab_fin ⟨b.toNat, b.toNat_lt⟩
  simpa using h
/-- A text without blanks at its ends is as it is without them. -/
theorem trim_same {l : List UInt8} (h0 : 0 < l.length) : (Lib.trimS l [32] == l) = (!(l.headD 0 == 32) && !(l.getLastD 0 == 32)) := by
  have hlen : ∀ m : List UInt8, (Lib.trimLeftS m [32]).length ≤ m.length := fun m => by
    unfold Lib.trimLeftS; exact (List.dropWhile_sublist _).length_le
  have hc : ∀ b : UInt8, ([32] : List UInt8).contains b = (b == 32) := fun b => Lib.contains_one 32 b
  by_cases hz : l.getLastD 0 = 32
  · have e : (l.getLastD 0 == 32) = true := by rw [hz]; rfl
    rw [e]
    simp only [Bool.not_true, Bool.and_false]
    rw [beq_eq_false_iff_ne]
    intro h
    have h1 : (Lib.trimRightS l [32]).length < l.length := by
      unfold Lib.trimRightS
      rw [List.length_reverse]
      obtain ⟨x, r, hr⟩ : ∃ x r, l.reverse = x :: r := by
        cases hrev : l.reverse with
        | nil => rw [List.reverse_eq_nil_iff] at hrev; subst hrev; simp at h0
        | cons x r => exact ⟨x, r, rfl⟩
      have hx : x = 32 := by
        have hl : l = r.reverse ++ [x] := by rw [← List.reverse_reverse l, hr, List.reverse_cons]
        rw [hl] at hz
        simpa using hz
      rw [hr, List.dropWhile_cons_of_pos (by rw [hc, hx]; rfl)]
      have h2 := (List.dropWhile_sublist (fun b => ([32] : List UInt8).contains b) (l := r)).length_le
      have h3 : l.length = r.length + 1 := by rw [← List.length_reverse, hr, List.length_cons]
      omega
    have h2 := hlen (Lib.trimRightS l [32])
    have h3 := congrArg List.length h
    unfold Lib.trimS at h3
    omega
  · have hr : Lib.trimRightS l [32] = l := by
      have := Lib.trimRightS_take l [32] l.length (Nat.le_refl _) (fun j b hj hb => by have := (List.getElem?_eq_some_iff.1 hb).1; omega) (fun b _ hb => by
        rw [hc]
        rw [List.getLastD_eq_getLast?] at hz
        rw [List.getLast?_eq_getElem?, hb] at hz
        simpa using hz)
      rwa [List.take_length] at this
    have e : (l.getLastD 0 == 32) = false := by simpa using hz
    rw [e]
    unfold Lib.trimS
    rw [hr]
    cases l with
    | nil => simp at h0
    | cons x r =>
      by_cases hx : x = 32
      · have e2 : ((x :: r).headD 0 == 32) = true := by simp [hx]
        rw [e2]
        simp only [Bool.not_true, Bool.false_and]
        rw [beq_eq_false_iff_ne]
        intro h
        have h3 := congrArg List.length h
        unfold Lib.trimLeftS at h3
        rw [List.dropWhile_cons_of_pos (by rw [hc, hx]; rfl)] at h3
        have h2 := (List.dropWhile_sublist (fun b => ([32] : List UInt8).contains b) (l := r)).length_le
        rw [List.length_cons] at h3
        omega
      · have e2 : ((x :: r).headD 0 == 32) = false := by simpa using hx
        rw [e2]
        unfold Lib.trimLeftS
        rw [List.dropWhile_cons_of_neg (by rw [hc]; simpa using hx)]
        simp
end Go.Proofs.YtdhgkggcnilgoaaGreatDoor

/- Law 3's shares: their sum, their signs, like weights, how near they lie; small wide numbers compared. -/
import Derived.Test.YtkeicflmbhokhaaDoorSi
import Derived.Test.YtkeicflmbhokhaaDoorWd
import Derived.Test.YtkeicflmbhokhaaDoorWm
namespace Go.Proofs.YtkeicflmbhokhaaDoor
open Go.RowKit
set_option linter.unusedVariables false
set_option linter.unusedSimpArgs false
/-- Each share lies less than one from the exact one. -/
theorem near_core {a : Int} {zs : List Int} (ha : (Lit.int .i64 a).wf = true) (h : GoodW zs) (h0 : 0 < zs.length) (h8 : zs.length ≤ 8) (i : Nat) (hi : i < zs.length) :
    (sharesV a zs).getD i 0 * ((sumTo (wOf zs) zs.length : Nat) : Int) - a * zs.getD i 0 < ((sumTo (wOf zs) zs.length : Nat) : Int) ∧
    -((sumTo (wOf zs) zs.length : Nat) : Int) < (sharesV a zs).getD i 0 * ((sumTo (wOf zs) zs.length : Nat) : Int) - a * zs.getD i 0 := by
  obtain ⟨P, d, _, h2, ⟨h3, h3'⟩, h4, h5, h6⟩ := sharesV_spec ha h h0 h8
  have hT := (good_total h h0 h8).1
  have hw : zs.getD i 0 = ((wOf zs i : Nat) : Int) := by have := h i hi; unfold wOf; omega
  have h2i := h2 i hi
  have h3i := h3 i
  have h3j := h3' i
  have h4i := h4 i
  have hm := Nat.div_add_mod (a.natAbs * wOf zs i) (sumTo (wOf zs) zs.length)
  have hr := Nat.mod_lt (a.natAbs * wOf zs i) hT
  rw [h2i, hw]
  generalize sumTo (wOf zs) zs.length = T at *
  generalize wOf zs i = x at *
  generalize a.natAbs * x / T = q at *
  generalize a.natAbs * x % T = r at *
  generalize hPi : P i = p at *
  generalize d i = e at *
  subst h4i
  have key : ((q + e : Nat) : Int) * (T : Int) - (a.natAbs : Int) * (x : Int) = (e : Int) * T - r := by
    have hm' : (T : Int) * q + r = (a.natAbs : Int) * x := by exact_mod_cast hm
    push_cast
    rw [← hm', Int.add_mul, Int.mul_comm (q : Int) T]
    omega
  have kb : (e : Int) * T - r < T ∧ -(T : Int) < (e : Int) * T - r := by
    rcases (by omega : e = 0 ∨ e = 1) with rfl | rfl
    · constructor <;> simp <;> omega
    · have := h3j rfl
      constructor <;> simp <;> omega
  by_cases hneg : a < 0
  · rw [if_pos hneg]
    have ea : a = -(a.natAbs : Int) := by omega
    have e2 : -((q + e : Nat) : Int) * (T : Int) - a * (x : Int) = -(((q + e : Nat) : Int) * (T : Int) - (a.natAbs : Int) * (x : Int)) := by
      rw [Int.neg_mul]
      have : a * (x : Int) = -((a.natAbs : Int) * x) := by rw [← Int.neg_mul, ← ea]
      rw [this]; omega
    rw [e2, key]
    omega
  · rw [if_neg hneg]
    have ea : a = (a.natAbs : Int) := by omega
    have e2 : ((q + e : Nat) : Int) * (T : Int) - a * (x : Int) = ((q + e : Nat) : Int) * (T : Int) - (a.natAbs : Int) * (x : Int) := by rw [← ea]
    rw [e2, key]
    omega
theorem cmp_small {a b : Int} (ha : -1267650600228229401496703205376 < a ∧ a < 1267650600228229401496703205376) (hb : -1267650600228229401496703205376 < b ∧ b < 1267650600228229401496703205376) :
    cmpV (hiW a) (loW a) (hiW b) (loW b) = if a < b then -1 else if b < a then 1 else 0 := by
  have h1 : hiW a = a / 18446744073709551616 := by unfold hiW; rw [i64w]; omega
  have h2 : hiW b = b / 18446744073709551616 := by unfold hiW; rw [i64w]; omega
  have h3 : loW a = a % 18446744073709551616 := rfl
  have h4 : loW b = b % 18446744073709551616 := rfl
  rw [h1, h2, h3, h4]
  unfold cmpV
  by_cases c : a < b
  · rw [if_pos c]
    by_cases c1 : a / 18446744073709551616 < b / 18446744073709551616
    · rw [if_pos c1]
    · rw [if_neg c1, if_neg (by omega), if_pos (by omega)]
  · rw [if_neg c]
    by_cases c' : b < a
    · rw [if_pos c']
      by_cases c1 : b / 18446744073709551616 < a / 18446744073709551616
      · rw [if_neg (by omega), if_pos c1]
      · rw [if_neg (by omega), if_neg c1, if_neg (by omega), if_pos (by omega)]
    · rw [if_neg c']
      obtain rfl : a = b := by omega
      simp
theorem shares_take {a : Int} {zs : List Int} {P : Nat → Nat} (hl : (sharesV a zs).length = zs.length) (h : ∀ i, i < zs.length → (sharesV a zs).getD i 0 = if a < 0 then -(P i : Int) else (P i : Int)) :
    ∀ j, j ≤ zs.length → ((sharesV a zs).take j).sum = if a < 0 then -((sumTo P j : Nat) : Int) else ((sumTo P j : Nat) : Int)
  | 0, _ => by simp [sumTo]
  | j + 1, hj => by
    rw [sum_take _ _ (by omega), shares_take hl h j (by omega), h j (by omega)]
    have : sumTo P (j + 1) = sumTo P j + P j := rfl
    rw [this]
    split <;> push_cast <;> omega
/-- The shares sum to the amount. -/
theorem shares_sum {a : Int} {zs : List Int} (ha : (Lit.int .i64 a).wf = true) (h : GoodW zs) (h0 : 0 < zs.length) (h8 : zs.length ≤ 8) : ((sharesV a zs).take zs.length).sum = a := by
  obtain ⟨P, d, h1, h2, _, _, h5, _⟩ := sharesV_spec ha h h0 h8
  rw [shares_take h1 h2 _ (Nat.le_refl _), h5]
  split <;> omega
theorem shares_alone {a x : Int} (ha : (Lit.int .i64 a).wf = true) (h : GoodW [x]) : sharesV a [x] = [a] := by
  have h1 := shares_sum ha h (by simp) (by simp)
  have h2 := sharesV_length ha h (by simp) (by simp)
  generalize sharesV a [x] = L at *
  match L, h2 with
  | [y], _ => simp at h1; rw [h1]
/-- Each share has the amount's sign; of like weights they are alike, but for one. -/
theorem shares_like {a : Int} {zs : List Int} (ha : (Lit.int .i64 a).wf = true) (h : GoodW zs) (h0 : 0 < zs.length) (h8 : zs.length ≤ 8) (i : Nat) (hi : i < zs.length) :
    ((sharesV a zs).getD i 0 ≤ 0 ∨ 0 ≤ a) ∧ (0 ≤ (sharesV a zs).getD i 0 ∨ a ≤ 0) ∧
    ∀ k, k < zs.length → zs.getD i 0 = zs.getD k 0 → (sharesV a zs).getD i 0 - (sharesV a zs).getD k 0 ≤ 1 ∧ (sharesV a zs).getD k 0 - (sharesV a zs).getD i 0 ≤ 1 := by
  have hba := wf_bd_i64 ha
  obtain ⟨P, d, h1, h2, ⟨h3, _⟩, h4, h5, h6⟩ := sharesV_spec ha h h0 h8
  have h6i := h6 i hi
  refine ⟨?_, ?_, ?_⟩
  · rw [h2 i hi]; split <;> omega
  · rw [h2 i hi]; split <;> omega
  · intro k hk e
    have e' : wOf zs i = wOf zs k := by unfold wOf; rw [e]
    have a1 := h4 i
    have a2 := h4 k
    rw [e'] at a1
    have b1 := h3 i
    have b2 := h3 k
    rw [h2 i hi, h2 k hk]
    split <;> omega
theorem u64_add (x y : Int) : IntKind.u64.wrap (IntKind.u64.wrap x + IntKind.u64.wrap y) = IntKind.u64.wrap (x + y) := by
  simp only [IntKind.wrap_u64]; omega
end Go.Proofs.YtkeicflmbhokhaaDoor

/- Law 3's shares: of the other sign all have the other sign; of all weights as often as much they are the same. -/
import Derived.Test.YtkeicflmbhokhaaDoorSi
namespace Go.Proofs.YtkeicflmbhokhaaDoor
open Go.RowKit
set_option linter.unusedVariables false
set_option linter.unusedSimpArgs false
theorem sharesV_of {x : Int} {S : Nat} {zs : List Int} {O : Nat → Int} {P : Nat → Nat} (hx : (Lit.int .i64 x).wf = true) (hS : x.natAbs = S) (h1 : sharesL S zs.length (wOf zs) = some O) (h2 : ∀ t, t < zs.length → O t = (P t : Int))
    (i : Nat) (hi : i < zs.length) (hP : P i ≤ S) : (sharesV x zs).getD i 0 = if x < 0 then -(P i : Int) else (P i : Int) := by
  have hbx := wf_bd_i64 hx
  have hs : sharesV x zs = allotL (decide (x < 0)) zs.length O := by unfold sharesV; rw [hS, h1]
  rw [hs, allotL_getD _ _ _ _ hi, h2 i hi, w64w]
  by_cases hneg : x < 0
  · rw [if_pos (by simpa using hneg), if_pos hneg]
    simp only [IntKind.wrap, IntKind.signed, IntKind.bits]
    simp
    omega
  · rw [if_neg (by simpa using hneg), if_neg hneg]
    omega
theorem sharesV_signs {a : Int} {zs : List Int} (ha : (Lit.int .i64 a).wf = true) (hna : (Lit.int .i64 (-a)).wf = true) (h : GoodW zs) (h0 : 0 < zs.length) (h8 : zs.length ≤ 8) (i : Nat) (hi : i < zs.length) :
    IntKind.i64.wrap (-(sharesV (-a) zs).getD i 0) = (sharesV a zs).getD i 0 := by
  have hba := wf_bd_i64 ha
  have hbn := wf_bd_i64 hna
  obtain ⟨ht, hw⟩ := good_total h h0 h8
  obtain ⟨P, d, ⟨O, h1, h2⟩, _, _, _, h6⟩ := shares_some a.natAbs zs.length (wOf zs) ht (by omega) hw
  have hP := h6 i hi
  rw [sharesV_of ha rfl h1 h2 i hi hP, sharesV_of hna (by omega) h1 h2 i hi hP, IntKind.wrap_i64]
  split <;> split <;> omega
theorem bst_scale (G : Nat → Int) (r : Nat → Nat) {K : Nat} (hK : 0 < K) : ∀ i, bst G (fun t => K * r t) i = bst G r i
  | 0 => rfl
  | i + 1 => by
    unfold bst
    rw [bst_scale G r hK i]
    simp only [Nat.mul_lt_mul_left hK]
theorem give_scale (n : Nat) (r : Nat → Nat) {K : Nat} (hK : 0 < K) : ∀ (m : Nat) (G O : Nat → Int), give n (fun t => K * r t) m G O = give n r m G O
  | 0, _, _ => rfl
  | m + 1, G, O => by
    unfold give
    rw [bst_scale G r hK n, give_scale n r hK m]
theorem sharesL_scale (S n : Nat) (W : Nat → Nat) {K : Nat} (hK : 0 < K) : sharesL S n (fun t => K * W t) = sharesL S n W := by
  have e1 : sumTo (fun t => K * W t) n = K * sumTo W n := sumTo_mul W K n
  have e2 : ∀ t, S * (K * W t) / (K * sumTo W n) = S * W t / sumTo W n := fun t => by rw [Nat.mul_left_comm]; exact Nat.mul_div_mul_left _ _ hK
  have e3 : ∀ t, S * (K * W t) % (K * sumTo W n) = K * (S * W t % sumTo W n) := fun t => by rw [Nat.mul_left_comm]; exact Nat.mul_mod_mul_left _ _ _
  unfold sharesL
  simp only [e1, e2, e3]
  exact give_scale n _ hK _ _ _
theorem sharesV_scale {a : Int} {zs vs : List Int} {K : Nat} (hl : vs.length = zs.length) (hK : 0 < K) (h : ∀ i, wOf vs i = K * wOf zs i) : sharesV a vs = sharesV a zs := by
  have e : wOf vs = fun t => K * wOf zs t := funext h
  unfold sharesV
  rw [e, hl, sharesL_scale _ _ _ hK]
/-- A weight out of a number, near 1; and how often as much. -/
def wtt (z : Int) : Int := 1 + z % 1000
def oft (b : Int) : Int := 1 + b % 200
def wto (b z : Int) : Int := wtt z * oft b
theorem wtt_bd (z : Int) : 1 ≤ wtt z ∧ wtt z ≤ 1000 := by unfold wtt; omega
theorem oft_bd (b : Int) : 1 ≤ oft b ∧ oft b ≤ 200 := by unfold oft; omega
theorem wto_bd (b z : Int) : 1 ≤ wto b z ∧ wto b z ≤ 200000 := by
  have h1 := wtt_bd z
  have h2 := oft_bd b
  unfold wto
  generalize wtt z = x at *
  generalize oft b = y at *
  obtain ⟨X, rfl⟩ := Int.eq_ofNat_of_zero_le (show 0 ≤ x by omega)
  obtain ⟨Y, rfl⟩ := Int.eq_ofNat_of_zero_le (show 0 ≤ y by omega)
  have a1 : 1 * 1 ≤ X * Y := Nat.mul_le_mul (by omega) (by omega)
  have a2 : X * Y ≤ 1000 * 200 := Nat.mul_le_mul (by omega) (by omega)
  have a3 : ((X * Y : Nat) : Int) = (X : Int) * (Y : Int) := Int.natCast_mul _ _
  omega
theorem wtt_good (zs : List Int) : GoodW (zs.map wtt) := by
  intro i hi
  rw [getD_map wtt zs i (by simpa using hi)]
  have := wtt_bd (zs.getD i 0)
  omega
theorem wto_good (b : Int) (zs : List Int) : GoodW (zs.map (wto b)) := by
  intro i hi
  rw [getD_map (wto b) zs i (by simpa using hi)]
  have := wto_bd b (zs.getD i 0)
  omega
theorem wtt_all (zs : List Int) : ∀ z ∈ zs.map wtt, (Lit.int .i64 z).wf = true := by
  intro z hz
  obtain ⟨y, _, rfl⟩ := List.mem_map.1 hz
  have := wtt_bd y
  exact WalkArith.wf_i64 (by omega)
theorem wto_all (b : Int) (zs : List Int) : ∀ z ∈ zs.map (wto b), (Lit.int .i64 z).wf = true := by
  intro z hz
  obtain ⟨y, _, rfl⟩ := List.mem_map.1 hz
  have := wto_bd b y
  exact WalkArith.wf_i64 (by omega)
theorem often_same (a b : Int) (zs : List Int) : sharesV a (zs.map (wto b)) = sharesV a (zs.map wtt) := by
  have hb := oft_bd b
  refine sharesV_scale (K := (oft b).toNat) (by simp) (by omega) fun i => ?_
  unfold wOf
  by_cases hi : i < zs.length
  · rw [getD_map (wto b) zs i hi, getD_map wtt zs i hi]
    have hz := wtt_bd (zs.getD i 0)
    unfold wto
    generalize wtt (zs.getD i 0) = x at *
    generalize oft b = y at *
    obtain ⟨X, rfl⟩ := Int.eq_ofNat_of_zero_le (show 0 ≤ x by omega)
    obtain ⟨Y, rfl⟩ := Int.eq_ofNat_of_zero_le (show 0 ≤ y by omega)
    have a3 : ((X * Y : Nat) : Int) = (X : Int) * (Y : Int) := Int.natCast_mul _ _
    show ((X : Int) * (Y : Int)).toNat = (Y : Int).toNat * (X : Int).toNat
    rw [← a3, Int.toNat_natCast, Int.toNat_natCast, Int.toNat_natCast, Nat.mul_comm]
  · have e1 : (zs.map (wto b)).getD i 0 = 0 := by simp [List.getD, hi]
    have e2 : (zs.map wtt).getD i 0 = 0 := by simp [List.getD, hi]
    rw [e1, e2]; simp
/-- Two slices of the call's own lie in two blocks. -/
def Apart (u v : Value) : Prop := (u.ownBlock = none ∨ u.ownBlock ≠ v.ownBlock) ∧ (v.ownBlock = none ∨ v.ownBlock ≠ u.ownBlock)
theorem Apart.symm {u v : Value} (h : Apart u v) : Apart v u := ⟨h.2, h.1⟩
theorem Apart.step {u u' v : Value} {N : Nat} (h : Apart u v) (hat : u'.ownBlock = u.ownBlock ∨ u'.ownBlock = some N) (hv : ∀ k, v.ownBlock = some k → k < N) : Apart u' v := by
  rcases hat with e | e
  · unfold Apart; rw [e]; exact h
  · unfold Apart
    rw [e]
    cases hq : v.ownBlock with
    | none => exact ⟨.inr (by simp), .inl rfl⟩
    | some k =>
      have := hv k hq
      have hne : N ≠ k := by omega
      exact ⟨.inr (by simpa using hne), .inr (by simpa using fun h => hne h.symm)⟩
end Go.Proofs.YtkeicflmbhokhaaDoor

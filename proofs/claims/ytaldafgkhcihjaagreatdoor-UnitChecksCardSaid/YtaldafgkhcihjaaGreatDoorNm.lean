/- Contracts of package unit's Code, Has, Check, Without; of the library's IndexFunc and DeleteFunc at entities. -/
import Derived.Test.YtaldafgkhcihjaaGreatDoorNl
import Derived.Lib.SliceRun
import Derived.Laws.OwnMore
namespace Go.Proofs.YtaldafgkhcihjaaGreatDoor
open Go.RowKit
set_option linter.unusedVariables false
set_option linter.unusedSimpArgs false
theorem parts_with {l : List Nat} (h : RiseU l) (n : Nat) : (outU l n).take (belowU (outU l n) n) ++ n :: (outU l n).drop (belowU (outU l n) n) = withU l n := by
  obtain ⟨h1, h2⟩ := below_parts16 (outU_rise h n) n
  rw [h1, h2]
  unfold withU outU
  rw [List.filter_filter, List.filter_filter]
  congr 1
  · refine List.filter_congr fun a _ => ?_
    by_cases g : a < n
    · have : a ≠ n := by omega
      simp [g, this]
    · simp [g]
  · congr 1
    refine List.filter_congr fun a _ => ?_
    by_cases g : n < a
    · have h3 : a ≠ n := by omega
      have h4 : n ≤ a := by omega
      simp [g, h3, h4]
    · by_cases h3 : a = n
      · simp [h3]
      · have h4 : ¬ n ≤ a := by omega
        simp [g, h4]
/-- The first place of a number, or -1. -/
def fstU : List Nat → Nat → Nat → Int
  | [], _, _ => -1
  | a :: r, n, k => if a = n then (k : Int) else fstU r n (k + 1)
theorem fstU_drop {u : List Nat} {n k x : Nat} (h : u[k]? = some x) : fstU (u.drop k) n k = if x = n then (k : Int) else fstU (u.drop (k + 1)) n (k + 1) := by
  obtain ⟨hk, e⟩ := List.getElem?_eq_some_iff.1 h
  rw [List.drop_eq_getElem_cons hk, e]; rfl
theorem fstU_spec (n : Nat) : ∀ (u : List Nat) (k : Nat), (fstU u n k = -1 ∧ n ∉ u) ∨ ∃ i, i < u.length ∧ fstU u n k = ((k + i : Nat) : Int) ∧ u[i]? = some n ∧ n ∉ u.take i
  | [], k => .inl ⟨rfl, by simp⟩
  | a :: r, k => by
    by_cases h : a = n
    · exact .inr ⟨0, by simp, by simp [fstU, h], by simp [h], by simp⟩
    · rcases fstU_spec n r (k + 1) with ⟨h1, h2⟩ | ⟨i, h1, h2, h3, h4⟩
      · refine .inl ⟨by rw [fstU, if_neg h]; exact h1, ?_⟩
        intro hm
        rcases List.mem_cons.1 hm with e | e
        · exact h e.symm
        · exact h2 e
      · refine .inr ⟨i + 1, by rw [List.length_cons]; omega, by rw [fstU, if_neg h, h2]; congr 1; omega, by simpa using h3, ?_⟩
        intro hm
        rw [List.take_succ_cons] at hm
        rcases List.mem_cons.1 hm with e | e
        · exact h e.symm
        · exact h4 e
theorem code_u (n : Nat) (w : World) (hn : n < 65536) : Calls Tryz.prog 9 #[.int .u16 (n : Int)] w fun e w' => e = .returned (.bool (decide (1 ≤ n ∧ n ≤ 999))) ∧ Below w.heap.size w w' := by
  by_cases h1 : 1 ≤ n
  · have e1 : (1 : Int) ≤ (n : Int) := by omega
    by_cases h2 : n ≤ 999
    · have e2 : (n : Int) ≤ 999 := by omega
      rw [decide_eq_true ⟨h1, h2⟩]
      go_enter Tryz.func9, Tryz.ntmps9
      go_wp2
      go_ret
      exact ⟨rfl, Below.refl _ _⟩
    · have e2 : ¬ (n : Int) ≤ 999 := by omega
      rw [decide_eq_false (fun h => h2 h.2)]
      go_enter Tryz.func9, Tryz.ntmps9
      go_wp2
      go_ret
      exact ⟨rfl, Below.refl _ _⟩
  · have e1 : ¬ (1 : Int) ≤ (n : Int) := by omega
    rw [decide_eq_false (fun h => h1 h.1)]
    go_enter Tryz.func9, Tryz.ntmps9
    go_wp2
    go_ret
    exact ⟨rfl, Below.refl _ _⟩
theorem has_u (v : Value) (u : List Nat) (n : Nat) (w : World) (hR : Recs uc 1 w v u) : Calls Tryz.prog 12 #[v, .int .u16 (n : Int)] w fun e w' => e = .returned (.bool (decide (n ∈ u))) ∧ Below w.heap.size w w' := by
  have K := Lib.hid (contains_u v u n w hR)
  clear hR
  generalize decide (n ∈ u) = r at *
  go_enter Tryz.func12, Tryz.ntmps12
  go_wp2_with (go_at_call 17; refine K.out.mono ?_; rintro e w1 ⟨rfl, rfl⟩)
  go_ret
  exact ⟨rfl, Below.refl _ _⟩
theorem chkU1_drop {u : List Nat} {k x h : Nat} (hx : u[k]? = some x) : chkU1 h (u.drop k) = if x = 0 ∨ 999 < x then 5 else if x ≤ h then 6 else chkU1 x (u.drop (k + 1)) := by
  obtain ⟨hk, e⟩ := List.getElem?_eq_some_iff.1 hx
  rw [List.drop_eq_getElem_cons hk, e]; rfl
set_option maxHeartbeats 1000000 in
set_option maxRecDepth 100000 in
theorem check_u (v : Value) (u : List Nat) (w : World) (hR : Recs uc 1 w v u) (hl : u.length ≤ 1000) (hu : ∀ x ∈ u, x < 65536) :
    Calls Tryz.prog 8 #[v] w fun e w' => e = .returned (.int .i64 (chkU u)) ∧ Below w.heap.size w w' := by
  obtain ⟨r, cap, rfl, hm⟩ := hR.form
  have HR := Lib.hid hR
  have HU := Lib.hid hu
  obtain ⟨L, hL⟩ : ∃ L, u.length = L := ⟨_, rfl⟩
  have HL := Lib.hid hL
  rw [hL] at HR hm hl ⊢
  by_cases hbig : 40 < L
  · have e1 : (40 : Int) < (L : Int) := by omega
    rw [chkU_big (by omega)]
    clear hR hu hL
    go_enter Tryz.func8, Tryz.ntmps8
    go_wp2
    go_ret
    exact ⟨rfl, Below.refl _ _⟩
  · have e1 : ¬ (40 : Int) < (L : Int) := by omega
    have HC : Hid (chkU u = chkU1 0 (u.drop 0)) := Lib.hid (by unfold chkU; rw [if_neg (by omega)]; rfl)
    have KC := Lib.hid (fun n w h => code_u n w h)
    obtain ⟨C, hC⟩ : ∃ C, chkU u = C := ⟨_, rfl⟩
    rw [hC] at HC ⊢
    clear hR hu hL hC
    go_enter Tryz.func8, Tryz.ntmps8
    go_wp2
    go_loopw [3, 11] (fun a i wr => ∃ k h : Nat, k ≤ L ∧ h < 65536 ∧ i = .int .i64 k ∧ a = .int .u16 h ∧ Hid (C = chkU1 h (u.drop k)) ∧ Hid (Below w.heap.size w wr)) (fun _ i _ => L - (intOf i).toNat)
    case atStart => exact ⟨0, 0, Nat.zero_le _, by omega, rfl, rfl, HC, Lib.hid (Below.refl _ _)⟩
    case round =>
      obtain ⟨k, h, hk, hh, rfl, rfl, HCk, HB⟩ := hrel
      rename World => wr
      by_cases hlt : k < L
      · obtain ⟨x, hx⟩ : ∃ x, u[k]? = some x := ⟨u[k]'(by have := HL.out; omega), List.getElem?_eq_getElem (by have := HL.out; omega)⟩
        obtain ⟨g, off, rfl, hg, hc⟩ := (HR.out.stay HB.out).at hx
        have c0 := hc 0 _ rfl
        simp only [Nat.mul_one, Nat.add_zero] at c0
        have hx6 := HU.out x (List.mem_of_getElem? hx)
        have HS : Hid (C = if x = 0 ∨ 999 < x then 5 else if x ≤ h then 6 else chkU1 x (u.drop (k + 1))) := Lib.hid (by rw [HCk.out, chkU1_drop hx])
        clear hc hx HCk
        have K1 := KC.out x wr hx6
        by_cases hr : x = 0 ∨ 999 < x
        · have hd : decide (1 ≤ x ∧ x ≤ 999) = false := decide_eq_false (by omega)
          rw [hd] at K1
          have HK := Lib.hid K1
          have HE : C = 5 := by rw [HS.out, if_pos hr]
          clear K1 hd hr HS
          go_wp2_with (go_at_call 9; refine HK.out.mono ?_; rintro e w1 ⟨rfl, hb1⟩; have HB1 := Lib.hid (HB.out.trans (hb1.mono HB.out.size)); clear hb1)
          go_ret
          exact ⟨by rw [HE]; rfl, HB1.out⟩
        · have hd : decide (1 ≤ x ∧ x ≤ 999) = true := decide_eq_true (by omega)
          rw [hd] at K1
          have HK := Lib.hid K1
          by_cases ho : x ≤ h
          · have e2 : (x : Int) ≤ (h : Int) := by omega
            have HE : C = 6 := by rw [HS.out, if_neg hr, if_pos ho]
            clear K1 hd hr HS ho
            go_wp2_with (go_at_call 9; refine HK.out.mono ?_; rintro e w1 ⟨rfl, hb1⟩; have HB1 := Lib.hid (HB.out.trans (hb1.mono HB.out.size)); clear hb1)
            go_ret
            exact ⟨by rw [HE]; rfl, HB1.out⟩
          · have e2 : ¬ (x : Int) ≤ (h : Int) := by omega
            have HE : Hid (C = chkU1 x (u.drop (k + 1))) := Lib.hid (by rw [HS.out, if_neg hr, if_neg ho])
            clear K1 hd hr HS ho
            go_wp2_with (go_at_call 9; refine HK.out.mono ?_; rintro e w1 ⟨rfl, hb1⟩; have HB1 := Lib.hid (HB.out.trans (hb1.mono HB.out.size)); clear hb1)
            go_roundw
            case rel => exact ⟨k + 1, x, by omega, hx6, by go_num, rfl, HE, HB1⟩
            case measure => simp [intOf]; omega
      · obtain rfl : k = L := by omega
        have HE : C = 0 := by rw [HCk.out, List.drop_eq_nil_of_le (by have := HL.out; omega)]; rfl
        clear HCk
        go_wp2
        go_ret
        exact ⟨by rw [HE]; rfl, HB.out⟩
end Go.Proofs.YtaldafgkhcihjaaGreatDoor

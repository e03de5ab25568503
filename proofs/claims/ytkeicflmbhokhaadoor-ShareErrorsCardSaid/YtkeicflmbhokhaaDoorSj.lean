/- The walk of law ShareErrors. -/
import Derived.Test.YtkeicflmbhokhaaDoorSh
namespace Go.Proofs.YtkeicflmbhokhaaDoor
open Go.RowKit
set_option linter.unusedVariables false
set_option linter.unusedSimpArgs false
/-- What the law expects of the first weights. -/
def wantL (zs : List Int) : Nat → Int
  | 0 => 0
  | j + 1 => if zs.getD j 0 < 1 ∨ 1000000 < zs.getD j 0 then 5 else wantL zs j
theorem wantL_good (zs : List Int) : ∀ j, (∀ i, i < j → 1 ≤ zs.getD i 0 ∧ zs.getD i 0 ≤ 1000000) → wantL zs j = 0
  | 0, _ => rfl
  | j + 1, h => by
    have h1 := h j (by omega)
    unfold wantL
    rw [if_neg (by omega)]
    exact wantL_good zs j fun i hi => h i (by omega)
theorem wantL_bad (zs : List Int) : ∀ j, ¬ (∀ i, i < j → 1 ≤ zs.getD i 0 ∧ zs.getD i 0 ≤ 1000000) → wantL zs j = 5
  | 0, h => absurd (fun i hi => by omega) h
  | j + 1, h => by
    unfold wantL
    by_cases e : zs.getD j 0 < 1 ∨ 1000000 < zs.getD j 0
    · rw [if_pos e]
    · rw [if_neg e]
      refine wantL_bad zs j fun h' => h fun i hi => ?_
      by_cases e2 : i = j
      · subst e2; omega
      · exact h' i (by omega)
set_option maxHeartbeats 4000000 in
theorem shareerrors_some (b off cap : Nat) (zs : List Int) (a : Int) (w : World) (C : AllotC) (htab : Pow w) (hw : 0 < w.heap.size) (ha : (Lit.int .i64 a).wf = true) (hb : b < w.heap.size) (h0 : zs.length ≤ 20)
    (hc : zs.length ≤ cap) (hz : ∀ i, i < zs.length → w.cell? ⟨b, off + i, none⟩ = some (.int .i64 (zs.getD i 0)) ∧ (Lit.int .i64 (zs.getD i 0)).wf = true) :
    Calls Tryd.prog 5 #[.int .i64 a, .slice (some ⟨b, off, none⟩) zs.length cap] w fun e w' => e = .returned (.bool true) ∧ Below w.heap.size w w' := by
  have K1 := Lib.hid (awake3_any C w htab hw)
  have e20 : decide ((20 : Int) < (zs.length : Int)) = false := by simp; omega
  have e20' : decide ((zs.length : Int) > 20) = false := by simp; omega
  have Hz := Lib.hid hz
  clear hz
  go_enter Tryd.func5, Tryd.ntmps5
  go_wp2_with (first
    | (go_at_call 8; refine K1.out.mono ?_; rintro e w1 ⟨rfl, hb1⟩))
  go_loop [5, 17] (fun x i => ∃ j : Nat, j ≤ zs.length ∧ i = .int .i64 j ∧ x = .int .i64 (wantL zs j)) (fun _ i => zs.length - (RowKit.intOf i).toNat)
  case atStart => exact ⟨0, Nat.zero_le _, rfl, rfl⟩
  case round =>
    obtain ⟨j, hj, rfl, rfl⟩ := hrel
    by_cases hlt : j < zs.length
    · have hcj : w1.cell? ⟨b, off + j, none⟩ = some (.int .i64 (zs.getD j 0)) := by rw [hb1.cell (p := ⟨b, off + j, none⟩) hb]; exact (Hz.out j hlt).1
      have HW := Lib.hid (show wantL zs (j + 1) = if zs.getD j 0 < 1 ∨ 1000000 < zs.getD j 0 then 5 else wantL zs j from rfl)
      generalize zs.getD j 0 = z at *
      generalize wantL zs j = x at *
      by_cases h1 : z < 1
      · have HW' := Lib.hid (HW.out.trans (if_pos (.inl h1)))
        clear HW
        go_wp2
        go_round
        case rel => first | exact ⟨j + 1, by omega, by go_num, int_int HW'.out.symm⟩ | exact ⟨_, _, _, ⟨j + 1, by omega, by go_num, int_int HW'.out.symm⟩, rfl, rfl, rfl⟩
        case measure => simp [RowKit.intOf]; omega
      · by_cases h2 : 1000000 < z
        · have HW' := Lib.hid (HW.out.trans (if_pos (.inr h2)))
          clear HW
          go_wp2
          go_round
          case rel => first | exact ⟨j + 1, by omega, by go_num, int_int HW'.out.symm⟩ | exact ⟨_, _, _, ⟨j + 1, by omega, by go_num, int_int HW'.out.symm⟩, rfl, rfl, rfl⟩
          case measure => simp [RowKit.intOf]; omega
        · have HW' := Lib.hid (HW.out.trans (if_neg (by omega)))
          clear HW
          go_wp2
          go_round
          case rel => first | exact ⟨j + 1, by omega, by go_num, int_int HW'.out.symm⟩ | exact ⟨_, _, _, ⟨j + 1, by omega, by go_num, int_int HW'.out.symm⟩, rfl, rfl, rfl⟩
          case measure => simp [RowKit.intOf]; omega
    · obtain rfl : j = zs.length := by omega
      have hA : Amts w1 (.slice (some ⟨b, off, none⟩) zs.length cap) zs := Amts.stay (.inr ⟨b, off, cap, rfl, hb, by omega, hc, Hz.out⟩) hb1
      by_cases hs : 0 < zs.length ∧ zs.length ≤ 8
      · have e1 : decide ((zs.length : Int) < 1) = false := by simp; omega
        have e2 : decide ((8 : Int) < (zs.length : Int)) = false := by simp; omega
        have e2' : decide ((zs.length : Int) > 8) = false := by simp; omega
        by_cases hg : GoodW zs
        · have K2 := Lib.hid (C.good _ zs a w1 hA ha hs.1 hs.2 hg)
          have hx : wantL zs zs.length = 0 := wantL_good zs _ hg
          generalize wantL zs zs.length = x at *
          subst hx
          go_wp2_with (go_at_call 10; refine K2.out.mono ?_; rintro e w2 ⟨u, rfl, ho2, hb2⟩)
          all_goals go_ret
          all_goals exact ⟨by simp, hb1.trans (hb2.mono hb1.size)⟩
        · have K2 := Lib.hid (C.range _ zs a w1 hA ha hs.1 hs.2 hg)
          have hx : wantL zs zs.length = 5 := wantL_bad zs _ hg
          generalize wantL zs zs.length = x at *
          subst hx
          go_wp2_with (go_at_call 10; refine K2.out.mono ?_; rintro e w2 ⟨r, c, rfl, hb2⟩)
          all_goals go_ret
          all_goals exact ⟨by simp, hb1.trans (hb2.mono hb1.size)⟩
      · have K2 := Lib.hid (C.size _ zs a w1 hA ha hs)
        generalize wantL zs zs.length = x at *
        by_cases h1 : zs.length < 1
        · have e1 : decide ((zs.length : Int) < 1) = true := by simp; omega
          go_wp2_with (go_at_call 10; refine K2.out.mono ?_; rintro e w2 ⟨r, c, rfl, hb2⟩)
          all_goals go_ret
          all_goals exact ⟨by simp, hb1.trans (hb2.mono hb1.size)⟩
        · have e1 : decide ((zs.length : Int) < 1) = false := by simp; omega
          have e2 : decide ((8 : Int) < (zs.length : Int)) = true := by simp; omega
          have e2' : decide ((zs.length : Int) > 8) = true := by simp; omega
          go_wp2_with (go_at_call 10; refine K2.out.mono ?_; rintro e w2 ⟨r, c, rfl, hb2⟩)
          all_goals go_ret
          all_goals exact ⟨by simp, hb1.trans (hb2.mono hb1.size)⟩
theorem shareerrors_long (r : Option Addr) (n cap : Nat) (a : Int) (w : World) (hn : 20 < n) (C : AllotC) (htab : Pow w) (hw : 0 < w.heap.size) :
    Calls Tryd.prog 5 #[.int .i64 a, .slice r n cap] w fun e w' => e = .returned (.bool true) ∧ Below w.heap.size w w' := by
  have K1 := Lib.hid (awake3_any C w htab hw)
  go_enter Tryd.func5, Tryd.ntmps5
  go_wp2_with (go_at_call 8; refine K1.out.mono ?_; rintro e w1 ⟨rfl, hb1⟩)
  go_ret
  exact ⟨rfl, hb1⟩
theorem shareerrors_nil (r : Option Addr) (cap : Nat) (a : Int) (w : World) (ha : (Lit.int .i64 a).wf = true) (C : AllotC) (htab : Pow w) (hw : 0 < w.heap.size) :
    Calls Tryd.prog 5 #[.int .i64 a, .slice r 0 cap] w fun e w' => e = .returned (.bool true) ∧ Below w.heap.size w w' := by
  have K1 := Lib.hid (awake3_any C w htab hw)
  go_enter Tryd.func5, Tryd.ntmps5
  go_wp2_with (go_at_call 8; refine K1.out.mono ?_; rintro e w1 ⟨rfl, hb1⟩)
  go_loop [17] (fun i => i = .int .i64 0) (fun i => 0)
  case atStart => rfl
  case round =>
    obtain rfl := hrel
    have K2 := Lib.hid (C.size (.slice r 0 cap) [] a w1 (.inl ⟨r, cap, rfl, rfl⟩) ha (by simp))
    go_wp2_with (go_at_call 10; refine K2.out.mono ?_; rintro e w2 ⟨r', c, rfl, hb2⟩)
    all_goals go_ret
    all_goals exact ⟨by simp, hb1.trans (hb2.mono hb1.size)⟩
theorem shareerrors_any (v : Value) (zs : List Int) (a : Int) (w : World) (C : AllotC) (htab : Pow w) (hw : 0 < w.heap.size) (ha : (Lit.int .i64 a).wf = true) (h : Amts w v zs) :
    Calls Tryd.prog 5 #[.int .i64 a, v] w fun e w' => e = .returned (.bool true) ∧ Below w.heap.size w w' := by
  rcases h with ⟨r, cap, rfl, rfl⟩ | ⟨b, off, cap, rfl, hb, hl, hc, hz⟩
  · exact shareerrors_nil r cap a w ha C htab hw
  · by_cases h : 20 < zs.length
    · exact shareerrors_long _ _ cap a w h C htab hw
    · exact shareerrors_some b off cap zs a w C htab hw ha hb (by omega) hc hz
end Go.Proofs.YtkeicflmbhokhaaDoor

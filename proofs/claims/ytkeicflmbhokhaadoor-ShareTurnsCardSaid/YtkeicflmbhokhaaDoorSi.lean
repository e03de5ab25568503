/- The walk of law ShareAllots. -/
import Derived.Test.YtkeicflmbhokhaaDoorSh
namespace Go.Proofs.YtkeicflmbhokhaaDoor
open Go.RowKit
set_option linter.unusedVariables false
set_option linter.unusedSimpArgs false
theorem lallot_amts (v : Value) (zs : List Int) (a : Int) (w : World) (h : Amts w v zs) (ha : (Lit.int .i64 a).wf = true) (h0 : 0 < zs.length) (h8 : zs.length ≤ 8) (hg : GoodW zs) :
    Calls Tryd.prog 12 #[.int .i64 a, v] w fun e w' => ∃ u, e = .returned u ∧ w'.ownsRow w.heap.size 2 1 u zs.length (ints (sharesV a zs)) ∧ Below w.heap.size w w' := by
  rcases h with ⟨r, cap, rfl, rfl⟩ | ⟨b, off, cap, rfl, hb, hl, hc, hz⟩
  · simp at h0
  · have hba := wf_bd_i64 ha
    obtain ⟨ht, hw⟩ := good_total hg h0 h8
    obtain ⟨P, d, ⟨O, h1, _⟩, _⟩ := shares_some a.natAbs zs.length (wOf zs) ht (by omega) hw
    refine (lallot_any b off cap zs a w ha ⟨hb, h0, h8, hc, fun i hi => ?_⟩).mono ?_
    · have h2 := hg i hi
      have h3 := (hz i hi).1
      have h4 : ((wOf zs i : Nat) : Int) = zs.getD i 0 := by unfold wOf; omega
      refine ⟨by rw [h4]; exact h3, by omega, by omega⟩
    · rintro e w' ⟨hA, hB⟩
      unfold Allotted at hA
      rw [h1] at hA
      obtain ⟨u, he, ho⟩ := hA
      refine ⟨u, he, ?_, hB⟩
      have hs : sharesV a zs = allotL (decide (a < 0)) zs.length O := by unfold sharesV; rw [h1]
      rw [hs]; exact ho
theorem wgt_all (zs : List Int) : ∀ z ∈ zs.map wgt, (Lit.int .i64 z).wf = true := by
  intro z hz
  obtain ⟨y, _, rfl⟩ := List.mem_map.1 hz
  exact wgt_wf y
theorem shareallots_out (r : Option Addr) (n cap : Nat) (a : Int) (w : World) (hn : n = 0 ∨ 8 < n) (C : AllotC) (htab : Pow w) (hw : 0 < w.heap.size) :
    Calls Tryd.prog 3 #[.int .i64 a, .slice r n cap] w fun e w' => e = .returned (.bool true) ∧ Below w.heap.size w w' := by
  have K := Lib.hid (fun w' => fun h1 h2 => awake3_any C w' h1 h2)
  rcases hn with rfl | hn
  · go_enter Tryd.func3, Tryd.ntmps3
    go_wp2_with (go_at_call 8; refine (K.out _ htab hw).mono ?_; rintro e w1 ⟨rfl, hb1⟩)
    go_ret
    exact ⟨rfl, hb1⟩
  · go_enter Tryd.func3, Tryd.ntmps3
    go_wp2_with (go_at_call 8; refine (K.out _ htab hw).mono ?_; rintro e w1 ⟨rfl, hb1⟩)
    go_ret
    exact ⟨rfl, hb1⟩
set_option maxHeartbeats 2000000 in
theorem shareallots_some (b off cap : Nat) (zs : List Int) (a : Int) (w : World) (C : AllotC) (htab : Pow w) (hw : 0 < w.heap.size) (ha : (Lit.int .i64 a).wf = true) (hb : b < w.heap.size) (h0 : 0 < zs.length) (h8 : zs.length ≤ 8)
    (hz : ∀ i, i < zs.length → w.cell? ⟨b, off + i, none⟩ = some (.int .u32 (zs.getD i 0)) ∧ (Lit.int .u32 (zs.getD i 0)).wf = true) :
    Calls Tryd.prog 3 #[.int .i64 a, .slice (some ⟨b, off, none⟩) zs.length cap] w fun e w' => e = .returned (.bool true) ∧ Below w.heap.size w w' := by
  have K1 := Lib.hid (awake3_any C w htab hw)
  have K2 := Lib.hid (fun (w' : World) (h : Below w.heap.size w w') => weights_some b off cap zs w' (Nat.lt_of_lt_of_le hb h.size) (by omega) (fun i hi => ⟨by rw [h.cell (p := ⟨b, off + i, none⟩) hb]; exact (hz i hi).1, (hz i hi).2⟩))
  have K3 := Lib.hid (fun (v : Value) (w' : World) (h : Amts w' v (zs.map wgt)) => C.good v (zs.map wgt) a w' h ha (by simpa using h0) (by simpa using h8) (weights_good zs))
  have K4 := Lib.hid (fun (v : Value) (w' : World) (h : Amts w' v (zs.map wgt)) => lallot_amts v (zs.map wgt) a w' h ha (by simpa using h0) (by simpa using h8) (weights_good zs))
  have hlen : (sharesV a (zs.map wgt)).length = (zs.map wgt).length := sharesV_length ha (weights_good zs) (by simpa using h0) (by simpa using h8)
  have Hlen := Lib.hid hlen
  have W1 := Lib.hid (fun z hz => wgt_all zs z hz)
  have W2 := Lib.hid (sharesV_wf (a := a) (zs := zs.map wgt))
  have e8 : decide ((8 : Int) < (zs.length : Int)) = false := by simp; omega
  have e8' : decide ((zs.length : Int) > 8) = false := by simp; omega
  have e0 : (((zs.length : Nat) : Int) == 0) = false := beq_eq_false_iff_ne.2 (by omega)
  clear hz hlen
  go_enter Tryd.func3, Tryd.ntmps3
  go_wp2_with (first
    | (go_at_call 8; refine K1.out.mono ?_; rintro e w1 ⟨rfl, hb1⟩)
    | (go_at_call 9; refine (K2.out _ hb1).mono ?_; rintro e w2 ⟨v2, rfl, ho2, hb2⟩; have A2 : Amts w2 v2 (zs.map wgt) := amts_owns (by simpa using ho2) (by simp; omega) W1.out; have hB2 := hb1.trans (hb2.mono hb1.size))
    | (go_at_call 10; refine (K3.out _ _ A2).mono ?_; rintro e w3 ⟨v3, rfl, ho3, hb3⟩; have A3 : Amts w3 v3 (sharesV a (zs.map wgt)) := amts_owns (by rw [Hlen.out]; exact ho3) (by rw [Hlen.out]; simp; omega) W2.out; have A23 := A2.stay hb3; have hB3 := hB2.trans (hb3.mono hB2.size))
    | (go_at_call 12; refine (K4.out _ _ A23).mono ?_; rintro e w4 ⟨v4, rfl, ho4, hb4⟩; have A4 : Amts w4 v4 (sharesV a (zs.map wgt)) := amts_owns (by rw [Hlen.out]; exact ho4) (by rw [Hlen.out]; simp; omega) W2.out; have A34 := A3.stay hb4; have hB4 := hB3.trans (hb4.mono hB3.size))
    | (go_at_call 11; refine (equal_any _ _ _ _ _ A34 A4).mono ?_; rintro e w5 ⟨rfl, hb5⟩; have hB5 := hB4.trans (hb5.mono hB4.size)))
  all_goals go_ret
  all_goals exact ⟨by simp, hB5⟩
theorem shareallots_any (v : Value) (zs : List Int) (a : Int) (w : World) (C : AllotC) (htab : Pow w) (hw : 0 < w.heap.size) (ha : (Lit.int .i64 a).wf = true) (h : Nums .u32 w v zs) :
    Calls Tryd.prog 3 #[.int .i64 a, v] w fun e w' => e = .returned (.bool true) ∧ Below w.heap.size w w' := by
  rcases h with ⟨r, cap, rfl, rfl⟩ | ⟨b, off, cap, rfl, hb, hl, hc, hz⟩
  · exact shareallots_out r 0 cap a w (.inl rfl) C htab hw
  · by_cases h : zs.length = 0 ∨ 8 < zs.length
    · exact shareallots_out _ _ cap a w h C htab hw
    · exact shareallots_some b off cap zs a w C htab hw ha hb (by omega) (by omega) hz
end Go.Proofs.YtkeicflmbhokhaaDoor

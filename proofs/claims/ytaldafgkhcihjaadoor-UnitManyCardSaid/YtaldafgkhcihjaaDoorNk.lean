/- The walk of law UnitMany. -/
import Derived.Test.YtaldafgkhcihjaaDoorNg
import Derived.Deep.LoopGhost
namespace Go.Proofs.YtaldafgkhcihjaaDoor
open Go.RowKit
set_option linter.unusedVariables false
set_option linter.unusedSimpArgs false
/-- The entities 1, 8, 15 .. -/
def sevU (k : Nat) : List Nat := (List.range k).map (fun i => 1 + 7 * i)
theorem sevU_len (k : Nat) : (sevU k).length = k := by unfold sevU; simp
theorem sevU_mem {k x : Nat} : x ∈ sevU k ↔ ∃ i, i < k ∧ 1 + 7 * i = x := by unfold sevU; simp
theorem sevU_rise (k : Nat) : RiseU (sevU k) := by
  unfold sevU RiseU
  refine List.pairwise_map.2 ((List.pairwise_lt_range (n := k)).imp ?_)
  intro a b h; omega
theorem sevU_step (k : Nat) : withU (sevU k) (1 + 7 * k) = sevU (k + 1) := by
  rw [with_end (fun x hx => by obtain ⟨i, h1, rfl⟩ := sevU_mem.1 hx; omega)]
  unfold sevU
  rw [List.range_succ, List.map_append]; rfl
theorem sevU_lt {k B : Nat} (h : 1 + 7 * k ≤ B) : ∀ x ∈ sevU k, x < B := fun x hx => by
  obtain ⟨i, h1, rfl⟩ := sevU_mem.1 hx; omega
theorem sevU_ok {k : Nat} (h : k ≤ 40) : chkU (sevU k) = 0 := chkU_ok (sevU_rise k) (fun x hx => by obtain ⟨i, h1, rfl⟩ := sevU_mem.1 hx; omega) (by rw [sevU_len]; exact h)
theorem sevU_big {k : Nat} (h : 40 < k) : chkU (sevU k) = 2 := chkU_big (by rw [sevU_len]; exact h)
set_option maxHeartbeats 2000000 in
set_option maxRecDepth 100000 in
theorem unitmany_any {I : World → Prop} (C : AllotC) (D : DayC I) (K : KeyC I) (U : UnitC) (n : Nat) (w : World) (hI : I w) (hn : n < 256) :
    Calls Tryd.prog 3 #[.int .u8 (n : Int)] w fun e w' => e = .returned (.bool true) ∧ Below w.heap.size w w' := by
  have HW := Lib.hid (awake7_any C D K U w hI)
  have HU := Lib.hid U
  obtain ⟨N, hN⟩ : ∃ N, 36 + n % 10 = N := ⟨_, rfl⟩
  have hN10 : n % 10 < 10 := Nat.mod_lt _ (by omega)
  have e1 : 36 + (n : Int).tmod 10 = (N : Int) := by rw [Int.tmod_eq_emod_of_nonneg (by omega)]; omega
  have e2 : 36 + (n : Int) % 10 = (N : Int) := by omega
  have h36 : 36 ≤ N := by omega
  have h45 : N ≤ 45 := by omega
  clear hN hn C D K U hI hN10
  go_enter Tryd.func3, Tryd.ntmps3
  go_wp2_with (go_at_call 4; refine HW.out.mono ?_; rintro e w1 ⟨rfl, h1⟩; have HB1 := Lib.hid h1; clear h1)
  go_loopw [3, 12] (fun s3 i wr => ∃ (k : Nat) (r : Option Addr) (cap : Nat), s3 = .slice r k cap ∧ i = .int .i64 k ∧ k ≤ N ∧ Hid (Recs uc 1 wr (.slice r k cap) (sevU k)) ∧ Hid (Below w.heap.size w wr)) (fun _ i _ => N - (intOf i).toNat)
  case atStart => exact ⟨0, _, _, rfl, rfl, Nat.zero_le _, Lib.hid (.inl ⟨_, _, rfl, rfl⟩), Lib.hid (HB1.out.alloc HB1.out.size _)⟩
  case round =>
    obtain ⟨k, r, cap, rfl, rfl, hk, HR, HB⟩ := hrel
    rename World => wr
    have hbs := HB.out.size
    by_cases hlt : k < N
    · obtain ⟨x, hx⟩ : ∃ x, 1 + 7 * k = x := ⟨_, rfl⟩
      have t1 : 1 + 7 * (k : Int) = (x : Int) := by omega
      have t2 : IntKind.u16.wrap (x : Int) = (x : Int) := by rw [IntKind.wrap_u16]; omega
      have KW : Hid (Calls Tryd.prog 5 #[.slice r k cap, .int .u16 (x : Int)] wr fun e w' => ∃ v', e = .returned v' ∧ Recs uc 1 w' v' (sevU (k + 1)) ∧ Below wr.heap.size wr w') := Lib.hid (by
        have := HU.out.with' _ _ x wr HR.out (sevU_rise k) (by rw [sevU_len]; omega) (sevU_lt (by omega)) (by omega)
        rwa [← hx, sevU_step, hx] at this)
      clear hx
      go_wp2_with (go_at_call 5; refine KW.out.mono ?_; rintro e w2 ⟨v2, rfl, h1, h2⟩; have HR2 := Lib.hid h1; have HB2 := Lib.hid (HB.out.trans (h2.mono hbs)); obtain ⟨r2, cap2, rfl, _⟩ := h1.form; rw [sevU_len] at *; clear h1 h2)
      go_roundw
      case rel => exact ⟨k + 1, r2, cap2, rfl, by go_num, by omega, HR2, HB2⟩
      case measure => simp [intOf]; omega
    · obtain rfl : k = N := by omega
      by_cases h40 : 40 < k
      · have t1 : (40 : Int) < (k : Int) := by omega
        have KC : Hid (Calls Tryd.prog 6 #[.slice r k cap] wr fun e w' => e = .returned (.int .i64 2) ∧ Below wr.heap.size wr w') := Lib.hid (by
          have := HU.out.check _ _ wr HR.out (by rw [sevU_len]; omega) (sevU_lt (by omega))
          rwa [sevU_big h40] at this)
        go_wp2_with (go_at_call 6; refine KC.out.mono ?_; rintro e w2 ⟨rfl, h2⟩; have HB2 := Lib.hid (HB.out.trans (h2.mono hbs)); clear h2)
        go_ret
        exact ⟨by simp, HB2.out⟩
      · have t1 : ¬ (40 : Int) < (k : Int) := by omega
        have KC : Hid (Calls Tryd.prog 6 #[.slice r k cap] wr fun e w' => e = .returned (.int .i64 0) ∧ Below wr.heap.size wr w') := Lib.hid (by
          have := HU.out.check _ _ wr HR.out (by rw [sevU_len]; omega) (sevU_lt (by omega))
          rwa [sevU_ok (by omega)] at this)
        have K1 : Hid (∀ w', Below wr.heap.size wr w' → Calls Tryd.prog 7 #[.slice r k cap, .int .u16 1] w' fun e w'' => e = .returned (.bool true) ∧ Below w'.heap.size w' w'') := Lib.hid (fun w' h => by
          have := HU.out.has _ _ 1 w' (HR.out.stay h) (by rw [sevU_len]; omega) (by omega)
          rwa [decide_eq_true (sevU_mem.2 ⟨0, by omega, rfl⟩)] at this)
        have K2 : Hid (∀ w', Below wr.heap.size wr w' → Calls Tryd.prog 7 #[.slice r k cap, .int .u16 2] w' fun e w'' => e = .returned (.bool false) ∧ Below w'.heap.size w' w'') := Lib.hid (fun w' h => by
          have := HU.out.has _ _ 2 w' (HR.out.stay h) (by rw [sevU_len]; omega) (by omega)
          rwa [decide_eq_false (fun h => by obtain ⟨i, _, e⟩ := sevU_mem.1 h; omega)] at this)
        go_wp2_with (first
          | (go_at_call 7; refine (K2.out _ HD3.out).mono ?_; rintro e w4 ⟨rfl, h2⟩; have HD4 := Lib.hid (HD3.out.trans (h2.mono HD3.out.size)); clear h2)
          | (go_at_call 7; refine (K1.out _ HD2.out).mono ?_; rintro e w3 ⟨rfl, h2⟩; have HD3 := Lib.hid (HD2.out.trans (h2.mono HD2.out.size)); clear h2)
          | (go_at_call 6; refine KC.out.mono ?_; rintro e w2 ⟨rfl, h2⟩; have HD2 := Lib.hid h2; clear h2))
        go_ret
        exact ⟨by simp, HB.out.trans (HD4.out.mono hbs)⟩
end Go.Proofs.YtaldafgkhcihjaaDoor

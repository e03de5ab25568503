/- Contract of package chart's Name. -/
import Derived.Test.YtdhgkggcnilgoaaGreatDoorDb
namespace Go.Proofs.YtdhgkggcnilgoaaGreatDoor
open Go.RowKit Go.Shelf
set_option linter.unusedVariables false
set_option linter.unusedSimpArgs false
theorem get_at_l (s : ByteArray) (k : Nat) (h : k < s.size) : s.toList[k]? = some (s[k]'h) := by
  rw [ByteArray.toList_eq, List.getElem?_eq_getElem (show k < s.data.toList.length by rw [Array.length_toList]; exact h)]
  rfl
theorem is32 (b : UInt8) : (b == 32) = ((b.toNat : Int) == 32) := by
  rw [Bool.eq_iff_iff]
  simp only [beq_iff_eq]
  constructor
  · intro h; subst h; rfl
  · intro h
    have : b.toNat = 32 := by omega
    exact UInt8.toNat_inj.1 this
theorem head_at (s : ByteArray) (h0 : 0 < s.size) : (s.toList.headD 0 == 32) = (((s[0]'h0).toNat : Int) == 32) := by
  rw [← is32, List.headD_eq_head?_getD, List.head?_eq_getElem?, get_at_l s 0 h0]; rfl
theorem size_l (s : ByteArray) : s.toList.length = s.size := by rw [ByteArray.toList_eq]; exact Array.length_toList
theorem last_at (s : ByteArray) (h0 : s.size - 1 < s.size) : (s.toList.getLastD 0 == 32) = (((s[s.size - 1]'h0).toNat : Int) == 32) := by
  rw [← is32, List.getLastD_eq_getLast?, List.getLast?_eq_getElem?, size_l, get_at_l s _ h0]; rfl
set_option maxHeartbeats 1000000 in
set_option maxRecDepth 100000 in
theorem cname_some (s : ByteArray) (w : World) (h0 : 0 < s.size) (h30 : s.size ≤ 30) :
    Calls Tryz.prog 25 #[.string s] w fun e w' => e = .returned (.bool (nameB s.toList)) ∧ Below w.heap.size w w' := by
  have h1 : (1 : Int) ≤ (s.size : Int) := by omega
  have h2 : s.size - 1 < s.size := by omega
  have hh := head_at s h0
  have hl := last_at s h2
  have HLEN := Lib.hid (size_l s)
  have HAT := Lib.hid (get_at_l s)
  obtain ⟨R, hR⟩ : ∃ R, nameB s.toList = R := ⟨_, rfl⟩
  rw [hR]
  cases q0 : (((s[0]'h0).toNat : Int) == 32) with
  | true =>
    have HE : Hid (R = false) := Lib.hid (by rw [← hR]; unfold nameB; rw [hh, q0]; simp)
    clear hh hl hR
    go_enter Tryz.func25, Tryz.ntmps25
    go_wp2
    go_ret
    exact ⟨by rw [HE.out]; rfl, Below.refl _ _⟩
  | false =>
    cases q1 : (((s[s.size - 1]'h2).toNat : Int) == 32) with
    | true =>
      have HE : Hid (R = false) := Lib.hid (by rw [← hR]; unfold nameB; rw [hl, q1]; simp)
      clear hh hl hR
      go_enter Tryz.func25, Tryz.ntmps25
      go_wp2
      go_ret
      exact ⟨by rw [HE.out]; rfl, Below.refl _ _⟩
    | false =>
      have HE : Hid (s.toList.all signB = R) := Lib.hid (by
        rw [← hR]; unfold nameB
        rw [hh, hl, q0, q1, decide_eq_true (by rw [HLEN.out]; exact h0), decide_eq_true (show s.toList.length < 31 by rw [HLEN.out]; omega)]; simp)
      clear hh hl hR
      generalize hll : s.toList = l at *
      clear hll
      go_enter Tryz.func25, Tryz.ntmps25
      go_wp2
      go_loopw [4] (fun _ wr => ∃ pos : Nat, pos ≤ s.size ∧ wr = w.iter s pos ∧ Hid ((l.take pos).all signB = true)) (fun _ wr => s.size - wr.iterPos w.heap.size)
      case atStart => exact ⟨0, Nat.zero_le _, rfl, Lib.hid rfl⟩
      case round =>
        obtain ⟨pos, hpos, rfl, HA⟩ := hrel
        have HB := fun p => Lib.hid (show Below w.heap.size w (w.iter s p) from (Below.refl _ _).alloc (Nat.le_refl _) _)
        by_cases hp : pos < s.size
        · have HBB := Lib.hid (HAT.out pos hp)
          by_cases ha : (s[pos]'hp).toNat < 128
          · have hnx : ∀ ty, (Instr.next (.pointer (some ⟨w.heap.size, 0, none⟩)) true ty).run Tryz.prog (w.iter s pos) = _ := fun ty => run_next_ascii w s pos ty hp ha
            have K := Lib.hid (fun w => named_c (((s[pos]'hp).toNat : Nat) : Int) w)
            rw [namedB_sign] at K
            generalize s[pos]'hp = b at *
            cases hs : signB b with
            | true =>
              rw [hs] at K
              have HA1 := Lib.hid (all_take HA.out HBB.out hs)
              clear hs
              go_wp2_with (go_at_call 32; refine (K.out _).mono ?_; rintro e w1 ⟨rfl, rfl⟩)
              go_roundw
              case rel => exact ⟨pos + 1, by omega, rfl, HA1⟩
              case measure => simp; omega
            | false =>
              rw [hs] at K
              have HF : Hid (R = false) := Lib.hid (by rw [← HE.out, List.all_eq_false]; exact ⟨b, List.mem_of_getElem? HBB.out, by simp [hs]⟩)
              clear hs
              go_wp2_with (go_at_call 32; refine (K.out _).mono ?_; rintro e w1 ⟨rfl, rfl⟩)
              go_ret
              exact ⟨by rw [HF.out]; rfl, (HB _).out⟩
          · have hdec := decode_high s pos hp (by omega)
            have hsb := sign_low (b := s[pos]'hp) (by omega)
            have hnx : ∀ ty, (Instr.next (.pointer (some ⟨w.heap.size, 0, none⟩)) true ty).run Tryz.prog (w.iter s pos) = _ := fun ty => run_next_any w s pos ty hp
            have K := Lib.hid (fun w => named_c ((Utf8.decode s pos).1 : Int) w)
            rw [namedB_high (by omega)] at K
            have HF : Hid (R = false) := Lib.hid (by rw [← HE.out, List.all_eq_false]; exact ⟨_, List.mem_of_getElem? HBB.out, by simp [hsb]⟩)
            clear hdec hsb
            go_wp2_with (go_at_call 32; refine (K.out _).mono ?_; rintro e w1 ⟨rfl, rfl⟩)
            go_ret
            exact ⟨by rw [HF.out]; rfl, (HB _).out⟩
        · have hnx : ∀ ty, (Instr.next (.pointer (some ⟨w.heap.size, 0, none⟩)) true ty).run Tryz.prog (w.iter s pos) = _ := fun ty => run_next_end w s pos ty hp
          have HF : Hid (R = true) := Lib.hid (by have := HA.out; rwa [List.take_of_length_le (by rw [HLEN.out]; omega), HE.out] at this)
          go_wp2
          go_ret
          exact ⟨by rw [HF.out]; rfl, (HB _).out⟩
theorem cname_none (s : ByteArray) (w : World) (h : s.size < 1 ∨ 30 < s.size) :
    Calls Tryz.prog 25 #[.string s] w fun e w' => e = .returned (.bool (nameB s.toList)) ∧ Below w.heap.size w w' := by
  have hlen := size_l s
  have hE : nameB s.toList = false := by
    unfold nameB
    rcases h with h | h
    · rw [decide_eq_false (by omega)]; rfl
    · rw [decide_eq_false (show ¬ s.toList.length < 31 by omega)]; simp
  rw [hE]
  clear hE hlen
  by_cases h1 : s.size < 1
  · have e1 : (s.size : Int) < 1 := by omega
    go_enter Tryz.func25, Tryz.ntmps25
    go_wp2
    go_ret
    exact ⟨rfl, Below.refl _ _⟩
  · have e1 : ¬ (s.size : Int) < 1 := by omega
    have e2 : 30 < (s.size : Int) := by omega
    go_enter Tryz.func25, Tryz.ntmps25
    go_wp2
    go_ret
    exact ⟨rfl, Below.refl _ _⟩
theorem cname_c (s : ByteArray) (w : World) : Calls Tryz.prog 25 #[.string s] w fun e w' => e = .returned (.bool (nameB s.toList)) ∧ Below w.heap.size w w' := by
  by_cases h : s.size < 1 ∨ 30 < s.size
  · exact cname_none s w h
  · exact cname_some s w (by omega) (by omega)
end Go.Proofs.YtdhgkggcnilgoaaGreatDoor

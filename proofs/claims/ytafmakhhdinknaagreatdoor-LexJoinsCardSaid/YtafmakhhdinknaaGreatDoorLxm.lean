/- Package lex: may a byte stand in a sort; the bytes that a text begins with, as many as are of a sort. -/
import Derived.Test.YtafmakhhdinknaaGreatDoorLxe
namespace Go.Proofs.YtafmakhhdinknaaGreatDoor
open Go.RowKit Go.Lib
set_option linter.unusedVariables false
set_option linter.unusedSimpArgs false
theorem low_val (c : UInt8) : lowB c = (decide ((97 : Int) ≤ (c.toNat : Int)) && decide ((c.toNat : Int) ≤ 122)) := by
  revert c; exact all_u8 (by decide +kernel)
theorem dig_val (c : UInt8) : digB c = (decide ((48 : Int) ≤ (c.toNat : Int)) && decide ((c.toNat : Int) ≤ 57)) := by
  revert c; exact all_u8 (by decide +kernel)
theorem dim_val (c : UInt8) : dimB c = (digB c || ((c.toNat : Int) == 45)) := by
  revert c; exact all_u8 (by decide +kernel)
theorem nl_val (c : UInt8) : notNl c = ((c.toNat : Int) != 10) := by
  revert c; exact all_u8 (by decide +kernel)
theorem inq_val (c : UInt8) : inQ c = (notNl c && ((c.toNat : Int) != 34)) := by
  revert c; exact all_u8 (by decide +kernel)
theorem letter_p (c : UInt8) (w : World) : Calls Tryz.prog 29 #[.int .u8 (c.toNat : Int)] w fun e w' => e = .returned (.bool (lowB c)) ∧ w' = w := by
  have hc := c.toNat_lt
  rw [low_val c]
  cases hb1 : decide ((97 : Int) ≤ (c.toNat : Int)) <;> cases hb2 : decide ((c.toNat : Int) ≤ 122) <;>
  · go_enter Tryz.func29, Tryz.ntmps29
    go_wp2
    go_ret
    exact ⟨rfl, rfl⟩
theorem digit_p (c : UInt8) (w : World) : Calls Tryz.prog 31 #[.int .u8 (c.toNat : Int)] w fun e w' => e = .returned (.bool (digB c)) ∧ w' = w := by
  have hc := c.toNat_lt
  rw [dig_val c]
  cases hb1 : decide ((48 : Int) ≤ (c.toNat : Int)) <;> cases hb2 : decide ((c.toNat : Int) ≤ 57) <;>
  · go_enter Tryz.func31, Tryz.ntmps31
    go_wp2
    go_ret
    exact ⟨rfl, rfl⟩
theorem inLine_p (c : UInt8) (w : World) : Calls Tryz.prog 28 #[.int .u8 (c.toNat : Int)] w fun e w' => e = .returned (.bool (notNl c)) ∧ w' = w := by
  have hc := c.toNat_lt
  rw [nl_val c]
  cases hb1 : ((c.toNat : Int) != 10) <;>
  · go_enter Tryz.func28, Tryz.ntmps28
    go_wp2
    go_ret
    exact ⟨rfl, rfl⟩
theorem inDay_p (c : UInt8) (w : World) : Calls Tryz.prog 33 #[.int .u8 (c.toNat : Int)] w fun e w' => e = .returned (.bool (dimB c)) ∧ w' = w := by
  have hc := c.toNat_lt
  have K := digit_p c w
  rw [dim_val c]
  generalize digB c = q at *
  have KK := Lib.hid K
  clear K
  cases q <;> cases hb2 : ((c.toNat : Int) == 45) <;>
  · go_enter Tryz.func33, Tryz.ntmps33
    go_wp2_with (go_at_call 31; refine KK.out.mono ?_; rintro e w' ⟨rfl, rfl⟩)
    go_ret
    exact ⟨rfl, rfl⟩
theorem inText_p (c : UInt8) (w : World) : Calls Tryz.prog 58 #[.int .u8 (c.toNat : Int)] w fun e w' => e = .returned (.bool (inQ c)) ∧ w' = w := by
  have hc := c.toNat_lt
  have K := inLine_p c w
  rw [inq_val c]
  generalize notNl c = q at *
  have KK := Lib.hid K
  clear K
  cases q <;> cases hb2 : ((c.toNat : Int) != 34) <;>
  · go_enter Tryz.func58, Tryz.ntmps58
    go_wp2_with (go_at_call 28; refine KK.out.mono ?_; rintro e w' ⟨rfl, rfl⟩)
    go_ret
    exact ⟨rfl, rfl⟩
set_option maxHeartbeats 1000000 in
set_option maxRecDepth 100000 in
theorem leading_letter (s : ByteArray) (w : World) (hs : s.size ≤ 1000000) :
    Calls Tryz.prog 27 #[.string s, .func (.func 29) #[] #[]] w fun e w' => e = .returned (.string ⟨(s.data.toList.takeWhile lowB).toArray⟩) ∧ w' = w := by
  obtain ⟨N, hN⟩ : ∃ n, (s.data.toList.takeWhile lowB).length = n := ⟨_, rfl⟩
  have hNs : N ≤ s.size := by rw [← hN]; have := tw_len (p := lowB) s.data.toList; simpa using this
  have H1 := Lib.hid (fun (k : Nat) (h : k < s.size) (hk : k < N) => show lowB s[k] = true from tw_at s.data.toList k s[k] (by rw [hN]; exact hk) (by rw [List.getElem?_eq_getElem (by simpa using h)]; rfl))
  have H2 := Lib.hid (fun (h : N < s.size) => show lowB s[N] = false from tw_end (p := lowB) s.data.toList s[N] (by rw [hN, List.getElem?_eq_getElem (by simpa using h)]; rfl))
  have S1 := fun W' => slice_h s N hNs W'
  rw [← hN, tw_take, hN] at S1
  generalize s.data.toList.takeWhile lowB = T at S1 ⊢
  have K := Lib.hid (fun (c : UInt8) (W' : World) => letter_p c W')
  clear hN
  go_enter Tryz.func27, Tryz.ntmps27
  go_wp2
  go_loop [5] (fun i => ∃ k : Nat, k ≤ N ∧ i = .int .i64 k) (fun i => s.size - (RowKit.intOf i).toNat)
  case atStart => exact ⟨0, Nat.zero_le _, rfl⟩
  case round =>
    obtain ⟨k, hk, rfl⟩ := hrel
    by_cases hlt : k < s.size
    · have hc := (s[k]).toNat_lt
      have KC := K.out s[k]
      by_cases hkn : k < N
      · rw [H1.out k hlt hkn] at KC
        have KK := Lib.hid KC
        clear KC
        go_wp2_with (go_at_call 29; refine (KK.out _).mono ?_; rintro e w' ⟨rfl, rfl⟩)
        go_round
        case rel => exact ⟨k + 1, by omega, by go_num⟩
        case measure => simp [RowKit.intOf]; omega
      · obtain rfl : k = N := by omega
        rw [H2.out hlt] at KC
        have KK := Lib.hid KC
        clear KC
        go_wp2_with (go_at_call 29; refine (KK.out _).mono ?_; rintro e w' ⟨rfl, rfl⟩)
        go_ret
        exact ⟨rfl, rfl⟩
    · obtain rfl : k = N := by omega
      have e : s.size = k := by omega
      go_wp2
      go_ret
      exact ⟨rfl, rfl⟩
set_option maxHeartbeats 1000000 in
set_option maxRecDepth 100000 in
theorem leading_inDay (s : ByteArray) (w : World) (hs : s.size ≤ 1000000) :
    Calls Tryz.prog 27 #[.string s, .func (.func 33) #[] #[]] w fun e w' => e = .returned (.string ⟨(s.data.toList.takeWhile dimB).toArray⟩) ∧ w' = w := by
  obtain ⟨N, hN⟩ : ∃ n, (s.data.toList.takeWhile dimB).length = n := ⟨_, rfl⟩
  have hNs : N ≤ s.size := by rw [← hN]; have := tw_len (p := dimB) s.data.toList; simpa using this
  have H1 := Lib.hid (fun (k : Nat) (h : k < s.size) (hk : k < N) => show dimB s[k] = true from tw_at s.data.toList k s[k] (by rw [hN]; exact hk) (by rw [List.getElem?_eq_getElem (by simpa using h)]; rfl))
  have H2 := Lib.hid (fun (h : N < s.size) => show dimB s[N] = false from tw_end (p := dimB) s.data.toList s[N] (by rw [hN, List.getElem?_eq_getElem (by simpa using h)]; rfl))
  have S1 := fun W' => slice_h s N hNs W'
  rw [← hN, tw_take, hN] at S1
  generalize s.data.toList.takeWhile dimB = T at S1 ⊢
  have K := Lib.hid (fun (c : UInt8) (W' : World) => inDay_p c W')
  clear hN
  go_enter Tryz.func27, Tryz.ntmps27
  go_wp2
  go_loop [5] (fun i => ∃ k : Nat, k ≤ N ∧ i = .int .i64 k) (fun i => s.size - (RowKit.intOf i).toNat)
  case atStart => exact ⟨0, Nat.zero_le _, rfl⟩
  case round =>
    obtain ⟨k, hk, rfl⟩ := hrel
    by_cases hlt : k < s.size
    · have hc := (s[k]).toNat_lt
      have KC := K.out s[k]
      by_cases hkn : k < N
      · rw [H1.out k hlt hkn] at KC
        have KK := Lib.hid KC
        clear KC
        go_wp2_with (go_at_call 33; refine (KK.out _).mono ?_; rintro e w' ⟨rfl, rfl⟩)
        go_round
        case rel => exact ⟨k + 1, by omega, by go_num⟩
        case measure => simp [RowKit.intOf]; omega
      · obtain rfl : k = N := by omega
        rw [H2.out hlt] at KC
        have KK := Lib.hid KC
        clear KC
        go_wp2_with (go_at_call 33; refine (KK.out _).mono ?_; rintro e w' ⟨rfl, rfl⟩)
        go_ret
        exact ⟨rfl, rfl⟩
    · obtain rfl : k = N := by omega
      have e : s.size = k := by omega
      go_wp2
      go_ret
      exact ⟨rfl, rfl⟩
set_option maxHeartbeats 1000000 in
set_option maxRecDepth 100000 in
theorem leading_inLine (s : ByteArray) (w : World) (hs : s.size ≤ 1000000) :
    Calls Tryz.prog 27 #[.string s, .func (.func 28) #[] #[]] w fun e w' => e = .returned (.string ⟨(s.data.toList.takeWhile notNl).toArray⟩) ∧ w' = w := by
  obtain ⟨N, hN⟩ : ∃ n, (s.data.toList.takeWhile notNl).length = n := ⟨_, rfl⟩
  have hNs : N ≤ s.size := by rw [← hN]; have := tw_len (p := notNl) s.data.toList; simpa using this
  have H1 := Lib.hid (fun (k : Nat) (h : k < s.size) (hk : k < N) => show notNl s[k] = true from tw_at s.data.toList k s[k] (by rw [hN]; exact hk) (by rw [List.getElem?_eq_getElem (by simpa using h)]; rfl))
  have H2 := Lib.hid (fun (h : N < s.size) => show notNl s[N] = false from tw_end (p := notNl) s.data.toList s[N] (by rw [hN, List.getElem?_eq_getElem (by simpa using h)]; rfl))
  have S1 := fun W' => slice_h s N hNs W'
  rw [← hN, tw_take, hN] at S1
  generalize s.data.toList.takeWhile notNl = T at S1 ⊢
  have K := Lib.hid (fun (c : UInt8) (W' : World) => inLine_p c W')
  clear hN
  go_enter Tryz.func27, Tryz.ntmps27
  go_wp2
  go_loop [5] (fun i => ∃ k : Nat, k ≤ N ∧ i = .int .i64 k) (fun i => s.size - (RowKit.intOf i).toNat)
  case atStart => exact ⟨0, Nat.zero_le _, rfl⟩
  case round =>
    obtain ⟨k, hk, rfl⟩ := hrel
    by_cases hlt : k < s.size
    · have hc := (s[k]).toNat_lt
      have KC := K.out s[k]
      by_cases hkn : k < N
      · rw [H1.out k hlt hkn] at KC
        have KK := Lib.hid KC
        clear KC
        go_wp2_with (go_at_call 28; refine (KK.out _).mono ?_; rintro e w' ⟨rfl, rfl⟩)
        go_round
        case rel => exact ⟨k + 1, by omega, by go_num⟩
        case measure => simp [RowKit.intOf]; omega
      · obtain rfl : k = N := by omega
        rw [H2.out hlt] at KC
        have KK := Lib.hid KC
        clear KC
        go_wp2_with (go_at_call 28; refine (KK.out _).mono ?_; rintro e w' ⟨rfl, rfl⟩)
        go_ret
        exact ⟨rfl, rfl⟩
    · obtain rfl : k = N := by omega
      have e : s.size = k := by omega
      go_wp2
      go_ret
      exact ⟨rfl, rfl⟩
set_option maxHeartbeats 1000000 in
set_option maxRecDepth 100000 in
theorem leading_inText (s : ByteArray) (w : World) (hs : s.size ≤ 1000000) :
    Calls Tryz.prog 27 #[.string s, .func (.func 58) #[] #[]] w fun e w' => e = .returned (.string ⟨(s.data.toList.takeWhile inQ).toArray⟩) ∧ w' = w := by
  obtain ⟨N, hN⟩ : ∃ n, (s.data.toList.takeWhile inQ).length = n := ⟨_, rfl⟩
  have hNs : N ≤ s.size := by rw [← hN]; have := tw_len (p := inQ) s.data.toList; simpa using this
  have H1 := Lib.hid (fun (k : Nat) (h : k < s.size) (hk : k < N) => show inQ s[k] = true from tw_at s.data.toList k s[k] (by rw [hN]; exact hk) (by rw [List.getElem?_eq_getElem (by simpa using h)]; rfl))
  have H2 := Lib.hid (fun (h : N < s.size) => show inQ s[N] = false from tw_end (p := inQ) s.data.toList s[N] (by rw [hN, List.getElem?_eq_getElem (by simpa using h)]; rfl))
  have S1 := fun W' => slice_h s N hNs W'
  rw [← hN, tw_take, hN] at S1
  generalize s.data.toList.takeWhile inQ = T at S1 ⊢
  have K := Lib.hid (fun (c : UInt8) (W' : World) => inText_p c W')
  clear hN
  go_enter Tryz.func27, Tryz.ntmps27
  go_wp2
  go_loop [5] (fun i => ∃ k : Nat, k ≤ N ∧ i = .int .i64 k) (fun i => s.size - (RowKit.intOf i).toNat)
  case atStart => exact ⟨0, Nat.zero_le _, rfl⟩
  case round =>
    obtain ⟨k, hk, rfl⟩ := hrel
    by_cases hlt : k < s.size
    · have hc := (s[k]).toNat_lt
      have KC := K.out s[k]
      by_cases hkn : k < N
      · rw [H1.out k hlt hkn] at KC
        have KK := Lib.hid KC
        clear KC
        go_wp2_with (go_at_call 58; refine (KK.out _).mono ?_; rintro e w' ⟨rfl, rfl⟩)
        go_round
        case rel => exact ⟨k + 1, by omega, by go_num⟩
        case measure => simp [RowKit.intOf]; omega
      · obtain rfl : k = N := by omega
        rw [H2.out hlt] at KC
        have KK := Lib.hid KC
        clear KC
        go_wp2_with (go_at_call 58; refine (KK.out _).mono ?_; rintro e w' ⟨rfl, rfl⟩)
        go_ret
        exact ⟨rfl, rfl⟩
    · obtain rfl : k = N := by omega
      have e : s.size = k := by omega
      go_wp2
      go_ret
      exact ⟨rfl, rfl⟩
end Go.Proofs.YtafmakhhdinknaaGreatDoor

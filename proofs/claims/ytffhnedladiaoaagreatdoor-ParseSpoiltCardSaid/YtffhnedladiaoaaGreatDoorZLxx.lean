/- Law 12's one: its contract. -/
import Derived.Test.YtffhnedladiaoaaGreatDoorZLxd
import Derived.Test.YtffhnedladiaoaaGreatDoorZCall
import Derived.Test.YtffhnedladiaoaaGreatDoorZTall
import Derived.Test.YtffhnedladiaoaaGreatDoorZLxz
import Derived.Deep.DeepCutAuto
import Derived.Lib.ParseIntB
import Derived.BigQuiet
import Derived.Test.YtffhnedladiaoaaGreatDoorZLxb
import Derived.Test.YtffhnedladiaoaaGreatDoorZKall
import Derived.Test.YtffhnedladiaoaaGreatDoorZEwz
import Derived.Scope
import Derived.WalkMore
namespace Go.Proofs.YtffhnedladiaoaaGreatDoor
open Go.RowKit Go.Lib
set_option linter.unusedVariables false
set_option linter.unusedSimpArgs false
theorem all_u8 {P : UInt8 → Prop} (h : ∀ n : Fin 256, P (UInt8.ofNat n)) (c : UInt8) : P c := by
  have := h ⟨c.toNat, c.toNat_lt⟩
  simpa using this
def lowS : List UInt8 := [97, 98, 99, 100, 101, 102, 103, 104, 105, 106, 107, 108, 109, 110, 111, 112, 113, 114, 115, 116, 117, 118, 119, 120, 121, 122]
def dimS : List UInt8 := [48, 49, 50, 51, 52, 53, 54, 55, 56, 57, 45]
theorem low_set : ∀ c : UInt8, lowB c = true ↔ c ∈ lowS := all_u8 (by decide +kernel)
theorem dim_set : ∀ c : UInt8, dimB c = true ↔ c ∈ dimS := all_u8 (by decide +kernel)
theorem tw_take {p : UInt8 → Bool} : ∀ s : List UInt8, s.take (s.takeWhile p).length = s.takeWhile p
  | [] => rfl
  | c :: r => by
    rw [List.takeWhile_cons]
    by_cases h : p c = true
    · rw [if_pos h, List.length_cons, List.take_succ_cons, tw_take r]
    · rw [if_neg h]; rfl
theorem dayOf_yes {y m d : Int} (h : RightD y m d) : dayOf (dateL y m d) = some (numD y m d) := by
  have hx : ∃ y' m' d', RightD y' m' d' ∧ dateL y m d = dateL y' m' d' := ⟨y, m, d, h, rfl⟩
  unfold dayOf
  rw [dif_pos hx]
  have hs := hx.choose_spec.choose_spec.choose_spec
  obtain ⟨e1, e2, e3⟩ := date_inj h hs.1 hs.2
  have key : ∀ y' m' d', y = y' → m = m' → d = d' → numD y' m' d' = numD y m d := by rintro _ _ _ rfl rfl rfl; rfl
  exact congrArg some (key _ _ _ e1 e2 e3)
theorem dayOf_no {l : List UInt8} (h : ∀ y m d, RightD y m d → l ≠ dateL y m d) : dayOf l = none := by
  unfold dayOf
  rw [dif_neg]
  rintro ⟨y, m, d, h1, h2⟩
  exact h y m d h1 h2
theorem day_parse {I : World → Prop} (D : DayC I) (l : List UInt8) (w : World) (hI : I w) (hl : l.length ≤ 1000000) :
    Calls Tryz.prog 100 #[.string ⟨l.toArray⟩] w fun e w' => (e = .returned (.tuple #[.int .i32 ((dayOf l).getD 0), .bool (dayOf l).isSome])) ∧ Below w.heap.size w w' := by
  by_cases h : ∃ y m d, RightD y m d ∧ l = dateL y m d
  · obtain ⟨y, m, d, h1, rfl⟩ := h
    refine (D.parse_yes y m d w hI h1).mono ?_
    rintro e w' ⟨rfl, hb⟩
    rw [dayOf_yes h1]
    exact ⟨rfl, hb⟩
  · have h2 : ∀ y m d, RightD y m d → l ≠ dateL y m d := fun y m d h3 h4 => h ⟨y, m, d, h3, h4⟩
    refine (D.parse_no l w hI (by omega) h2).mono ?_
    rintro e w' ⟨rfl, hb⟩
    rw [dayOf_no h2]
    exact ⟨rfl, hb⟩
/-- numbers of digits -/
theorem tw_mem2 {p : UInt8 → Bool} {s : List UInt8} {c : UInt8} (h : c ∈ s.takeWhile p) : p c = true := List.all_eq_true.1 List.all_takeWhile c h
theorem tw_head {p : UInt8 → Bool} {s : List UInt8} (h : s.takeWhile p ≠ []) : (s.takeWhile p).head? = s.head? := by
  cases s with
  | nil => rfl
  | cons c r =>
    rw [List.takeWhile_cons] at h ⊢
    by_cases hc : p c = true
    · rw [if_pos hc]; rfl
    · rw [if_neg hc] at h; exact absurd rfl h
theorem u8_ne {c d : UInt8} (h : c ≠ d) : ((c.toNat : Int) == (d.toNat : Int)) = false := by
  rw [beq_eq_false_iff_ne]; intro e; exact h (UInt8.toNat_inj.1 (by omega))
theorem u8_ne' {c d : UInt8} (h : c ≠ d) : ((c.toNat : Int) != (d.toNat : Int)) = true := by
  rw [bne_iff_ne]; intro e; exact h (UInt8.toNat_inj.1 (by omega))
theorem u8_eq {c d : UInt8} (h : c = d) : ((c.toNat : Int) == (d.toNat : Int)) = true := by
  rw [beq_iff_eq, h]
theorem u8_eq' {c d : UInt8} (h : c = d) : ((c.toNat : Int) != (d.toNat : Int)) = false := by
  subst h; simp
theorem numL_snoc (l : List UInt8) (b : UInt8) : numL (l ++ [b]) = numL l * 10 + ((b.toNat : Int) - 48) := by unfold numL; simp
theorem numL_bd : ∀ (n : Nat) (l : List UInt8), l.length = n → (∀ c ∈ l, digB c = true) → 0 ≤ numL l ∧ numL l < 10 ^ n
  | 0, l, h, _ => by
    have : l = [] := List.eq_nil_of_length_eq_zero h
    subst this; exact ⟨by decide, by decide⟩
  | n + 1, l, h, hd => by
    obtain ⟨m, b, rfl⟩ : ∃ m b, l = m ++ [b] := ⟨l.dropLast, l.getLast (by intro e; subst e; simp at h), (List.dropLast_concat_getLast _).symm⟩
    have hm : m.length = n := by simpa using h
    obtain ⟨a1, a2⟩ := numL_bd n m hm (fun c hc => hd c (by simp [hc]))
    have hb := hd b (by simp)
    unfold digB at hb
    simp only [Bool.and_eq_true, decide_eq_true_eq, UInt8.le_iff_toNat_le] at hb
    have h48 : (48 : UInt8).toNat = 48 := rfl
    have h57 : (57 : UInt8).toNat = 57 := rfl
    rw [numL_snoc, Int.pow_succ]
    omega
theorem oneF_sw {l r : List UInt8} {c : UInt8} (hl : l = c :: r) (h1 : l.takeWhile lowB = []) (h2 : ¬ (l.takeWhile dimB ≠ [] ∧ l.head? ≠ some 45)) : oneF l = if c = 44 ∨ c = 59 then .ok (⟨5, [c], 0, 0, 0⟩, 1)
      else if c = 34 then
        if (r.drop (r.takeWhile inQ).length).head? = some 34 then .ok (⟨4, r.takeWhile inQ, 0, 0, 0⟩, (r.takeWhile inQ).length + 2) else .error 3
      else .error 1 := by
  subst hl
  unfold oneF
  rw [h1, if_neg (by simp), if_neg h2]
end Go.Proofs.YtffhnedladiaoaaGreatDoor
/- Package lex: may a byte stand in a sort; the bytes that a text begins with, as many as are of a sort. -/
namespace Go.Proofs.YtffhnedladiaoaaGreatDoor
open Go.RowKit Go.Lib
set_option linter.unusedVariables false
set_option linter.unusedSimpArgs false
theorem low_val (c : UInt8) : lowB c = (decide ((97 : Int) ≤ (c.toNat : Int)) && decide ((c.toNat : Int) ≤ 122)) := by
  revert c; exact all_u8 (by decide +kernel)
theorem dig_val (c : UInt8) : digB c = (decide ((48 : Int) ≤ (c.toNat : Int)) && decide ((c.toNat : Int) ≤ 57)) := by
  revert c; exact all_u8 (by decide +kernel)
theorem dim_val (c : UInt8) : dimB c = (digB c || ((c.toNat : Int) == 45)) := by
  revert c; exact all_u8 (by decide +kernel)
theorem nl_val (c : UInt8) : notNl c = ((c.toNat : Int) != 10) := by
  revert c; exact all_u8 (by decide +kernel)
theorem inq_val (c : UInt8) : inQ c = (notNl c && ((c.toNat : Int) != 34)) := by
  revert c; exact all_u8 (by decide +kernel)
theorem letter_p (c : UInt8) (w : World) : Calls Tryz.prog 80 #[.int .u8 (c.toNat : Int)] w fun e w' => e = .returned (.bool (lowB c)) ∧ w' = w := by
  have hc := c.toNat_lt
  rw [low_val c]
  cases hb1 : decide ((97 : Int) ≤ (c.toNat : Int)) <;> cases hb2 : decide ((c.toNat : Int) ≤ 122) <;>
  · go_enter Tryz.func80, Tryz.ntmps80
    go_wp2
    go_ret
    exact ⟨rfl, rfl⟩
theorem digit_p (c : UInt8) (w : World) : Calls Tryz.prog 82 #[.int .u8 (c.toNat : Int)] w fun e w' => e = .returned (.bool (digB c)) ∧ w' = w := by
  have hc := c.toNat_lt
  rw [dig_val c]
  cases hb1 : decide ((48 : Int) ≤ (c.toNat : Int)) <;> cases hb2 : decide ((c.toNat : Int) ≤ 57) <;>
  · go_enter Tryz.func82, Tryz.ntmps82
    go_wp2
    go_ret
    exact ⟨rfl, rfl⟩
theorem inLine_p (c : UInt8) (w : World) : Calls Tryz.prog 79 #[.int .u8 (c.toNat : Int)] w fun e w' => e = .returned (.bool (notNl c)) ∧ w' = w := by
  have hc := c.toNat_lt
  rw [nl_val c]
  cases hb1 : ((c.toNat : Int) != 10) <;>
  · go_enter Tryz.func79, Tryz.ntmps79
    go_wp2
    go_ret
    exact ⟨rfl, rfl⟩
theorem inDay_p (c : UInt8) (w : World) : Calls Tryz.prog 84 #[.int .u8 (c.toNat : Int)] w fun e w' => e = .returned (.bool (dimB c)) ∧ w' = w := by
  have hc := c.toNat_lt
  have K := digit_p c w
  rw [dim_val c]
  generalize digB c = q at *
  have KK := Lib.hid K
  clear K
  cases q <;> cases hb2 : ((c.toNat : Int) == 45) <;>
  · go_enter Tryz.func84, Tryz.ntmps84
    go_wp2_with (go_at_call 82; refine KK.out.mono ?_; rintro e w' ⟨rfl, rfl⟩)
    go_ret
    exact ⟨rfl, rfl⟩
theorem inText_p (c : UInt8) (w : World) : Calls Tryz.prog 117 #[.int .u8 (c.toNat : Int)] w fun e w' => e = .returned (.bool (inQ c)) ∧ w' = w := by
  have hc := c.toNat_lt
  have K := inLine_p c w
  rw [inq_val c]
  generalize notNl c = q at *
  have KK := Lib.hid K
  clear K
  cases q <;> cases hb2 : ((c.toNat : Int) != 34) <;>
  · go_enter Tryz.func117, Tryz.ntmps117
    go_wp2_with (go_at_call 79; refine KK.out.mono ?_; rintro e w' ⟨rfl, rfl⟩)
    go_ret
    exact ⟨rfl, rfl⟩
set_option maxHeartbeats 1000000 in
set_option maxRecDepth 100000 in
theorem leading_letter (s : ByteArray) (w : World) (hs : s.size ≤ 1000000) :
    Calls Tryz.prog 78 #[.string s, .func (.func 80) #[] #[]] w fun e w' => e = .returned (.string ⟨(s.data.toList.takeWhile lowB).toArray⟩) ∧ w' = w := by
  obtain ⟨N, hN⟩ : ∃ n, (s.data.toList.takeWhile lowB).length = n := ⟨_, rfl⟩
  have hNs : N ≤ s.size := by rw [← hN]; have := tw_len (p := lowB) s.data.toList; simpa using this
  have H1 := Lib.hid (fun (k : Nat) (h : k < s.size) (hk : k < N) => show lowB s[k] = true from tw_at s.data.toList k s[k] (by rw [hN]; exact hk) (by rw [List.getElem?_eq_getElem (by simpa using h)]; rfl))
  have H2 := Lib.hid (fun (h : N < s.size) => show lowB s[N] = false from tw_end (p := lowB) s.data.toList s[N] (by rw [hN, List.getElem?_eq_getElem (by simpa using h)]; rfl))
  have S1 := fun W' => slice_h s N hNs W'
  rw [← hN, tw_take, hN] at S1
  generalize s.data.toList.takeWhile lowB = T at S1 ⊢
  have K := Lib.hid (fun (c : UInt8) (W' : World) => letter_p c W')
  clear hN
  go_enter Tryz.func78, Tryz.ntmps78
  go_wp2
  go_loop [5] (fun i => ∃ k : Nat, k ≤ N ∧ i = .int .i64 k) (fun i => s.size - (RowKit.intOf i).toNat)
  case atStart => exact ⟨0, Nat.zero_le _, rfl⟩
  case round =>
    obtain ⟨k, hk, rfl⟩ := hrel
    by_cases hlt : k < s.size
    · have hc := (s[k]).toNat_lt
      have KC := K.out s[k]
      by_cases hkn : k < N
      · rw [H1.out k hlt hkn] at KC
        have KK := Lib.hid KC
        clear KC
        go_wp2_with (go_at_call 80; refine (KK.out _).mono ?_; rintro e w' ⟨rfl, rfl⟩)
        go_round
        case rel => exact ⟨k + 1, by omega, by go_num⟩
        case measure => simp [RowKit.intOf]; omega
      · obtain rfl : k = N := by omega
        rw [H2.out hlt] at KC
        have KK := Lib.hid KC
        clear KC
        go_wp2_with (go_at_call 80; refine (KK.out _).mono ?_; rintro e w' ⟨rfl, rfl⟩)
        go_ret
        exact ⟨rfl, rfl⟩
    · obtain rfl : k = N := by omega
      have e : s.size = k := by omega
      go_wp2
      go_ret
      exact ⟨rfl, rfl⟩
set_option maxHeartbeats 1000000 in
set_option maxRecDepth 100000 in
theorem leading_inDay (s : ByteArray) (w : World) (hs : s.size ≤ 1000000) :
    Calls Tryz.prog 78 #[.string s, .func (.func 84) #[] #[]] w fun e w' => e = .returned (.string ⟨(s.data.toList.takeWhile dimB).toArray⟩) ∧ w' = w := by
  obtain ⟨N, hN⟩ : ∃ n, (s.data.toList.takeWhile dimB).length = n := ⟨_, rfl⟩
  have hNs : N ≤ s.size := by rw [← hN]; have := tw_len (p := dimB) s.data.toList; simpa using this
  have H1 := Lib.hid (fun (k : Nat) (h : k < s.size) (hk : k < N) => show dimB s[k] = true from tw_at s.data.toList k s[k] (by rw [hN]; exact hk) (by rw [List.getElem?_eq_getElem (by simpa using h)]; rfl))
  have H2 := Lib.hid (fun (h : N < s.size) => show dimB s[N] = false from tw_end (p := dimB) s.data.toList s[N] (by rw [hN, List.getElem?_eq_getElem (by simpa using h)]; rfl))
  have S1 := fun W' => slice_h s N hNs W'
  rw [← hN, tw_take, hN] at S1
  generalize s.data.toList.takeWhile dimB = T at S1 ⊢
  have K := Lib.hid (fun (c : UInt8) (W' : World) => inDay_p c W')
  clear hN
  go_enter Tryz.func78, Tryz.ntmps78
  go_wp2
  go_loop [5] (fun i => ∃ k : Nat, k ≤ N ∧ i = .int .i64 k) (fun i => s.size - (RowKit.intOf i).toNat)
  case atStart => exact ⟨0, Nat.zero_le _, rfl⟩
  case round =>
    obtain ⟨k, hk, rfl⟩ := hrel
    by_cases hlt : k < s.size
    · have hc := (s[k]).toNat_lt
      have KC := K.out s[k]
      by_cases hkn : k < N
      · rw [H1.out k hlt hkn] at KC
        have KK := Lib.hid KC
        clear KC
        go_wp2_with (go_at_call 84; refine (KK.out _).mono ?_; rintro e w' ⟨rfl, rfl⟩)
        go_round
        case rel => exact ⟨k + 1, by omega, by go_num⟩
        case measure => simp [RowKit.intOf]; omega
      · obtain rfl : k = N := by omega
        rw [H2.out hlt] at KC
        have KK := Lib.hid KC
        clear KC
        go_wp2_with (go_at_call 84; refine (KK.out _).mono ?_; rintro e w' ⟨rfl, rfl⟩)
        go_ret
        exact ⟨rfl, rfl⟩
    · obtain rfl : k = N := by omega
      have e : s.size = k := by omega
      go_wp2
      go_ret
      exact ⟨rfl, rfl⟩
set_option maxHeartbeats 1000000 in
set_option maxRecDepth 100000 in
theorem leading_inLine (s : ByteArray) (w : World) (hs : s.size ≤ 1000000) :
    Calls Tryz.prog 78 #[.string s, .func (.func 79) #[] #[]] w fun e w' => e = .returned (.string ⟨(s.data.toList.takeWhile notNl).toArray⟩) ∧ w' = w := by
  obtain ⟨N, hN⟩ : ∃ n, (s.data.toList.takeWhile notNl).length = n := ⟨_, rfl⟩
  have hNs : N ≤ s.size := by rw [← hN]; have := tw_len (p := notNl) s.data.toList; simpa using this
  have H1 := Lib.hid (fun (k : Nat) (h : k < s.size) (hk : k < N) => show notNl s[k] = true from tw_at s.data.toList k s[k] (by rw [hN]; exact hk) (by rw [List.getElem?_eq_getElem (by simpa using h)]; rfl))
  have H2 := Lib.hid (fun (h : N < s.size) => show notNl s[N] = false from tw_end (p := notNl) s.data.toList s[N] (by rw [hN, List.getElem?_eq_getElem (by simpa using h)]; rfl))
  have S1 := fun W' => slice_h s N hNs W'
  rw [← hN, tw_take, hN] at S1
  generalize s.data.toList.takeWhile notNl = T at S1 ⊢
  have K := Lib.hid (fun (c : UInt8) (W' : World) => inLine_p c W')
  clear hN
  go_enter Tryz.func78, Tryz.ntmps78
  go_wp2
  go_loop [5] (fun i => ∃ k : Nat, k ≤ N ∧ i = .int .i64 k) (fun i => s.size - (RowKit.intOf i).toNat)
  case atStart => exact ⟨0, Nat.zero_le _, rfl⟩
  case round =>
    obtain ⟨k, hk, rfl⟩ := hrel
    by_cases hlt : k < s.size
    · have hc := (s[k]).toNat_lt
      have KC := K.out s[k]
      by_cases hkn : k < N
      · rw [H1.out k hlt hkn] at KC
        have KK := Lib.hid KC
        clear KC
        go_wp2_with (go_at_call 79; refine (KK.out _).mono ?_; rintro e w' ⟨rfl, rfl⟩)
        go_round
        case rel => exact ⟨k + 1, by omega, by go_num⟩
        case measure => simp [RowKit.intOf]; omega
      · obtain rfl : k = N := by omega
        rw [H2.out hlt] at KC
        have KK := Lib.hid KC
        clear KC
        go_wp2_with (go_at_call 79; refine (KK.out _).mono ?_; rintro e w' ⟨rfl, rfl⟩)
        go_ret
        exact ⟨rfl, rfl⟩
    · obtain rfl : k = N := by omega
      have e : s.size = k := by omega
      go_wp2
      go_ret
      exact ⟨rfl, rfl⟩
set_option maxHeartbeats 1000000 in
set_option maxRecDepth 100000 in
theorem leading_inText (s : ByteArray) (w : World) (hs : s.size ≤ 1000000) :
    Calls Tryz.prog 78 #[.string s, .func (.func 117) #[] #[]] w fun e w' => e = .returned (.string ⟨(s.data.toList.takeWhile inQ).toArray⟩) ∧ w' = w := by
  obtain ⟨N, hN⟩ : ∃ n, (s.data.toList.takeWhile inQ).length = n := ⟨_, rfl⟩
  have hNs : N ≤ s.size := by rw [← hN]; have := tw_len (p := inQ) s.data.toList; simpa using this
  have H1 := Lib.hid (fun (k : Nat) (h : k < s.size) (hk : k < N) => show inQ s[k] = true from tw_at s.data.toList k s[k] (by rw [hN]; exact hk) (by rw [List.getElem?_eq_getElem (by simpa using h)]; rfl))
  have H2 := Lib.hid (fun (h : N < s.size) => show inQ s[N] = false from tw_end (p := inQ) s.data.toList s[N] (by rw [hN, List.getElem?_eq_getElem (by simpa using h)]; rfl))
  have S1 := fun W' => slice_h s N hNs W'
  rw [← hN, tw_take, hN] at S1
  generalize s.data.toList.takeWhile inQ = T at S1 ⊢
  have K := Lib.hid (fun (c : UInt8) (W' : World) => inText_p c W')
  clear hN
  go_enter Tryz.func78, Tryz.ntmps78
  go_wp2
  go_loop [5] (fun i => ∃ k : Nat, k ≤ N ∧ i = .int .i64 k) (fun i => s.size - (RowKit.intOf i).toNat)
  case atStart => exact ⟨0, Nat.zero_le _, rfl⟩
  case round =>
    obtain ⟨k, hk, rfl⟩ := hrel
    by_cases hlt : k < s.size
    · have hc := (s[k]).toNat_lt
      have KC := K.out s[k]
      by_cases hkn : k < N
      · rw [H1.out k hlt hkn] at KC
        have KK := Lib.hid KC
        clear KC
        go_wp2_with (go_at_call 117; refine (KK.out _).mono ?_; rintro e w' ⟨rfl, rfl⟩)
        go_round
        case rel => exact ⟨k + 1, by omega, by go_num⟩
        case measure => simp [RowKit.intOf]; omega
      · obtain rfl : k = N := by omega
        rw [H2.out hlt] at KC
        have KK := Lib.hid KC
        clear KC
        go_wp2_with (go_at_call 117; refine (KK.out _).mono ?_; rintro e w' ⟨rfl, rfl⟩)
        go_ret
        exact ⟨rfl, rfl⟩
    · obtain rfl : k = N := by omega
      have e : s.size = k := by omega
      go_wp2
      go_ret
      exact ⟨rfl, rfl⟩
end Go.Proofs.YtffhnedladiaoaaGreatDoor
/- Package lex: the token that a text begins with. -/
namespace Go.Proofs.YtffhnedladiaoaaGreatDoor
open Go.RowKit Go.Lib
set_option linter.unusedVariables false
set_option linter.unusedSimpArgs false
/-- What a call answers that looks for a token. -/
def ResR (r : Except Int (Tk × Nat)) (e : Ending) : Prop := match r with
  | .ok p => e = .returned (.tuple #[tokV p.1, .int .i64 (p.2 : Int), .int .i64 0])
  | .error c => e = .returned (.tuple #[tokV ⟨0, [], 0, 0, 0⟩, .int .i64 0, .int .i64 c])
theorem below_drewL (B : Nat) (w : World) (q : Nat) : Below B w (w.drewN q) := ⟨rfl, rfl, rfl, Nat.le_refl _, fun _ _ => rfl⟩
theorem bw_belowL (w : World) (e : TypeId) (s : ByteArray) : Below w.heap.size w (Lib.bytesWorld w e s) :=
  ⟨rfl, rfl, rfl, by rw [Lib.bytesWorld_size]; omega, fun k hk => Lib.bytesWorld_at_old w e s k hk⟩
theorem dig_bd {c : UInt8} (h : digB c = true) : 48 ≤ c.toNat ∧ c.toNat ≤ 57 := by
  rw [dig_val, Bool.and_eq_true, decide_eq_true_eq, decide_eq_true_eq] at h
  omega
/-- Few digits are parsed as their number. -/
theorem parse_digs : ∀ (l : List UInt8) (acc k : Nat), (∀ x ∈ l, digB x = true) → acc < 10 ^ k → l.length + k ≤ 7 → ∃ u : Nat, Lib.parseUintM (2 ^ 64 - 1) acc l = .ok u ∧ (u : Int) = l.foldl (fun x b => x * 10 + ((b.toNat : Int) - 48)) (acc : Int) ∧ u < 10 ^ 7
  | [], acc, k, _, ha, hk => ⟨acc, rfl, rfl, Nat.lt_of_lt_of_le ha (Nat.pow_le_pow_right (by decide) (by simpa using hk))⟩
  | c :: r, acc, k, hd, ha, hk => by
    have hc := dig_bd (hd c (by simp))
    rw [List.length_cons] at hk
    have hp : 10 ^ k ≤ 10 ^ 6 := Nat.pow_le_pow_right (by decide) (by omega)
    have hp2 : (10 : Nat) ^ 6 = 1000000 := by decide
    have hp3 : (10 : Nat) ^ (k + 1) = 10 ^ k * 10 := Nat.pow_succ ..
    obtain ⟨u, h1, h2, h3⟩ := parse_digs r (acc * 10 + (c.toNat - 48)) (k + 1) (fun x hx => hd x (by simp [hx])) (by omega) (by omega)
    refine ⟨u, ?_, ?_, h3⟩
    · unfold Lib.parseUintM
      rw [if_pos (by omega), if_neg (by omega), if_neg (by omega), h1]
    · rw [List.foldl_cons, h2]
      congr 1
      omega
theorem parse_num {l : List UInt8} (hd : ∀ x ∈ l, digB x = true) (h0 : l ≠ []) (h7 : l.length ≤ 7) : Lib.parseIntB 64 l = .ok (numL l) := by
  obtain ⟨u, h1, h2, h3⟩ := parse_digs l 0 0 hd (by decide) (by omega)
  cases l with
  | nil => exact absurd rfl h0
  | cons c r =>
    have hc := dig_bd (hd c (by simp))
    have hp : (10 : Nat) ^ 7 = 10000000 := by decide
    unfold Lib.parseIntB Lib.parseUintB
    simp only
    have e63 : (2 : Nat) ^ (64 - 1) = 9223372036854775808 := by decide
    rw [if_neg (show ¬ (c.toNat = 43 ∨ c.toNat = 45) by omega), if_neg (show ¬ (c :: r = []) by simp), h1]
    simp only
    rw [if_neg (show ¬ (¬ c.toNat = 45 ∧ 2 ^ (64 - 1) ≤ u) by omega), if_neg (show ¬ (c.toNat = 45 ∧ 2 ^ (64 - 1) < u) by omega), if_neg (show ¬ (c.toNat = 45) by omega)]
    unfold numL
    rw [h2]
    rfl
theorem mk_size (l : List UInt8) : (⟨l.toArray⟩ : ByteArray).size = l.length := by show l.toArray.size = _; simp
theorem plain_c (k : Nat) (l : List UInt8) (w : World) : Calls Tryz.prog 81 #[.int .i64 (k : Int), .string ⟨l.toArray⟩] w fun e w' => ResR (.ok (⟨k, l, 0, 0, 0⟩, l.length)) e ∧ Below w.heap.size w w' := by
  obtain ⟨s, hs⟩ : ∃ s : ByteArray, (⟨l.toArray⟩ : ByteArray) = s := ⟨_, rfl⟩
  have hz : s.size = l.length := by rw [← hs]; exact mk_size l
  have HX : Hid (∀ e, e = .returned (.tuple #[.agg #[.int .i64 (k : Int), .string s, .int .i64 0, .int .i32 0, .int .i64 0], .int .i64 (s.size : Int), .int .i64 0]) → ResR (.ok (⟨k, l, 0, 0, 0⟩, l.length)) e) := Lib.hid (fun e h => by rw [h, hz, ← hs]; rfl)
  rw [hs]
  generalize ResR (.ok (⟨k, l, 0, 0, 0⟩, l.length)) = Q at *
  clear hs hz
  go_enter Tryz.func81, Tryz.ntmps81
  go_wp2
  exact bodyPost_ret (v := .tuple #[.agg #[.int .i64 (k : Int), .string s, .int .i64 0, .int .i32 0, .int .i64 0], .int .i64 (s.size : Int), .int .i64 0]) (by simp [results, Tryz.results81, go_sem]) rfl ⟨HX.out _ rfl, (Below.refl _ _).alloc (Nat.le_refl _) _⟩
set_option maxHeartbeats 1000000 in
theorem number_no (l : List UInt8) (hb : 7 < l.length ∨ (1 < l.length ∧ l.head? = some 48)) (hl : l.length ≤ 1000000) (w : World) :
    Calls Tryz.prog 116 #[.string ⟨l.toArray⟩] w fun e w' => e = .returned (.tuple #[.int .i64 0, .bool false]) ∧ Below w.heap.size w w' := by
  have hs := mk_size l
  have hg : ∀ h : 0 < (⟨l.toArray⟩ : ByteArray).size, l.head? = some (⟨l.toArray⟩ : ByteArray)[0] := fun h => by
    cases l with
    | nil => exact absurd h (by decide)
    | cons c r => rfl
  generalize (⟨l.toArray⟩ : ByteArray) = s at *
  by_cases h7 : 7 < l.length
  · have t7 : decide ((7 : Int) < (s.size : Int)) = true := decide_eq_true (by omega)
    clear hg hb
    go_enter Tryz.func116, Tryz.ntmps116
    go_wp2
    exact bodyPost_ret (v := .tuple #[.int .i64 0, .bool false]) (by simp [results, Tryz.results116, go_sem]) rfl ⟨rfl, Below.refl _ _⟩
  · obtain ⟨h1, h2⟩ : 1 < l.length ∧ l.head? = some 48 := hb.resolve_left h7
    have t7 : decide ((7 : Int) < (s.size : Int)) = false := decide_eq_false (by omega)
    have t1 : decide ((1 : Int) < (s.size : Int)) = true := decide_eq_true (by omega)
    have hz : 0 < s.size := by omega
    have h3 : s[0] = 48 := by rw [hg hz] at h2; exact Option.some.inj h2
    clear hg h2 hb
    go_enter Tryz.func116, Tryz.ntmps116
    go_wp2
    exact bodyPost_ret (v := .tuple #[.int .i64 0, .bool false]) (by simp [results, Tryz.results116, go_sem]) rfl ⟨rfl, Below.refl _ _⟩
set_option maxHeartbeats 1000000 in
theorem number_yes (l : List UInt8) (hd : ∀ x ∈ l, digB x = true) (h0 : l ≠ []) (h7 : l.length ≤ 7) (hb : ¬ (1 < l.length ∧ l.head? = some 48)) (w : World) :
    Calls Tryz.prog 116 #[.string ⟨l.toArray⟩] w fun e w' => e = .returned (.tuple #[.int .i64 (numL l), .bool true]) ∧ Below w.heap.size w w' := by
  have hs := mk_size l
  have KP := Lib.hid (fun (W' : World) => Tryz.strconv_ParseInt_10_at64_ok ⟨l.toArray⟩ (by omega) (numL l) (parse_num hd h0 h7) W')
  have hg : ∀ h : 0 < (⟨l.toArray⟩ : ByteArray).size, l.head? = some (⟨l.toArray⟩ : ByteArray)[0] := fun h => by
    cases l with
    | nil => exact absurd h (by decide)
    | cons c r => rfl
  generalize (⟨l.toArray⟩ : ByteArray) = s at *
  have t7 : decide ((7 : Int) < (s.size : Int)) = false := decide_eq_false (by omega)
  have hz : 0 < s.size := by have := List.length_pos_iff.2 h0; omega
  by_cases h1 : 1 < l.length
  case pos =>
    have t1 : decide ((1 : Int) < (s.size : Int)) = true := decide_eq_true (by omega)
    have h3 : ((s[0].toNat : Int) == 48) = false := u8_ne (fun h => hb ⟨h1, by rw [hg hz]; exact congrArg some h⟩)
    clear hg hb hd h0
    go_enter Tryz.func116, Tryz.ntmps116
    go_wp2_with (go_at_call 144; refine (KP.out _).mono ?_; rintro e w1 ⟨rfl, h4⟩; have hB : Below w.heap.size w w1 := (by rcases h4 with rfl | ⟨t, rfl⟩; exact Below.refl _ _; exact bw_belowL _ _ _); have HB := Lib.hid hB; clear h4 hB)
    go_quiet (fail)
    go_wp2
    exact bodyPost_ret (v := .tuple #[.int .i64 (numL l), .bool true]) (by simp [results, Tryz.results116, go_sem]) rfl ⟨rfl, HB.out.trans (below_drewL _ _ _)⟩
  case neg =>
    have t1 : decide ((1 : Int) < (s.size : Int)) = false := decide_eq_false (by omega)
    clear hg hb hd h0
    go_enter Tryz.func116, Tryz.ntmps116
    go_wp2_with (go_at_call 144; refine (KP.out _).mono ?_; rintro e w1 ⟨rfl, h4⟩; have hB : Below w.heap.size w w1 := (by rcases h4 with rfl | ⟨t, rfl⟩; exact Below.refl _ _; exact bw_belowL _ _ _); have HB := Lib.hid hB; clear h4 hB)
    go_quiet (fail)
    go_wp2
    exact bodyPost_ret (v := .tuple #[.int .i64 (numL l), .bool true]) (by simp [results, Tryz.results116, go_sem]) rfl ⟨rfl, HB.out.trans (below_drewL _ _ _)⟩
/-- Of digits and - : a day, a number, or why there is none. -/
noncomputable def digF (l : List UInt8) : Except Int (Tk × Nat) :=
  if (45 : UInt8) ∈ l then
    match dayOf l with
    | none => .error 13
    | some d => .ok (⟨3, l, 0, d, 0⟩, l.length)
  else if 7 < l.length ∨ (1 < l.length ∧ l.head? = some 48) then .error 5
  else .ok (⟨2, l, numL l, 0, 0⟩, l.length)
set_option maxHeartbeats 4000000 in
set_option maxRecDepth 100000 in
theorem digits_c {I : World → Prop} (D : DayC I) (l : List UInt8) (h0 : l ≠ []) (hd : ∀ x ∈ l, dimB x = true) (hl : l.length ≤ 100000) (w : World) (hI : I w) :
    Calls Tryz.prog 83 #[.string ⟨l.toArray⟩] w fun e w' => ResR (digF l) e ∧ Below w.heap.size w w' := by
  have hs := mk_size l
  have KC := fun (W' : World) => Tryz.strings_Contains_one ⟨l.toArray⟩ 45 W'
  rw [show (⟨l.toArray⟩ : ByteArray).data.toList = l from rfl] at KC
  have KD := Lib.hid (fun (W' : World) (h : Below w.heap.size w W') => day_parse D l W' (D.stay hI h) (by omega))
  have HX0 := Lib.hid (HBox.new w [.int .i64 0, .string ⟨#[]⟩, .int .i64 0, .int .i32 0, .int .i64 0] 90)
  have HB0 := Lib.hid ((Below.refl w.heap.size w).alloc (Nat.le_refl _) (.cells #[.int .i64 0, .string ⟨#[]⟩, .int .i64 0, .int .i32 0, .int .i64 0] 90))
  by_cases hm : (45 : UInt8) ∈ l
  · have e1 : decide (0 ≤ Lib.indexByte l 45) = true := decide_eq_true (by have h := idx_neg 45 l; rcases Int.lt_or_le (Lib.indexByte l 45) 0 with h2 | h2; exact absurd hm (h.1 h2); exact h2)
    rw [e1] at KC
    have KKC := Lib.hid KC
    have hdf : digF l = match dayOf l with
      | none => .error 13
      | some d => .ok (⟨3, l, 0, d, 0⟩, l.length) := by unfold digF; rw [if_pos hm]
    rw [hdf]
    clear KC e1 hdf hd h0 D hI hm
    cases hdo : dayOf l with
    | none =>
      rw [hdo] at KD
      clear hs hdo hl
      generalize (⟨l.toArray⟩ : ByteArray) = s at *
      go_enter Tryz.func83, Tryz.ntmps83
      go_wp2_with (first
        | (go_at_call 100; refine (KD.out _ HB0.out).mono ?_; rintro e w1 ⟨rfl, h1⟩; have HB1 := Lib.hid (HB0.out.trans (h1.mono HB0.out.size)); have hx := HX0.out.stay h1; have z0 := hx.cell (j := 0) rfl; have z1 := hx.cell (j := 1) rfl; have z2 := hx.cell (j := 2) rfl; have z3 := hx.cell (j := 3) rfl; have z4 := hx.cell (j := 4) rfl; have f0 := hx.frozen 0; have f1 := hx.frozen 1; have f2 := hx.frozen 2; have f3 := hx.frozen 3; have f4 := hx.frozen 4; have zz := hx.size; have HX1 := Lib.hid hx; clear hx; clear h1)
        | (go_at_call 18; refine (KKC.out _).mono ?_; rintro e w0 ⟨rfl, rfl⟩))
      have hx2 := HX1.out.set5 (.int .i64 0) (.string ⟨#[]⟩) (.int .i64 0) (.int .i32 0) (.int .i64 0)
      have y0 := hx2.cell (j := 0) rfl
      have y1 := hx2.cell (j := 1) rfl
      have y2 := hx2.cell (j := 2) rfl
      have y3 := hx2.cell (j := 3) rfl
      have y4 := hx2.cell (j := 4) rfl
      exact bodyPost_ret (v := .tuple #[.agg #[.int .i64 0, .string ⟨#[]⟩, .int .i64 0, .int .i32 0, .int .i64 0], .int .i64 0, .int .i64 13]) (by simp [results, Tryz.results83, go_sem, y0, y1, y2, y3, y4]) rfl ⟨rfl, ((((HB1.out.setCell (Nat.le_refl _) _).setCell (Nat.le_refl _) _).setCell (Nat.le_refl _) _).setCell (Nat.le_refl _) _).setCell (Nat.le_refl _) _⟩
    | some d =>
      rw [hdo] at KD
      have HQ : Hid (∀ e, e = .returned (.tuple #[.agg #[.int .i64 3, .string ⟨l.toArray⟩, .int .i64 0, .int .i32 d, .int .i64 0], .int .i64 ((⟨l.toArray⟩ : ByteArray).size : Int), .int .i64 0]) → ResR (.ok (⟨3, l, 0, d, 0⟩, l.length)) e) := Lib.hid (fun e h => by rw [h, hs]; rfl)
      clear hs hdo hl
      dsimp only
      generalize ResR (.ok (⟨3, l, 0, d, 0⟩, l.length)) = Q at *
      generalize (⟨l.toArray⟩ : ByteArray) = s at *
      go_enter Tryz.func83, Tryz.ntmps83
      go_wp2_with (first
        | (go_at_call 100; refine (KD.out _ HB0.out).mono ?_; rintro e w1 ⟨rfl, h1⟩; have HB1 := Lib.hid (HB0.out.trans (h1.mono HB0.out.size)); have hx := HX0.out.stay h1; have z0 := hx.cell (j := 0) rfl; have z1 := hx.cell (j := 1) rfl; have z2 := hx.cell (j := 2) rfl; have z3 := hx.cell (j := 3) rfl; have z4 := hx.cell (j := 4) rfl; have f0 := hx.frozen 0; have f1 := hx.frozen 1; have f2 := hx.frozen 2; have f3 := hx.frozen 3; have f4 := hx.frozen 4; have zz := hx.size; have HX1 := Lib.hid hx; clear hx; clear h1)
        | (go_at_call 18; refine (KKC.out _).mono ?_; rintro e w0 ⟨rfl, rfl⟩))
      have hx2 := HX1.out.set5 (.int .i64 3) (.string s) (.int .i64 0) (.int .i32 d) (.int .i64 0)
      have y0 := hx2.cell (j := 0) rfl
      have y1 := hx2.cell (j := 1) rfl
      have y2 := hx2.cell (j := 2) rfl
      have y3 := hx2.cell (j := 3) rfl
      have y4 := hx2.cell (j := 4) rfl
      exact bodyPost_ret (v := .tuple #[.agg #[.int .i64 3, .string s, .int .i64 0, .int .i32 d, .int .i64 0], .int .i64 (s.size : Int), .int .i64 0]) (by simp [results, Tryz.results83, go_sem, y0, y1, y2, y3, y4]) rfl ⟨HQ.out _ rfl, ((((HB1.out.setCell (Nat.le_refl _) _).setCell (Nat.le_refl _) _).setCell (Nat.le_refl _) _).setCell (Nat.le_refl _) _).setCell (Nat.le_refl _) _⟩
  · have e1 : decide (0 ≤ Lib.indexByte l 45) = false := decide_eq_false (by have := (idx_neg 45 l).2 hm; omega)
    rw [e1] at KC
    have KKC := Lib.hid KC
    have hdg : ∀ x ∈ l, digB x = true := fun x hx => by
      have h5 := hd x hx
      unfold dimB at h5
      rw [Bool.or_eq_true] at h5
      rcases h5 with h5 | h5
      · exact h5
      · have : x = 45 := by simpa using h5
        subst this; exact absurd hx hm
    by_cases h7 : 7 < l.length ∨ (1 < l.length ∧ l.head? = some 48)
    · have hdf : digF l = .error 5 := by unfold digF; rw [if_neg hm, if_pos h7]
      rw [hdf]
      have KN := Lib.hid (fun (W' : World) (_ : Below w.heap.size w W') => number_no l h7 (by omega) W')
      clear KC e1 hdf hd h0 D hI hm KD hs hdg h7 hl
      generalize (⟨l.toArray⟩ : ByteArray) = s at *
      go_enter Tryz.func83, Tryz.ntmps83
      go_wp2_with (first
        | (go_at_call 116; refine (KN.out _ HB0.out).mono ?_; rintro e w1 ⟨rfl, h1⟩; have HB1 := Lib.hid (HB0.out.trans (h1.mono HB0.out.size)); have hx := HX0.out.stay h1; have z0 := hx.cell (j := 0) rfl; have z1 := hx.cell (j := 1) rfl; have z2 := hx.cell (j := 2) rfl; have z3 := hx.cell (j := 3) rfl; have z4 := hx.cell (j := 4) rfl; have f0 := hx.frozen 0; have f1 := hx.frozen 1; have f2 := hx.frozen 2; have f3 := hx.frozen 3; have f4 := hx.frozen 4; have zz := hx.size; have HX1 := Lib.hid hx; clear hx; clear h1)
        | (go_at_call 18; refine (KKC.out _).mono ?_; rintro e w0 ⟨rfl, rfl⟩))
      have hx2 := HX1.out.set5 (.int .i64 0) (.string ⟨#[]⟩) (.int .i64 0) (.int .i32 0) (.int .i64 0)
      have y0 := hx2.cell (j := 0) rfl
      have y1 := hx2.cell (j := 1) rfl
      have y2 := hx2.cell (j := 2) rfl
      have y3 := hx2.cell (j := 3) rfl
      have y4 := hx2.cell (j := 4) rfl
      exact bodyPost_ret (v := .tuple #[.agg #[.int .i64 0, .string ⟨#[]⟩, .int .i64 0, .int .i32 0, .int .i64 0], .int .i64 0, .int .i64 5]) (by simp [results, Tryz.results83, go_sem, y0, y1, y2, y3, y4]) rfl ⟨rfl, ((((HB1.out.setCell (Nat.le_refl _) _).setCell (Nat.le_refl _) _).setCell (Nat.le_refl _) _).setCell (Nat.le_refl _) _).setCell (Nat.le_refl _) _⟩
    · have hdf : digF l = .ok (⟨2, l, numL l, 0, 0⟩, l.length) := by unfold digF; rw [if_neg hm, if_neg h7]
      rw [hdf]
      have KN := Lib.hid (fun (W' : World) (_ : Below w.heap.size w W') => number_yes l hdg h0 (by omega) (fun h => h7 (Or.inr h)) W')
      generalize numL l = d at *
      have HQ : Hid (∀ e, e = .returned (.tuple #[.agg #[.int .i64 2, .string ⟨l.toArray⟩, .int .i64 d, .int .i32 0, .int .i64 0], .int .i64 ((⟨l.toArray⟩ : ByteArray).size : Int), .int .i64 0]) → ResR (.ok (⟨2, l, d, 0, 0⟩, l.length)) e) := Lib.hid (fun e h => by rw [h, hs]; rfl)
      clear KC e1 hdf hd h0 D hI hm KD hs hdg h7 hl
      generalize ResR (.ok (⟨2, l, d, 0, 0⟩, l.length)) = Q at *
      generalize (⟨l.toArray⟩ : ByteArray) = s at *
      go_enter Tryz.func83, Tryz.ntmps83
      go_wp2_with (first
        | (go_at_call 116; refine (KN.out _ HB0.out).mono ?_; rintro e w1 ⟨rfl, h1⟩; have HB1 := Lib.hid (HB0.out.trans (h1.mono HB0.out.size)); have hx := HX0.out.stay h1; have z0 := hx.cell (j := 0) rfl; have z1 := hx.cell (j := 1) rfl; have z2 := hx.cell (j := 2) rfl; have z3 := hx.cell (j := 3) rfl; have z4 := hx.cell (j := 4) rfl; have f0 := hx.frozen 0; have f1 := hx.frozen 1; have f2 := hx.frozen 2; have f3 := hx.frozen 3; have f4 := hx.frozen 4; have zz := hx.size; have HX1 := Lib.hid hx; clear hx; clear h1)
        | (go_at_call 18; refine (KKC.out _).mono ?_; rintro e w0 ⟨rfl, rfl⟩))
      have hx2 := HX1.out.set5 (.int .i64 2) (.string s) (.int .i64 d) (.int .i32 0) (.int .i64 0)
      have y0 := hx2.cell (j := 0) rfl
      have y1 := hx2.cell (j := 1) rfl
      have y2 := hx2.cell (j := 2) rfl
      have y3 := hx2.cell (j := 3) rfl
      have y4 := hx2.cell (j := 4) rfl
      exact bodyPost_ret (v := .tuple #[.agg #[.int .i64 2, .string s, .int .i64 d, .int .i32 0, .int .i64 0], .int .i64 (s.size : Int), .int .i64 0]) (by simp [results, Tryz.results83, go_sem, y0, y1, y2, y3, y4]) rfl ⟨HQ.out _ rfl, ((((HB1.out.setCell (Nat.le_refl _) _).setCell (Nat.le_refl _) _).setCell (Nat.le_refl _) _).setCell (Nat.le_refl _) _).setCell (Nat.le_refl _) _⟩
end Go.Proofs.YtffhnedladiaoaaGreatDoor
/- Package lex: a text in quotes; the token that a text begins with. -/
namespace Go.Proofs.YtffhnedladiaoaaGreatDoor
open Go.RowKit Go.Lib
set_option linter.unusedVariables false
set_option linter.unusedSimpArgs false
set_option maxHeartbeats 4000000 in
set_option maxRecDepth 100000 in
theorem quoted_c (r : List UInt8) (hl : r.length ≤ 100000) (w : World) : Calls Tryz.prog 85 #[.string ⟨(34 :: r).toArray⟩] w fun e w' =>
    ResR (if (r.drop (r.takeWhile inQ).length).head? = some 34 then .ok (⟨4, r.takeWhile inQ, 0, 0, 0⟩, (r.takeWhile inQ).length + 2) else .error 3) e ∧ Below w.heap.size w w' := by
  have hs := mk_size (34 :: r)
  rw [List.length_cons] at hs
  have S1 := fun W' => slice_l ⟨(34 :: r).toArray⟩ 1 (by omega) W'
  change ∀ W', (Instr.slice 9 (.string ⟨(34 :: r).toArray⟩) (some (.int .i64 1)) none none).run Tryz.prog W' = .ok (.string ⟨r.toArray⟩) W' at S1
  have KL0 := fun (W' : World) => leading_inText ⟨r.toArray⟩ W' (by have := mk_size r; omega)
  rw [show (⟨r.toArray⟩ : ByteArray).data.toList = r from rfl] at KL0
  have hq := tw_len (p := inQ) r
  obtain ⟨T, hT⟩ : ∃ T, r.takeWhile inQ = T := ⟨_, rfl⟩
  rw [hT] at KL0 hq ⊢
  have KL := Lib.hid KL0
  have hts := mk_size T
  have hix : ∀ (h : T.length + 1 < (⟨(34 :: r).toArray⟩ : ByteArray).size), (r.drop T.length).head? = some (⟨(34 :: r).toArray⟩ : ByteArray)[T.length + 1] := fun h => by
    rw [List.head?_drop, List.getElem?_eq_getElem (by omega)]; rfl
  have hnn : T.length + 1 = (⟨(34 :: r).toArray⟩ : ByteArray).size → (r.drop T.length).head? = none := fun h => by
    rw [List.head?_drop, List.getElem?_eq_none (by omega)]
  obtain ⟨E, hE0⟩ : ∃ E, T.length + 1 = E := ⟨_, rfl⟩
  have HQ : Hid (∀ e, e = .returned (.tuple #[.agg #[.int .i64 4, .string ⟨T.toArray⟩, .int .i64 0, .int .i32 0, .int .i64 0], .int .i64 ((E : Int) + 1), .int .i64 0]) → ResR (.ok (⟨4, T, 0, 0, 0⟩, T.length + 2)) e) := Lib.hid (fun e h => by
    rw [h, show (E : Int) + 1 = ((T.length + 2 : Nat) : Int) by omega]; rfl)
  generalize (r.drop T.length).head? = X at *
  generalize (⟨(34 :: r).toArray⟩ : ByteArray) = s at *
  generalize (⟨r.toArray⟩ : ByteArray) = sr at *
  generalize (⟨T.toArray⟩ : ByteArray) = ts at *
  rw [hE0] at hix hnn
  have HX0 := Lib.hid (HBox.new w [.int .i64 0, .string ⟨#[]⟩, .int .i64 0, .int .i32 0, .int .i64 0] 90)
  have HB0 := Lib.hid ((Below.refl w.heap.size w).alloc (Nat.le_refl _) (.cells #[.int .i64 0, .string ⟨#[]⟩, .int .i64 0, .int .i32 0, .int .i64 0] 90))
  have hE : 1 + (ts.size : Int) = (E : Int) := by omega
  have hw : wrap64 (E : Int) = (E : Int) := by unfold wrap64; omega
  have hb1 : s.size ≤ 100001 := by omega
  have hb2 : E ≤ s.size := by omega
  have HN : Hid (s.size = r.length + 1) := Lib.hid hs
  clear hs hts
  by_cases hq2 : E = s.size
  · rw [hnn hq2, if_neg (by simp)]
    have e1 : ((E : Int) == (s.size : Int)) = true := by rw [beq_iff_eq, hq2]
    clear hix hnn HQ hq2 KL0 hT hq hE0
    go_enter Tryz.func85, Tryz.ntmps85
    go_wp2_with (go_at_call 78; refine (KL.out _).mono ?_; rintro e w1 ⟨rfl, rfl⟩)
    exact bodyPost_ret (v := .tuple #[.agg #[.int .i64 0, .string ⟨#[]⟩, .int .i64 0, .int .i32 0, .int .i64 0], .int .i64 0, .int .i64 3]) (by simp [results, Tryz.results85, go_sem]) rfl ⟨rfl, (Below.refl _ _).alloc (Nat.le_refl _) _⟩
  · have hlt : E < s.size := by omega
    rw [hix hlt]
    have e1 : ((E : Int) == (s.size : Int)) = false := by rw [beq_eq_false_iff_ne]; omega
    obtain ⟨c, hc⟩ : ∃ c, s[E] = c := ⟨_, rfl⟩
    rw [hc]
    by_cases h34 : c = 34
    · rw [if_pos (by rw [h34])]
      have e2 : ((c.toNat : Int) != 34) = false := by rw [h34]; rfl
      clear hix hnn hq2 KL0 hT hq hE0 h34
      go_enter Tryz.func85, Tryz.ntmps85
      go_wp2_with (go_at_call 78; refine (KL.out _).mono ?_; rintro e w1 ⟨rfl, rfl⟩)
      exact bodyPost_ret (v := .tuple #[.agg #[.int .i64 4, .string ts, .int .i64 0, .int .i32 0, .int .i64 0], .int .i64 ((E : Int) + 1), .int .i64 0]) (by simp [results, Tryz.results85, go_sem]) rfl ⟨HQ.out _ rfl, (Below.refl _ _).alloc (Nat.le_refl _) _⟩
    · rw [if_neg (fun h => h34 (Option.some.inj h))]
      have e2 : ((c.toNat : Int) != 34) = true := u8_ne' h34
      clear hix hnn hq2 KL0 hT hq hE0 h34 HQ
      go_enter Tryz.func85, Tryz.ntmps85
      go_wp2_with (go_at_call 78; refine (KL.out _).mono ?_; rintro e w1 ⟨rfl, rfl⟩)
      exact bodyPost_ret (v := .tuple #[.agg #[.int .i64 0, .string ⟨#[]⟩, .int .i64 0, .int .i32 0, .int .i64 0], .int .i64 0, .int .i64 3]) (by simp [results, Tryz.results85, go_sem]) rfl ⟨rfl, (Below.refl _ _).alloc (Nat.le_refl _) _⟩
theorem plain_v (k : Nat) (l : List UInt8) (w : World) : Calls Tryz.prog 81 #[.int .i64 (k : Int), .string ⟨l.toArray⟩] w fun e w' => e = .returned (.tuple #[.agg #[.int .i64 (k : Int), .string ⟨l.toArray⟩, .int .i64 0, .int .i32 0, .int .i64 0], .int .i64 (l.length : Int), .int .i64 0]) ∧ Below w.heap.size w w' :=
  (plain_c k l w).mono fun e w' h => ⟨h.1, h.2⟩
set_option maxHeartbeats 8000000 in
set_option maxRecDepth 100000 in
theorem first_c {I : World → Prop} (D : DayC I) (l : List UInt8) (h0 : l ≠ []) (hl : l.length ≤ 100000) (w : World) (hI : I w) :
    Calls Tryz.prog 53 #[.string ⟨l.toArray⟩] w fun e w' => OneR l e ∧ Below w.heap.size w w' := by
  have hOR : ∀ r, oneF l = r → ∀ e, ResR r e → OneR l e := fun r h e he => by unfold OneR; rw [h]; exact he
  have hs := mk_size l
  have hz : 0 < (⟨l.toArray⟩ : ByteArray).size := by rw [hs]; exact List.length_pos_iff.2 h0
  obtain ⟨c, r, rfl⟩ : ∃ c r, l = c :: r := by
    cases l with
    | nil => exact absurd rfl h0
    | cons c r => exact ⟨c, r, rfl⟩
  have hc0 : (⟨(c :: r).toArray⟩ : ByteArray)[0] = c := rfl
  have S1 := fun W' => slice_h ⟨(c :: r).toArray⟩ 1 (by omega) W'
  change ∀ W', (Instr.slice 9 (.string ⟨(c :: r).toArray⟩) none (some (.int .i64 1)) none).run Tryz.prog W' = .ok (.string ⟨#[c]⟩) W' at S1
  have KL := fun (W' : World) => letter_p c W'
  have KG := fun (W' : World) => digit_p c W'
  have K1 := fun (W' : World) => leading_letter ⟨(c :: r).toArray⟩ W' (by omega)
  have K2 := fun (W' : World) => leading_inDay ⟨(c :: r).toArray⟩ W' (by omega)
  rw [show (⟨(c :: r).toArray⟩ : ByteArray).data.toList = c :: r from rfl] at K1 K2
  have hc8 := c.toNat_lt
  have HX0 := Lib.hid (HBox.new w [.int .i64 0, .string ⟨#[]⟩, .int .i64 0, .int .i32 0, .int .i64 0] 90)
  have HB0 := Lib.hid ((Below.refl w.heap.size w).alloc (Nat.le_refl _) (.cells #[.int .i64 0, .string ⟨#[]⟩, .int .i64 0, .int .i32 0, .int .i64 0] 90))
  have hZ : ∀ x, oneF (c :: r) = .error x → Hid (∀ e, e = .returned (.tuple #[.agg #[.int .i64 0, .string ⟨#[]⟩, .int .i64 0, .int .i32 0, .int .i64 0], .int .i64 0, .int .i64 x]) → OneR (c :: r) e) := fun x h => Lib.hid (fun e he => hOR _ h e he)
  have hT : ∀ t n, oneF (c :: r) = .ok (t, n) → Hid (∀ e, e = .returned (.tuple #[.agg #[.int .i64 (t.kind : Int), .string ⟨t.text.toArray⟩, .int .i64 t.num, .int .i32 t.day, .int .i64 (t.at_ : Int)], .int .i64 (n : Int), .int .i64 0]) → OneR (c :: r) e) := fun t n h => Lib.hid (fun e he => hOR _ h e he)
  by_cases hlo : lowB c = true
  · rw [hlo] at KL
    have hW : (c :: r).takeWhile lowB ≠ [] := by rw [List.takeWhile_cons, if_pos hlo]; simp
    have h1 : oneF (c :: r) = .ok (⟨1, (c :: r).takeWhile lowB, 0, 0, 0⟩, ((c :: r).takeWhile lowB).length) := by unfold oneF; rw [if_pos hW]
    have HQ := hT _ _ h1
    generalize (c :: r).takeWhile lowB = W at *
    have KP := Lib.hid (fun (W' : World) => plain_v 1 W W')
    have KKL := Lib.hid KL
    have KK1 := Lib.hid K1
    generalize OneR (c :: r) = Q at *
    generalize (⟨(c :: r).toArray⟩ : ByteArray) = s at *
    dsimp only at HQ
    generalize (⟨W.toArray⟩ : ByteArray) = sw at *
    generalize W.length = wn at *
    clear KL K1 K2 KG hZ hT hlo hW h1 hOR S1 D hI h0 hs hl
    go_enter Tryz.func53, Tryz.ntmps53
    go_wp2_with (first
      | (go_at_call 81; refine (KP.out _).mono ?_; rintro e w1 ⟨rfl, h1⟩; have HB1 := Lib.hid (HB0.out.trans (h1.mono HB0.out.size)); have hx := HX0.out.stay h1; have z0 := hx.cell (j := 0) rfl; have z1 := hx.cell (j := 1) rfl; have z2 := hx.cell (j := 2) rfl; have z3 := hx.cell (j := 3) rfl; have z4 := hx.cell (j := 4) rfl; have f0 := hx.frozen 0; have f1 := hx.frozen 1; have f2 := hx.frozen 2; have f3 := hx.frozen 3; have f4 := hx.frozen 4; have zz := hx.size; have HX1 := Lib.hid hx; clear hx; clear h1)
      | (go_at_call 78; refine (KK1.out _).mono ?_; rintro e w' ⟨rfl, rfl⟩)
      | (go_at_call 80; refine (KKL.out _).mono ?_; rintro e w' ⟨rfl, rfl⟩))
    have hx2 := HX1.out.set5 (.int .i64 1) (.string sw) (.int .i64 0) (.int .i32 0) (.int .i64 0)
    have y0 := hx2.cell (j := 0) rfl
    have y1 := hx2.cell (j := 1) rfl
    have y2 := hx2.cell (j := 2) rfl
    have y3 := hx2.cell (j := 3) rfl
    have y4 := hx2.cell (j := 4) rfl
    exact bodyPost_ret (v := .tuple #[.agg #[.int .i64 1, .string sw, .int .i64 0, .int .i32 0, .int .i64 0], .int .i64 (wn : Int), .int .i64 0]) (by simp [results, Tryz.results53, go_sem, y0, y1, y2, y3, y4]) rfl ⟨HQ.out _ rfl, ((((HB1.out.setCell (Nat.le_refl _) _).setCell (Nat.le_refl _) _).setCell (Nat.le_refl _) _).setCell (Nat.le_refl _) _).setCell (Nat.le_refl _) _⟩
  have hlo2 : lowB c = false := by simpa using hlo
  rw [hlo2] at KL
  have hW : (c :: r).takeWhile lowB = [] := by rw [List.takeWhile_cons, if_neg hlo]
  have KKL := Lib.hid KL
  clear KL K1 hlo hlo2
  by_cases hdi : digB c = true
  · rw [hdi] at KG
    have hdm : dimB c = true := by unfold dimB; rw [hdi]; rfl
    have hD : (c :: r).takeWhile dimB ≠ [] := by rw [List.takeWhile_cons, if_pos hdm]; simp
    have hne : (c :: r).head? ≠ some 45 := fun h => by
      have : c = 45 := Option.some.inj h
      rw [this] at hdi; exact absurd hdi (by decide)
    have hhd : ((c :: r).takeWhile dimB).head? = (c :: r).head? := tw_head hD
    have h1 : oneF (c :: r) = digF ((c :: r).takeWhile dimB) := by
      unfold oneF digF
      rw [hW, if_neg (by simp), if_pos ⟨hD, hne⟩, hhd]
      rfl
    have KD := Lib.hid (fun (W' : World) (h : Below w.heap.size w W') => digits_c D ((c :: r).takeWhile dimB) hD (fun x hx => tw_mem2 hx) (Nat.le_trans (tw_len _) hl) W' (D.stay hI h))
    have hQ := hOR _ h1
    generalize (c :: r).takeWhile dimB = T at *
    have KKG := Lib.hid KG
    have KK2 := Lib.hid K2
    generalize OneR (c :: r) = Q at *
    generalize (⟨(c :: r).toArray⟩ : ByteArray) = s at *
    clear KG K2 hZ hT hdi hdm hD hne hhd h1 hOR S1 D hI h0 hs hl hW
    cases hd : digF T with
    | error x =>
      rw [hd] at KD hQ
      have HQ : Hid (∀ e, e = .returned (.tuple #[.agg #[.int .i64 0, .string ⟨#[]⟩, .int .i64 0, .int .i32 0, .int .i64 0], .int .i64 0, .int .i64 x]) → Q e) := Lib.hid hQ
      have KD2 : Hid (∀ W', Below w.heap.size w W' → Calls Tryz.prog 83 #[.string ⟨T.toArray⟩] W' fun e w' => e = .returned (.tuple #[.agg #[.int .i64 0, .string ⟨#[]⟩, .int .i64 0, .int .i32 0, .int .i64 0], .int .i64 0, .int .i64 x]) ∧ Below W'.heap.size W' w') := KD
      clear KD hQ hd
      generalize (⟨T.toArray⟩ : ByteArray) = st at *
      go_enter Tryz.func53, Tryz.ntmps53
      go_wp2_with (first
        | (go_at_call 83; refine (KD2.out _ HB0.out).mono ?_; rintro e w1 ⟨rfl, h1⟩; have HB1 := Lib.hid (HB0.out.trans (h1.mono HB0.out.size)); have hx := HX0.out.stay h1; have z0 := hx.cell (j := 0) rfl; have z1 := hx.cell (j := 1) rfl; have z2 := hx.cell (j := 2) rfl; have z3 := hx.cell (j := 3) rfl; have z4 := hx.cell (j := 4) rfl; have f0 := hx.frozen 0; have f1 := hx.frozen 1; have f2 := hx.frozen 2; have f3 := hx.frozen 3; have f4 := hx.frozen 4; have zz := hx.size; have HX1 := Lib.hid hx; clear hx; clear h1)
        | (go_at_call 78; refine (KK2.out _).mono ?_; rintro e w' ⟨rfl, rfl⟩)
        | (go_at_call 80; refine (KKL.out _).mono ?_; rintro e w' ⟨rfl, rfl⟩)
        | (go_at_call 82; refine (KKG.out _).mono ?_; rintro e w' ⟨rfl, rfl⟩))
      have hx2 := HX1.out.set5 (.int .i64 0) (.string ⟨#[]⟩) (.int .i64 0) (.int .i32 0) (.int .i64 0)
      have y0 := hx2.cell (j := 0) rfl
      have y1 := hx2.cell (j := 1) rfl
      have y2 := hx2.cell (j := 2) rfl
      have y3 := hx2.cell (j := 3) rfl
      have y4 := hx2.cell (j := 4) rfl
      exact bodyPost_ret (v := .tuple #[.agg #[.int .i64 0, .string ⟨#[]⟩, .int .i64 0, .int .i32 0, .int .i64 0], .int .i64 0, .int .i64 x]) (by simp [results, Tryz.results53, go_sem, y0, y1, y2, y3, y4]) rfl ⟨HQ.out _ rfl, ((((HB1.out.setCell (Nat.le_refl _) _).setCell (Nat.le_refl _) _).setCell (Nat.le_refl _) _).setCell (Nat.le_refl _) _).setCell (Nat.le_refl _) _⟩
    | ok p =>
      obtain ⟨t, n⟩ := p
      rw [hd] at KD hQ
      obtain ⟨tk, tt, tn, td, ta⟩ := t
      have HQ : Hid (∀ e, e = .returned (.tuple #[.agg #[.int .i64 (tk : Int), .string ⟨tt.toArray⟩, .int .i64 tn, .int .i32 td, .int .i64 (ta : Int)], .int .i64 (n : Int), .int .i64 0]) → Q e) := Lib.hid hQ
      have KD2 : Hid (∀ W', Below w.heap.size w W' → Calls Tryz.prog 83 #[.string ⟨T.toArray⟩] W' fun e w' => e = .returned (.tuple #[.agg #[.int .i64 (tk : Int), .string ⟨tt.toArray⟩, .int .i64 tn, .int .i32 td, .int .i64 (ta : Int)], .int .i64 (n : Int), .int .i64 0]) ∧ Below W'.heap.size W' w') := KD
      clear KD hQ hd
      generalize (⟨T.toArray⟩ : ByteArray) = st at *
      generalize (⟨tt.toArray⟩ : ByteArray) = ss at *
      go_enter Tryz.func53, Tryz.ntmps53
      go_wp2_with (first
        | (go_at_call 83; refine (KD2.out _ HB0.out).mono ?_; rintro e w1 ⟨rfl, h1⟩; have HB1 := Lib.hid (HB0.out.trans (h1.mono HB0.out.size)); have hx := HX0.out.stay h1; have z0 := hx.cell (j := 0) rfl; have z1 := hx.cell (j := 1) rfl; have z2 := hx.cell (j := 2) rfl; have z3 := hx.cell (j := 3) rfl; have z4 := hx.cell (j := 4) rfl; have f0 := hx.frozen 0; have f1 := hx.frozen 1; have f2 := hx.frozen 2; have f3 := hx.frozen 3; have f4 := hx.frozen 4; have zz := hx.size; have HX1 := Lib.hid hx; clear hx; clear h1)
        | (go_at_call 78; refine (KK2.out _).mono ?_; rintro e w' ⟨rfl, rfl⟩)
        | (go_at_call 80; refine (KKL.out _).mono ?_; rintro e w' ⟨rfl, rfl⟩)
        | (go_at_call 82; refine (KKG.out _).mono ?_; rintro e w' ⟨rfl, rfl⟩))
      have hx2 := HX1.out.set5 (.int .i64 (tk : Int)) (.string ss) (.int .i64 tn) (.int .i32 td) (.int .i64 (ta : Int))
      have y0 := hx2.cell (j := 0) rfl
      have y1 := hx2.cell (j := 1) rfl
      have y2 := hx2.cell (j := 2) rfl
      have y3 := hx2.cell (j := 3) rfl
      have y4 := hx2.cell (j := 4) rfl
      exact bodyPost_ret (v := .tuple #[.agg #[.int .i64 (tk : Int), .string ss, .int .i64 tn, .int .i32 td, .int .i64 (ta : Int)], .int .i64 (n : Int), .int .i64 0]) (by simp [results, Tryz.results53, go_sem, y0, y1, y2, y3, y4]) rfl ⟨HQ.out _ rfl, ((((HB1.out.setCell (Nat.le_refl _) _).setCell (Nat.le_refl _) _).setCell (Nat.le_refl _) _).setCell (Nat.le_refl _) _).setCell (Nat.le_refl _) _⟩
  have hdi2 : digB c = false := by simpa using hdi
  rw [hdi2] at KG
  have KKG := Lib.hid KG
  have h2 : ¬ ((c :: r).takeWhile dimB ≠ [] ∧ (c :: r).head? ≠ some 45) := by
    rintro ⟨h3, h4⟩
    rw [List.takeWhile_cons] at h3
    by_cases h5 : dimB c = true
    · unfold dimB at h5
      rw [hdi2, Bool.false_or] at h5
      exact h4 (by rw [show c = 45 by simpa using h5]; rfl)
    · rw [if_neg h5] at h3; exact h3 rfl
  have hsw := oneF_sw rfl hW h2
  clear KG K2 hdi hdi2 hW h2
  by_cases h34 : c = 34
  · subst h34
    rw [if_neg (by decide), if_pos rfl] at hsw
    have KQ := fun (W' : World) => show Calls Tryz.prog 85 #[.string ⟨(34 :: r).toArray⟩] W' fun e w' => ResR (oneF (34 :: r)) e ∧ Below W'.heap.size W' w' by
      rw [hsw]; exact quoted_c r (by simp at hl; omega) W'
    have hQ := hOR _ rfl
    clear hZ hT hOR S1 D hI h0 hl hsw
    generalize oneF (34 :: r) = R at *
    generalize OneR (34 :: r) = Q at *
    generalize (⟨(34 :: r).toArray⟩ : ByteArray) = s at *
    cases R with
    | error x =>
      have HQ : Hid (∀ e, e = .returned (.tuple #[.agg #[.int .i64 0, .string ⟨#[]⟩, .int .i64 0, .int .i32 0, .int .i64 0], .int .i64 0, .int .i64 x]) → Q e) := Lib.hid hQ
      have KD2 : Hid (∀ W', Calls Tryz.prog 85 #[.string s] W' fun e w' => e = .returned (.tuple #[.agg #[.int .i64 0, .string ⟨#[]⟩, .int .i64 0, .int .i32 0, .int .i64 0], .int .i64 0, .int .i64 x]) ∧ Below W'.heap.size W' w') := KQ
      clear KQ hQ hs
      go_enter Tryz.func53, Tryz.ntmps53
      go_wp2_with (first
        | (go_at_call 85; refine (KD2.out _).mono ?_; rintro e w1 ⟨rfl, h1⟩; have HB1 := Lib.hid (HB0.out.trans (h1.mono HB0.out.size)); have hx := HX0.out.stay h1; have z0 := hx.cell (j := 0) rfl; have z1 := hx.cell (j := 1) rfl; have z2 := hx.cell (j := 2) rfl; have z3 := hx.cell (j := 3) rfl; have z4 := hx.cell (j := 4) rfl; have f0 := hx.frozen 0; have f1 := hx.frozen 1; have f2 := hx.frozen 2; have f3 := hx.frozen 3; have f4 := hx.frozen 4; have zz := hx.size; have HX1 := Lib.hid hx; clear hx; clear h1)
        | (go_at_call 80; refine (KKL.out _).mono ?_; rintro e w' ⟨rfl, rfl⟩)
        | (go_at_call 82; refine (KKG.out _).mono ?_; rintro e w' ⟨rfl, rfl⟩))
      have hx2 := HX1.out.set5 (.int .i64 0) (.string ⟨#[]⟩) (.int .i64 0) (.int .i32 0) (.int .i64 0)
      have y0 := hx2.cell (j := 0) rfl
      have y1 := hx2.cell (j := 1) rfl
      have y2 := hx2.cell (j := 2) rfl
      have y3 := hx2.cell (j := 3) rfl
      have y4 := hx2.cell (j := 4) rfl
      exact bodyPost_ret (v := .tuple #[.agg #[.int .i64 0, .string ⟨#[]⟩, .int .i64 0, .int .i32 0, .int .i64 0], .int .i64 0, .int .i64 x]) (by simp [results, Tryz.results53, go_sem, y0, y1, y2, y3, y4]) rfl ⟨HQ.out _ rfl, ((((HB1.out.setCell (Nat.le_refl _) _).setCell (Nat.le_refl _) _).setCell (Nat.le_refl _) _).setCell (Nat.le_refl _) _).setCell (Nat.le_refl _) _⟩
    | ok p =>
      obtain ⟨⟨tk, tt, tn, td, ta⟩, n⟩ := p
      have HQ : Hid (∀ e, e = .returned (.tuple #[.agg #[.int .i64 (tk : Int), .string ⟨tt.toArray⟩, .int .i64 tn, .int .i32 td, .int .i64 (ta : Int)], .int .i64 (n : Int), .int .i64 0]) → Q e) := Lib.hid hQ
      have KD2 : Hid (∀ W', Calls Tryz.prog 85 #[.string s] W' fun e w' => e = .returned (.tuple #[.agg #[.int .i64 (tk : Int), .string ⟨tt.toArray⟩, .int .i64 tn, .int .i32 td, .int .i64 (ta : Int)], .int .i64 (n : Int), .int .i64 0]) ∧ Below W'.heap.size W' w') := KQ
      clear KQ hQ hs
      generalize (⟨tt.toArray⟩ : ByteArray) = ss at *
      go_enter Tryz.func53, Tryz.ntmps53
      go_wp2_with (first
        | (go_at_call 85; refine (KD2.out _).mono ?_; rintro e w1 ⟨rfl, h1⟩; have HB1 := Lib.hid (HB0.out.trans (h1.mono HB0.out.size)); have hx := HX0.out.stay h1; have z0 := hx.cell (j := 0) rfl; have z1 := hx.cell (j := 1) rfl; have z2 := hx.cell (j := 2) rfl; have z3 := hx.cell (j := 3) rfl; have z4 := hx.cell (j := 4) rfl; have f0 := hx.frozen 0; have f1 := hx.frozen 1; have f2 := hx.frozen 2; have f3 := hx.frozen 3; have f4 := hx.frozen 4; have zz := hx.size; have HX1 := Lib.hid hx; clear hx; clear h1)
        | (go_at_call 80; refine (KKL.out _).mono ?_; rintro e w' ⟨rfl, rfl⟩)
        | (go_at_call 82; refine (KKG.out _).mono ?_; rintro e w' ⟨rfl, rfl⟩))
      have hx2 := HX1.out.set5 (.int .i64 (tk : Int)) (.string ss) (.int .i64 tn) (.int .i32 td) (.int .i64 (ta : Int))
      have y0 := hx2.cell (j := 0) rfl
      have y1 := hx2.cell (j := 1) rfl
      have y2 := hx2.cell (j := 2) rfl
      have y3 := hx2.cell (j := 3) rfl
      have y4 := hx2.cell (j := 4) rfl
      exact bodyPost_ret (v := .tuple #[.agg #[.int .i64 (tk : Int), .string ss, .int .i64 tn, .int .i32 td, .int .i64 (ta : Int)], .int .i64 (n : Int), .int .i64 0]) (by simp [results, Tryz.results53, go_sem, y0, y1, y2, y3, y4]) rfl ⟨HQ.out _ rfl, ((((HB1.out.setCell (Nat.le_refl _) _).setCell (Nat.le_refl _) _).setCell (Nat.le_refl _) _).setCell (Nat.le_refl _) _).setCell (Nat.le_refl _) _⟩
  have n34 : ((c.toNat : Int) == 34) = false := u8_ne h34
  by_cases h4 : c = 44 ∨ c = 59
  · rw [if_pos h4] at hsw
    have HQ := hT _ _ hsw
    dsimp only at HQ
    have KP := Lib.hid (fun (W' : World) => plain_v 5 [c] W')
    have B4 : ((c.toNat : Int) == 44) = true ∨ (((c.toNat : Int) == 44) = false ∧ ((c.toNat : Int) == 59) = true) := by
      rcases h4 with rfl | rfl
      · exact Or.inl (by decide)
      · exact Or.inr ⟨by decide, by decide⟩
    clear hZ hT hOR D hI h0 hl hsw h4 hs
    generalize OneR (c :: r) = Q at *
    generalize (⟨(c :: r).toArray⟩ : ByteArray) = s at *
    change Hid (∀ e, e = .returned (.tuple #[.agg #[.int .i64 5, .string ⟨#[c]⟩, .int .i64 0, .int .i32 0, .int .i64 0], .int .i64 1, .int .i64 0]) → Q e) at HQ
    change Hid (∀ W', Calls Tryz.prog 81 #[.int .i64 5, .string ⟨#[c]⟩] W' fun e w' => e = .returned (.tuple #[.agg #[.int .i64 5, .string ⟨#[c]⟩, .int .i64 0, .int .i32 0, .int .i64 0], .int .i64 1, .int .i64 0]) ∧ Below W'.heap.size W' w') at KP
    generalize (⟨#[c]⟩ : ByteArray) = sc at *
    rcases B4 with b1 | ⟨b1, b2⟩
    · go_enter Tryz.func53, Tryz.ntmps53
      go_wp2_with (first
        | (go_at_call 81; refine (KP.out _).mono ?_; rintro e w1 ⟨rfl, h1⟩; have HB1 := Lib.hid (HB0.out.trans (h1.mono HB0.out.size)); have hx := HX0.out.stay h1; have z0 := hx.cell (j := 0) rfl; have z1 := hx.cell (j := 1) rfl; have z2 := hx.cell (j := 2) rfl; have z3 := hx.cell (j := 3) rfl; have z4 := hx.cell (j := 4) rfl; have f0 := hx.frozen 0; have f1 := hx.frozen 1; have f2 := hx.frozen 2; have f3 := hx.frozen 3; have f4 := hx.frozen 4; have zz := hx.size; have HX1 := Lib.hid hx; clear hx; clear h1)
        | (go_at_call 80; refine (KKL.out _).mono ?_; rintro e w' ⟨rfl, rfl⟩)
        | (go_at_call 82; refine (KKG.out _).mono ?_; rintro e w' ⟨rfl, rfl⟩))
      have hx2 := HX1.out.set5 (.int .i64 5) (.string sc) (.int .i64 0) (.int .i32 0) (.int .i64 0)
      have y0 := hx2.cell (j := 0) rfl
      have y1 := hx2.cell (j := 1) rfl
      have y2 := hx2.cell (j := 2) rfl
      have y3 := hx2.cell (j := 3) rfl
      have y4 := hx2.cell (j := 4) rfl
      exact bodyPost_ret (v := .tuple #[.agg #[.int .i64 5, .string sc, .int .i64 0, .int .i32 0, .int .i64 0], .int .i64 1, .int .i64 0]) (by simp [results, Tryz.results53, go_sem, y0, y1, y2, y3, y4]) rfl ⟨HQ.out _ rfl, ((((HB1.out.setCell (Nat.le_refl _) _).setCell (Nat.le_refl _) _).setCell (Nat.le_refl _) _).setCell (Nat.le_refl _) _).setCell (Nat.le_refl _) _⟩
    · go_enter Tryz.func53, Tryz.ntmps53
      go_wp2_with (first
        | (go_at_call 81; refine (KP.out _).mono ?_; rintro e w1 ⟨rfl, h1⟩; have HB1 := Lib.hid (HB0.out.trans (h1.mono HB0.out.size)); have hx := HX0.out.stay h1; have z0 := hx.cell (j := 0) rfl; have z1 := hx.cell (j := 1) rfl; have z2 := hx.cell (j := 2) rfl; have z3 := hx.cell (j := 3) rfl; have z4 := hx.cell (j := 4) rfl; have f0 := hx.frozen 0; have f1 := hx.frozen 1; have f2 := hx.frozen 2; have f3 := hx.frozen 3; have f4 := hx.frozen 4; have zz := hx.size; have HX1 := Lib.hid hx; clear hx; clear h1)
        | (go_at_call 80; refine (KKL.out _).mono ?_; rintro e w' ⟨rfl, rfl⟩)
        | (go_at_call 82; refine (KKG.out _).mono ?_; rintro e w' ⟨rfl, rfl⟩))
      have hx2 := HX1.out.set5 (.int .i64 5) (.string sc) (.int .i64 0) (.int .i32 0) (.int .i64 0)
      have y0 := hx2.cell (j := 0) rfl
      have y1 := hx2.cell (j := 1) rfl
      have y2 := hx2.cell (j := 2) rfl
      have y3 := hx2.cell (j := 3) rfl
      have y4 := hx2.cell (j := 4) rfl
      exact bodyPost_ret (v := .tuple #[.agg #[.int .i64 5, .string sc, .int .i64 0, .int .i32 0, .int .i64 0], .int .i64 1, .int .i64 0]) (by simp [results, Tryz.results53, go_sem, y0, y1, y2, y3, y4]) rfl ⟨HQ.out _ rfl, ((((HB1.out.setCell (Nat.le_refl _) _).setCell (Nat.le_refl _) _).setCell (Nat.le_refl _) _).setCell (Nat.le_refl _) _).setCell (Nat.le_refl _) _⟩
  · rw [if_neg h4, if_neg h34] at hsw
    have HQ := hZ _ hsw
    have n44 : ((c.toNat : Int) == 44) = false := u8_ne (fun h => h4 (Or.inl h))
    have n59 : ((c.toNat : Int) == 59) = false := u8_ne (fun h => h4 (Or.inr h))
    clear hZ hT hOR D hI h0 hl hsw h4 hs S1
    generalize OneR (c :: r) = Q at *
    generalize (⟨(c :: r).toArray⟩ : ByteArray) = s at *
    go_enter Tryz.func53, Tryz.ntmps53
    go_wp2_with (first
      | (go_at_call 80; refine (KKL.out _).mono ?_; rintro e w' ⟨rfl, rfl⟩)
      | (go_at_call 82; refine (KKG.out _).mono ?_; rintro e w' ⟨rfl, rfl⟩))
    exact bodyPost_ret (v := .tuple #[.agg #[.int .i64 0, .string ⟨#[]⟩, .int .i64 0, .int .i32 0, .int .i64 0], .int .i64 0, .int .i64 1]) (by simp [results, Tryz.results53, go_sem]) rfl ⟨HQ.out _ rfl, (Below.refl _ _).alloc (Nat.le_refl _) _⟩
end Go.Proofs.YtffhnedladiaoaaGreatDoor
/- Law 12's Split: its contract. -/
namespace Go.Proofs.YtffhnedladiaoaaGreatDoor
open Go.RowKit Go.Lib
set_option linter.unusedVariables false
set_option linter.unusedSimpArgs false
/-- Tokens that stand, and what comes of the rest. -/
noncomputable def preT (ts : List Tk) (r : Except (Nat × Int) (List Tk)) : Except (Nat × Int) (List Tk) := match r with | .error e => .error e | .ok us => .ok (ts ++ us)
theorem preT_err (ts : List Tk) (e : Nat × Int) : preT ts (.error e) = .error e := rfl
theorem preT_ok (ts us : List Tk) : preT ts (.ok us) = .ok (ts ++ us) := rfl
theorem idx_tw (c : UInt8) : ∀ l : List UInt8, indexByte l c = if c ∈ l then (((l.takeWhile (fun b => b != c)).length : Nat) : Int) else -1
  | [] => by unfold indexByte; simp
  | b :: l => by
    have h := idx_tw c l
    unfold indexByte
    by_cases e : b = c
    · subst e; simp [List.takeWhile_cons]
    · have e2 : (b == c) = false := by simp [e]
      have e3 : (b != c) = true := by simp [e]
      have e4 : (c ∈ b :: l) = (c ∈ l) := by simp [List.mem_cons, Ne.symm e]
      rw [e2, h]
      by_cases h2 : c ∈ l
      · have e5 : ((((l.takeWhile (fun b => b != c)).length : Nat) : Int) == -1) = false := by rw [beq_eq_false_iff_ne]; omega
        simp only [e4, h2, if_true, e5, Bool.false_eq_true, if_false, List.takeWhile_cons, e3, List.length_cons]
        omega
      · simp [e4, h2]
theorem tw_none {c : UInt8} {l : List UInt8} (h : c ∉ l) : l.takeWhile (fun b => b != c) = l := by
  induction l with
  | nil => rfl
  | cons b r ih =>
    have h1 : (b != c) = true := by rw [bne_iff_ne]; intro e; subst e; simp at h
    rw [List.takeWhile_cons, if_pos h1, ih (fun h2 => h (by simp [h2]))]
/-- What a call answers that looks for a text's tokens. -/
def SplR (r : Except (Nat × Int) (List Tk)) (e : Ending) (w w' : World) : Prop := Below w.heap.size w w' ∧ match r with
  | .error p => e = .returned (.tuple #[.slice none 0 0, .int .i64 (p.1 : Int), .int .i64 p.2])
  | .ok ts => ∃ v, e = .returned (.tuple #[v, .int .i64 0, .int .i64 0]) ∧ Recs tkc 5 w' v ts
theorem info_tk : (Tryz.prog.info? 90).map (fun i => (i.zero, i.size, i.bytes)) = some (some (.agg #[.int .i64 0, .string ⟨#[]⟩, .int .i64 0, .int .i32 0, .int .i64 0]), 5, 48) := by kernel_rfl
theorem spl_at {l : List UInt8} {i : Nat} (h : i < l.length) : l.drop i = l[i] :: l.drop (i + 1) := List.drop_eq_getElem_cons h
/-- One byte that lies between tokens. -/
theorem sp_blank {l : List UInt8} {i : Nat} {c : UInt8} (h : i < l.length) (hc : l[i] = c) (hb : c = 32 ∨ c = 10) : spl (l.length - i + 1) i (l.drop i) = spl (l.length - (i + 1) + 1) (i + 1) (l.drop (i + 1)) := by
  rw [spl_at h, hc, spl_cons, if_pos hb, show l.length - i = l.length - (i + 1) + 1 by omega]
theorem sp_note {l : List UInt8} {i : Nat} (h : i < l.length) (hc : l[i] = 35) : spl (l.length - i + 1) i (l.drop i) = spl (l.length - (i + ((l.drop i).takeWhile notNl).length) + 1) (i + ((l.drop i).takeWhile notNl).length) (l.drop (i + ((l.drop i).takeWhile notNl).length)) ∧ 0 < ((l.drop i).takeWhile notNl).length ∧ i + ((l.drop i).takeWhile notNl).length ≤ l.length := by
  have hp : 0 < ((l.drop i).takeWhile notNl).length := by rw [spl_at h, hc, List.takeWhile_cons]; simp [notNl]
  have hl := tw_len (p := notNl) (l.drop i)
  rw [List.length_drop] at hl
  refine ⟨?_, hp, by omega⟩
  obtain ⟨n, hn⟩ : ∃ n, ((l.drop i).takeWhile notNl).length = n := ⟨_, rfl⟩
  rw [hn] at hp hl ⊢
  conv => lhs; rw [spl_at h, hc, spl_cons, if_neg (by decide), if_pos rfl, ← hc, ← spl_at h, hn, List.drop_drop]
  exact spl_fuel _ _ _ _ (by rw [List.length_drop]; omega) (by rw [List.length_drop]; omega)
theorem sp_bad {l : List UInt8} {i : Nat} {c : UInt8} {e : Int} (h : i < l.length) (hc : l[i] = c) (h1 : ¬ (c = 32 ∨ c = 10)) (h2 : c ≠ 35) (h3 : oneF (l.drop i) = .error e) : spl (l.length - i + 1) i (l.drop i) = .error (i, e) := by
  rw [spl_at h, hc] at h3 ⊢
  rw [spl_cons, if_neg h1, if_neg h2, h3]
theorem sp_tok {l : List UInt8} {i n : Nat} {c : UInt8} {t : Tk} (ts : List Tk) (h : i < l.length) (hc : l[i] = c) (h1 : ¬ (c = 32 ∨ c = 10)) (h2 : c ≠ 35) (h3 : oneF (l.drop i) = .ok (t, n)) : 0 < n ∧ i + n ≤ l.length ∧ preT ts (spl (l.length - i + 1) i (l.drop i)) = preT (ts ++ [{ t with at_ := i }]) (spl (l.length - (i + n) + 1) (i + n) (l.drop (i + n))) := by
  have hp := oneF_pos h3
  rw [List.length_drop] at hp
  refine ⟨hp.1, by omega, ?_⟩
  have e : spl (l.length - i + 1) i (l.drop i) = (match spl (l.length - (i + n) + 1) (i + n) (l.drop (i + n)) with | .error e => .error e | .ok ts => .ok ({ t with at_ := i } :: ts) : Except (Nat × Int) (List Tk)) := by
    rw [spl_at h, hc] at h3
    conv => lhs; rw [spl_at h, hc, spl_cons, if_neg h1, if_neg h2, h3]
    dsimp only
    rw [← hc, ← spl_at h, List.drop_drop, spl_fuel (l.length - i) (l.length - (i + n) + 1) (i + n) (l.drop (i + n)) (by rw [List.length_drop]; omega) (by rw [List.length_drop]; omega)]
    rfl
  rw [e]
  cases spl (l.length - (i + n) + 1) (i + n) (l.drop (i + n)) with
  | error e => rfl
  | ok us => simp [preT]
theorem oneF_zero {s : List UInt8} {t : Tk} {n : Nat} (h : oneF s = .ok (t, n)) : t.at_ = 0 := (oneF_again h []).2.2.1
theorem sp_end (l : List UInt8) : spl (l.length - l.length + 1) l.length (l.drop l.length) = .ok [⟨0, [], 0, 0, l.length⟩] := by
  rw [List.drop_length]; rfl
end Go.Proofs.YtffhnedladiaoaaGreatDoor
/- What a call answers that splits a text; what the laws ask of lex. -/
namespace Go.Proofs.YtffhnedladiaoaaGreatDoor
open Go.RowKit Go.Lib
set_option linter.unusedVariables false
set_option linter.unusedSimpArgs false
/-- What a call answers that splits a text. -/
def SplT (p : List Tk × Nat × Int) (e : Ending) (w w' : World) : Prop := ∃ r c, e = .returned (.tuple #[.slice r p.1.length c, .int .i64 (p.2.1 : Int), .int .i64 p.2.2]) ∧ Recs tkc 5 w' (.slice r p.1.length c) p.1 ∧ Below w.heap.size w w'
/-- What the laws ask of lex. -/
structure LexC (I : World → Prop) : Prop where
  split : ∀ (s : ByteArray) (w : World), I w → s.size ≤ 100000 → Calls Tryz.prog 26 #[.string s] w fun e w' => SplT (splT s.data.toList) e w w'
end Go.Proofs.YtffhnedladiaoaaGreatDoor
/- Package lex: over what lies between tokens. -/
namespace Go.Proofs.YtffhnedladiaoaaGreatDoor
open Go.RowKit Go.Lib
set_option linter.unusedVariables false
set_option linter.unusedSimpArgs false
set_option maxHeartbeats 4000000 in
set_option maxRecDepth 100000 in
theorem next_c (s : ByteArray) (l : List UInt8) (hl : s.data.toList = l) (k : Nat) (hk : k ≤ s.size) (hs : s.size ≤ 100000) (w : World) :
    Calls Tryz.prog 52 #[.string s, .int .i64 (k : Int)] w fun e w' => (∃ k' : Nat, e = .returned (.int .i64 (k' : Int)) ∧ k' ≤ s.size ∧ k ≤ k' ∧ spl (l.length - k + 1) k (l.drop k) = spl (l.length - k' + 1) k' (l.drop k') ∧ (∀ h : k' < l.length, ¬ (l[k'] = 32 ∨ l[k'] = 10) ∧ l[k'] ≠ 35)) ∧ w' = w := by
  have hlen : l.length = s.size := by rw [← hl]; simp
  have HGET := Lib.hid (fun (i : Nat) (h : i < s.size) => show l[i]? = some s[i] by subst hl; rw [List.getElem?_eq_getElem (by simpa using h)]; rfl)
  have HLEN := Lib.hid hlen
  have SS1 := Lib.hid (fun (i : Nat) (h : i ≤ s.size) (W' : World) => show (Instr.slice 9 (.string s) (some (.int .i64 (i : Int))) none none).run Tryz.prog W' = .ok (.string ⟨(l.drop i).toArray⟩) W' by rw [← hl]; exact slice_l s i h W')
  clear hl hlen
  go_enter Tryz.func52, Tryz.ntmps52
  go_wp2_with fail
  go_step3
  go_wp2_with fail
  go_step3
  go_wp2_with fail
  go_loop [1] (fun i => ∃ j : Nat, i = .int .i64 (j : Int) ∧ j ≤ s.size ∧ k ≤ j ∧ Hid (spl (l.length - k + 1) k (l.drop k) = spl (l.length - j + 1) j (l.drop j))) (fun i => s.size - (RowKit.intOf i).toNat)
  case atStart => exact ⟨k, rfl, hk, Nat.le_refl _, Lib.hid rfl⟩
  case round =>
    obtain ⟨j, rfl, hj, hkj, HR⟩ := hrel
    by_cases hlt : j < s.size
    case neg =>
      obtain rfl : j = s.size := by omega
      have HE : Hid (∀ h : s.size < l.length, ¬ (l[s.size] = 32 ∨ l[s.size] = 10) ∧ l[s.size] ≠ 35) := Lib.hid (fun h => by have := HLEN.out; omega)
      go_wp2_with fail
      go_ret
      exact ⟨⟨s.size, rfl, Nat.le_refl _, hkj, HR.out, HE.out⟩, rfl⟩
    case pos =>
      have hlt2 : j < l.length := by rw [HLEN.out]; exact hlt
      obtain ⟨c, hc⟩ : ∃ c, s[j] = c := ⟨_, rfl⟩
      have hcl : l[j] = c := by
        have hg := HGET.out j hlt
        rw [List.getElem?_eq_getElem hlt2] at hg
        exact (Option.some.inj hg).trans hc
      have hc8 := c.toNat_lt
      by_cases hbl : c = 32 ∨ c = 10
      · have hst := sp_blank hlt2 hcl hbl
        have HR2 : Hid (spl (l.length - k + 1) k (l.drop k) = spl (l.length - (j + 1) + 1) (j + 1) (l.drop (j + 1))) := Lib.hid (HR.out.trans hst)
        have BL : ((c.toNat : Int) == 32) = true ∨ (((c.toNat : Int) == 32) = false ∧ ((c.toNat : Int) == 10) = true) := by
          rcases hbl with rfl | rfl
          · exact Or.inl (by decide)
          · exact Or.inr ⟨by decide, by decide⟩
        clear hst hbl hcl hlt2
        rcases BL with b1 | ⟨b1, b2⟩
        all_goals
          go_wp2_with fail
          go_round
          case rel => exact ⟨j + 1, by go_num, by omega, by omega, HR2⟩
          case measure => simp [RowKit.intOf]; omega
      have n32 : ((c.toNat : Int) == 32) = false := u8_ne (fun h => hbl (Or.inl h))
      have n10 : ((c.toNat : Int) == 10) = false := u8_ne (fun h => hbl (Or.inr h))
      by_cases h35 : c = 35
      · subst h35
        obtain ⟨hst, hp, hle⟩ := sp_note hlt2 hcl
        have J := SS1.out j (by omega)
        have K0 := fun (W' : World) => leading_inLine ⟨(l.drop j).toArray⟩ W' (by have := mk_size (l.drop j); rw [List.length_drop, HLEN.out] at this; omega)
        rw [show (⟨(l.drop j).toArray⟩ : ByteArray).data.toList = l.drop j from rfl] at K0
        have hts := mk_size ((l.drop j).takeWhile notNl)
        generalize (⟨((l.drop j).takeWhile notNl).toArray⟩ : ByteArray) = ts at *
        generalize (⟨(l.drop j).toArray⟩ : ByteArray) = sj at *
        rw [← hts] at hst hp hle
        have hle2 : j + ts.size ≤ s.size := by rw [← HLEN.out]; exact hle
        have HR2 : Hid (spl (l.length - k + 1) k (l.drop k) = spl (l.length - (j + ts.size) + 1) (j + ts.size) (l.drop (j + ts.size))) := Lib.hid (HR.out.trans hst)
        have KK := Lib.hid K0
        clear hst hts K0 hcl hle hbl hlt2
        go_wp2_with (go_at_call 78; refine (KK.out _).mono ?_; rintro e w1 ⟨rfl, rfl⟩)
        go_round
        case rel => exact ⟨j + ts.size, by go_num, hle2, by omega, HR2⟩
        case measure => simp [RowKit.intOf]; omega
      · have n35 : ((c.toNat : Int) == 35) = false := u8_ne h35
        have HE : Hid (∀ h : j < l.length, ¬ (l[j] = 32 ∨ l[j] = 10) ∧ l[j] ≠ 35) := Lib.hid (fun h => by rw [hcl]; exact ⟨hbl, h35⟩)
        clear hcl hbl hlt2 h35
        go_wp2_with fail
        go_ret
        exact ⟨⟨j, rfl, hj, hkj, HR.out, HE.out⟩, rfl⟩
end Go.Proofs.YtffhnedladiaoaaGreatDoor
/- Package lex: Split: as the document says, for every text. -/
namespace Go.Proofs.YtffhnedladiaoaaGreatDoor
open Go.RowKit Go.Lib
set_option linter.unusedVariables false
set_option linter.unusedSimpArgs false
theorem oneF_text {s : List UInt8} {t : Tk} {n N : Nat} (h : oneF s = .ok (t, n)) (hN : s.length ≤ N) : t.text.length ≤ N := by
  unfold oneF at h
  split at h
  · cases h; exact Nat.le_trans (tw_len _) hN
  · split at h
    · split at h
      · split at h
        · cases h
        · cases h; exact Nat.le_trans (tw_len _) hN
      · split at h
        · cases h
        · cases h; exact Nat.le_trans (tw_len _) hN
    · split at h
      · cases h
      · rename_i c r _ _
        simp only [List.length_cons] at hN
        split at h
        · cases h; simp; omega
        · split at h
          · split at h
            · cases h; have := tw_len (p := inQ) r; show (r.takeWhile inQ).length ≤ N; omega
            · cases h
          · cases h
set_option maxHeartbeats 8000000 in
set_option maxRecDepth 100000 in
theorem dsplit_c {I : World → Prop} (D : DayC I) (s : ByteArray) (w : World) (hI : I w) (hs : s.size ≤ 65536) :
    Calls Tryz.prog 26 #[.string s] w fun e w' => SplR (splitF s.data.toList) e w w' := by
  obtain ⟨i0, hi, hz0, hz1, hz2⟩ := info_parts info_tk
  obtain ⟨l, hl⟩ : ∃ l, s.data.toList = l := ⟨_, rfl⟩
  have hlen : l.length = s.size := by rw [← hl]; simp
  have hget : ∀ (i : Nat) (h : i < s.size), l[i]? = some s[i] := fun i h => by subst hl; rw [List.getElem?_eq_getElem (by simpa using h)]; rfl
  obtain ⟨RR, hRR⟩ : ∃ r, splitF l = r := ⟨_, rfl⟩
  have hinv0 : preT [] (spl (l.length - 0 + 1) 0 (l.drop 0)) = RR := by
    rw [← hRR]; unfold splitF; rw [Nat.sub_zero, List.drop_zero]
    cases spl (l.length + 1) 0 l with
    | error e => rfl
    | ok us => rfl
  have HINV0 := Lib.hid hinv0
  have HLEN := Lib.hid hlen
  have HI := Lib.hid hI
  have HD := Lib.hid D
  have KN0 : Hid (∀ W', Calls Tryz.prog 52 #[.string s, .int .i64 0] W' fun e w' => (∃ k' : Nat, e = .returned (.int .i64 (k' : Int)) ∧ k' ≤ s.size ∧ 0 ≤ k' ∧ spl (l.length - 0 + 1) 0 (l.drop 0) = spl (l.length - k' + 1) k' (l.drop k') ∧ (∀ h : k' < l.length, ¬ (l[k'] = 32 ∨ l[k'] = 10) ∧ l[k'] ≠ 35)) ∧ w' = W') := Lib.hid (fun W' => next_c s l hl 0 (by omega) (by omega) W')
  have KN2 : Hid (∀ (k n : Nat), k + n ≤ s.size → ∀ W', Calls Tryz.prog 52 #[.string s, .int .i64 ((k : Int) + (n : Int))] W' fun e w' => (∃ k' : Nat, e = .returned (.int .i64 (k' : Int)) ∧ k' ≤ s.size ∧ k + n ≤ k' ∧ spl (l.length - (k + n) + 1) (k + n) (l.drop (k + n)) = spl (l.length - k' + 1) k' (l.drop k') ∧ (∀ h : k' < l.length, ¬ (l[k'] = 32 ∨ l[k'] = 10) ∧ l[k'] ≠ 35)) ∧ w' = W') := Lib.hid (fun k n h W' => by rw [← Int.natCast_add]; exact next_c s l hl (k + n) h (by omega) W')
  have SS1 := Lib.hid (fun (i : Nat) (h : i ≤ s.size) (W' : World) => show (Instr.slice 9 (.string s) (some (.int .i64 (i : Int))) none none).run Tryz.prog W' = .ok (.string ⟨(l.drop i).toArray⟩) W' by rw [← hl]; exact slice_l s i h W')
  have t0 : decide ((65536 : Int) < (s.size : Int)) = false := decide_eq_false (by omega)
  rw [hl, hRR]
  clear hl hlen hget hRR hinv0 hI D
  go_enter Tryz.func26, Tryz.ntmps26
  go_wp2_with (go_at_call 52; refine (KN0.out _).mono ?_; rintro e w10 ⟨⟨k0, rfl, hk0, _, hsp0, hat0⟩, h10⟩; obtain rfl : w = w10 := h10.symm)
  go_loopw [5, 6] (fun o i wr => ∃ (k m : Nat) (r : Option Addr) (cap : Nat) (ts : List Tk), o = .slice r m cap ∧ i = .int .i64 (k : Int) ∧ k ≤ s.size ∧ m ≤ k ∧ Hid (ts.length = m) ∧ Hid (wr.ownsRow w.heap.size 90 5 (.slice r m cap) m (ts.flatMap tkc)) ∧ Hid (preT ts (spl (l.length - k + 1) k (l.drop k)) = RR) ∧ Hid (∀ h : k < l.length, ¬ (l[k] = 32 ∨ l[k] = 10) ∧ l[k] ≠ 35) ∧ Hid (Below w.heap.size w wr)) (fun _ i _ => s.size - (RowKit.intOf i).toNat)
  case atStart => exact ⟨k0, 0, none, 0, [], rfl, rfl, hk0, Nat.zero_le _, Lib.hid rfl, Lib.hid (World.ownsRow_nil _ _ _ _), Lib.hid (by rw [← hsp0]; exact HINV0.out), Lib.hid hat0, Lib.hid (Below.refl _ _)⟩
  case round =>
    clear HINV0 hsp0 hat0 hk0
    obtain ⟨k, m, r, cap, ts, rfl, rfl, hk, hmk, HM, HO, HR, HAT, HB⟩ := hrel
    rename World => wr
    by_cases hlt : k < s.size
    case neg =>
      obtain rfl : k = s.size := by omega
      have hE : RR = .ok (ts ++ [⟨0, [], 0, 0, s.size⟩]) := by
        rw [← HR.out, ← HLEN.out, sp_end, preT_ok]
      have HE := Lib.hid hE
      have hsz : w.heap.size ≤ wr.heap.size := HB.out.size
      have HSZ := Lib.hid hsz
      clear hE hsz
      go_wp2_with (at_builtin; refine wpList_append_own _ rfl (.tmp 46) (.tmp 49) 66 rfl w.heap.size 90 i0 (.agg #[.int .i64 0, .string ⟨#[]⟩, .int .i64 0, .int .i32 0, .int .i64 0]) 5 48 Tryz.underlying66 hi hz0 hz1 hz2 rfl (by decide) _ m _ rfl (HO.out.alloc _) ⟨_, 0, none⟩ 1 1 [.int .i64 0, .string ⟨#[]⟩, .int .i64 0, .int .i32 0, .int .i64 (s.size : Int)] rfl rfl (cells_new _ [.int .i64 0, .string ⟨#[]⟩, .int .i64 0, .int .i32 0, .int .i64 (s.size : Int)] _) (fun v hv => by simp at hv; rcases hv with rfl | rfl | rfl | rfl | rfl <;> rfl) (by unfold maxLen; omega) (by omega) (by simp; have := HSZ.out; omega) ?_; intro v9 w9 hown9 hgrow9 _; have HB9 := Lib.hid ((HB.out.alloc (by have := HSZ.out; omega) _).grown hgrow9 (by simp; have := HSZ.out; omega) (fun j hj => (HO.out.lt j hj).1)); have HO9 := Lib.hid hown9; obtain ⟨r9, c9, rfl⟩ := owns_form hown9; clear hgrow9 hown9)
      refine bodyPost_ret (v := .tuple #[.slice r9 (m + 1) c9, .int .i64 0, .int .i64 0]) (by simp [results, Tryz.results26, go_sem]) rfl ⟨HB9.out, ?_⟩
      rw [HE.out]
      exact ⟨_, rfl, recs_of_ownsT tkc_len (by rw [List.flatMap_append]; exact HO9.out) (by simp [HM.out]) (by have := HM.out; simp; omega)⟩
    case pos =>
      have hlt2 : k < l.length := by rw [HLEN.out]; exact hlt
      obtain ⟨c, hcl⟩ : ∃ c, l[k] = c := ⟨_, rfl⟩
      have hat := HAT.out hlt2
      rw [hcl] at hat
      obtain ⟨hbl, h35⟩ := hat
      have J := SS1.out k (by omega)
      have hdl : (l.drop k).length = s.size - k := by rw [List.length_drop, HLEN.out]
      have K1 := first_c HD.out (l.drop k) (by intro h; rw [h] at hdl; simp at hdl; omega) (by omega) wr (HD.out.stay HI.out HB.out)
      have hsz : w.heap.size ≤ wr.heap.size := HB.out.size
      have HSZ := Lib.hid hsz
      cases h1 : oneF (l.drop k) with
      | error e =>
        have hst := sp_bad hlt2 hcl hbl h35 h1
        have HE : Hid (RR = .error (k, e)) := Lib.hid (by rw [← HR.out, hst, preT_err])
        unfold OneR at K1
        rw [h1] at K1
        unfold tokV at K1
        have KK1 := Lib.hid K1
        have hne : e ≠ 0 := oneF_ne h1
        have ne0 : (e != 0) = true := by rw [bne_iff_ne]; exact hne
        clear K1 hst h1 hdl hcl hbl h35 hsz hne hlt2
        go_wp2_with (go_at_call 53; refine KK1.out.mono ?_; rintro e2 w4 ⟨rfl, h4⟩; have HB4 := Lib.hid (HB.out.trans (h4.mono HB.out.size)); clear h4)
        refine bodyPost_ret (v := .tuple #[.slice none 0 0, .int .i64 (k : Int), .int .i64 e]) (by simp [results, Tryz.results26, go_sem]) rfl ⟨HB4.out.alloc (by have := HB4.out.size; omega) _, ?_⟩
        rw [HE.out]
      | ok p =>
        obtain ⟨t, n⟩ := p
        obtain ⟨hn0, hkn, hst⟩ := sp_tok ts hlt2 hcl hbl h35 h1
        have HR2 : Hid (preT (ts ++ [{ t with at_ := k }]) (spl (l.length - (k + n) + 1) (k + n) (l.drop (k + n))) = RR) := Lib.hid (by rw [← hst]; exact HR.out)
        have hkn2 : k + n ≤ s.size := by rw [← HLEN.out]; exact hkn
        have hat := oneF_zero h1
        have htx : (⟨t.text.toArray⟩ : ByteArray).size ≤ 281474976710656 := by rw [mk_size]; exact oneF_text h1 (by omega)
        have KC := Lib.hid (fun (W' : World) => clone_s ⟨t.text.toArray⟩ W' htx)
        unfold OneR at K1
        rw [h1] at K1
        unfold tokV at K1
        have KK1 := Lib.hid K1
        clear K1 hst h1 hdl hcl hbl h35 hsz hkn hlt2 htx
        go_upto_region 9 with (go_at_call 53; refine KK1.out.mono ?_; rintro e2 w4 ⟨rfl, h4⟩; have HO4 := Lib.hid (owns_stay HO.out h4); have HB4 := Lib.hid (HB.out.trans (h4.mono HB.out.size)); clear h4)
        have hb5 := (Below.refl w4.heap.size w4).alloc (Nat.le_refl _) (.cells #[.int .i64 (t.kind : Int), .string ⟨t.text.toArray⟩, .int .i64 t.num, .int .i32 t.day, .int .i64 0] 90)
        have hx5 : HBox (w4.alloc (.cells #[.int .i64 (t.kind : Int), .string ⟨t.text.toArray⟩, .int .i64 t.num, .int .i32 t.day, .int .i64 0] 90)) w4.heap.size [.int .i64 (t.kind : Int), .string ⟨t.text.toArray⟩, .int .i64 t.num, .int .i32 t.day, .int .i64 0] 90 := HBox.new w4 [.int .i64 (t.kind : Int), .string ⟨t.text.toArray⟩, .int .i64 t.num, .int .i32 t.day, .int .i64 0] 90
        change Hid _ at HO4
        obtain ⟨Y, hY⟩ : ∃ Y, w4.heap.size = Y := ⟨_, rfl⟩
        have hs5 : Y ≤ (w4.alloc (.cells #[.int .i64 (t.kind : Int), .string ⟨t.text.toArray⟩, .int .i64 t.num, .int .i32 t.day, .int .i64 0] 90)).heap.size := by rw [← hY]; simp
        rw [hY] at hb5 hx5 ⊢
        generalize w4.alloc (.cells #[.int .i64 (t.kind : Int), .string ⟨t.text.toArray⟩, .int .i64 t.num, .int .i32 t.day, .int .i64 0] 90) = W5 at hb5 hx5 hs5 ⊢
        have hx6 := hx5.set 4 (.int .i64 (k : Int))
        simp only [List.set_cons_zero, List.set_cons_succ] at hx6
        have hb6 := hb5.grown (grownBy_set W5 ⟨Y, 4, none⟩ (.int .i64 (k : Int))) hs5 (fun j hj => by cases hj; exact Nat.le_refl _)
        have HO6 := Lib.hid (owns_stay HO4.out (by rw [hY]; exact hb6))
        have HB6 := Lib.hid (HB4.out.trans (hb6.mono (by rw [← hY]; exact HB4.out.size)))
        have HY := Lib.hid (show w.heap.size ≤ Y by rw [← hY]; exact HB4.out.size)
        have HY2 := Lib.hid (show ∀ W', Below Y w4 W' → W'.ownsRow w.heap.size 90 5 (.slice r m cap) m (ts.flatMap tkc) from fun W' h => owns_stay HO4.out (by rw [hY]; exact h))
        have z4 := hx5.cell (j := 4) rfl
        have zf := hx5.frozen 4
        have zs := hx5.size
        go_upto_region 10 with fail
        generalize W5.setCell ⟨Y, 4, none⟩ (.int .i64 (k : Int)) = W6 at hx6 HO6 HB6 hb6 ⊢
        have HX6 := Lib.hid hx6
        have HBY := Lib.hid hb6
        clear z4 zf zs hx5 hx6 hb5 hs5 hb6
        have z1 := HX6.out.cell (j := 1) rfl
        go_upto_region 11 with (go_at_call 54; refine (KC.out _).mono ?_; rintro e2 w7 ⟨rfl, h7⟩; have hx7 := HX6.out.stay h7; have HX7 := Lib.hid hx7; have y1 := hx7.cell (j := 1) rfl; have yf := hx7.frozen 1; have ys := hx7.size; have HBY7 := Lib.hid (HBY.out.trans (h7.mono (Nat.le_of_lt HX6.out.size))); clear h7 hx7)
        have hx8 := HX7.out.set 1 (.string ⟨t.text.toArray⟩)
        simp only [List.set_cons_zero, List.set_cons_succ] at hx8
        have hb8 := HBY7.out.grown (grownBy_set w7 ⟨Y, 1, none⟩ (.string ⟨t.text.toArray⟩)) (Nat.le_of_lt HX7.out.size) (fun j hj => by cases hj; exact Nat.le_refl _)
        have HO8 := Lib.hid (HY2.out _ hb8)
        have HB8 := Lib.hid (HB4.out.trans (hb8.mono HY.out))
        clear z1 y1 yf ys
        generalize w7.setCell ⟨Y, 1, none⟩ (.string ⟨t.text.toArray⟩) = W8 at hx8 HO8 HB8 hb8 ⊢
        have HX8 := Lib.hid hx8
        clear hx8 hb8 hat hY
        have z0 := HX8.out.cell (j := 0) rfl
        have z1 := HX8.out.cell (j := 1) rfl
        have z2 := HX8.out.cell (j := 2) rfl
        have z3 := HX8.out.cell (j := 3) rfl
        have z4 := HX8.out.cell (j := 4) rfl
        have hsz8 : w.heap.size ≤ W8.heap.size := HB8.out.size
        have HSZ8 := Lib.hid hsz8
        clear hsz8
        go_wp2_with (first
          | (go_at_call 52; refine (KN2.out k n hkn2 _).mono ?_; rintro e w10 ⟨⟨k2, rfl, hk2, hkk2, hsp2, hat2⟩, rfl⟩)
          | (at_builtin; refine wpList_append_own _ rfl (.tmp 37) (.tmp 39) 66 rfl w.heap.size 90 i0 (.agg #[.int .i64 0, .string ⟨#[]⟩, .int .i64 0, .int .i32 0, .int .i64 0]) 5 48 Tryz.underlying66 hi hz0 hz1 hz2 rfl (by decide) _ m _ rfl (HO8.out.alloc _) ⟨_, 0, none⟩ 1 1 [.int .i64 (t.kind : Int), .string ⟨t.text.toArray⟩, .int .i64 t.num, .int .i32 t.day, .int .i64 (k : Int)] rfl rfl (cells_new _ [.int .i64 (t.kind : Int), .string ⟨t.text.toArray⟩, .int .i64 t.num, .int .i32 t.day, .int .i64 (k : Int)] _) (fun v hv => by simp at hv; rcases hv with rfl | rfl | rfl | rfl | rfl <;> rfl) (by unfold maxLen; omega) (by omega) (by simp; have := HSZ8.out; omega) ?_; intro v9 w9 hown9 hgrow9 _; have HB9 := Lib.hid ((HB8.out.alloc (by have := HSZ8.out; omega) _).grown hgrow9 (by simp; have := HSZ8.out; omega) (fun j hj => (HO8.out.lt j hj).1)); have HO9 := Lib.hid hown9; obtain ⟨r9, c9, rfl⟩ := owns_form hown9; clear hgrow9 hown9))
        go_roundw
        case rel => exact ⟨k2, m + 1, r9, c9, ts ++ [{ t with at_ := k }], rfl, by go_num, hk2, by omega, Lib.hid (by simp [HM.out]), Lib.hid (by rw [List.flatMap_append]; exact HO9.out), Lib.hid (by rw [← hsp2]; exact HR2.out), Lib.hid hat2, HB9⟩
        case measure => simp [RowKit.intOf]; omega
set_option maxHeartbeats 1000000 in
theorem dlong_c (s : ByteArray) (w : World) (hs : 65536 < s.size) (hs2 : s.size ≤ 9223372036854775807) :
    Calls Tryz.prog 26 #[.string s] w fun e w' => e = .returned (.tuple #[.slice none 0 0, .int .i64 0, .int .i64 2]) ∧ w' = w := by
  have t0 : decide ((65536 : Int) < (s.size : Int)) = true := decide_eq_true (by omega)
  go_enter Tryz.func26, Tryz.ntmps26
  go_wp2
  exact bodyPost_ret (v := .tuple #[.slice none 0 0, .int .i64 0, .int .i64 2]) (by simp [results, Tryz.results26, go_sem]) rfl ⟨rfl, rfl⟩
theorem lexC : LexC InI where
  split := fun s w hI hs => by
    by_cases h : 65536 < s.size
    · refine (dlong_c s w h (by omega)).mono ?_
      rintro e w' ⟨rfl, rfl⟩
      have hl : 65536 < s.data.toList.length := by simpa using h
      unfold splT
      rw [if_pos hl]
      exact ⟨none, 0, rfl, .inl ⟨_, _, rfl, rfl⟩, Below.refl _ _⟩
    · refine (dsplit_c dayC s w hI (by omega)).mono ?_
      rintro e w' ⟨hb, h2⟩
      have hl : ¬ 65536 < s.data.toList.length := by simp; omega
      unfold splT
      rw [if_neg hl]
      cases hr : splitF s.data.toList with
      | error p =>
        rw [hr] at h2
        exact ⟨none, 0, h2, .inl ⟨_, _, rfl, rfl⟩, hb⟩
      | ok ts =>
        rw [hr] at h2
        obtain ⟨v, rfl, h3⟩ := h2
        obtain ⟨r, c, rfl, _⟩ := h3.form
        exact ⟨r, c, rfl, h3, hb⟩
end Go.Proofs.YtffhnedladiaoaaGreatDoor

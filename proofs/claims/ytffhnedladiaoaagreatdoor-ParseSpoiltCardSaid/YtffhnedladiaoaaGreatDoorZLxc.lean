/- Law 12's among: how many bytes at a text's beginning are among some; its one: a text's first token. -/
import Derived.Test.YtffhnedladiaoaaGreatDoorZLxa
import Derived.Test.YtffhnedladiaoaaGreatDoorZKall
import Derived.Test.YtffhnedladiaoaaGreatDoorZShelf
import Derived.Lib.Bytealg
namespace Go.Proofs.YtffhnedladiaoaaGreatDoor
open Go.RowKit Go.Lib
set_option linter.unusedVariables false
set_option linter.unusedSimpArgs false
theorem idx_neg (c : UInt8) : ∀ l : List UInt8, indexByte l c < 0 ↔ c ∉ l
  | [] => by unfold indexByte; simp
  | b :: l => by
    have h := idx_neg c l
    have h1 := indexByte_ge l c
    unfold indexByte
    by_cases e : b = c
    · subst e; simp
    · have e2 : (b == c) = false := by simp [e]
      rw [e2]
      by_cases h2 : c ∈ l
      · have h3 : ¬ indexByte l c < 0 := fun h4 => (h.1 h4) h2
        have h4 : (indexByte l c == -1) = false := by rw [beq_eq_false_iff_ne]; omega
        simp only [Bool.false_eq_true, if_false, h4, List.mem_cons, h2, or_true, not_true, iff_false]
        omega
      · have h3 := h.2 h2
        have h4 : (indexByte l c == -1) = true := by rw [beq_iff_eq]; omega
        simp only [Bool.false_eq_true, if_false, h4, if_true, List.mem_cons, h2, or_false]
        constructor
        · intro _ h5; exact e h5.symm
        · intro _; omega
theorem tw_at {p : UInt8 → Bool} : ∀ (s : List UInt8) (k : Nat) (x : UInt8), k < (s.takeWhile p).length → s[k]? = some x → p x = true
  | [], k, x, h, _ => by simp at h
  | c :: r, k, x, h, hx => by
    rw [List.takeWhile_cons] at h
    by_cases hc : p c = true
    · rw [if_pos hc] at h
      cases k with
      | zero => simp at hx; subst hx; exact hc
      | succ k => exact tw_at r k x (by simpa using h) (by simpa using hx)
    · rw [if_neg hc] at h; simp at h
theorem tw_end {p : UInt8 → Bool} : ∀ (s : List UInt8) (x : UInt8), s[(s.takeWhile p).length]? = some x → p x = false
  | [], x, hx => by simp at hx
  | c :: r, x, hx => by
    rw [List.takeWhile_cons] at hx
    by_cases hc : p c = true
    · rw [if_pos hc] at hx
      exact tw_end r x (by simpa using hx)
    · rw [if_neg hc] at hx
      simp at hx
      subst hx
      simpa using hc
set_option maxHeartbeats 1000000 in
set_option maxRecDepth 100000 in
theorem among_c (s set : ByteArray) (p : UInt8 → Bool) (hp : ∀ c, p c = true ↔ c ∈ set.data.toList) (w : World) (hs : s.size ≤ 1000000) :
    Calls Tryz.prog 99 #[.string s, .string set] w fun e w' => e = .returned (.int .i64 ((s.data.toList.takeWhile p).length : Nat)) ∧ w' = w := by
  obtain ⟨N, hN⟩ : ∃ n, (s.data.toList.takeWhile p).length = n := ⟨_, rfl⟩
  have hNs : N ≤ s.size := by rw [← hN]; have := tw_len (p := p) s.data.toList; simpa using this
  have H1 := Lib.hid (fun (k : Nat) (h : k < s.size) (hk : k < N) => show p s[k] = true from tw_at s.data.toList k s[k] (by rw [hN]; exact hk) (by rw [List.getElem?_eq_getElem (by simpa using h)]; rfl))
  have H2 := Lib.hid (fun (h : N < s.size) => show p s[N] = false from tw_end (p := p) s.data.toList s[N] (by rw [hN, List.getElem?_eq_getElem (by simpa using h)]; rfl))
  have HP := Lib.hid hp
  rw [hN]
  clear hN hp
  go_enter Tryz.func99, Tryz.ntmps99
  go_wp2
  go_loop [8] (fun i => ∃ k : Nat, k ≤ N ∧ i = .int .i64 k) (fun i => s.size - (RowKit.intOf i).toNat)
  case atStart => exact ⟨0, Nat.zero_le _, rfl⟩
  case round =>
    obtain ⟨k, hk, rfl⟩ := hrel
    by_cases hlt : k < s.size
    · have hc := (s[k]).toNat_lt
      have he : ((s[k].toNat : Int)).toNat.toUInt8 = s[k] := by simp
      have K := (fun W => Tryz.strings_IndexByte set (s[k].toNat : Int) W)
      rw [he] at K
      by_cases hkn : k < N
      · have h3 := (HP.out s[k]).1 (H1.out k hlt hkn)
        have h4 : ¬ indexByte set.data.toList s[k] < 0 := fun h => (idx_neg _ _).1 h h3
        generalize indexByte set.data.toList s[k] = q at *
        have KK := Lib.hid K
        clear K
        go_wp2_with (go_at_call 62; refine (KK.out _).mono ?_; rintro e w' ⟨rfl, rfl⟩)
        go_round
        case rel => exact ⟨k + 1, by omega, by go_num⟩
        case measure => simp [RowKit.intOf]; omega
      · obtain rfl : k = N := by omega
        have h3 : s[k] ∉ set.data.toList := fun h => by
          have := (HP.out s[k]).2 h
          rw [H2.out hlt] at this
          cases this
        have h4 : indexByte set.data.toList s[k] < 0 := (idx_neg _ _).2 h3
        generalize indexByte set.data.toList s[k] = q at *
        have KK := Lib.hid K
        clear K
        go_wp2_with (go_at_call 62; refine (KK.out _).mono ?_; rintro e w' ⟨rfl, rfl⟩)
        go_ret
        exact ⟨rfl, rfl⟩
    · obtain rfl : k = N := by omega
      have e : s.size = k := by omega
      go_wp2
      go_ret
      exact ⟨rfl, rfl⟩
end Go.Proofs.YtffhnedladiaoaaGreatDoor

/- Package lex: over what lies between tokens. -/
import Derived.Test.YtafmakhhdinknaaGreatDoorLxo
import Derived.Test.YtafmakhhdinknaaGreatDoorLxg
import Derived.Scope
import Derived.WalkMore
namespace Go.Proofs.YtafmakhhdinknaaGreatDoor
open Go.RowKit Go.Lib
set_option linter.unusedVariables false
set_option linter.unusedSimpArgs false
theorem clone_s (s : ByteArray) (w : World) (hs : s.size ≤ 281474976710656) : Calls Tryz.prog 15 #[.string s] w fun e w' => e = .returned (.string s) ∧ Below w.heap.size w w' := by
  have KK := Lib.hid (fun (W' : World) => Tryz.stringslite_Clone s W' hs)
  go_enter Tryz.func15, Tryz.ntmps15
  go_wp2_with (go_at_call 35; refine (KK.out _).mono ?_; rintro e w1 ⟨rfl, h1⟩; have HB := Lib.hid h1; clear h1)
  go_ret
  exact ⟨rfl, HB.out⟩
set_option maxHeartbeats 4000000 in
set_option maxRecDepth 100000 in
theorem next_c (s : ByteArray) (l : List UInt8) (hl : s.data.toList = l) (k : Nat) (hk : k ≤ s.size) (hs : s.size ≤ 100000) (w : World) :
    Calls Tryz.prog 13 #[.string s, .int .i64 (k : Int)] w fun e w' => (∃ k' : Nat, e = .returned (.int .i64 (k' : Int)) ∧ k' ≤ s.size ∧ k ≤ k' ∧ spl (l.length - k + 1) k (l.drop k) = spl (l.length - k' + 1) k' (l.drop k') ∧ (∀ h : k' < l.length, ¬ (l[k'] = 32 ∨ l[k'] = 10) ∧ l[k'] ≠ 35)) ∧ w' = w := by
  have hlen : l.length = s.size := by rw [← hl]; simp
  have HGET := Lib.hid (fun (i : Nat) (h : i < s.size) => show l[i]? = some s[i] by subst hl; rw [List.getElem?_eq_getElem (by simpa using h)]; rfl)
  have HLEN := Lib.hid hlen
  have SS1 := Lib.hid (fun (i : Nat) (h : i ≤ s.size) (W' : World) => show (Instr.slice 9 (.string s) (some (.int .i64 (i : Int))) none none).run Tryz.prog W' = .ok (.string ⟨(l.drop i).toArray⟩) W' by rw [← hl]; exact slice_l s i h W')
  clear hl hlen
  go_enter Tryz.func13, Tryz.ntmps13
  go_wp2_with fail
  go_step3
  go_wp2_with fail
  go_step3
  go_wp2_with fail
  go_loop [1] (fun i => ∃ j : Nat, i = .int .i64 (j : Int) ∧ j ≤ s.size ∧ k ≤ j ∧ Hid (spl (l.length - k + 1) k (l.drop k) = spl (l.length - j + 1) j (l.drop j))) (fun i => s.size - (RowKit.intOf i).toNat)
  case atStart => exact ⟨k, rfl, hk, Nat.le_refl _, Lib.hid rfl⟩
  case round =>
    obtain ⟨j, rfl, hj, hkj, HR⟩ := hrel
    by_cases hlt : j < s.size
    case neg =>
      obtain rfl : j = s.size := by omega
      have HE : Hid (∀ h : s.size < l.length, ¬ (l[s.size] = 32 ∨ l[s.size] = 10) ∧ l[s.size] ≠ 35) := Lib.hid (fun h => by have := HLEN.out; omega)
      go_wp2_with fail
      go_ret
      exact ⟨⟨s.size, rfl, Nat.le_refl _, hkj, HR.out, HE.out⟩, rfl⟩
    case pos =>
      have hlt2 : j < l.length := by rw [HLEN.out]; exact hlt
      obtain ⟨c, hc⟩ : ∃ c, s[j] = c := ⟨_, rfl⟩
      have hcl : l[j] = c := by
        have hg := HGET.out j hlt
        rw [List.getElem?_eq_getElem hlt2] at hg
        exact (Option.some.inj hg).trans hc
      have hc8 := c.toNat_lt
      by_cases hbl : c = 32 ∨ c = 10
      · have hst := sp_blank hlt2 hcl hbl
        have HR2 : Hid (spl (l.length - k + 1) k (l.drop k) = spl (l.length - (j + 1) + 1) (j + 1) (l.drop (j + 1))) := Lib.hid (HR.out.trans hst)
        have BL : ((c.toNat : Int) == 32) = true ∨ (((c.toNat : Int) == 32) = false ∧ ((c.toNat : Int) == 10) = true) := by
          rcases hbl with rfl | rfl
          · exact Or.inl (by decide)
          · exact Or.inr ⟨by decide, by decide⟩
        clear hst hbl hcl hlt2
        rcases BL with b1 | ⟨b1, b2⟩
        all_goals
          go_wp2_with fail
          go_round
          case rel => exact ⟨j + 1, by go_num, by omega, by omega, HR2⟩
          case measure => simp [RowKit.intOf]; omega
      have n32 : ((c.toNat : Int) == 32) = false := u8_ne (fun h => hbl (Or.inl h))
      have n10 : ((c.toNat : Int) == 10) = false := u8_ne (fun h => hbl (Or.inr h))
      by_cases h35 : c = 35
      · subst h35
        obtain ⟨hst, hp, hle⟩ := sp_note hlt2 hcl
        have J := SS1.out j (by omega)
        have K0 := fun (W' : World) => leading_inLine ⟨(l.drop j).toArray⟩ W' (by have := mk_size (l.drop j); rw [List.length_drop, HLEN.out] at this; omega)
        rw [show (⟨(l.drop j).toArray⟩ : ByteArray).data.toList = l.drop j from rfl] at K0
        have hts := mk_size ((l.drop j).takeWhile notNl)
        generalize (⟨((l.drop j).takeWhile notNl).toArray⟩ : ByteArray) = ts at *
        generalize (⟨(l.drop j).toArray⟩ : ByteArray) = sj at *
        rw [← hts] at hst hp hle
        have hle2 : j + ts.size ≤ s.size := by rw [← HLEN.out]; exact hle
        have HR2 : Hid (spl (l.length - k + 1) k (l.drop k) = spl (l.length - (j + ts.size) + 1) (j + ts.size) (l.drop (j + ts.size))) := Lib.hid (HR.out.trans hst)
        have KK := Lib.hid K0
        clear hst hts K0 hcl hle hbl hlt2
        go_wp2_with (go_at_call 27; refine (KK.out _).mono ?_; rintro e w1 ⟨rfl, rfl⟩)
        go_round
        case rel => exact ⟨j + ts.size, by go_num, hle2, by omega, HR2⟩
        case measure => simp [RowKit.intOf]; omega
      · have n35 : ((c.toNat : Int) == 35) = false := u8_ne h35
        have HE : Hid (∀ h : j < l.length, ¬ (l[j] = 32 ∨ l[j] = 10) ∧ l[j] ≠ 35) := Lib.hid (fun h => by rw [hcl]; exact ⟨hbl, h35⟩)
        clear hcl hbl hlt2 h35
        go_wp2_with fail
        go_ret
        exact ⟨⟨j, rfl, hj, hkj, HR.out, HE.out⟩, rfl⟩
end Go.Proofs.YtafmakhhdinknaaGreatDoor

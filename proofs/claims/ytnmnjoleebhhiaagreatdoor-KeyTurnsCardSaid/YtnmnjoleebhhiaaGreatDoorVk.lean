/- Contracts of law 5's small and less at keys, and of slices.Contains at keys and at pairs of keys. -/
import Derived.Test.YtnmnjoleebhhiaaGreatDoorVj
import Derived.Test.YtnmnjoleebhhiaaGreatDoorQa
namespace Go.Proofs.YtnmnjoleebhhiaaGreatDoor
open Go.RowKit Go.Sort
set_option linter.unusedVariables false
set_option linter.unusedSimpArgs false
theorem kt_isKey (x : Kt) : IsKey (x.a : Int) (x.e : Int) (x.p : Int) := by
  have h1 := x.ha; have h2 := x.he; have h3 := x.hp
  exact ⟨by omega, by omega, by omega⟩
theorem kt_pack (x : Kt) : packN (x.a : Int) (x.e : Int) (x.p : Int) = (x.num : Int) := by unfold packN Kt.num; omega
theorem kt_of {a e p : Int} (h : IsKey a e p) : ∃ x : Kt, keyV a e p = kv x ∧ packN a e p = (x.num : Int) ∧ (x.a : Int) = a ∧ (x.e : Int) = e ∧ (x.p : Int) = p := by
  obtain ⟨⟨h1, h2⟩, ⟨h3, h4⟩, ⟨h5, h6⟩⟩ := h
  obtain ⟨a', rfl⟩ := Int.eq_ofNat_of_zero_le h1
  obtain ⟨e', rfl⟩ := Int.eq_ofNat_of_zero_le h3
  obtain ⟨p', rfl⟩ := Int.eq_ofNat_of_zero_le h5
  exact ⟨⟨a', e', p', by omega, by omega, by omega⟩, rfl, by unfold packN Kt.num; simp only; omega, rfl, rfl, rfl⟩
theorem small_k (x : Kt) (w : World) : Calls Tryz.prog 6 #[kv x] w fun e w' => e = .returned (kv x.small) ∧ Below w.heap.size w w' := by
  have hs : kv x.small = .agg #[.int .u32 ((x.a % 4 : Nat) : Int), .int .u16 ((x.e % 3 : Nat) : Int), .int .u16 ((x.p % 3 : Nat) : Int)] := rfl
  have h1 := x.ha; have h2 := x.he; have h3 := x.hp
  rw [hs]
  unfold kv
  clear hs
  generalize x.a = a at *
  generalize x.e = b at *
  generalize x.p = c at *
  have e1 : ((a % 4 : Nat) : Int) = (a : Int) % 4 := by omega
  have e2 : ((b % 3 : Nat) : Int) = (b : Int) % 3 := by omega
  have e3 : ((c % 3 : Nat) : Int) = (c : Int) % 3 := by omega
  rw [e1, e2, e3]
  clear e1 e2 e3
  obtain ⟨a', ha⟩ : ∃ a' : Int, (a : Int) = a' := ⟨_, rfl⟩
  obtain ⟨b', hb⟩ : ∃ b' : Int, (b : Int) = b' := ⟨_, rfl⟩
  obtain ⟨c', hc⟩ : ∃ c' : Int, (c : Int) = c' := ⟨_, rfl⟩
  have g1 : 0 ≤ a' ∧ a' < 4294967296 := by omega
  have g2 : 0 ≤ b' ∧ b' < 65536 := by omega
  have g3 : 0 ≤ c' ∧ c' < 65536 := by omega
  rw [ha, hb, hc]
  clear ha hb hc h1 h2 h3
  obtain ⟨p1, p2⟩ := g1
  obtain ⟨p3, p4⟩ := g2
  obtain ⟨p5, p6⟩ := g3
  go_enter Tryz.func6, Tryz.ntmps6
  go_wp2
  exact bodyPost_ret (v := .agg #[.int .u32 (a' % 4), .int .u16 (b' % 3), .int .u16 (c' % 3)]) (by simp [results, Tryz.results6, go_sem]) rfl ⟨rfl, ((Below.refl _ _).alloc (Nat.le_refl _) _).alloc (by simp) _⟩
end Go.Proofs.YtnmnjoleebhhiaaGreatDoor

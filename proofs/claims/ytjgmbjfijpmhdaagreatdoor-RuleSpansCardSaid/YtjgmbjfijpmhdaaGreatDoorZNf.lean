/- Contract of law 7's Make. -/
import Derived.Test.YtjgmbjfijpmhdaaGreatDoorZNe
import Derived.OwnWalk
namespace Go.Proofs.YtjgmbjfijpmhdaaGreatDoor
open Go.RowKit
set_option linter.unusedVariables false
set_option linter.unusedSimpArgs false
set_option maxHeartbeats 2000000 in
set_option maxRecDepth 100000 in
theorem makeU_c (v : Value) (l : List Nat) (w : World) (hR : Recs uc 1 w v l) :
    Calls Tryz.prog 30 #[v] w fun e w' => ∃ v', e = .returned v' ∧ w'.ownsRow w.heap.size 77 1 v' (mkU l).length ((mkU l).flatMap uc) ∧ Below w.heap.size w w' := by
  obtain ⟨i0, hi, hz0, hz1, hz2⟩ := info_parts info16
  obtain ⟨r0, cap0, rfl, hm⟩ := hR.form
  have HR := Lib.hid hR
  obtain ⟨L, hL⟩ : ∃ L, l.length = L := ⟨_, rfl⟩
  have HL := Lib.hid hL
  rw [hL] at HR hm ⊢
  clear hR hL
  go_enter Tryz.func30, Tryz.ntmps30
  go_wp2
  go_loopw [3, 8] (fun s3 i wr => ∃ (k m : Nat) (r : Option Addr) (cap : Nat) (o : List Nat), s3 = .slice r m cap ∧ i = .int .i64 k ∧ k ≤ L ∧ m ≤ 9 ∧ wr.ownsRow w.heap.size 77 1 (.slice r m cap) m (o.flatMap uc) ∧ Hid (o.length = m ∧ o = stU l k) ∧ Below w.heap.size w wr) (fun _ i _ => L - (intOf i).toNat)
  case atStart => exact ⟨0, 0, none, 0, [], rfl, rfl, Nat.zero_le _, Nat.zero_le _, World.ownsRow_nil _ _ _ _, Lib.hid ⟨rfl, rfl⟩, Below.refl _ _⟩
  case round =>
    obtain ⟨k, m, r, cap, o, rfl, rfl, hk, hm9, hown, HC, hb⟩ := hrel
    rename World => wr
    have hbs := hb.size
    by_cases hlt : k < L
    · obtain ⟨x, hx⟩ : ∃ x, l[k]? = some x := ⟨l[k]'(by have := HL.out; omega), List.getElem?_eq_getElem (by have := HL.out; omega)⟩
      obtain ⟨g, off, rfl, hg, hc⟩ := (HR.out.stay hb).at hx
      have c0 := hc 0 _ rfl
      simp only [Nat.mul_one, Nat.add_zero] at c0
      obtain ⟨y, hy⟩ : ∃ y, 1 + x % 9 = y := ⟨_, rfl⟩
      have hx9 : x % 9 < 9 := Nat.mod_lt _ (by omega)
      have e1 : 1 + (x : Int).tmod 9 = (y : Int) := by rw [Int.tmod_eq_emod_of_nonneg (by omega)]; omega
      have e2 : IntKind.u16.wrap (y : Int) = (y : Int) := by rw [IntKind.wrap_u16]; omega
      have e3 : 1 + (x : Int) % 9 = (y : Int) := by omega
      have hst := stU_step hx
      have KC := contains_u _ o y wr (recs_of_owns uc_len hown HC.out.1.symm (by omega))
      have HST := Lib.hid (show stU l (k + 1) = if y ∈ o then o else o ++ [y] by rw [hst, ← HC.out.2, ← hy]; rfl)
      have HM := Lib.hid (show (stU l (k + 1)).length ≤ 9 from stU_few l (k + 1))
      have HB := Lib.hid hb
      have HO := Lib.hid hown
      have HOL := Lib.hid hown.lt
      by_cases hin : y ∈ o
      · rw [decide_eq_true hin] at KC
        have HK := Lib.hid KC
        have HI := Lib.hid hin
        clear hb hown hx hc hst KC hy hin
        go_wp2_with (go_at_call 52; refine HK.out.mono ?_; rintro e w1 ⟨rfl, rfl⟩)
        go_roundw
        case rel => exact ⟨k + 1, m, r, cap, o, rfl, by go_num, by omega, by omega, HO.out, Lib.hid ⟨HC.out.1, by rw [HST.out, if_pos HI.out]⟩, HB.out⟩
        case measure => simp [intOf]; omega
      · rw [decide_eq_false hin] at KC
        have HK := Lib.hid KC
        have HI := Lib.hid hin
        clear hb hown hx hc hst KC hy hin
        go_wp2_with (first
          | (go_at_call 52; refine HK.out.mono ?_; rintro e w1 ⟨rfl, rfl⟩)
          | (at_builtin; refine wpList_append_own _ rfl (.tmp 19) (.tmp 21) 35 rfl w.heap.size 77 i0 (.int .u16 0) 1 2 Tryz.underlying35 hi hz0 hz1 hz2 rfl (by decide) _ m _ rfl (HO.out.alloc _) ⟨_, 0, none⟩ 1 1 (uc y) rfl rfl (cells_new _ (uc y) _) (uc_one y) (by unfold maxLen; omega) (by omega) (by simp; omega) ?_; intro v2 w3 hown3 hgrow3 _; have HB3 := Lib.hid ((HB.out.alloc hbs _).grown hgrow3 (by simp; omega) (fun j hj => (HOL.out j hj).1)); have HO3 := Lib.hid hown3; obtain ⟨r2, cap2, rfl⟩ := owns_form hown3; clear hgrow3 hown3))
        go_roundw
        case rel =>
          have hl1 : (o ++ [y]).length = m + 1 := by simp; exact HC.out.1
          have hst := HST.out
          rw [if_neg HI.out] at hst
          have := HM.out
          rw [hst, hl1] at this
          exact ⟨k + 1, m + 1, r2, cap2, o ++ [y], rfl, by go_num, by omega, this, by rw [flat_snoc]; exact HO3.out, Lib.hid ⟨hl1, hst.symm⟩, HB3.out⟩
        case measure => simp [intOf]; omega
    · obtain rfl : k = L := by omega
      have KS := Lib.hid (sort16 o _ m w.heap.size wr hown HC.out.1 (by omega))
      have HB := Lib.hid hb
      have HOL := Lib.hid hown.lt
      clear hb hown
      go_wp2_with (go_at_call 53; refine KS.out.mono ?_; rintro e w1 ⟨rfl, hs⟩; have HS := Lib.hid hs; clear hs)
      go_ret
      obtain ⟨ys, hp, hs, ho, hg⟩ := HS.out
      have e := sort_mk (l := l) (ys := ys) (by rw [HL.out, ← HC.out.2]; exact hp) hs
      subst e
      have hl := hp.length_eq
      rw [HC.out.1] at hl
      refine ⟨_, rfl, by rw [hl]; exact ho, HB.out.grown hg hbs (fun j hj => (HOL.out j hj).1)⟩
end Go.Proofs.YtjgmbjfijpmhdaaGreatDoor

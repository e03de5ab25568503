/- Contract of slices.Sort at a few entities. -/
import Derived.Test.YtaldafgkhcihjaaGreatDoorNb
import Derived.Test.YtaldafgkhcihjaaGreatDoorNc
import Derived.Laws.OwnMore
import Derived.Maps.AppendAt
namespace Go.Proofs.YtaldafgkhcihjaaGreatDoor
open Go.RowKit
set_option linter.unusedVariables false
set_option linter.unusedSimpArgs false
theorem isnan16 (x : Int) (w : World) : Calls Tryz.prog 53 #[.int .u16 x] w fun e w' => e = .returned (.bool false) ∧ w' = w := by
  go_enter Tryz.func53, Tryz.ntmps53
  go_wp2
  go_ret
  exact ⟨by simp, rfl⟩
theorem less16 (m n : Nat) (w : World) : Calls Tryz.prog 36 #[.int .u16 (m : Int), .int .u16 (n : Int)] w fun e w' => e = .returned (.bool (decide (m < n))) ∧ w' = w := by
  have K := Lib.hid (fun x => isnan16 x w)
  go_enter Tryz.func36, Tryz.ntmps36
  go_wp2_with (go_at_call 53; refine (K.out _).mono ?_; rintro e w1 ⟨rfl, rfl⟩)
  go_ret
  exact ⟨by simp, rfl⟩
theorem row_at {w : World} {base g n cap : Nat} {e : TypeId} {l : List Nat} (h : w.ownsRow base e 1 (.slice (some ⟨g, 0, none⟩) n cap) n (l.flatMap uc)) {k x : Nat} (hx : l[k]? = some x) : w.cell? ⟨g, k, none⟩ = some (.int .u16 (x : Int)) := by
  have h1 := h.1
  rw [flat_len uc_len] at h1
  have hk := (List.getElem?_eq_some_iff.1 hx).1
  rw [h.cellAt k (by omega)]
  simpa using flat_get (enc := uc) (k := 1) uc_len (j := 0) hx rfl
theorem row_set {w : World} {base g n cap : Nat} {e : TypeId} {l : List Nat} (h : w.ownsRow base e 1 (.slice (some ⟨g, 0, none⟩) n cap) n (l.flatMap uc)) (k y : Nat) : (w.setCell ⟨g, k, none⟩ (.int .u16 (y : Int))).ownsRow base e 1 (.slice (some ⟨g, 0, none⟩) n cap) n ((l.set k y).flatMap uc) := by
  have h2 := (h.stored k (.int .u16 (y : Int))).1
  have e : ∀ (l : List Nat) (k : Nat), (l.flatMap uc).set k (.int .u16 (y : Int)) = (l.set k y).flatMap uc := by
    intro l
    induction l with
    | nil => intro k; rfl
    | cons a r ih =>
      intro k
      cases k with
      | zero => rfl
      | succ k => rw [List.flatMap_cons, List.set_cons_succ, List.flatMap_cons]; show _ :: _ = _ :: _; rw [← ih]; rfl
  rwa [e] at h2
theorem row_setg (w : World) (g k : Nat) (u : Value) : w.grownBy (w.setCell ⟨g, k, none⟩ u) (some g) :=
  ⟨rfl, rfl, rfl, by simp, fun j _ hj => Below.heap_setCell w ⟨g, k, none⟩ u j (fun e => hj (by simp [e]))⟩
set_option maxHeartbeats 4000000 in
set_option maxRecDepth 100000 in
theorem ins16 (xs : List Nat) (g n cap base : Nat) (w : World) (ho : w.ownsRow base 23 1 (.slice (some ⟨g, 0, none⟩) n cap) n (xs.flatMap uc)) (hn : xs.length = n) (h1 : 1 ≤ n) (h12 : n ≤ 12) :
    Calls Tryz.prog 30 #[.slice (some ⟨g, 0, none⟩) n cap, .int .i64 0, .int .i64 (n : Int)] w fun e w' => e = .returned (.tuple #[]) ∧ ∃ ys, ys.Perm xs ∧ Srt ys ∧ w'.ownsRow base 23 1 (.slice (some ⟨g, 0, none⟩) n cap) n (ys.flatMap uc) ∧ w.grownBy w' (some g) := by
  obtain ⟨x0, C0, rfl⟩ : ∃ x0 C0, xs = x0 :: C0 := by cases xs with
    | nil => simp at hn; omega
    | cons a r => exact ⟨a, r, rfl⟩
  obtain ⟨xs, hxs⟩ : ∃ l, x0 :: C0 = l := ⟨_, rfl⟩
  have HX := Lib.hid hxs
  have HO := Lib.hid (hxs ▸ ho)
  have HN := Lib.hid (hxs ▸ hn)
  have HL := Lib.hid (fun m n w => less16 m n w)
  rw [hxs]
  clear ho hn hxs
  go_enter Tryz.func30, Tryz.ntmps30
  go_wp2
  go_loopw [6] (fun i wr => ∃ (k : Nat) (D C : List Nat), i = .int .i64 k ∧ 1 ≤ k ∧ k ≤ n ∧ Hid (wr.ownsRow base 23 1 (.slice (some ⟨g, 0, none⟩) n cap) n ((D ++ C).flatMap uc)) ∧ Hid (w.grownBy wr (some g)) ∧ Hid (D.length = k ∧ Srt D ∧ (D ++ C).Perm xs)) (fun i _ => n - (intOf i).toNat)
  case atStart =>
    refine ⟨1, [x0], C0, rfl, Nat.le_refl _, h1, ?_, Lib.hid (World.grownBy.refl _ _), Lib.hid ⟨rfl, by simp [Srt], ?_⟩⟩
    · have := HO.out; rw [← HX.out] at this; exact Lib.hid this
    · rw [← HX.out]; exact List.Perm.refl _
  case round =>
    obtain ⟨k, D, C, rfl, hk1, hkn, HOr, HGr, HC⟩ := hrel
    rename World => wr
    by_cases hlt : k < n
    · obtain ⟨x, C', rfl⟩ : ∃ x C', C = x :: C' := by
        have h3 := HC.out.2.2.length_eq
        rw [HN.out, List.length_append, HC.out.1] at h3
        cases C with
        | nil => simp at h3; omega
        | cons a r => exact ⟨a, r, rfl⟩
      go_wp2
      go_loopw [7] (fun j wx => ∃ (p : Nat) (A B : List Nat), j = .int .i64 p ∧ p ≤ k ∧ Hid (wx.ownsRow base 23 1 (.slice (some ⟨g, 0, none⟩) n cap) n ((A ++ x :: (B ++ C')).flatMap uc)) ∧ Hid (w.grownBy wx (some g)) ∧ Hid (A.length = p ∧ A.length + B.length = k ∧ Car xs A x B C')) (fun j _ => (intOf j).toNat)
      case atStart => exact ⟨k, D, [], rfl, Nat.le_refl _, by simpa using HOr, HGr, Lib.hid ⟨HC.out.1, by simp [HC.out.1], Car.start HC.out.2.1 HC.out.2.2⟩⟩
      case round =>
        obtain ⟨p, A, B, rfl, hpk, HOx, HGx, HA⟩ := hrel
        rename World => wx
        have HOd := Lib.hid (fun q => show (wx.drewN q).ownsRow base 23 1 (.slice (some ⟨g, 0, none⟩) n cap) n ((A ++ x :: (B ++ C')).flatMap uc) from HOx.out)
        have HGd := Lib.hid (fun q => show w.grownBy (wx.drewN q) (some g) from ⟨HGx.out.os, HGx.out.tape, HGx.out.output, HGx.out.size, HGx.out.block⟩)
        by_cases hp : p = 0
        · subst hp
          go_wp2_with fail
          go_quiet (fail)
          go_wp2
          go_roundw
          case rel =>
            obtain ⟨hA0, hAB, hcar⟩ := HA.out
            obtain rfl := List.eq_nil_of_length_eq_zero hA0
            obtain ⟨q1, q2⟩ := hcar.done (fun b hb => by simp at hb)
            exact ⟨k + 1, x :: B, C', by go_num, by omega, by omega, Lib.hid (by simpa using HOd.out nq), Lib.hid (HGd.out nq), Lib.hid ⟨by simp at hAB; simp; omega, by simpa using q1, by simpa using q2⟩⟩
          case measure => simp [intOf]; omega
        · obtain ⟨q, hqp⟩ : ∃ q, q + 1 = p := ⟨p - 1, by omega⟩
          obtain ⟨A', b, rfl⟩ := snoc_of (A := A) (by have := HA.out.1; omega)
          have hq : A'.length = q := by have := HA.out.1; simp at this; omega
          have hat := at_left A' b x (B ++ C')
          rw [hq, hqp] at hat
          have c0 := row_at HOx.out hat.1
          have c1 := row_at HOx.out hat.2
          clear hat
          have f0 := HOx.out.frozenAt q
          have f1 := HOx.out.frozenAt p
          have e1 : (p : Int) - 1 = (q : Int) := by omega
          have x0 : (0 : Int) < (p : Int) := by omega
          have n0 : 0 < p := by omega
          have x1 : (p : Int) < (n : Int) := by omega
          have x2 : (0 : Int) ≤ (p : Int) := by omega
          have y0 : (0 : Int) ≤ (q : Int) := by omega
          have y1 : (q : Int) < (n : Int) := by omega
          by_cases hx : x < b
          · have hd : decide (x < b) = true := decide_eq_true hx
            have HS := Lib.hid (And.intro hq (And.intro hx hqp))
            clear hq hx hqp hp
            go_wp2_with fail
            go_quiet (first | (go_at_call 36; refine Calls.quiet_of_same (HL.out _ _ _)))
            go_wp2
            have HOe := Lib.hid (HOd.out nq)
            have HGe := Lib.hid (HGd.out nq)
            have c0 : (wx.drewN nq).cell? ⟨g, q, none⟩ = some (.int .u16 (b : Int)) := c0
            have c1 : (wx.drewN nq).cell? ⟨g, p, none⟩ = some (.int .u16 (x : Int)) := c1
            have f0 : (wx.drewN nq).frozen? ⟨g, q, none⟩ = false := f0
            have f1 : (wx.drewN nq).frozen? ⟨g, p, none⟩ = false := f1
            generalize wx.drewN nq = wy at *
            go_region
            all_goals
              go_wp2
              go_roundw
              case rel =>
                obtain ⟨hA0, hAB, hcar⟩ := HA.out
                obtain ⟨hq, hx, hqp⟩ := HS.out
                have r2 := row_set (row_set HOe.out p b) q x
                have es := swap_set A' b x (B ++ C')
                rw [hq, hqp] at es
                rw [es] at r2
                have g2 := (HGe.out.trans (row_setg wy g p (.int .u16 (b : Int)))).trans (row_setg (wy.setCell ⟨g, p, none⟩ (.int .u16 (b : Int))) g q (.int .u16 (x : Int)))
                exact ⟨q, A', b :: B, rfl, by omega, Lib.hid r2.drew, Lib.hid ⟨g2.os, g2.tape, g2.output, g2.size, g2.block⟩, Lib.hid ⟨hq, by simp at hAB ⊢; omega, hcar.step hx⟩⟩
              case measure => simp [intOf]; omega
          · have hd : decide (x < b) = false := decide_eq_false hx
            have HS := Lib.hid (And.intro hq (And.intro hx hqp))
            clear hq hx hqp hp
            go_wp2_with fail
            go_quiet (first | (go_at_call 36; refine Calls.quiet_of_same (HL.out _ _ _)))
            go_wp2
            go_roundw
            case rel =>
              obtain ⟨hA0, hAB, hcar⟩ := HA.out
              obtain ⟨q1, q2⟩ := hcar.done (fun c hc => by simp at hc; have := HS.out.2.1; omega)
              exact ⟨k + 1, A' ++ [b] ++ x :: B, C', by go_num, by omega, by omega, Lib.hid (by simpa using HOd.out nq), Lib.hid (HGd.out nq), Lib.hid ⟨by simp at hAB; simp; omega, q1, q2⟩⟩
            case measure => simp [intOf]; omega
    · obtain rfl : k = n := by omega
      go_wp2
      go_end0
      refine ⟨rfl, D, ?_, HC.out.2.1, ?_, HGr.out⟩
      all_goals
        have h3 := HC.out.2.2
        have h4 := h3.length_eq
        rw [List.length_append, HC.out.1, HN.out] at h4
        obtain rfl := List.eq_nil_of_length_eq_zero (show C.length = 0 by omega)
      · simpa using h3
      · simpa using HOr.out
end Go.Proofs.YtaldafgkhcihjaaGreatDoor

/- Contracts of law 6's Way, deep; of package chart's Kids. -/
import Derived.Test.YtjgmbjfijpmhdaaGreatDoorZCall
namespace Go.Proofs.YtjgmbjfijpmhdaaGreatDoor
open Go.RowKit
set_option linter.unusedVariables false
set_option linter.unusedSimpArgs false
set_option maxHeartbeats 2000000 in
set_option maxRecDepth 100000 in
theorem wayl_c (v : Value) (c : List Ac) (n : Nat) (w : World) (hR : Recs cc 4 w v c) :
    Calls Tryz.prog 81 #[v, .int .u32 (n : Int)] w fun e w' => ∃ v', e = .returned v' ∧ Recs nc 1 w' v' (wayF 13 c n) ∧ Below w.heap.size w w' := by
  obtain ⟨i0, hi, hz0, hz1, hz2⟩ := info_parts info32n
  have HR := Lib.hid hR
  obtain ⟨W13, hW13⟩ : ∃ l, wayF 13 c n = l := ⟨_, rfl⟩
  have HW := Lib.hid hW13
  rw [hW13]
  clear hR hW13
  go_enter Tryz.func81, Tryz.ntmps81
  go_wp2
  go_loopg [5, 1] 13 (fun gk s5 s1 wr => ∃ (k m : Nat) (r : Option Addr) (cap : Nat) (ks : List Nat), s5 = .slice r k cap ∧ s1 = .int .u32 (m : Int) ∧ k ≤ 13 ∧ 13 - k ≤ gk ∧ wr.ownsRow w.heap.size 46 1 (.slice r k cap) k (ks.flatMap nc) ∧ Hid (ks.length = k ∧ ks ++ wayF (13 - k) c m = W13) ∧ Below w.heap.size w wr)
  case atStart => exact ⟨0, n, none, 0, [], rfl, rfl, by omega, by omega, World.ownsRow_nil _ _ _ _, Lib.hid ⟨rfl, HW.out⟩, Below.refl _ _⟩
  case round =>
    obtain ⟨k, m, r, cap, ks, rfl, rfl, hk, hgk, hown, HK, hb⟩ := hrel
    by_cases hlt : k < 13
    · have hbs := hb.size
      have hQ := getl_c v c m wr (HR.out.stay hb)
      cases hg : getA c m with
      | none =>
        rw [hg] at hQ
        have HQ : Hid (Calls Tryz.prog 68 #[v, .int .u32 (m : Int)] wr fun e w' => e = .returned (.tuple #[.agg #[.int .u32 0, .string ⟨#[]⟩, .int .u8 0, .int .u32 0], .bool false]) ∧ Below wr.heap.size wr w') := Lib.hid hQ
        have HE : Hid (ks = W13) := Lib.hid (by have := HK.out.2; rwa [wayF_none hg, List.append_nil] at this)
        have HB := Lib.hid hb
        have HO := Lib.hid hown
        clear hg hb hown hQ
        go_wp2_with (go_at_call 68; refine HQ.out.mono ?_; rintro e w1 ⟨rfl, hb1⟩; have HO1 := Lib.hid (owns_stay HO.out hb1); have HB1 := Lib.hid (HB.out.trans (hb1.mono hbs)); have hs1 := hb1.size; clear hb1)
        go_ret
        refine ⟨_, rfl, ?_, HB1.out.alloc (by omega) _⟩
        rw [← HE.out]
        exact recs_of_owns nc_len (HO1.out.alloc _) HK.out.1.symm (by omega)
      | some a =>
        rw [hg] at hQ
        have HQ : Hid (Calls Tryz.prog 68 #[v, .int .u32 (m : Int)] wr fun e w' => e = .returned (.tuple #[.agg #[.int .u32 (a.code : Int), .string a.name, .int .u8 (a.kind : Int), .int .u32 (a.par : Int)], .bool true]) ∧ Below wr.heap.size wr w') := Lib.hid hQ
        have HS : Hid ((ks ++ [m]) ++ wayF (12 - k) c a.par = W13) := Lib.hid (way_step (by have := HK.out.2; rwa [show 13 - k = 12 - k + 1 by omega] at this) hg)
        have HB := Lib.hid hb
        have HO := Lib.hid hown
        have HOL := Lib.hid hown.lt
        clear hg hb hown hQ
        go_wp2_with (first
          | (go_at_call 68; refine HQ.out.mono ?_; rintro e w1 ⟨rfl, hb1⟩; have HO1 := Lib.hid (owns_stay HO.out hb1); have HB1 := Lib.hid (HB.out.trans (hb1.mono hbs)); have hs1 := hb1.size; clear hb1)
          | (at_builtin; refine wpList_append_own _ rfl (.tmp 19) (.tmp 21) 156 rfl w.heap.size 46 i0 (.int .u32 0) 1 4 Tryz.underlying156 hi hz0 hz1 hz2 rfl (by decide) _ k _ rfl ((HO1.out.alloc _).alloc _) ⟨w1.heap.size + 1, 0, none⟩ 1 1 (nc m) rfl rfl (cells_new2 _ _ (nc m) _) (nc_one m) (by unfold maxLen; omega) (by omega) (by simp; omega) ?_; intro v2 w3 hown3 hgrow3 _; have q3 := hgrow3.cell (box_under w1 _ _ _ 3 _ rfl) (fun e => by have := (HOL.out w1.heap.size e.symm).2; omega); have HB3 := Lib.hid (((HB1.out.alloc (by omega) _).alloc (by simp; omega) _).grown hgrow3 (by simp; omega) (fun j hj => (HOL.out j hj).1)); have HO3 := Lib.hid hown3; obtain ⟨r2, cap2, rfl⟩ := owns_form hown3; clear hgrow3 hown3))
        go_roundg (12 - k)
        case measure => omega
        case rel =>
          refine ⟨k + 1, a.par, r2, cap2, ks ++ [m], rfl, rfl, by omega, by omega, by rw [flat_snoc]; exact HO3.out, Lib.hid ⟨by simp; exact HK.out.1, ?_⟩, HB3.out⟩
          rw [show 13 - (k + 1) = 12 - k by omega]; exact HS.out
    · obtain rfl : k = 13 := by omega
      have HE : Hid (ks = W13) := Lib.hid (by have := HK.out.2; simpa [wayF] using this)
      have HB := Lib.hid hb
      have HO := Lib.hid hown
      clear hb hown
      go_wp2
      go_ret
      refine ⟨_, rfl, ?_, HB.out⟩
      rw [← HE.out]
      exact recs_of_owns nc_len HO.out HK.out.1.symm (by omega)
theorem deep_c (v : Value) (c : List Ac) (n : Nat) (w : World) (hR : Recs cc 4 w v c) :
    Calls Tryz.prog 51 #[v, .int .u32 (n : Int)] w fun e w' => e = .returned (.int .i64 ((wayF 13 c n).length : Nat)) ∧ Below w.heap.size w w' := by
  have K1 : Hid (Calls Tryz.prog 81 #[v, .int .u32 (n : Int)] w fun e w' => ∃ r cap, e = .returned (.slice r (wayF 13 c n).length cap) ∧ Below w.heap.size w w') :=
    Lib.hid ((wayl_c v c n w hR).mono fun _ _ ⟨v', h1, h2, h3⟩ => by obtain ⟨r, cap, hv, _⟩ := h2.form; exact ⟨r, cap, by rw [h1, hv], h3⟩)
  clear hR
  generalize (wayF 13 c n).length = l at *
  go_enter Tryz.func51, Tryz.ntmps51
  go_wp2_with (go_at_call 81; refine K1.out.mono ?_; rintro e w1 ⟨r1, cap1, rfl, h2⟩; have HB1 := Lib.hid h2; clear h2)
  go_ret
  exact ⟨rfl, HB1.out⟩
end Go.Proofs.YtjgmbjfijpmhdaaGreatDoor

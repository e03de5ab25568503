/- Contract of package chart's Way, Within; of law 6's Way, deep. -/
import Derived.Test.YtmbfnbbgphpcgaaGreatDoorCh
import Derived.Deep.LoopGhost
import Derived.OwnWalk
namespace Go.Proofs.YtmbfnbbgphpcgaaGreatDoor
open Go.RowKit
set_option linter.unusedVariables false
set_option linter.unusedSimpArgs false
theorem cells_new2 (w : World) (o : Obj) (cs : List Value) (T : TypeId) : ∀ j u, cs[j]? = some u → ((w.alloc o).alloc (.cells cs.toArray T)).cell? ((⟨w.heap.size + 1, 0, none⟩ : Addr).add j) = some u := fun j u hu => by
  have := cells_new (w.alloc o) cs T j u hu
  simpa using this
theorem box_under (w : World) (cs : Array Value) (T : TypeId) (o : Obj) (j : Nat) (v : Value) (hv : cs[j]? = some v) : ((w.alloc (.cells cs T)).alloc o).cell? ⟨w.heap.size, j, none⟩ = some v := by
  rw [World.cell?_alloc_lt _ _ _ (by simp)]
  exact box_cell w cs T j v hv
theorem info32n : (Tryz.prog.info? 65).map (fun i => (i.zero, i.size, i.bytes)) = some (some (.int .u32 0), 1, 4) := by kernel_rfl
/-- A way in the making: what is there, what is to come. -/
theorem way_step {k m : Nat} {c : List Ac} {a : Ac} {ks all : List Nat} (h : ks ++ wayF (k + 1) c m = all) (e : getA c m = some a) : (ks ++ [m]) ++ wayF k c a.par = all := by
  rw [wayF_some e] at h
  rw [← h]; simp
set_option maxHeartbeats 2000000 in
set_option maxRecDepth 100000 in
theorem way_c (v : Value) (c : List Ac) (n : Nat) (w : World) (hR : Recs cc 4 w v c) (hr : RiseA c) (hl : c.length ≤ 1000) (hp : ∀ a ∈ c, 0 < a.code) :
    Calls Tryz.prog 36 #[v, .int .u32 (n : Int)] w fun e w' => ∃ v', e = .returned v' ∧ Recs nc 1 w' v' (wayF 13 c n) ∧ Below w.heap.size w w' := by
  obtain ⟨i0, hi, hz0, hz1, hz2⟩ := info_parts info32n
  have HR := Lib.hid hR
  have HC := Lib.hid (And.intro hr (And.intro hl hp))
  obtain ⟨W13, hW13⟩ : ∃ l, wayF 13 c n = l := ⟨_, rfl⟩
  have HW := Lib.hid hW13
  rw [hW13]
  have hlen13 : Hid (W13.length ≤ 13) := Lib.hid (hW13 ▸ wayF_len 13 c n)
  clear hR hr hl hp hW13
  go_enter Tryz.func36, Tryz.ntmps36
  go_wp2
  go_loopg [5, 1] 13 (fun gk s5 s1 wr => ∃ (k m : Nat) (r : Option Addr) (cap : Nat) (ks : List Nat), s5 = .slice r k cap ∧ s1 = .int .u32 (m : Int) ∧ k ≤ 13 ∧ 13 - k ≤ gk ∧ wr.ownsRow w.heap.size 65 1 (.slice r k cap) k (ks.flatMap nc) ∧ Hid (ks.length = k ∧ ks ++ wayF (13 - k) c m = W13) ∧ Below w.heap.size w wr)
  case atStart => exact ⟨0, n, none, 0, [], rfl, rfl, by omega, by omega, World.ownsRow_nil _ _ _ _, Lib.hid ⟨rfl, HW.out⟩, Below.refl _ _⟩
  case round =>
    obtain ⟨k, m, r, cap, ks, rfl, rfl, hk, hgk, hown, HK, hb⟩ := hrel
    by_cases hlt : k ≤ 12
    · have hbs := hb.size
      cases hg : getA c m with
      | none =>
        have HQ := Lib.hid (get_none v c m wr (HR.out.stay hb) HC.out.1 HC.out.2.1 hg)
        have HE : Hid (ks = W13) := Lib.hid (by have := HK.out.2; rwa [wayF_none hg, List.append_nil] at this)
        have HB := Lib.hid hb
        have HO := Lib.hid hown
        clear hg hb hown
        go_wp2_with (go_at_call 51; refine HQ.out.mono ?_; rintro e w1 ⟨rfl, hb1⟩; have HO1 := Lib.hid (owns_stay HO.out hb1); have HB1 := Lib.hid (HB.out.trans (hb1.mono hbs)); have hs1 := hb1.size; clear hb1)
        go_ret
        refine ⟨_, rfl, ?_, HB1.out.alloc (by omega) _⟩
        rw [← HE.out]
        exact recs_of_owns nc_len (HO1.out.alloc _) HK.out.1.symm (by omega)
      | some a =>
        have HQ := Lib.hid (get_some v c m a wr (HR.out.stay hb) HC.out.1 HC.out.2.1 hg)
        have HS : Hid ((ks ++ [m]) ++ wayF (12 - k) c a.par = W13) := Lib.hid (way_step (by have := HK.out.2; rwa [show 13 - k = 12 - k + 1 by omega] at this) hg)
        have HZ : Hid (a.par = 0 → ks ++ [m] = W13) := Lib.hid (fun h0 => by have := HS.out; rwa [h0, wayF_zero HC.out.2.2, List.append_nil] at this)
        have HB := Lib.hid hb
        have HO := Lib.hid hown
        have HOL := Lib.hid hown.lt
        clear hg hb hown
        unfold cv at HQ
        by_cases h0 : a.par = 0
        · have hd : ((a.par : Int) == 0) = true := by simp [h0]
          have HZ1 := Lib.hid (HZ.out h0)
          clear h0
          go_wp2_with (first
            | (go_at_call 51; refine HQ.out.mono ?_; rintro e w1 ⟨rfl, hb1⟩; have HO1 := Lib.hid (owns_stay HO.out hb1); have HB1 := Lib.hid (HB.out.trans (hb1.mono hbs)); have hs1 := hb1.size; clear hb1)
            | (at_builtin; refine wpList_append_own _ rfl (.tmp 19) (.tmp 21) 72 rfl w.heap.size 65 i0 (.int .u32 0) 1 4 Tryz.underlying72 hi hz0 hz1 hz2 rfl (by decide) _ k _ rfl ((HO1.out.alloc _).alloc _) ⟨w1.heap.size + 1, 0, none⟩ 1 1 (nc m) rfl rfl (cells_new2 _ _ (nc m) _) (nc_one m) (by unfold maxLen; omega) (by omega) (by simp; omega) ?_; intro v2 w3 hown3 hgrow3 _; have q3 := hgrow3.cell (box_under w1 _ _ _ 3 _ rfl) (fun e => by have := (HOL.out w1.heap.size e.symm).2; omega); have HB3 := Lib.hid (((HB1.out.alloc (by omega) _).alloc (by simp; omega) _).grown hgrow3 (by simp; omega) (fun j hj => (HOL.out j hj).1)); have HO3 := Lib.hid hown3; obtain ⟨r2, cap2, rfl⟩ := owns_form hown3; clear hgrow3 hown3))
          go_ret
          refine ⟨_, rfl, ?_, HB3.out⟩
          rw [← HZ1.out]
          exact recs_of_owns nc_len (by rw [flat_snoc]; exact HO3.out) (by simp; exact HK.out.1.symm) (by omega)
        · have hd : ((a.par : Int) == 0) = false := by simp; omega
          clear h0 HZ
          go_wp2_with (first
            | (go_at_call 51; refine HQ.out.mono ?_; rintro e w1 ⟨rfl, hb1⟩; have HO1 := Lib.hid (owns_stay HO.out hb1); have HB1 := Lib.hid (HB.out.trans (hb1.mono hbs)); have hs1 := hb1.size; clear hb1)
            | (at_builtin; refine wpList_append_own _ rfl (.tmp 19) (.tmp 21) 72 rfl w.heap.size 65 i0 (.int .u32 0) 1 4 Tryz.underlying72 hi hz0 hz1 hz2 rfl (by decide) _ k _ rfl ((HO1.out.alloc _).alloc _) ⟨w1.heap.size + 1, 0, none⟩ 1 1 (nc m) rfl rfl (cells_new2 _ _ (nc m) _) (nc_one m) (by unfold maxLen; omega) (by omega) (by simp; omega) ?_; intro v2 w3 hown3 hgrow3 _; have q3 := hgrow3.cell (box_under w1 _ _ _ 3 _ rfl) (fun e => by have := (HOL.out w1.heap.size e.symm).2; omega); have HB3 := Lib.hid (((HB1.out.alloc (by omega) _).alloc (by simp; omega) _).grown hgrow3 (by simp; omega) (fun j hj => (HOL.out j hj).1)); have HO3 := Lib.hid hown3; obtain ⟨r2, cap2, rfl⟩ := owns_form hown3; clear hgrow3 hown3))
          go_roundg (12 - k)
          case measure => omega
          case rel =>
            refine ⟨k + 1, a.par, r2, cap2, ks ++ [m], rfl, rfl, by omega, by omega, by rw [flat_snoc]; exact HO3.out, Lib.hid ⟨by simp; exact HK.out.1, ?_⟩, HB3.out⟩
            rw [show 13 - (k + 1) = 12 - k by omega]; exact HS.out
    · obtain rfl : k = 13 := by omega
      have HE : Hid (ks = W13) := Lib.hid (by have := HK.out.2; simpa [wayF] using this)
      have HB := Lib.hid hb
      have HO := Lib.hid hown
      clear hb hown
      go_wp2
      go_ret
      refine ⟨_, rfl, ?_, HB.out⟩
      rw [← HE.out]
      exact recs_of_owns nc_len HO.out HK.out.1.symm (by omega)
end Go.Proofs.YtmbfnbbgphpcgaaGreatDoor

/- Contracts of package chart's Without, With. -/
import Derived.Test.YtdhgkggcnilgoaaDoorCp
import Derived.Test.YtdhgkggcnilgoaaDoorCm
import Derived.StillTailTactics
import Derived.Deep.RegionWith
namespace Go.Proofs.YtdhgkggcnilgoaaDoor
open Go.RowKit
set_option linter.unusedVariables false
set_option linter.unusedSimpArgs false
theorem owns_mono {w : World} {base base' : Nat} {e : TypeId} {size : Nat} {v : Value} {n : Nat} {xs : List Value} (h : w.ownsRow base e size v n xs) (hb : base' ≤ base) : w.ownsRow base' e size v n xs := by
  refine ⟨h.1, ?_⟩
  rcases h.2 with h0 | ⟨g, cap, cur, h1, h2, h3⟩
  · exact .inl h0
  · exact .inr ⟨g, cap, cur, h1, Nat.le_trans hb h2, h3⟩
theorem part_from (r : Option Addr) (n cap i : Nat) (w : World) (c : List Ac) (hR : Recs cc 4 w (.slice r n cap) c) (hn : n = c.length) (hl : n ≤ 1000) (hc : n ≤ cap) (hi : i ≤ n) :
    ∃ X, (∀ w, (Instr.slice 30 (.slice r n cap) (some (.int .i64 (i : Int))) none none).run Tryd.prog w = .ok (.slice X (n - i) (cap - i)) w) ∧ Recs cc 4 w (.slice X (n - i) (cap - i)) (c.drop i) := by
  have hu : Tryd.prog.underlying 30 = some (.slice (Tryd.prog.elem 30)) := by kernel_rfl
  have hs : ∀ w, (sizeOf (Tryd.prog.elem 30)).run Tryd.prog w = .ok 4 w := fun w => by kernel_rfl
  refine ⟨if cap = i then r else r.map (·.add (i * 4)), fun w => ?_, ?_⟩
  · rw [run_slice_l w 30 r n cap hu .i64 (i : Int) (by omega) (by omega), hs w]
    simp only [Result.andThen_ok, sliced, Int.toNat_natCast]
  · by_cases h : i < n
    · obtain ⟨x, hx⟩ : ∃ x, c[0]? = some x := ⟨c[0]'(by omega), List.getElem?_eq_getElem (by omega)⟩
      obtain ⟨g, off, rfl, hg, _⟩ := hR.at hx
      rw [if_neg (by omega)]
      have := hR.drop hg hn hc hl i hi
      have e : (⟨g, off, none⟩ : Addr).add (i * 4) = ⟨g, off + i * 4, none⟩ := by unfold Addr.add; split <;> simp_all
      rw [Option.map_some, e]
      exact this
    · obtain rfl : i = n := by omega
      refine .inl ⟨_, cap - i, by rw [Nat.sub_self], List.drop_eq_nil_of_le (by omega)⟩
theorem part_to (r : Option Addr) (n cap i : Nat) (w : World) (c : List Ac) (hR : Recs cc 4 w (.slice r n cap) c) (hn : n = c.length) (hl : n ≤ 1000) (hc : n ≤ cap) (hi : i ≤ n) :
    ∃ X, (∀ w, (Instr.slice 30 (.slice r n cap) none (some (.int .i64 (i : Int))) none).run Tryd.prog w = .ok (.slice X i cap) w) ∧ Recs cc 4 w (.slice X i cap) (c.take i) := by
  have hu : Tryd.prog.underlying 30 = some (.slice (Tryd.prog.elem 30)) := by kernel_rfl
  have hs : ∀ w, (sizeOf (Tryd.prog.elem 30)).run Tryd.prog w = .ok 4 w := fun w => by kernel_rfl
  refine ⟨if cap = 0 then r else r.map (·.add (0 * 4)), fun w => ?_, ?_⟩
  · rw [run_slice_h w 30 r n cap hu .i64 (i : Int) (by omega) (by omega), hs w]
    simp only [Result.andThen_ok, sliced, Int.toNat_natCast]
    simp
  · by_cases h : 0 < i
    · obtain ⟨x, hx⟩ : ∃ x, c[0]? = some x := ⟨c[0]'(by omega), List.getElem?_eq_getElem (by omega)⟩
      obtain ⟨g, off, rfl, hg, _⟩ := hR.at hx
      rw [if_neg (by omega)]
      have := hR.take hg hn hc hl i hi
      have e : (⟨g, off, none⟩ : Addr).add (0 * 4) = ⟨g, off, none⟩ := by unfold Addr.add; split <;> simp_all
      rw [Option.map_some, e]
      exact this
    · obtain rfl : i = 0 := by omega
      exact .inl ⟨_, cap, rfl, rfl⟩
theorem taken_lit (ps : List Part) (cs : Array Value) (n N : Nat) (all : List Ac) (w : World) (hall : ∀ p ∈ ps, Recs cc 4 w p.1 p.2) (hn : n = ps.length) (h3 : n ≤ 3) (hcs : cs.toList = ps.flatMap vc) (hf : ps.flatMap (·.2) = all) (hN : all.length = N) (hl : N ≤ 1000) :
    Calls Tryd.prog 38 #[.slice (some ⟨w.heap.size, 0, none⟩) n n] (w.alloc (.cells cs 30)) fun e w' => ∃ v', e = .returned v' ∧ w'.ownsRow w.heap.size 35 4 v' N (all.flatMap cc) ∧ Below w.heap.size w w' := by
  have hb := (Below.refl w.heap.size w).alloc (Nat.le_refl _) (.cells cs 30)
  have hR := recs_lit vc_len ps cs 30 n hn (by omega) hcs w
  refine (taken_c _ ps _ hR (fun p hp => (hall p hp).stay hb) (by rw [hf, hN]; exact hl) (by omega)).mono ?_
  rintro e w' ⟨v', he, ho, hb2⟩
  rw [hf, hN] at ho
  exact ⟨v', he, owns_mono ho hb.size, hb.trans (hb2.mono hb.size)⟩
set_option maxHeartbeats 1000000 in
set_option maxRecDepth 100000 in
theorem without_c (r : Option Addr) (L cap : Nat) (c : List Ac) (n : Nat) (w : World) (hR : Recs cc 4 w (.slice r L cap) c) (hcap : L ≤ cap) (hr : RiseA c) (hl : L ≤ 1000) (hL : L = c.length) :
    Calls Tryd.prog 25 #[.slice r L cap, .int .u32 (n : Int)] w fun e w' => ∃ v', e = .returned v' ∧ w'.ownsRow w.heap.size 35 4 v' (outA c n).length ((outA c n).flatMap cc) ∧ Below w.heap.size w w' := by
  have hlo : (outA c n).length ≤ 1000 := Nat.le_trans (List.length_filter_le _ _) (by omega)
  cases hg : getA c n with
  | none =>
    have K := find_c _ c n w hR hr (by omega)
    rw [hg] at K
    have HK : Hid (Calls Tryd.prog 15 #[.slice r L cap, .int .u32 (n : Int)] w fun e w' => e = .returned (.tuple #[.int .i64 (belowA c n : Nat), .bool false]) ∧ Below w.heap.size w w') := Lib.hid K
    have HT := Lib.hid (fun (w' : World) (h : Below w.heap.size w w') => taken_lit [(.slice r L cap, c)] #[.slice r L cap] 1 (outA c n).length (outA c n) w' (fun p hp => by simp at hp; subst hp; exact hR.stay h) rfl (by omega) rfl (by rw [out_none hg]; simp) rfl hlo)
    have HL := Lib.hid hL
    clear K hR hr hg hL
    generalize belowA c n = B at *
    generalize (outA c n).length = N at *
    generalize (outA c n).flatMap cc = Z at *
    go_enter Tryd.func25, Tryd.ntmps25
    go_wp2_with (first
      | (go_at_call 15; refine HK.out.mono ?_; rintro e w1 ⟨rfl, hb1⟩; have HB1 := Lib.hid hb1; clear hb1)
      | (go_at_call 38; refine (HT.out _ HB1.out).mono ?_; rintro e w2 ⟨v2, rfl, ho2, hb2⟩; have HO2 := Lib.hid (owns_mono ho2 HB1.out.size); have HB2 := Lib.hid (HB1.out.trans (hb2.mono HB1.out.size)); clear ho2 hb2))
    go_ret
    exact ⟨_, rfl, HO2.out, HB2.out⟩
  | some a =>
    have K := find_c _ c n w hR hr (by omega)
    rw [hg] at K
    have HK : Hid (Calls Tryd.prog 15 #[.slice r L cap, .int .u32 (n : Int)] w fun e w' => e = .returned (.tuple #[.int .i64 (belowA c n : Nat), .bool true]) ∧ Below w.heap.size w w') := Lib.hid K
    obtain ⟨hat, hout⟩ := out_parts hr hg
    have hlt := (List.getElem?_eq_some_iff.1 hat).1
    have hBL : belowA c n < L := by omega
    obtain ⟨B', hB'⟩ : ∃ B', belowA c n + 1 = B' := ⟨_, rfl⟩
    have hw : IntKind.i64.wrap ((belowA c n : Nat) + 1) = (B' : Int) := by rw [IntKind.wrap_i64]; omega
    rw [hB'] at hout
    obtain ⟨X, hX, hRX⟩ := part_to r L cap (belowA c n) w c hR hL hl hcap (by omega)
    obtain ⟨Y, hY, hRY⟩ := part_from r L cap B' w c hR hL hl hcap (by omega)
    have HT := Lib.hid (fun (w' : World) (h : Below w.heap.size w w') => taken_lit [(.slice X (belowA c n) cap, c.take (belowA c n)), (.slice Y (L - B') (cap - B'), c.drop B')] #[.slice X (belowA c n) cap, .slice Y (L - B') (cap - B')] 2 (outA c n).length (outA c n) w' (fun p hp => by
      simp at hp
      rcases hp with rfl | rfl
      · exact hRX.stay h
      · exact hRY.stay h) rfl (by omega) rfl (by rw [hout]; simp) rfl hlo)
    have HL := Lib.hid hL
    clear K hR hr hg hat hout hlt hRX hRY hL hB'
    generalize belowA c n = B at *
    generalize (outA c n).length = N at *
    generalize (outA c n).flatMap cc = Z at *
    go_enter Tryd.func25, Tryd.ntmps25
    go_wp2_with (go_at_call 15; refine HK.out.mono ?_; rintro e w1 ⟨rfl, hb1⟩; have HB1 := Lib.hid hb1; clear hb1)
    go_still_tail 7, (by kernel_rfl)
    change wpList _ _ _ _ _ w1.drew
    have HB2 := Lib.hid HB1.out.drew
    generalize w1.drew = w2 at *
    go_wp2_with (go_at_call 38; refine (HT.out _ HB2.out).mono ?_; rintro e w3 ⟨v3, rfl, ho3, hb3⟩; have HO3 := Lib.hid (owns_mono ho3 HB2.out.size); have HB3 := Lib.hid (HB2.out.trans (hb3.mono HB2.out.size)); clear ho3 hb3)
    go_ret
    exact ⟨_, rfl, HO3.out, HB3.out⟩
set_option maxHeartbeats 2000000 in
set_option maxRecDepth 100000 in
theorem with_c (r : Option Addr) (L cap : Nat) (c : List Ac) (a : Ac) (w : World) (hR : Recs cc 4 w (.slice r L cap) c) (hcap : L ≤ cap) (hr : RiseA c) (hl : L ≤ 900) (hL : L = c.length) :
    Calls Tryd.prog 26 #[.slice r L cap, cv a] w fun e w' => ∃ v', e = .returned v' ∧ w'.ownsRow w.heap.size 35 4 v' (withA c a).length ((withA c a).flatMap cc) ∧ Below w.heap.size w w' := by
  have hA := (Below.refl w.heap.size w).alloc (Nat.le_refl _) (.cells #[.int .u32 (a.code : Int), .string a.name, .int .u8 (a.kind : Int), .int .u32 (a.par : Int)] 35)
  have HX := Lib.hid (Box4.new w (.int .u32 (a.code : Int)) (.string a.name) (.int .u8 (a.kind : Int)) (.int .u32 (a.par : Int)) 35)
  have HA := Lib.hid hA
  have K1 := Lib.hid (without_c r L cap c a.code _ (hR.stay hA) hcap hr (by omega) hL)
  have hlo : (outA c a.code).length ≤ 900 := Nat.le_trans (List.length_filter_le _ _) (by omega)
  have hro := outA_rise hr a.code
  have hwp := with_parts hr a
  generalize outA c a.code = o at *
  have hbo := belowA_le o a.code
  have HWL : Hid ((withA c a).length ≤ 1000) := Lib.hid (by rw [hwp]; simp; omega)
  have K2 := Lib.hid (fun (v : Value) (w' : World) (h : Recs cc 4 w' v o) => find_c v o a.code w' h hro (by omega))
  obtain ⟨M, hM⟩ : ∃ M, o.length = M := ⟨_, rfl⟩
  have HM := Lib.hid hM
  have HWP := Lib.hid hwp
  rw [hM] at K1 hbo hlo
  clear hR hr hL hro hwp hM hA
  generalize belowA o a.code = B at *
  obtain ⟨N, hN⟩ : ∃ N, (withA c a).length = N := ⟨_, rfl⟩
  have HN := Lib.hid hN
  rw [hN]
  have HWA : Hid (withA c a = withA c a) := Lib.hid rfl
  obtain ⟨W, hW⟩ : ∃ W, withA c a = W := ⟨_, rfl⟩
  rw [hW] at HWP HWL HN ⊢
  clear hN hW HWA
  unfold cv
  go_enter Tryd.func26, Tryd.ntmps26
  go_wp2_with (first
    | (go_at_call 15; refine (K2.out _ _ HR1.out).mono ?_; rintro e w2 ⟨rfl, hb2⟩; have HB2 := Lib.hid (HB1.out.trans (hb2.mono HB1.out.size)); have HX2 := Lib.hid (HX1.out.stay hb2); have HO2 := Lib.hid (owns_stay HO1.out hb2); clear hb2)
    | (go_at_call 25; refine K1.out.mono ?_; rintro e w1 ⟨v1, rfl, ho1, hb1⟩; have HB1 := Lib.hid (HA.out.trans (hb1.mono HA.out.size)); have HX1 := Lib.hid (HX.out.stay hb1); have HR1 := Lib.hid (recs_of_owns cc_len ho1 HM.out.symm (by omega)); have HO1 := Lib.hid ho1; obtain ⟨r1, cap1, rfl⟩ := owns_form ho1; obtain ⟨g0, g1, g2, g3, _, _, _, _, _⟩ := HX1.out; clear ho1 hb1))
  have hcp : M ≤ cap1 := by
    rcases HO2.out.2 with ⟨h0, h1⟩ | ⟨g, cp, cur, h0, _, _, h1, _⟩
    · omega
    · cases h0; exact h1
  have hR2 : Recs cc 4 w2 (.slice r1 M cap1) o := recs_of_owns cc_len HO2.out HM.out.symm (by omega)
  obtain ⟨X, hX, hRX⟩ := part_to r1 M cap1 B w2 o hR2 HM.out.symm (by omega) hcp hbo
  obtain ⟨Y, hY, hRY⟩ := part_from r1 M cap1 B w2 o hR2 HM.out.symm (by omega) hcp hbo
  have HRX := Lib.hid hRX
  have HRY := Lib.hid hRY
  obtain ⟨g0, g1, g2, g3, _, _, _, _, _⟩ := HX2.out
  have hbd : Below w2.heap.size w2 (w2.drew.alloc (.cells #[.int .u32 (a.code : Int), .string a.name, .int .u8 (a.kind : Int), .int .u32 (a.par : Int)] 35)) := ((Below.refl _ _).drew).alloc (Nat.le_refl _) _
  have hB3 := HB2.out.trans (hbd.mono HB2.out.size)
  have KT0 := taken_lit [(.slice X B cap1, o.take B), (.slice (some ⟨w2.heap.size, 0, none⟩) 1 1, [a]), (.slice Y (M - B) (cap1 - B), o.drop B)] #[.slice X B cap1, .slice (some ⟨w2.heap.size, 0, none⟩) 1 1, .slice Y (M - B) (cap1 - B)] 3 N W _ (fun p hp => by
      simp at hp
      rcases hp with rfl | rfl | rfl
      · exact HRX.out.stay hbd
      · exact recs_lit cc_len [a] _ _ 1 rfl (by omega) rfl w2.drew
      · exact HRY.out.stay hbd) rfl (by omega) rfl (by rw [HWP.out]; simp) HN.out (by rw [← HN.out]; exact HWL.out)
  have hsz : (w2.drew.alloc (.cells #[.int .u32 (a.code : Int), .string a.name, .int .u8 (a.kind : Int), .int .u32 (a.par : Int)] 35)).heap.size = w2.heap.size + 1 := by simp
  have KT : Hid (Calls Tryd.prog 38 #[.slice (some ⟨w2.heap.size + 1, 0, none⟩) 3 3] ((w2.alloc (.cells #[.int .u32 (a.code : Int), .string a.name, .int .u8 (a.kind : Int), .int .u32 (a.par : Int)] 35)).alloc (.cells #[.slice X B cap1, .slice (some ⟨w2.heap.size, 0, none⟩) 1 1, .slice Y (M - B) (cap1 - B)] 30)).drew fun e w' => ∃ v', e = .returned v' ∧ w'.ownsRow w.heap.size 35 4 v' N (W.flatMap cc) ∧ Below w.heap.size w w') := Lib.hid (by
    rw [hsz] at KT0
    refine Calls.mono (show Calls Tryd.prog 38 #[.slice (some ⟨w2.heap.size + 1, 0, none⟩) 3 3] ((w2.alloc (.cells #[.int .u32 (a.code : Int), .string a.name, .int .u8 (a.kind : Int), .int .u32 (a.par : Int)] 35)).alloc (.cells #[.slice X B cap1, .slice (some ⟨w2.heap.size, 0, none⟩) 1 1, .slice Y (M - B) (cap1 - B)] 30)).drew _ from KT0) ?_
    rintro e w' ⟨v', he, ho, hb⟩
    rw [← hsz] at ho hb
    exact ⟨v', he, owns_mono ho hB3.size, hB3.trans (hb.mono hB3.size)⟩)
  clear hR2 hRX hRY KT0 hsz hbd hB3
  go_region_with (go_at_call 38; refine KT.out.mono ?_; rintro e w3 ⟨v3, rfl, ho3, hb3⟩; have HO3 := Lib.hid ho3; have HB3 := Lib.hid hb3; clear ho3 hb3)
  all_goals
    go_wp2
    go_ret
    exact ⟨_, rfl, HO3.out, HB3.out⟩
end Go.Proofs.YtdhgkggcnilgoaaDoor

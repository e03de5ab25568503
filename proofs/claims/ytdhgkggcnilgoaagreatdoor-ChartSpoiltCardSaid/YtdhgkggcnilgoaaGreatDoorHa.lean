/- Contracts of package chart's check of one account, of where it lies, and of all. -/
import Derived.Test.YtdhgkggcnilgoaaGreatDoorDc
import Derived.Test.YtdhgkggcnilgoaaGreatDoorCk
namespace Go.Proofs.YtdhgkggcnilgoaaGreatDoor
open Go.RowKit
set_option linter.unusedVariables false
set_option linter.unusedSimpArgs false
set_option maxHeartbeats 1000000 in
set_option maxRecDepth 100000 in
theorem acheck_c (a : Ac) (h : Nat) (w : World) : Calls Tryz.prog 16 #[cv a, .int .u32 (h : Int)] w fun e w' => e = .returned (.int .i64 (one1 h a)) ∧ Below w.heap.size w w' := by
  have hA := (Below.refl w.heap.size w).alloc (Nat.le_refl _) (.cells #[.int .u32 (a.code : Int), .string a.name, .int .u8 (a.kind : Int), .int .u32 (a.par : Int)] 34)
  have HA := Lib.hid hA
  have HX := Lib.hid (Box4.new w (.int .u32 (a.code : Int)) (.string a.name) (.int .u8 (a.kind : Int)) (.int .u32 (a.par : Int)) 34)
  have K1 := Lib.hid (fun w => code_c a.code w)
  have K2 := Lib.hid (fun w => cname_c a.name w)
  obtain ⟨cb, hcb⟩ : ∃ cb, (decide (0 < a.code) && decide (a.code ≤ 999999)) = cb := ⟨_, rfl⟩
  obtain ⟨nb, hnb⟩ : ∃ nb, nameB a.name.toList = nb := ⟨_, rfl⟩
  rw [hcb] at K1
  rw [hnb] at K2
  have H1 : Hid (one1 h a = if cb = false then 5 else if a.code ≤ h then 6 else if nb = false then 10 else if 5 ≤ a.kind then 9 else 0) := Lib.hid (by
    unfold one1
    rw [← hnb]
    by_cases h1 : a.code = 0 ∨ 999999 < a.code
    · rw [if_pos h1, if_pos (show cb = false by rw [← hcb]; simp; omega)]
    · rw [if_neg h1, if_neg (show ¬ cb = false by rw [← hcb]; simp; omega)])
  clear hA hcb hnb
  generalize one1 h a = R at *
  unfold cv
  obtain ⟨g0, g1, g2, g3, _, _, _, _, _⟩ := HX.out
  cases cb
  · obtain rfl : R = 5 := by simpa using H1.out
    go_enter Tryz.func16, Tryz.ntmps16
    go_wp2_with (go_at_call 24; refine (K1.out _).mono ?_; rintro e w1 ⟨rfl, rfl⟩)
    go_ret
    exact ⟨rfl, HA.out⟩
  · by_cases h2 : a.code ≤ h
    · obtain rfl : R = 6 := by have := H1.out; simpa [h2] using this
      have e2 : (a.code : Int) ≤ (h : Int) := by omega
      go_enter Tryz.func16, Tryz.ntmps16
      go_wp2_with (go_at_call 24; refine (K1.out _).mono ?_; rintro e w1 ⟨rfl, rfl⟩)
      go_ret
      exact ⟨rfl, HA.out⟩
    · have e2 : ¬ (a.code : Int) ≤ (h : Int) := by omega
      cases nb
      · obtain rfl : R = 10 := by have := H1.out; simpa [h2] using this
        go_enter Tryz.func16, Tryz.ntmps16
        go_wp2_with (first
          | (go_at_call 24; refine (K1.out _).mono ?_; rintro e w1 ⟨rfl, rfl⟩)
          | (go_at_call 25; refine (K2.out _).mono ?_; rintro e w1 ⟨rfl, hb⟩; have HB := Lib.hid (HA.out.trans (hb.mono HA.out.size)); obtain ⟨u0, u1, u2, u3, _, _, _, _, _⟩ := HX.out.stay hb; clear hb))
        go_ret
        exact ⟨rfl, HB.out⟩
      · by_cases h3 : 5 ≤ a.kind
        · obtain rfl : R = 9 := by have := H1.out; simpa [h2, h3] using this
          have e3 : (5 : Int) ≤ (a.kind : Int) := by omega
          go_enter Tryz.func16, Tryz.ntmps16
          go_wp2_with (first
            | (go_at_call 24; refine (K1.out _).mono ?_; rintro e w1 ⟨rfl, rfl⟩)
            | (go_at_call 25; refine (K2.out _).mono ?_; rintro e w1 ⟨rfl, hb⟩; have HB := Lib.hid (HA.out.trans (hb.mono HA.out.size)); obtain ⟨u0, u1, u2, u3, _, _, _, _, _⟩ := HX.out.stay hb; clear hb))
          go_ret
          exact ⟨rfl, HB.out⟩
        · obtain rfl : R = 0 := by have := H1.out; simpa [h2, h3] using this
          have e3 : ¬ (5 : Int) ≤ (a.kind : Int) := by omega
          go_enter Tryz.func16, Tryz.ntmps16
          go_wp2_with (first
            | (go_at_call 24; refine (K1.out _).mono ?_; rintro e w1 ⟨rfl, rfl⟩)
            | (go_at_call 25; refine (K2.out _).mono ?_; rintro e w1 ⟨rfl, hb⟩; have HB := Lib.hid (HA.out.trans (hb.mono HA.out.size)); obtain ⟨u0, u1, u2, u3, _, _, _, _, _⟩ := HX.out.stay hb; clear hb))
          go_ret
          exact ⟨rfl, HB.out⟩
set_option maxHeartbeats 1000000 in
set_option maxRecDepth 100000 in
theorem cparent_c (v : Value) (c : List Ac) (a : Ac) (w : World) (hR : Recs cc 4 w v c) (hr : RiseA c) (hl : c.length ≤ 1000) (hp : ∀ a ∈ c, 0 < a.code) :
    Calls Tryz.prog 17 #[v, cv a] w fun e w' => e = .returned (.int .i64 (one2 c a)) ∧ Below w.heap.size w w' := by
  have hA := (Below.refl w.heap.size w).alloc (Nat.le_refl _) (.cells #[.int .u32 (a.code : Int), .string a.name, .int .u8 (a.kind : Int), .int .u32 (a.par : Int)] 34)
  have HA := Lib.hid hA
  have HX := Lib.hid (Box4.new w (.int .u32 (a.code : Int)) (.string a.name) (.int .u8 (a.kind : Int)) (.int .u32 (a.par : Int)) 34)
  have HR := Lib.hid (hR.stay hA)
  have K2 := Lib.hid (fun (w' : World) (h : Recs cc 4 w' v c) => way_c v c a.code w' h hr hl hp)
  obtain ⟨r0, cap0, hv, _⟩ := hR.form
  obtain ⟨g0, g1, g2, g3, _, _, _, _, _⟩ := HX.out
  by_cases h0 : a.par = 0
  · have H1 : Hid (one2 c a = 0) := Lib.hid (by unfold one2; rw [if_pos h0])
    have e0 : ((a.par : Int) == 0) = true := by simp [h0]
    rw [H1.out]
    clear hR hA h0 hv
    unfold cv
    go_enter Tryz.func17, Tryz.ntmps17
    go_wp2
    go_ret
    exact ⟨rfl, HA.out⟩
  · have e0 : ((a.par : Int) == 0) = false := by simp; omega
    cases hg : getA c a.par with
    | none =>
      have H1 : Hid (one2 c a = 8) := Lib.hid (by unfold one2; rw [if_neg h0, hg])
      have K1 := Lib.hid (fun (w' : World) (h : Recs cc 4 w' v c) => get_none v c a.par w' h hr hl hg)
      rw [H1.out]
      clear hR hA h0 hv hg
      unfold cv
      go_enter Tryz.func17, Tryz.ntmps17
      go_wp2_with (go_at_call 20; refine (K1.out _ HR.out).mono ?_; rintro e w1 ⟨rfl, hb⟩; have HB := Lib.hid (HA.out.trans (hb.mono HA.out.size)); clear hb)
      go_ret
      exact ⟨rfl, HB.out.alloc HB.out.size _⟩
    | some p =>
      have K1 := Lib.hid (fun (w' : World) (h : Recs cc 4 w' v c) => get_some v c a.par p w' h hr hl hg)
      by_cases hk : p.kind = a.kind
      · have ek : ((p.kind : Int) != (a.kind : Int)) = false := by simp; omega
        have hlen := wayF_len 13 c a.code
        have H1 : Hid (one2 c a = if 12 < (wayF 13 c a.code).length then 11 else 0) := Lib.hid (by unfold one2; rw [if_neg h0, hg]; simp only; rw [if_neg (by simpa using hk)])
        have HL := Lib.hid (show (wayF 13 c a.code).length ≤ 1000 by omega)
        by_cases h12 : 12 < (wayF 13 c a.code).length
        · rw [H1.out, if_pos h12]
          have e12 : (12 : Int) < ((wayF 13 c a.code).length : Int) := by omega
          clear hR hA h0 hv hg hk H1 hlen
          generalize wayF 13 c a.code = ws at *
          unfold cv at K1 ⊢
          go_enter Tryz.func17, Tryz.ntmps17
          go_wp2_with (first
            | (go_at_call 10; refine (K2.out _ HR2.out).mono ?_; rintro e w2 ⟨v2, rfl, h2, hb⟩; have HB2 := Lib.hid (HB1.out.trans (hb.mono HB1.out.size)); obtain ⟨r2, cap2, rfl, _⟩ := h2.form; clear hb h2)
            | (go_at_call 20; refine (K1.out _ HR.out).mono ?_; rintro e w1 ⟨rfl, hb⟩; have HBa := HA.out.trans (hb.mono HA.out.size); have HB1 := Lib.hid (HBa.alloc HBa.size (.cells #[.int .u32 (p.code : Int), .string p.name, .int .u8 (p.kind : Int), .int .u32 (p.par : Int)] 34)); have hq := (Below.refl w1.heap.size w1).alloc (Nat.le_refl _) (.cells #[.int .u32 (p.code : Int), .string p.name, .int .u8 (p.kind : Int), .int .u32 (p.par : Int)] 34); have HR2 := Lib.hid ((HR.out.stay hb).stay hq); obtain ⟨u0, u1, u2, u3, _, _, _, _, _⟩ := HX.out.stay hb; clear hb HBa hq))
          go_ret
          exact ⟨rfl, HB2.out⟩
        · rw [H1.out, if_neg h12]
          have e12 : ¬ (12 : Int) < ((wayF 13 c a.code).length : Int) := by omega
          clear hR hA h0 hv hg hk H1 hlen
          generalize wayF 13 c a.code = ws at *
          unfold cv at K1 ⊢
          go_enter Tryz.func17, Tryz.ntmps17
          go_wp2_with (first
            | (go_at_call 10; refine (K2.out _ HR2.out).mono ?_; rintro e w2 ⟨v2, rfl, h2, hb⟩; have HB2 := Lib.hid (HB1.out.trans (hb.mono HB1.out.size)); obtain ⟨r2, cap2, rfl, _⟩ := h2.form; clear hb h2)
            | (go_at_call 20; refine (K1.out _ HR.out).mono ?_; rintro e w1 ⟨rfl, hb⟩; have HBa := HA.out.trans (hb.mono HA.out.size); have HB1 := Lib.hid (HBa.alloc HBa.size (.cells #[.int .u32 (p.code : Int), .string p.name, .int .u8 (p.kind : Int), .int .u32 (p.par : Int)] 34)); have hq := (Below.refl w1.heap.size w1).alloc (Nat.le_refl _) (.cells #[.int .u32 (p.code : Int), .string p.name, .int .u8 (p.kind : Int), .int .u32 (p.par : Int)] 34); have HR2 := Lib.hid ((HR.out.stay hb).stay hq); obtain ⟨u0, u1, u2, u3, _, _, _, _, _⟩ := HX.out.stay hb; clear hb HBa hq))
          go_ret
          exact ⟨rfl, HB2.out⟩
      · have ek : ((p.kind : Int) != (a.kind : Int)) = true := by simp; omega
        have H1 : Hid (one2 c a = 9) := Lib.hid (by unfold one2; rw [if_neg h0, hg]; simp only; rw [if_pos (by simpa using hk)])
        rw [H1.out]
        clear hR hA h0 hv hg hk
        unfold cv at K1 ⊢
        go_enter Tryz.func17, Tryz.ntmps17
        go_wp2_with (go_at_call 20; refine (K1.out _ HR.out).mono ?_; rintro e w1 ⟨rfl, hb⟩; have HB := Lib.hid (HA.out.trans (hb.mono HA.out.size)); obtain ⟨u0, u1, u2, u3, _, _, _, _, _⟩ := HX.out.stay hb; clear hb)
        go_ret
        exact ⟨rfl, HB.out.alloc HB.out.size _⟩
end Go.Proofs.YtdhgkggcnilgoaaGreatDoor

/- Contract of package chart's Check: what is wrong with a chart, by the document's words. -/
import Derived.Deep.DeepCutAuto
import Derived.Test.YtdhgkggcnilgoaaGreatDoorHa
namespace Go.Proofs.YtdhgkggcnilgoaaGreatDoor
open Go.RowKit
set_option linter.unusedVariables false
set_option linter.unusedSimpArgs false
theorem chk1_at {c : List Ac} {k h : Nat} {a : Ac} (ha : c[k]? = some a) : chk1 h (c.drop k) = if one1 h a ≠ 0 then one1 h a else chk1 a.code (c.drop (k + 1)) := by
  obtain ⟨hk, e⟩ := List.getElem?_eq_some_iff.1 ha
  rw [List.drop_eq_getElem_cons hk, e]
  rfl
theorem chk2_at {c d : List Ac} {k : Nat} {a : Ac} (ha : c[k]? = some a) : chk2 d (c.drop k) = if one2 d a ≠ 0 then one2 d a else chk2 d (c.drop (k + 1)) := by
  obtain ⟨hk, e⟩ := List.getElem?_eq_some_iff.1 ha
  rw [List.drop_eq_getElem_cons hk, e]
  rfl
theorem chk1_end {c : List Ac} {k h : Nat} (hk : c.length ≤ k) : chk1 h (c.drop k) = 0 := by rw [List.drop_of_length_le hk]; rfl
theorem chk2_end {c d : List Ac} {k : Nat} (hk : c.length ≤ k) : chk2 d (c.drop k) = 0 := by rw [List.drop_of_length_le hk]; rfl
theorem chkA_big {c : List Ac} (h : 200 < c.length) : chkA c = 2 := by unfold chkA; rw [if_pos h]
theorem chkA_one {c : List Ac} (h : ¬ 200 < c.length) (h1 : chk1 0 c ≠ 0) : chkA c = chk1 0 c := by unfold chkA; rw [if_neg h, if_pos h1]
theorem chkA_two {c : List Ac} (h : ¬ 200 < c.length) (h1 : chk1 0 c = 0) : chkA c = chk2 c c := by unfold chkA; rw [if_neg h, if_neg (by simpa using h1)]
set_option maxHeartbeats 2000000 in
set_option maxRecDepth 100000 in
theorem check_c (v : Value) (c : List Ac) (w : World) (hR : Recs cc 4 w v c) :
    Calls Tryz.prog 7 #[v] w fun e w' => e = .returned (.int .i64 (chkA c)) ∧ Below w.heap.size w w' := by
  obtain ⟨r0, cap0, hv, hm⟩ := hR.form
  have HR := Lib.hid hR
  obtain ⟨L, hL⟩ : ∃ L, c.length = L := ⟨_, rfl⟩
  have HL := Lib.hid hL
  rw [hL] at hv hm
  have HC0 : Hid (chk1 0 c = chk1 0 (c.drop 0)) := Lib.hid rfl
  have HD0 : Hid (chk2 c c = chk2 c (c.drop 0)) := Lib.hid rfl
  have HZ := Lib.hid (And.intro (@chkA_big c) (And.intro (@chkA_one c) (@chkA_two c)))
  rw [hL] at HZ
  obtain ⟨R, hRR⟩ : ∃ R, chkA c = R := ⟨_, rfl⟩
  have HRR := Lib.hid hRR
  rw [hRR]
  subst hv
  clear hR hL hRR
  by_cases h200 : 200 < L
  · obtain rfl : R = 2 := by rw [← HRR.out]; exact HZ.out.1 h200
    have e1 : (200 : Int) < (L : Int) := by omega
    go_enter Tryz.func7, Tryz.ntmps7
    go_wp2
    go_ret
    exact ⟨rfl, Below.refl _ _⟩
  · have e1 : ¬ (200 : Int) < (L : Int) := by omega
    go_enter Tryz.func7, Tryz.ntmps7
    go_wp2
    go_loopw [3, 15] (fun s i wr => ∃ (k h : Nat), k ≤ L ∧ s = .int .u32 (h : Int) ∧ i = .int .i64 k ∧ h < 4294967296 ∧ Hid (chk1 0 c = chk1 h (c.drop k)) ∧ Below w.heap.size w wr) (fun _ i _ => L - (intOf i).toNat)
    case atStart => exact ⟨0, 0, Nat.zero_le _, rfl, rfl, by omega, HC0, Below.refl _ _⟩
    case round =>
      obtain ⟨k, h, hk, rfl, rfl, hh, HK, hb⟩ := hrel
      rename World => wr
      by_cases hlt : k < L
      · obtain ⟨a, ha⟩ : ∃ a, c[k]? = some a := ⟨c[k]'(by have := HL.out; omega), List.getElem?_eq_getElem (by have := HL.out; omega)⟩
        have HS := Lib.hid (HK.out.trans (chk1_at ha))
        have K1 := Lib.hid (fun (w : World) => acheck_c a h w)
        obtain ⟨g, off, hcv, hg, hcy⟩ := (HR.out.stay hb).at ha
        subst hcv
        obtain ⟨c0, c1, c2, c3⟩ := Recs.cells4 (c := c) hcy
        have hbs := hb.size
        clear ha hcy HK
        generalize one1 h a = o at *
        unfold cv at K1
        go_upto_region 7 with fail
        have HX := Lib.hid (Box4.new wr (.int .u32 (a.code : Int)) (.string a.name) (.int .u8 (a.kind : Int)) (.int .u32 (a.par : Int)) 34)
        have HB := Lib.hid (hb.alloc hbs (.cells #[.int .u32 (a.code : Int), .string a.name, .int .u8 (a.kind : Int), .int .u32 (a.par : Int)] 34))
        clear c0 c1 c2 c3 hb hbs
        generalize wr.alloc (.cells #[.int .u32 (a.code : Int), .string a.name, .int .u8 (a.kind : Int), .int .u32 (a.par : Int)] 34) = wx at *
        generalize wr.heap.size = Y at *
        obtain ⟨z0, z1, z2, z3, _, _, _, _, _⟩ := HX.out
        by_cases ho : o = 0
        · have e2 : (o != 0) = false := by simp [ho]
          have HS1 : Hid (chk1 0 c = chk1 a.code (c.drop (k + 1))) := Lib.hid (by have := HS.out; rwa [if_neg (by simpa using ho)] at this)
          have hac := a.hc
          clear ho HS
          go_wp2_with (go_at_call 16; refine (K1.out _).mono ?_; rintro e w1 ⟨rfl, hb1⟩; have HB1 := Lib.hid (HB.out.trans (hb1.mono HB.out.size)); obtain ⟨u0, u1, u2, u3, _, _, _, _, _⟩ := HX.out.stay hb1; clear hb1)
          go_roundw
          case rel => exact ⟨k + 1, a.code, by omega, rfl, by go_num, hac, HS1, HB1.out⟩
          case measure => simp [intOf]; omega
        · have e2 : (o != 0) = true := by simp [ho]
          obtain rfl : o = R := by
            have h1 := HS.out
            rw [if_pos (by simpa using ho)] at h1
            rw [← HRR.out, HZ.out.2.1 h200 (by rw [h1]; exact ho), h1]
          clear ho HS
          go_wp2_with (go_at_call 16; refine (K1.out _).mono ?_; rintro e w1 ⟨rfl, hb1⟩; have HB1 := Lib.hid (HB.out.trans (hb1.mono HB.out.size)); obtain ⟨u0, u1, u2, u3, _, _, _, _, _⟩ := HX.out.stay hb1; clear hb1)
          go_ret
          exact ⟨rfl, HB1.out⟩
      · obtain rfl : k = L := by omega
        have h10 : chk1 0 c = 0 := by rw [HK.out]; exact chk1_end (by have := HL.out; omega)
        obtain ⟨hr, hall⟩ := chk1_rise h10
        have H2 := Lib.hid (HZ.out.2.2 h200 h10)
        have K2 := Lib.hid (fun (a : Ac) (w' : World) (h : Recs cc 4 w' (.slice r0 k cap0) c) => cparent_c (.slice r0 k cap0) c a w' h hr (by have := HL.out; omega) (fun a ha => (hall a ha).1))
        have HBO := Lib.hid hb
        rename World => wo
        clear hb hr hall h10 HK HZ HC0
        go_wp2
        go_loopw [30] (fun i wr => ∃ (j : Nat), j ≤ k ∧ i = .int .i64 j ∧ Hid (chk2 c c = chk2 c (c.drop j)) ∧ Below w.heap.size w wr) (fun i _ => k - (intOf i).toNat)
        case atStart => exact ⟨0, Nat.zero_le _, rfl, HD0, HBO.out⟩
        case round =>
          obtain ⟨j, hj, rfl, HK, hb⟩ := hrel
          rename World => wr
          by_cases hlt : j < k
          · obtain ⟨a, ha⟩ : ∃ a, c[j]? = some a := ⟨c[j]'(by have := HL.out; omega), List.getElem?_eq_getElem (by have := HL.out; omega)⟩
            have HS := Lib.hid (HK.out.trans (chk2_at ha))
            have hrw := HR.out.stay hb
            have HRW := Lib.hid (hrw.stay ((Below.refl wr.heap.size wr).alloc (Nat.le_refl _) (.cells #[.int .u32 (a.code : Int), .string a.name, .int .u8 (a.kind : Int), .int .u32 (a.par : Int)] 34)))
            have K1 := Lib.hid (K2.out a)
            obtain ⟨g, off, hcv, hg, hcy⟩ := hrw.at ha
            subst hcv
            obtain ⟨c0, c1, c2, c3⟩ := Recs.cells4 (c := c) hcy
            have hbs := hb.size
            clear ha hcy HK hrw K2
            generalize one2 c a = o at *
            unfold cv at K1
            go_upto_region 15 with fail
            have HX := Lib.hid (Box4.new wr (.int .u32 (a.code : Int)) (.string a.name) (.int .u8 (a.kind : Int)) (.int .u32 (a.par : Int)) 34)
            have HB := Lib.hid (hb.alloc hbs (.cells #[.int .u32 (a.code : Int), .string a.name, .int .u8 (a.kind : Int), .int .u32 (a.par : Int)] 34))
            clear c0 c1 c2 c3 hb hbs
            generalize wr.alloc (.cells #[.int .u32 (a.code : Int), .string a.name, .int .u8 (a.kind : Int), .int .u32 (a.par : Int)] 34) = wx at *
            generalize wr.heap.size = Y at *
            obtain ⟨z0, z1, z2, z3, _, _, _, _, _⟩ := HX.out
            by_cases ho : o = 0
            · have e2 : (o != 0) = false := by simp [ho]
              have HS1 : Hid (chk2 c c = chk2 c (c.drop (j + 1))) := Lib.hid (by have := HS.out; rwa [if_neg (by simpa using ho)] at this)
              clear ho HS
              go_wp2_with (go_at_call 17; refine (K1.out _ HRW.out).mono ?_; rintro e w1 ⟨rfl, hb1⟩; have HB1 := Lib.hid (HB.out.trans (hb1.mono HB.out.size)); clear hb1)
              go_roundw
              case rel => exact ⟨j + 1, by omega, by go_num, HS1, HB1.out⟩
              case measure => simp [intOf]; omega
            · have e2 : (o != 0) = true := by simp [ho]
              obtain rfl : o = R := by
                have h1 := HS.out
                rw [if_pos (by simpa using ho)] at h1
                rw [← HRR.out, H2.out, h1]
              clear ho HS
              go_wp2_with (go_at_call 17; refine (K1.out _ HRW.out).mono ?_; rintro e w1 ⟨rfl, hb1⟩; have HB1 := Lib.hid (HB.out.trans (hb1.mono HB.out.size)); clear hb1)
              go_ret
              exact ⟨rfl, HB1.out⟩
          · obtain rfl : j = k := by omega
            have HB := Lib.hid hb
            obtain rfl : R = 0 := by rw [← HRR.out, H2.out, HK.out]; exact chk2_end (by have := HL.out; omega)
            clear hb HK
            go_wp2
            go_ret
            exact ⟨rfl, HB.out⟩
end Go.Proofs.YtdhgkggcnilgoaaGreatDoor

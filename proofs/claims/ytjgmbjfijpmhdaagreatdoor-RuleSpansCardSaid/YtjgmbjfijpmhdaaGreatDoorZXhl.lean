/- Contract of law 10's Light. -/
import Derived.Test.YtjgmbjfijpmhdaaGreatDoorZXh
namespace Go.Proofs.YtjgmbjfijpmhdaaGreatDoor
open Go.RowKit
set_option linter.unusedVariables false
set_option linter.unusedSimpArgs false
set_option maxHeartbeats 4000000 in
set_option maxRecDepth 100000 in
theorem light_c (x : Bk) (vCh vUn vLo vJs : Value) (js : List Jp) (w : World) (hM : BkM x vCh vUn vLo vJs js w) :
    Calls Tryz.prog 10 #[bV vCh vUn x.first vLo vJs] w fun e w' => e = .returned (.bool (lightB x)) ∧ Below w.heap.size w w' := by
  have HM := Lib.hid hM
  obtain ⟨r1, c1, rfl, m1⟩ := hM.ch.form
  obtain ⟨r2, c2, rfl, m2⟩ := hM.un.form
  obtain ⟨r3, c3, rfl, m3⟩ := hM.lo.form
  obtain ⟨rJ, cJ, rfl, mJ⟩ := hM.jr.form
  have hjl : x.journals.length = js.length := by rw [hM.je, List.length_map]
  have hje := Lib.hid hM.je
  obtain ⟨R, hR⟩ : ∃ R, lightB x = R := ⟨_, rfl⟩
  have HR : Hid (R = (x.journals.all (fun j => decide (j.lines.length ≤ 8)) && (decide (x.chart.length ≤ 20) && (decide (x.units.length ≤ 8) && (decide (x.long.length ≤ 8) && decide (x.journals.length ≤ 12)))))) := Lib.hid hR.symm
  rw [hR]
  unfold bV
  obtain ⟨L1, hL1⟩ : ∃ n, x.chart.length = n := ⟨_, rfl⟩
  obtain ⟨L2, hL2⟩ : ∃ n, x.units.length = n := ⟨_, rfl⟩
  obtain ⟨L3, hL3⟩ : ∃ n, x.long.length = n := ⟨_, rfl⟩
  obtain ⟨L, hL⟩ : ∃ n, js.length = n := ⟨_, rfl⟩
  have HL := Lib.hid hL
  rw [hL1, hL2, hL3, hjl, hL] at HR
  rw [hL1] at HM m1 ⊢
  rw [hL2] at HM m2 ⊢
  rw [hL3] at HM m3 ⊢
  rw [hL] at HM mJ ⊢
  have hb := (Below.refl w.heap.size w).alloc (Nat.le_refl _) (.cells #[.slice r1 L1 c1, .slice r2 L2 c2, .int .i16 x.first, .slice r3 L3 c3, .slice rJ L cJ] 28)
  have bx := HBox.new w [.slice r1 L1 c1, .slice r2 L2 c2, .int .i16 x.first, .slice r3 L3 c3, .slice rJ L cJ] 28
  change HBox (w.alloc (.cells #[.slice r1 L1 c1, .slice r2 L2 c2, .int .i16 x.first, .slice r3 L3 c3, .slice rJ L cJ] 28)) _ _ _ at bx
  have HX := Lib.hid bx
  have HB := Lib.hid hb
  have x4 := bx.cell (j := 4) rfl
  clear hM hR hL hL1 hL2 hL3 hjl hb bx
  go_enter Tryz.func10, Tryz.ntmps10
  go_upto_region 1 with fail
  generalize w.alloc (.cells #[.slice r1 L1 c1, .slice r2 L2 c2, .int .i16 x.first, .slice r3 L3 c3, .slice rJ L cJ] 28) = W at *
  go_wp2_with fail
  clear x4
  go_loopw [8] (fun i wr => ∃ k : Nat, i = .int .i64 k ∧ k ≤ L ∧ Hid ((x.journals.take k).all (fun j => decide (j.lines.length ≤ 8)) = true) ∧ Hid (Below w.heap.size w wr) ∧ Hid (HBox wr w.heap.size [.slice r1 L1 c1, .slice r2 L2 c2, .int .i16 x.first, .slice r3 L3 c3, .slice rJ L cJ] 28)) (fun i _ => L - (intOf i).toNat)
  case atStart => exact ⟨0, rfl, Nat.zero_le _, Lib.hid rfl, HB, HX⟩
  case round =>
    clear HB HX
    obtain ⟨k, rfl, hk, HA, HB, HX⟩ := hrel
    rename World => wr
    by_cases hlt : k < L
    · obtain ⟨⟨j, vl⟩, hp⟩ : ∃ p, js[k]? = some p := ⟨js[k]'(by have := HL.out; omega), List.getElem?_eq_getElem (by have := HL.out; omega)⟩
      have hxj : x.journals[k]? = some j := by rw [hje.out, List.getElem?_map, hp]; rfl
      have hjl := (HM.out.stay HB.out).jl _ (List.mem_of_getElem? hp)
      obtain ⟨rl, cl, e, hml⟩ := hjl.form
      simp only at e hjl hml
      subst e
      obtain ⟨gJ, oJ, rfl, hgJ, hcJ⟩ := (HM.out.stay HB.out).jr.at hp
      have y0 := hcJ 0 (.int .u8 (j.later : Int)) rfl
      have y1 := hcJ 1 (.slice rl j.lines.length cl) rfl
      simp only [Nat.add_zero] at y0
      have HXJ := Lib.hid hxj
      obtain ⟨N, hN⟩ : ∃ N, j.lines.length = N := ⟨_, rfl⟩
      rw [hN] at y1 hml
      have HN := Lib.hid hN
      have HX2 := Lib.hid (HX.out.alloc (.cells #[.int .u8 (j.later : Int), .slice rl N cl] 88))
      have HB2 := Lib.hid (HB.out.alloc HB.out.size (.cells #[.int .u8 (j.later : Int), .slice rl N cl] 88))
      clear hcJ hp hxj hjl hN
      by_cases h8 : N ≤ 8
      · have e1 : ¬ (8 : Int) < (N : Int) := by omega
        go_wp2
        go_roundw
        case rel => exact ⟨k + 1, by go_num, by omega, Lib.hid (by rw [List.take_add_one, HXJ.out]; simp only [List.all_append, HA.out, Option.toList, List.all_cons, List.all_nil, HN.out, Bool.and_true, Bool.true_and]; exact decide_eq_true h8), HB2, HX2⟩
        case measure => simp [intOf]; omega
      · have e1 : (8 : Int) < (N : Int) := by omega
        have hr : R = false := by
          rw [HR.out]
          have : x.journals.all (fun j => decide (j.lines.length ≤ 8)) = false := by
            rw [List.all_eq_false]
            exact ⟨j, List.mem_of_getElem? HXJ.out, by simp [HN.out]; omega⟩
          rw [this]; rfl
        subst hr
        go_wp2
        go_ret
        exact ⟨rfl, HB2.out⟩
    · obtain rfl : k = L := by omega
      have hall : x.journals.all (fun j => decide (j.lines.length ≤ 8)) = true := by
        have := HA.out
        rwa [List.take_of_length_le (by rw [hje.out, List.length_map, HL.out]; exact Nat.le_refl _)] at this
      have HR2 : Hid (R = (decide (L1 ≤ 20) && (decide (L2 ≤ 8) && (decide (L3 ≤ 8) && decide (k ≤ 12))))) := Lib.hid (by rw [HR.out, hall]; rfl)
      have x0 := HX.out.cell (j := 0) rfl
      have x1 := HX.out.cell (j := 1) rfl
      have x3 := HX.out.cell (j := 3) rfl
      have x4 := HX.out.cell (j := 4) rfl
      clear hall HR HA
      by_cases d1 : L1 ≤ 20
      · have e1 : decide ((L1 : Int) ≤ 20) = true := decide_eq_true (by omega)
        by_cases d2 : L2 ≤ 8
        · have e2 : decide ((L2 : Int) ≤ 8) = true := decide_eq_true (by omega)
          by_cases d3 : L3 ≤ 8
          · have e3 : decide ((L3 : Int) ≤ 8) = true := decide_eq_true (by omega)
            by_cases d4 : k ≤ 12
            · have e4 : decide ((k : Int) ≤ 12) = true := decide_eq_true (by omega)
              obtain rfl : R = true := by rw [HR2.out]; simp [d1, d2, d3, d4]
              go_wp2
              go_ret
              exact ⟨by simp, HB.out⟩
            · have e4 : decide ((k : Int) ≤ 12) = false := decide_eq_false (by omega)
              obtain rfl : R = false := by rw [HR2.out]; simp [d4]
              go_wp2
              go_ret
              exact ⟨by simp, HB.out⟩
          · have e3 : decide ((L3 : Int) ≤ 8) = false := decide_eq_false (by omega)
            obtain rfl : R = false := by rw [HR2.out]; simp [d3]
            go_wp2
            go_ret
            exact ⟨by simp, HB.out⟩
        · have e2 : decide ((L2 : Int) ≤ 8) = false := decide_eq_false (by omega)
          obtain rfl : R = false := by rw [HR2.out]; simp [d2]
          go_wp2
          go_ret
          exact ⟨by simp, HB.out⟩
      · have e1 : decide ((L1 : Int) ≤ 20) = false := decide_eq_false (by omega)
        obtain rfl : R = false := by rw [HR2.out]; simp [d1]
        go_wp2
        go_ret
        exact ⟨by simp, HB.out⟩
end Go.Proofs.YtjgmbjfijpmhdaaGreatDoor

/- Contract of law 10's has: is all of a line in a frame? -/
import Derived.Test.YtljjodahfomljaaGreatDoorXf
import Derived.BigQuiet
import Derived.Deep.QuietTactic
namespace Go.Proofs.YtljjodahfomljaaGreatDoor
open Go.RowKit
set_option linter.unusedVariables false
set_option linter.unusedSimpArgs false
theorem any_step {α : Type} {xs : List α} {k : Nat} {x : α} (p : α → Bool) (h : xs[k]? = some x) : (xs.take (k + 1)).any p = ((xs.take k).any p || p x) := by
  rw [List.take_add_one, h]
  simp
theorem below_drewX {B : Nat} {w w' : World} (h : Below B w w') (n : Nat) : Below B w (w'.drewN n) := h.trans ⟨rfl, rfl, rfl, Nat.le_refl _, fun _ _ => rfl⟩
set_option maxHeartbeats 4000000 in
set_option maxRecDepth 100000 in
theorem has_c (f : Fr) (vC vU vS : Value) (l : Ln) (w : World) (hF : FrM f vC vU vS w) :
    Calls Tryz.prog 21 #[frV vC vU vS f.E, lnV l] w fun e w' => e = .returned (.bool (hasF f l)) ∧ Below w.heap.size w w' := by
  have hmix : Tryz.prog.follows .mixedOrders = true := by kernel_rfl
  have HF := Lib.hid hF
  obtain ⟨rC, capC, rfl, hmC⟩ := hF.c.form
  obtain ⟨rU, capU, rfl, hmU⟩ := hF.u.form
  obtain ⟨LC, hLC⟩ : ∃ n, f.C.length = n := ⟨_, rfl⟩
  obtain ⟨LU, hLU⟩ : ∃ n, f.U.length = n := ⟨_, rfl⟩
  have HLC := Lib.hid hLC
  have HLU := Lib.hid hLU
  have hle := l.ent.h
  have HL : Hid (hasF f l = (f.C.any (fun a => a.code == l.acc) && f.U.any (fun n => n == l.ent.n) && (l.ctr == 0 || f.U.any (fun n => n == l.ctr)))) := Lib.hid rfl
  obtain ⟨R, hR⟩ : ∃ R, hasF f l = R := ⟨_, rfl⟩
  rw [hR] at HL ⊢
  rw [lnV_cells]
  unfold frV
  rw [hLC, hLU] at HF ⊢
  rw [hLC] at hmC
  rw [hLU] at hmU
  obtain ⟨EE, hEE⟩ : ∃ n, f.E = n := ⟨_, rfl⟩
  rw [hEE]
  clear hF hLC hLU hR hEE
  have hb := ((Below.refl w.heap.size w).alloc (Nat.le_refl _) (.cells #[.slice rC LC capC, .slice rU LU capU, vS, .int .i32 EE] 38)).alloc (by simp) (.cells #[.int .u32 (l.acc : Int), .int .u16 (l.ent.n : Int), .int .u16 (l.ctr : Int), .int .i64 l.amt] 55)
  have bf := (Box4.new w (.slice rC LC capC) (.slice rU LU capU) vS (.int .i32 EE) 38).alloc (.cells #[.int .u32 (l.acc : Int), .int .u16 (l.ent.n : Int), .int .u16 (l.ctr : Int), .int .i64 l.amt] 55)
  have s1 : (w.alloc (.cells #[.slice rC LC capC, .slice rU LU capU, vS, .int .i32 EE] 38)).heap.size = w.heap.size + 1 := by simp
  have bl := Box4.new (w.alloc (.cells #[.slice rC LC capC, .slice rU LU capU, vS, .int .i32 EE] 38)) (.int .u32 (l.acc : Int)) (.int .u16 (l.ent.n : Int)) (.int .u16 (l.ctr : Int)) (.int .i64 l.amt) 55
  rw [s1] at bl
  go_enter Tryz.func21, Tryz.ntmps21
  go_upto_region 1 with fail
  generalize (w.alloc (.cells #[.slice rC LC capC, .slice rU LU capU, vS, .int .i32 EE] 38)).alloc (.cells #[.int .u32 (l.acc : Int), .int .u16 (l.ent.n : Int), .int .u16 (l.ctr : Int), .int .i64 l.amt] 55) = W at *
  have BF := Lib.hid bf
  have BL := Lib.hid bl
  have HB := Lib.hid hb
  obtain ⟨f0, f1, f2, f3, _, _, _, _, _⟩ := bf
  obtain ⟨l0, l1, l2, l3, _, _, _, _, _⟩ := bl
  clear hb s1
  go_still hmix
  have BF1 := Lib.hid BF.out.drew
  have BL1 := Lib.hid BL.out.drew
  have HB1 := Lib.hid HB.out.drew
  change Hid (Box4 W.drew _ _ _ _ _) at BF1
  go_wp2_with fail
  go_loopw [5, 18] (fun s i wr => ∃ (k : Nat) (A : Bool), s = .bool A ∧ i = .int .i64 k ∧ k ≤ LC ∧ Hid (A = (f.C.take k).any (fun a => a.code == l.acc)) ∧ Hid (Below w.heap.size w wr) ∧ Hid (Box4 wr w.heap.size (.slice rC LC capC) (.slice rU LU capU) vS (.int .i32 EE)) ∧ Hid (Box4 wr (w.heap.size + 1) (.int .u32 (l.acc : Int)) (.int .u16 (l.ent.n : Int)) (.int .u16 (l.ctr : Int)) (.int .i64 l.amt))) (fun _ i _ => LC - (intOf i).toNat)
  case atStart => exact ⟨0, false, rfl, rfl, Nat.zero_le _, Lib.hid rfl, HB1, BF1, BL1⟩
  case round =>
    clear HB1 BF1 BL1
    obtain ⟨k, A, rfl, rfl, hk, HA, HB, BF, BL⟩ := hrel
    rename World => wr
    obtain ⟨f0, f1, f2, f3, _, _, _, _, _⟩ := BF.out
    obtain ⟨l0, l1, l2, l3, _, _, _, _, ls⟩ := BL.out
    by_cases hlt : k < LC
    · obtain ⟨a, ha⟩ : ∃ a, f.C[k]? = some a := ⟨f.C[k]'(by have := HLC.out; omega), List.getElem?_eq_getElem (by have := HLC.out; omega)⟩
      obtain ⟨g, off, rfl, hg, hc⟩ := (HF.out.stay HB.out).c.at ha
      have c0 := hc 0 _ rfl
      have c1 := hc 1 _ rfl
      have c2 := hc 2 _ rfl
      have c3 := hc 3 _ rfl
      simp only [Nat.add_zero] at c0
      have HST := Lib.hid (any_step (fun a => a.code == l.acc) ha)
      have BF2 := Lib.hid (BF.out.alloc (.cells #[.int .u32 (a.code : Int), .string a.name, .int .u8 (a.kind : Int), .int .u32 (a.par : Int)] 81))
      have BL2 := Lib.hid (BL.out.alloc (.cells #[.int .u32 (a.code : Int), .string a.name, .int .u8 (a.kind : Int), .int .u32 (a.par : Int)] 81))
      have HB2 := Lib.hid (HB.out.alloc HB.out.size (.cells #[.int .u32 (a.code : Int), .string a.name, .int .u8 (a.kind : Int), .int .u32 (a.par : Int)] 81))
      clear hc ha
      cases A with
      | true =>
        go_wp2
        go_roundw
        case rel => exact ⟨k + 1, true, rfl, by go_num, by omega, Lib.hid (by rw [HST.out, ← HA.out]; rfl), HB2, BF2, BL2⟩
        case measure => simp [intOf]; omega
      | false =>
        by_cases he : a.code = l.acc
        · have e1 : ((a.code : Int) == (l.acc : Int)) = true := by simp [he]
          have HE := Lib.hid he
          clear he
          go_wp2
          go_roundw
          case rel => exact ⟨k + 1, true, by first | rfl | simp, by go_num, by omega, Lib.hid (by rw [HST.out, ← HA.out]; simp [HE.out]), HB2, BF2, BL2⟩
          case measure => simp [intOf]; omega
        · have e1 : ((a.code : Int) == (l.acc : Int)) = false := by simp; omega
          have HE := Lib.hid he
          clear he
          go_wp2
          go_roundw
          case rel => exact ⟨k + 1, false, by first | rfl | simp, by go_num, by omega, Lib.hid (by rw [HST.out, ← HA.out]; simp [HE.out]), HB2, BF2, BL2⟩
          case measure => simp [intOf]; omega
    · obtain rfl : k = LC := by omega
      have HA2 : Hid (A = f.C.any (fun a => a.code == l.acc)) := Lib.hid (by rw [HA.out, List.take_of_length_le (by rw [HLC.out]; exact Nat.le_refl _)])
      clear HA
      go_wp2_with fail
      clear f0 f1 f2 f3 l0 l1 l2 l3
      have hcz : ((l.ctr : Int) == 0) = (l.ctr == 0) := Bool.eq_iff_iff.2 (by simp)
      go_loopw [6, 7, 34] (fun s c i wq => ∃ (m : Nat) (B C : Bool), s = .bool B ∧ c = .bool C ∧ i = .int .i64 m ∧ m ≤ LU ∧ Hid (B = (f.U.take m).any (fun n => n == l.ent.n)) ∧ Hid (C = (l.ctr == 0 || (f.U.take m).any (fun n => n == l.ctr))) ∧ Hid (Below w.heap.size w wq) ∧ Hid (Box4 wq w.heap.size (.slice rC k capC) (.slice rU LU capU) vS (.int .i32 EE)) ∧ Hid (Box4 wq (w.heap.size + 1) (.int .u32 (l.acc : Int)) (.int .u16 (l.ent.n : Int)) (.int .u16 (l.ctr : Int)) (.int .i64 l.amt))) (fun _ _ i _ => LU - (intOf i).toNat)
      case atStart => exact ⟨0, false, (l.ctr == 0), rfl, by rw [hcz], rfl, Nat.zero_le _, Lib.hid rfl, Lib.hid (by simp), HB, BF, BL⟩
      case round =>
        clear HB BF BL
        obtain ⟨m, B, C, rfl, rfl, rfl, hm, HBB, HCC, HB, BF, BL⟩ := hrel
        rename World => wq
        obtain ⟨l0, l1, l2, l3, _, _, _, _, ls⟩ := BL.out
        by_cases hlt2 : m < LU
        · obtain ⟨n, hn⟩ : ∃ n, f.U[m]? = some n := ⟨f.U[m]'(by have := HLU.out; omega), List.getElem?_eq_getElem (by have := HLU.out; omega)⟩
          obtain ⟨g, off, rfl, hg, hc⟩ := (HF.out.stay HB.out).u.at hn
          have u0 := hc 0 (.int .u16 (n : Int)) rfl
          simp only [Nat.mul_one, Nat.add_zero] at u0
          have HST1 := Lib.hid (any_step (fun n => n == l.ent.n) hn)
          have HST2 := Lib.hid (any_step (fun n => n == l.ctr) hn)
          obtain ⟨X, hX⟩ : ∃ X, ((n : Int) == (l.ent.n : Int)) = X := ⟨_, rfl⟩
          obtain ⟨Y, hY⟩ : ∃ Y, ((n : Int) == (l.ctr : Int)) = Y := ⟨_, rfl⟩
          have HX : Hid ((n == l.ent.n) = X) := Lib.hid (by rw [← hX]; exact (Bool.eq_iff_iff.2 (by simp; omega)))
          have HY : Hid ((n == l.ctr) = Y) := Lib.hid (by rw [← hY]; exact (Bool.eq_iff_iff.2 (by simp; omega)))
          clear hc hn hcz
          cases B <;> cases C
          · go_wp2_with fail
            go_quiet (fail)
            go_wp2
            go_roundw
            case rel => exact ⟨m + 1, X, Y, by first | rfl | simp, by first | rfl | simp, by go_num, by omega, Lib.hid (by rw [HST1.out, ← HBB.out, HX.out]; simp), Lib.hid (by rw [HST2.out, HY.out, ← Bool.or_assoc, ← HCC.out]; simp), Lib.hid (below_drewX HB.out _), Lib.hid (BF.out.stay (below_drewX (Below.refl _ _) _)), Lib.hid (BL.out.stay (below_drewX (Below.refl _ _) _))⟩
            case measure => simp [intOf]; omega
          · go_wp2_with fail
            go_quiet (fail)
            go_wp2
            go_roundw
            case rel => exact ⟨m + 1, X, true, by first | rfl | simp, by first | rfl | simp, by go_num, by omega, Lib.hid (by rw [HST1.out, ← HBB.out, HX.out]; simp), Lib.hid (by rw [HST2.out, HY.out, ← Bool.or_assoc, ← HCC.out]; simp), Lib.hid (below_drewX HB.out _), Lib.hid (BF.out.stay (below_drewX (Below.refl _ _) _)), Lib.hid (BL.out.stay (below_drewX (Below.refl _ _) _))⟩
            case measure => simp [intOf]; omega
          · go_wp2_with fail
            go_quiet (fail)
            go_wp2
            go_roundw
            case rel => exact ⟨m + 1, true, Y, by first | rfl | simp, by first | rfl | simp, by go_num, by omega, Lib.hid (by rw [HST1.out, ← HBB.out, HX.out]; simp), Lib.hid (by rw [HST2.out, HY.out, ← Bool.or_assoc, ← HCC.out]; simp), Lib.hid (below_drewX HB.out _), Lib.hid (BF.out.stay (below_drewX (Below.refl _ _) _)), Lib.hid (BL.out.stay (below_drewX (Below.refl _ _) _))⟩
            case measure => simp [intOf]; omega
          · go_wp2_with fail
            go_quiet (fail)
            go_wp2
            go_roundw
            case rel => exact ⟨m + 1, true, true, by first | rfl | simp, by first | rfl | simp, by go_num, by omega, Lib.hid (by rw [HST1.out, ← HBB.out, HX.out]; simp), Lib.hid (by rw [HST2.out, HY.out, ← Bool.or_assoc, ← HCC.out]; simp), Lib.hid (below_drewX HB.out _), Lib.hid (BF.out.stay (below_drewX (Below.refl _ _) _)), Lib.hid (BL.out.stay (below_drewX (Below.refl _ _) _))⟩
            case measure => simp [intOf]; omega
        · obtain rfl : m = LU := by omega
          have hR : R = (A && B && C) := by
            rw [HL.out, HA2.out, HBB.out, HCC.out, List.take_of_length_le (by rw [HLU.out]; exact Nat.le_refl _)]
          subst hR
          cases A <;> cases B <;> cases C <;>
            (go_wp2
             go_ret
             exact ⟨rfl, HB.out⟩)
end Go.Proofs.YtljjodahfomljaaGreatDoor

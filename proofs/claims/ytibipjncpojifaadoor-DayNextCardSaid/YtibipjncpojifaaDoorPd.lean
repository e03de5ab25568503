/- Contract of share's divide: each part's quotient, and its rest. -/
import Derived.Test.YtibipjncpojifaaDoorPb
import Derived.Test.YtibipjncpojifaaDoorSp
import Derived.Deep.DeepCutAuto
import Derived.RegionTactic
import Derived.Test.YtibipjncpojifaaDoorWi
namespace Go.Proofs.YtibipjncpojifaaDoor
open Go.RowKit
set_option linter.unusedVariables false
set_option linter.unusedSimpArgs false
theorem hi_small {v : Int} (h0 : 0 ≤ v) (h1 : v < 18446744073709551616 * 9223372036854775808) : hiW v = v / 18446744073709551616 := by
  unfold hiW; rw [i64w]; omega
theorem quo_part (S z T : Nat) (w : World) (hS : S ≤ 9223372036854775808) (hz : z ≤ T) (h0 : 0 < T) (hT : T ≤ 8000000) :
    Calls Tryd.prog 42 #[.agg #[.int .i64 (hiW ((S : Int) * (z : Int))), .int .u64 (loW ((S : Int) * (z : Int)))], .int .i64 (T : Int)] w fun e w' => e = .returned (.tuple #[.int .u64 ((S * z / T : Nat) : Int), .int .u64 ((S * z % T : Nat) : Int)]) ∧ Below w.heap.size w w' := by
  have h1 : S * z ≤ 9223372036854775808 * T := Nat.mul_le_mul hS hz
  have e1 : ((S * z / T : Nat) : Int) = ((S : Int) * (z : Int)) / (T : Int) := by rw [Int.natCast_ediv, Int.natCast_mul]
  have e2 : ((S * z % T : Nat) : Int) = ((S : Int) * (z : Int)) % (T : Int) := by rw [Int.natCast_emod, Int.natCast_mul]
  have e3 : (S : Int) * (z : Int) = ((S * z : Nat) : Int) := (Int.natCast_mul _ _).symm
  rw [e1, e2]
  rw [e3]
  generalize S * z = V at *
  have g1 : hiW (V : Int) = (V : Int) / 18446744073709551616 := hi_small (by omega) (by omega)
  have g2 : loW (V : Int) = (V : Int) % 18446744073709551616 := rfl
  have g3 : (V : Int) / 18446744073709551616 * 18446744073709551616 + (V : Int) % 18446744073709551616 = (V : Int) := by omega
  have h := quo_yes (hiW (V : Int)) (loW (V : Int)) (T : Int) w (by rw [g1]; omega) (by rw [g1]; omega) (WalkArith.wf_u64 (by rw [g2]; omega)) (WalkArith.wf_i64 (by omega))
  have g4 : hiW (V : Int) * 18446744073709551616 + loW (V : Int) = (V : Int) := by rw [g1, g2]; exact g3
  rw [g4] at h
  exact h
theorem box_kept {w3 w4 : World} {u v : Value} {t : TypeId} (hb : Below (w3.alloc (.cells #[u, v] t)).heap.size (w3.alloc (.cells #[u, v] t)) w4) :
    w4.cell? ⟨w3.heap.size, 0, none⟩ = some u ∧ w4.cell? ⟨w3.heap.size, 1, none⟩ = some v ∧ w4.frozen? ⟨w3.heap.size, 0, none⟩ = false ∧ w4.frozen? ⟨w3.heap.size, 1, none⟩ = false ∧ w3.heap.size < w4.heap.size := by
  have h0 : w3.heap.size < (w3.alloc (.cells #[u, v] t)).heap.size := by simp
  refine ⟨(hb.cell (p := ⟨w3.heap.size, 0, none⟩) h0).trans ?_, (hb.cell (p := ⟨w3.heap.size, 1, none⟩) h0).trans ?_, (hb.frozen (p := ⟨w3.heap.size, 0, none⟩) h0).trans ?_, (hb.frozen (p := ⟨w3.heap.size, 1, none⟩) h0).trans ?_, Nat.lt_of_lt_of_le h0 hb.size⟩
  all_goals simp
set_option maxHeartbeats 8000000 in
set_option maxRecDepth 100000 in
theorem divide_any (b off cap : Nat) (zs : List Int) (a : Int) (w : World) (ha : (Lit.int .i64 a).wf = true) (hW : Ws w b off cap zs) :
    Calls Tryd.prog 30 #[.int .i64 a, .slice (some ⟨b, off, none⟩) zs.length cap] w fun e w' =>
      ∃ B1 B2, e = .returned (.tuple #[.slice (some ⟨B1, 0, none⟩) zs.length zs.length, .slice (some ⟨B2, 0, none⟩) zs.length zs.length]) ∧ B1 ≠ B2 ∧ w.heap.size ≤ B1 ∧ w.heap.size ≤ B2 ∧
        w'.rowIs B1 55 zs.length (fun t => .int .u64 ((a.natAbs * wOf zs t / sumTo (wOf zs) zs.length : Nat) : Int)) ∧
        w'.rowIs B2 55 zs.length (fun t => .int .u64 ((a.natAbs * wOf zs t % sumTo (wOf zs) zs.length : Nat) : Int)) ∧ Below w.heap.size w w' := by
  have hba := wf_bd_i64 ha
  have hS : a.natAbs ≤ 9223372036854775808 := by omega
  have hf := hW.few
  have hp := hW.pos
  have hcap := hW.cap
  have hb := hW.blk
  have ht := hW.total
  have hmk := run_make_row' (P := Tryd.prog) 52 55 (.int .u64 0) 8 Tryd.underlying52 infoU rfl .i64 .i64 zs.length (by omega) (by omega)
  have KT := Lib.hid (total_i64 b off cap zs.length (wOf zs) w hf (fun i hi => (hW.cell i hi).1) (fun i hi => (hW.cell i hi).2.2))
  have HW := Lib.hid hW
  have hwz : ∀ j, j < zs.length → wOf zs j ≤ sumTo (wOf zs) zs.length := fun j hlt => by
    have h1 : sumTo (wOf zs) (j + 1) ≤ sumTo (wOf zs) zs.length := sumTo_mono _ hlt
    have h2 : sumTo (wOf zs) (j + 1) = sumTo (wOf zs) j + wOf zs j := rfl
    omega
  have HWZ := Lib.hid hwz
  clear hW hwz
  have SG1 := Lib.hid (fun (h : a < 0) => (abs_neg h : (a.natAbs : Int) = -a))
  have SG2 := Lib.hid (fun (h : 0 ≤ a) => (abs_pos (by omega) : (a.natAbs : Int) = a))
  generalize a.natAbs = S at *
  generalize sumTo (wOf zs) zs.length = T at *
  go_enter Tryd.func30, Tryd.ntmps30
  go_wp2_with (go_at_call 39; refine KT.out.mono ?_; rintro e w1 ⟨rfl, rfl⟩)
  go_cut [4, 5] (fun o r wr => ∃ B1 B2 : Nat, o = .slice (some ⟨B1, 0, none⟩) zs.length zs.length ∧ r = .slice (some ⟨B2, 0, none⟩) zs.length zs.length ∧ B1 ≠ B2 ∧
    wr.rowIs B1 55 zs.length (fun _ => .int .u64 0) ∧ wr.rowIs B2 55 zs.length (fun _ => .int .u64 0) ∧ w.heap.size ≤ B1 ∧ w.heap.size ≤ B2 ∧ Below w.heap.size w wr)
  case first =>
    have r1 := World.rowIs_made w (.int .u64 0) zs.length 55
    have r2 := fun o => (World.rowIs_made (w.alloc o) (.int .u64 0) zs.length 55)
    have R1 := Lib.hid r1
    have R2 := Lib.hid r2
    clear r1 r2
    go_region
    all_goals
      go_wp2
      go_meet
    · refine ⟨w.heap.size, w.heap.size + 1, rfl, rfl, by omega, (R1.out.alloc _).drew, ?_, Nat.le_refl _, by omega, ((((Below.refl _ _).alloc (Nat.le_refl _) _).alloc (by simp) _)).drew⟩
      have := R2.out (.cells (madeCells #[.int .u64 0] zs.length) 55)
      rw [World.size_alloc] at this
      exact this.drew
    · refine ⟨w.heap.size + 1, w.heap.size, rfl, rfl, by omega, ?_, (R1.out.alloc _).drew, by omega, Nat.le_refl _, ((((Below.refl _ _).alloc (Nat.le_refl _) _).alloc (by simp) _)).drew⟩
      have := R2.out (.cells (madeCells #[.int .u64 0] zs.length) 55)
      rw [World.size_alloc] at this
      exact this.drew
  case rest =>
    obtain ⟨B1, B2, rfl, rfl, hne, hr1, hr2, hb1, hb2, hB⟩ := hcut
    clear hmk
    go_wp2
    go_loopw [20] (fun i wr => ∃ j : Nat, j ≤ zs.length ∧ i = .int .i64 j ∧
      wr.rowIs B1 55 zs.length (fun t => .int .u64 (if t < j then ((S * wOf zs t / T : Nat) : Int) else 0)) ∧ wr.rowIs B2 55 zs.length (fun t => .int .u64 (if t < j then ((S * wOf zs t % T : Nat) : Int) else 0)) ∧ Below w.heap.size w wr) (fun i _ => zs.length - (RowKit.intOf i).toNat)
    case atStart => exact ⟨0, Nat.zero_le _, rfl, hr1.congr (fun t _ => by simp), hr2.congr (fun t _ => by simp), hB⟩
    case round =>
      clear hr1 hr2 hB
      obtain ⟨j, hj, rfl, hr1, hr2, hB⟩ := hrel
      rename World => wr
      by_cases hlt : j < zs.length
      · obtain ⟨hcj, hz1, hz2⟩ := HW.out.cell j hlt
        have hcw : wr.cell? ⟨b, off + j, none⟩ = some (.int .i64 ((wOf zs j : Nat) : Int)) := by rw [hB.cell (p := ⟨b, off + j, none⟩) hb]; exact hcj
        have hzT := HWZ.out j hlt
        have e1 : ∀ t, t ≠ j → (t < j + 1 ↔ t < j) := fun t h => by omega
        obtain ⟨z, hzz⟩ : ∃ z, wOf zs j = z := ⟨_, rfl⟩
        have q1 : Hid (∀ t, Value.int .u64 (if t = j then ((S * z / T : Nat) : Int) else if t < j then ((S * wOf zs t / T : Nat) : Int) else 0) = .int .u64 (if t < j + 1 then ((S * wOf zs t / T : Nat) : Int) else 0)) := fun t => by
          by_cases h : t = j
          · rw [if_pos h, if_pos (show t < j + 1 by omega), h, hzz]
          · rw [if_neg h]; simp only [e1 t h]
        have q2 : Hid (∀ t, Value.int .u64 (if t = j then ((S * z % T : Nat) : Int) else if t < j then ((S * wOf zs t % T : Nat) : Int) else 0) = .int .u64 (if t < j + 1 then ((S * wOf zs t % T : Nat) : Int) else 0)) := fun t => by
          by_cases h : t = j
          · rw [if_pos h, if_pos (show t < j + 1 by omega), h, hzz]
          · rw [if_neg h]; simp only [e1 t h]
        have HR := Lib.hid (And.intro hr1 hr2)
        rw [hzz] at hcw hz1 hz2 hzT
        have cM := Lib.hid (fun w' => mul_any a (z : Int) w' ha (WalkArith.wf_i64 (by omega)))
        have cQ := Lib.hid (fun w' => quo_part S z T w' hS hzT ht.1 ht.2)
        have cN := Lib.hid (fun w' => neg_any (a * (z : Int)) w')
        have n1 : a < 0 → -(a * (z : Int)) = (S : Int) * (z : Int) := fun h => by rw [SG1.out h, Int.neg_mul]
        have n2 : ¬ a < 0 → a * (z : Int) = (S : Int) * (z : Int) := fun h => by rw [SG2.out (by omega)]
        have N1 := Lib.hid n1
        have N2 := Lib.hid n2
        have hl1 := hr1.lt
        have hl2 := hr2.lt
        clear hr1 hr2 hcj e1 hzz n1 n2
        generalize a * (z : Int) = P at *
        generalize (S : Int) * (z : Int) = V at *
        generalize S * z / T = qq at *
        generalize S * z % T = rr at *
        by_cases hneg : a < 0
        · have nn := N1.out hneg
          rw [nn] at cN
          clear nn N1 N2
          generalize hiW P = ph at *
          generalize loW P = pl at *
          generalize hiW V = vh at *
          generalize loW V = vl at *
          go_wp2_with (first
            | (go_at_call 40; refine (cM.out _).mono ?_; rintro e w3 ⟨rfl, hb3⟩; have s3 := hb3.size)
            | (go_at_call 41; refine (cN.out _).mono ?_; rintro e w4 ⟨rfl, hb4⟩; obtain ⟨k0, k1, j0, j1, s4⟩ := box_kept hb4; have B4 : Below wr.heap.size wr w4 := (hb3.alloc s3 _).trans (hb4.mono (by rw [World.size_alloc]; omega)); clear hb4)
            | (go_at_call 42; refine (cQ.out _).mono ?_; rintro e w5 ⟨rfl, hb5⟩; go_loud (have B5 : Below wr.heap.size wr w5 := ((B4.setCell s3 _).setCell s3 _).trans (hb5.mono (by simp; omega)); have r1 := HR.out.1.of_block (B5.block _ hl1); have r2 := HR.out.2.of_block (B5.block _ hl2); have c1 := r1.cell hlt; have c2 := r2.cell hlt; have f1 := r1.frozen j; have f2 := r2.frozen j; have HR5 := Lib.hid (And.intro r1 r2); clear r1 r2)))
          go_roundw
          case rel =>
            obtain ⟨r1, r2⟩ := HR5.out
            refine ⟨j + 1, by omega, by go_num, ?_, ?_, ((hB.trans (B5.mono hB.size)).setCell hb1 _).setCell hb2 _⟩
            · refine ((r1.set j _).setOther hne _).congr (fun t _ => ?_)
              rw [← q1.out t]
              by_cases h : t = j
              · rw [if_pos h, if_pos h]
              · rw [if_neg h, if_neg h]
            · refine ((r2.setOther (fun h => hne h.symm) _).set j _).congr (fun t _ => ?_)
              rw [← q2.out t]
              by_cases h : t = j
              · rw [if_pos h, if_pos h]
              · rw [if_neg h, if_neg h]
          case measure => simp [RowKit.intOf]; omega
        · have nn := N2.out hneg
          rw [nn] at cM
          clear nn N1 N2 cN
          generalize hiW V = vh at *
          generalize loW V = vl at *
          go_wp2_with (first
            | (go_at_call 40; refine (cM.out _).mono ?_; rintro e w3 ⟨rfl, hb3⟩; have s3 := hb3.size)
            | (go_at_call 42; refine (cQ.out _).mono ?_; rintro e w5 ⟨rfl, hb5⟩; go_loud (have B5 : Below wr.heap.size wr w5 := (hb3.alloc s3 _).trans (hb5.mono (by rw [World.size_alloc]; omega)); have r1 := HR.out.1.of_block (B5.block _ hl1); have r2 := HR.out.2.of_block (B5.block _ hl2); have c1 := r1.cell hlt; have c2 := r2.cell hlt; have f1 := r1.frozen j; have f2 := r2.frozen j; have HR5 := Lib.hid (And.intro r1 r2); clear r1 r2)))
          go_roundw
          case rel =>
            obtain ⟨r1, r2⟩ := HR5.out
            refine ⟨j + 1, by omega, by go_num, ?_, ?_, ((hB.trans (B5.mono hB.size)).setCell hb1 _).setCell hb2 _⟩
            · refine ((r1.set j _).setOther hne _).congr (fun t _ => ?_)
              rw [← q1.out t]
              by_cases h : t = j
              · rw [if_pos h, if_pos h]
              · rw [if_neg h, if_neg h]
            · refine ((r2.setOther (fun h => hne h.symm) _).set j _).congr (fun t _ => ?_)
              rw [← q2.out t]
              by_cases h : t = j
              · rw [if_pos h, if_pos h]
              · rw [if_neg h, if_neg h]
          case measure => simp [RowKit.intOf]; omega
      · obtain rfl : j = zs.length := by omega
        go_wp2
        go_ret2
        exact ⟨B1, B2, rfl, hne, hb1, hb2, hr1.congr (fun t ht => by rw [if_pos ht]), hr2.congr (fun t ht => by rw [if_pos ht]), hB⟩
end Go.Proofs.YtibipjncpojifaaDoor

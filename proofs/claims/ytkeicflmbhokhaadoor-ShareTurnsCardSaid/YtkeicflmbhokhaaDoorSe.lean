/- The walk of law 3's Allot. -/
import Derived.Test.YtkeicflmbhokhaaDoorSd
import Derived.Deep.DeepCutAuto
import Derived.RegionTactic
namespace Go.Proofs.YtkeicflmbhokhaaDoor
open Go.RowKit
set_option linter.unusedVariables false
set_option linter.unusedSimpArgs false
/-- What the first loops know of the weights. -/
structure Ws (w : World) (b off cap : Nat) (zs : List Int) : Prop where
  blk : b < w.heap.size
  pos : 0 < zs.length
  few : zs.length ≤ 8
  cap : zs.length ≤ cap
  cell : ∀ i, i < zs.length → w.cell? ⟨b, off + i, none⟩ = some (.int .i64 (wOf zs i : Nat)) ∧ 1 ≤ wOf zs i ∧ wOf zs i ≤ 1000000
theorem Ws.sum {w : World} {b off cap : Nat} {zs : List Int} (h : Ws w b off cap zs) (j : Nat) (hj : j ≤ zs.length) : sumTo (wOf zs) j ≤ j * 1000000 :=
  sumTo_bound _ _ _ (fun i hi => (h.cell i (by omega)).2.2)
theorem Ws.total {w : World} {b off cap : Nat} {zs : List Int} (h : Ws w b off cap zs) : 0 < sumTo (wOf zs) zs.length ∧ sumTo (wOf zs) zs.length ≤ 8000000 := by
  have h1 := h.sum zs.length (Nat.le_refl _)
  have h2 := h.few
  have h3 := (h.cell 0 h.pos).2.1
  have h4 : sumTo (wOf zs) 1 ≤ sumTo (wOf zs) zs.length := sumTo_mono _ h.pos
  have h5 : sumTo (wOf zs) 1 = wOf zs 0 := by show 0 + wOf zs 0 = _; omega
  constructor <;> omega
/-- What the document's rounds leave of all parts, if they end. -/
def sharesL (S n : Nat) (W : Nat → Nat) : Option (Nat → Int) :=
  give n (fun t => S * W t % sumTo W n) (S - sumTo (fun t => S * W t / sumTo W n) n) (fun _ => 0) (fun t => ((S * W t / sumTo W n : Nat) : Int))
/-- Allot's answer: none, or a row of its own. -/
def Allotted (neg : Bool) (S : Nat) (zs : List Int) (w : World) (e : Ending) (w' : World) : Prop :=
  match sharesL S zs.length (wOf zs) with
  | none => e = .returned (.slice none 0 0)
  | some O => ∃ v, e = .returned v ∧ w'.ownsRow w.heap.size 2 1 v zs.length (ints (allotL neg zs.length O))
theorem allotL_step (neg : Bool) (j : Nat) (O : Nat → Int) : ints (allotL neg j O) ++ [.int .i64 (wrap64 (if neg then IntKind.u64.wrap (-(O j)) else O j))] = ints (allotL neg (j + 1) O) := by
  unfold allotL ints
  rw [List.range_succ]
  simp
theorem allotL_neg (a : Int) (j : Nat) (O : Nat → Int) (h : a < 0) : ints (allotL (decide (a < 0)) j O) ++ [.int .i64 (wrap64 (IntKind.u64.wrap (-(O j))))] = ints (allotL (decide (a < 0)) (j + 1) O) := by
  have := allotL_step (decide (a < 0)) j O
  rw [if_pos (by simpa using h)] at this
  exact this
theorem allotL_pos (a : Int) (j : Nat) (O : Nat → Int) (h : ¬ a < 0) : ints (allotL (decide (a < 0)) j O) ++ [.int .i64 (wrap64 (O j))] = ints (allotL (decide (a < 0)) (j + 1) O) := by
  have := allotL_step (decide (a < 0)) j O
  rw [if_neg (by simpa using h)] at this
  exact this
theorem owns_lower {w : World} {base base' : Nat} {e : TypeId} {size : Nat} {v : Value} {n : Nat} {xs : List Value} (h : w.ownsRow base e size v n xs) (hb : base' ≤ base) : w.ownsRow base' e size v n xs := by
  refine ⟨h.1, ?_⟩
  rcases h.2 with hn | ⟨g, cap, cur, rfl, hg, rest⟩
  · exact .inl hn
  · exact .inr ⟨g, cap, cur, rfl, by omega, rest⟩
theorem infoN : (Tryd.prog.info? 3).map (fun i => (i.zero, i.size, i.bytes)) = some (some (.int .i64 0), 1, 8) := by kernel_rfl
theorem infoU : (Tryd.prog.info? 32).map (fun i => (i.zero, i.size, i.bytes)) = some (some (.int .u64 0), 1, 8) := by kernel_rfl
set_option maxHeartbeats 8000000 in
set_option maxRecDepth 100000 in
theorem lallot_any (b off cap : Nat) (zs : List Int) (a : Int) (w : World) (ha : (Lit.int .i64 a).wf = true) (hW : Ws w b off cap zs) :
    Calls Tryd.prog 12 #[.int .i64 a, .slice (some ⟨b, off, none⟩) zs.length cap] w fun e w' => Allotted (decide (a < 0)) a.natAbs zs w e w' ∧ Below w.heap.size w w' := by
  have hba := wf_bd_i64 ha
  have k1 : a < 0 → IntKind.u64.wrap (-IntKind.u64.wrap a) = (a.natAbs : Int) := fun h => size_neg ha h
  have k2 : 0 ≤ a → IntKind.u64.wrap a = (a.natAbs : Int) := fun h => size_pos ha h
  have hS : a.natAbs ≤ 9223372036854775808 := by omega
  have hf := hW.few
  have hp := hW.pos
  have hc := hW.cap
  have hb := hW.blk
  have ht := hW.total
  have hmk := run_make_row' (P := Tryd.prog) 43 32 (.int .u64 0) 8 Tryd.underlying43 infoU rfl .i64 .i64 zs.length (by omega) (by omega)
  generalize a.natAbs = S at *
  obtain ⟨nb, hnb⟩ : ∃ nb, nb = decide (a < 0) := ⟨_, rfl⟩
  rw [← hnb]
  have NB := Lib.hid hnb
  clear hnb
  go_enter Tryd.func12, Tryd.ntmps12
  go_upto_if 24 with (fail)
  go_cut [6] (fun s wr => s = .int .u64 (S : Int) ∧ w = wr)
  case first =>
    by_cases hneg : a < 0
    · have k1' := k1 hneg
      go_wp2
      go_meet
      exact ⟨rfl, rfl⟩
    · have k2' := k2 (by omega)
      go_wp2
      go_meet
      exact ⟨rfl, rfl⟩
  case rest =>
    obtain ⟨rfl, rfl⟩ := hcut
    go_wp2
    go_loop [5, 29] (fun t i => ∃ j : Nat, j ≤ zs.length ∧ i = .int .i64 j ∧ t = .int .i64 ((sumTo (wOf zs) j : Nat) : Int)) (fun _ i => zs.length - (RowKit.intOf i).toNat)
    case atStart => exact ⟨0, Nat.zero_le _, rfl, rfl⟩
    case round =>
      obtain ⟨j, hj, rfl, rfl⟩ := hrel
      by_cases hlt : j < zs.length
      · obtain ⟨hcj, hz1, hz2⟩ := hW.cell j hlt
        have hsb := hW.sum j hj
        have Hsj := Lib.hid (show sumTo (wOf zs) (j + 1) = sumTo (wOf zs) j + wOf zs j from rfl)
        generalize sumTo (wOf zs) j = t at *
        generalize wOf zs j = x at *
        clear hmk
        go_wp2
        go_round
        case rel => exact ⟨j + 1, by omega, by go_num, int_int (by rw [Hsj.out]; push_cast; rfl)⟩
        case measure => simp [RowKit.intOf]; omega
      · obtain rfl : j = zs.length := by omega
        generalize hT : sumTo (wOf zs) zs.length = T at *
        go_wp2
        go_cut [9, 10, 11] (fun o r l wr => ∃ B1 B2 : Nat, o = .slice (some ⟨B1, 0, none⟩) zs.length zs.length ∧ r = .slice (some ⟨B2, 0, none⟩) zs.length zs.length ∧ l = .int .u64 (S : Int) ∧ B1 ≠ B2 ∧
          wr.rowIs B1 32 zs.length (fun _ => .int .u64 0) ∧ wr.rowIs B2 32 zs.length (fun _ => .int .u64 0) ∧ w.heap.size ≤ B1 ∧ w.heap.size ≤ B2 ∧ Below w.heap.size w wr)
        case first =>
          have r1 := World.rowIs_made w (.int .u64 0) zs.length 32
          have r2 := fun o => (World.rowIs_made (w.alloc o) (.int .u64 0) zs.length 32)
          have R1 := Lib.hid r1
          have R2 := Lib.hid r2
          clear r1 r2
          go_region
          all_goals
            go_wp2
            go_meet
          · refine ⟨w.heap.size, w.heap.size + 1, rfl, rfl, rfl, by omega, (R1.out.alloc _).drew, ?_, Nat.le_refl _, by omega, ((((Below.refl _ _).alloc (Nat.le_refl _) _).alloc (by simp) _)).drew⟩
            have := R2.out (.cells (madeCells #[.int .u64 0] zs.length) 32)
            rw [World.size_alloc] at this
            exact this.drew
          · refine ⟨w.heap.size + 1, w.heap.size, rfl, rfl, rfl, by omega, ?_, (R1.out.alloc _).drew, by omega, Nat.le_refl _, ((((Below.refl _ _).alloc (Nat.le_refl _) _).alloc (by simp) _)).drew⟩
            have := R2.out (.cells (madeCells #[.int .u64 0] zs.length) 32)
            rw [World.size_alloc] at this
            exact this.drew
        case rest =>
          obtain ⟨B1, B2, rfl, rfl, rfl, hne, hr1, hr2, hb1, hb2, hB⟩ := hcut
          have hqs := quos_le S T zs.length (wOf zs) hT.symm ht.1
          have HQ := Lib.hid hqs
          clear hqs hmk
          go_wp2
          go_loopw [11, 46] (fun l i wr => ∃ j : Nat, j ≤ zs.length ∧ i = .int .i64 j ∧ l = .int .u64 ((S - sumTo (fun i => S * wOf zs i / T) j : Nat) : Int) ∧
            wr.rowIs B1 32 zs.length (fun t => .int .u64 (if t < j then ((S * wOf zs t / T : Nat) : Int) else 0)) ∧ wr.rowIs B2 32 zs.length (fun t => .int .u64 (if t < j then ((S * wOf zs t % T : Nat) : Int) else 0)) ∧ Below w.heap.size w wr) (fun _ i _ => zs.length - (RowKit.intOf i).toNat)
          case atStart => exact ⟨0, Nat.zero_le _, rfl, rfl, hr1.congr (fun t _ => by simp), hr2.congr (fun t _ => by simp), hB⟩
          case round =>
            clear hr1 hr2 hB
            obtain ⟨j, hj, rfl, rfl, hr1, hr2, hB⟩ := hrel
            rename World => wr
            by_cases hlt : j < zs.length
            · obtain ⟨hcj, hz1, hz2⟩ := hW.cell j hlt
              have hcw : wr.cell? ⟨b, off + j, none⟩ = some (.int .i64 ((wOf zs j : Nat) : Int)) := by rw [hB.cell (p := ⟨b, off + j, none⟩) hb]; exact hcj
              have hWT : wOf zs j ≤ T := by
                have h1 : sumTo (wOf zs) (j + 1) ≤ sumTo (wOf zs) zs.length := sumTo_mono _ hlt
                have h2 : sumTo (wOf zs) (j + 1) = sumTo (wOf zs) j + wOf zs j := rfl
                omega
              have hqS : S * wOf zs j / T ≤ S := by
                have h1 : S * wOf zs j ≤ S * T := Nat.mul_le_mul_left _ hWT
                exact Nat.div_le_of_le_mul (by rw [Nat.mul_comm T S]; exact h1)
              have cq := fun w' => lquo_any S (wOf zs j) T w' (by omega) (by omega) ht.1 (by omega) (by omega)
              have hsum : sumTo (fun i => S * wOf zs i / T) (j + 1) = sumTo (fun i => S * wOf zs i / T) j + S * wOf zs j / T := rfl
              have hle : sumTo (fun i => S * wOf zs i / T) (j + 1) ≤ S := Nat.le_trans (sumTo_mono _ hlt) HQ.out
              rw [hsum] at hle
              have Hsum := Lib.hid hsum
              have HR := Lib.hid (And.intro hr1 hr2)
              clear hsum hr1 hr2 hcj
              have e1 : ∀ t, t ≠ j → (t < j + 1 ↔ t < j) := fun t h => by omega
              generalize hqq : S * wOf zs j / T = qq at *
              generalize hrr : S * wOf zs j % T = rr at *
              generalize sumTo (fun i => S * wOf zs i / T) j = ss at *
              have HQR := Lib.hid (And.intro hqq hrr)
              clear hqq hrr
              go_wp2_with (go_at_call 24; refine (cq _).mono ?_; rintro e w3 ⟨rfl, hb3⟩; have hr1 := HR.out.1.of_block (hb3.block _ HR.out.1.lt); have hr2 := HR.out.2.of_block (hb3.block _ HR.out.2.lt); have c1 := hr1.cell hlt; have c2 := hr2.cell hlt; have f1 := hr1.frozen j; have f2 := hr2.frozen j; have hB3 := hB.trans (hb3.mono hB.size); have HR3 := Lib.hid (And.intro hr1 hr2); clear hr1 hr2)
              go_roundw
              case rel =>
                obtain ⟨r1, r2⟩ := HR3.out
                obtain ⟨q1, q2⟩ := HQR.out
                refine ⟨j + 1, by omega, by go_num, int_int (by rw [Hsum.out]; omega), ?_, ?_, (hB3.setCell hb1 _).setCell hb2 _⟩
                · refine ((r1.set j _).setOther hne _).congr (fun t _ => ?_)
                  by_cases h : t = j
                  · subst h; rw [if_pos rfl, if_pos (by omega), q1]
                  · rw [if_neg h]; exact int_int (by simp only [e1 t h])
                · refine ((r2.setOther (fun h => hne h.symm) _).set j _).congr (fun t _ => ?_)
                  by_cases h : t = j
                  · subst h; rw [if_pos rfl, if_pos (by omega), q2]
                  · rw [if_neg h]; exact int_int (by simp only [e1 t h])
              case measure => simp [RowKit.intOf]; omega
            · obtain rfl : j = zs.length := by omega
              have hmk2 := run_make_row' (P := Tryd.prog) 48 3 (.int .i64 0) 8 Tryd.underlying48 infoN rfl .i64 .i64 zs.length (by omega) (by omega)
              go_wp2
              have hlt1 := hr1.lt
              have hlt2 := hr2.lt
              have g1 : (wr.alloc (.cells (madeCells #[.int .i64 0] zs.length) 3)).rowIs B1 32 zs.length (fun t => .int .u64 ((S * wOf zs t / T : Nat) : Int)) := (hr1.alloc _).congr (fun t ht => by rw [if_pos ht])
              have g2 : (wr.alloc (.cells (madeCells #[.int .i64 0] zs.length) 3)).rowIs B2 32 zs.length (fun t => .int .u64 ((S * wOf zs t % T : Nat) : Int)) := (hr2.alloc _).congr (fun t ht => by rw [if_pos ht])
              have g3 := World.rowIs_made wr (.int .i64 0) zs.length 3
              have g4 : Below w.heap.size w (wr.alloc (.cells (madeCells #[.int .i64 0] zs.length) 3)) := hB.alloc hB.size _
              have hb3 := hB.size
              clear hr1 hr2 hmk2 hB
              generalize wr.alloc (.cells (madeCells #[.int .i64 0] zs.length) 3) = w4 at *
              generalize wr.heap.size = B3 at *
              have hL0 : S - sumTo (fun i => S * wOf zs i / T) zs.length ≤ S := by omega
              have hF : sharesL S zs.length (wOf zs) = give zs.length (fun t => S * wOf zs t % T) (S - sumTo (fun i => S * wOf zs i / T) zs.length) (fun _ => 0) (fun t => ((S * wOf zs t / T : Nat) : Int)) := by unfold sharesL; rw [hT]
              generalize S - sumTo (fun i => S * wOf zs i / T) zs.length = L0 at *
              generalize hRf : (fun t => S * wOf zs t % T) = R at *
              have g2' : w4.rowIs B2 32 zs.length (fun t => .int .u64 ((R t : Nat) : Int)) := by rw [← hRf]; exact g2
              generalize hQf : (fun t => ((S * wOf zs t / T : Nat) : Int)) = Q0 at *
              have g1' : w4.rowIs B1 32 zs.length (fun t => .int .u64 (Q0 t)) := by rw [← hQf]; exact g1
              have HF := Lib.hid hF
              clear g1 g2 hF
              go_loopw [11] (fun l wq => ∃ (m : Nat) (G O : Nat → Int), m ≤ S ∧ l = .int .u64 (m : Int) ∧ give zs.length R m G O = give zs.length R L0 (fun _ => 0) Q0 ∧
                wq.rowIs B1 32 zs.length (fun t => .int .u64 (O t)) ∧ wq.rowIs B2 32 zs.length (fun t => .int .u64 ((R t : Nat) : Int)) ∧ wq.rowIs B3 3 zs.length (fun t => .int .i64 (G t)) ∧ Below w.heap.size w wq) (fun l _ => (RowKit.intOf l).toNat)
              case atStart => exact ⟨L0, fun _ => 0, Q0, hL0, rfl, rfl, g1', g2', g3, g4⟩
              case round =>
                clear g1' g2' g3 g4
                obtain ⟨m, G, O, hm, rfl, hgv, r1, r2, r3, hBq⟩ := hrel
                rename World => wq
                by_cases hm0 : m = 0
                · subst hm0
                  have c1 := fun (t : Nat) (ht : t < zs.length) => r1.cell ht
                  have hN1 := r1.lt
                  have C1 := Lib.hid c1
                  have HG := Lib.hid hgv
                  clear r1 r2 r3 hgv c1
                  obtain ⟨i0, hi, hz0, hz1, hz2⟩ := infoI
                  go_wp2
                  go_loopw [18, 117] (fun v i wz => ∃ j : Nat, j ≤ zs.length ∧ i = .int .i64 j ∧ wz.ownsRow wq.heap.size 2 1 v j (ints (allotL nb j O)) ∧ Below wq.heap.size wq wz) (fun _ i _ => zs.length - (RowKit.intOf i).toNat)
                  case atStart => exact ⟨0, Nat.zero_le _, rfl, World.ownsRow_nil _ _ _ _, Below.refl _ _⟩
                  case round =>
                    obtain ⟨j, hj, rfl, hown, hBz⟩ := hrel
                    rename World => wz
                    by_cases hlt : j < zs.length
                    · have hc1 := C1.out j hlt
                      have hc' : wz.cell? ⟨B1, j, none⟩ = some (.int .u64 (O j)) := by rw [hBz.cell (p := ⟨B1, j, none⟩) hN1]; exact hc1
                      have En := Lib.hid (show a < 0 → ints (allotL nb j O) ++ [.int .i64 (wrap64 (IntKind.u64.wrap (-(O j))))] = ints (allotL nb (j + 1) O) from fun h => by have := allotL_neg a j O h; rw [← NB.out] at this; exact this)
                      have Ep := Lib.hid (show ¬ a < 0 → ints (allotL nb j O) ++ [.int .i64 (wrap64 (O j))] = ints (allotL nb (j + 1) O) from fun h => by have := allotL_pos a j O h; rw [← NB.out] at this; exact this)
                      have hs := hBz.size
                      clear hc1
                      generalize hx : O j = x at *
                      by_cases hneg : a < 0
                      · go_wp2_with (at_builtin; refine wpList_append_own _ rfl (.tmp 125) (.tmp 128) 24 rfl wq.heap.size 2 i0 (.int .i64 0) 1 8 Tryd.underlying24 hi hz0 hz1 hz2 rfl (by decide) _ j _ rfl (hown.alloc _) ⟨wz.heap.size, 0, none⟩ 1 1 [.int .i64 (wrap64 (IntKind.u64.wrap (-x)))] rfl rfl (cell_one_new _ _ _) (fun u hu => by simp at hu; subst hu; rfl) (by unfold maxLen; omega) (by omega) (by simp; omega) ?_; intro v' w3 hown' hgrow3 hnil3)
                        go_roundw
                        case rel =>
                          refine ⟨_, _, _, ⟨j + 1, by omega, by go_num, ?_, (hBz.alloc hs _).grown hgrow3 (by simp; omega) (fun g hg => (hown.lt g hg).1)⟩, rfl, rfl, rfl⟩
                          rw [← En.out hneg]; exact hown'
                        case measure => simp [RowKit.intOf]; omega
                      · go_wp2_with (at_builtin; refine wpList_append_own _ rfl (.tmp 125) (.tmp 128) 24 rfl wq.heap.size 2 i0 (.int .i64 0) 1 8 Tryd.underlying24 hi hz0 hz1 hz2 rfl (by decide) _ j _ rfl (hown.alloc _) ⟨wz.heap.size, 0, none⟩ 1 1 [.int .i64 (wrap64 x)] rfl rfl (cell_one_new _ _ _) (fun u hu => by simp at hu; subst hu; rfl) (by unfold maxLen; omega) (by omega) (by simp; omega) ?_; intro v' w3 hown' hgrow3 hnil3)
                        go_roundw
                        case rel =>
                          refine ⟨_, _, _, ⟨j + 1, by omega, by go_num, ?_, (hBz.alloc hs _).grown hgrow3 (by simp; omega) (fun g hg => (hown.lt g hg).1)⟩, rfl, rfl, rfl⟩
                          rw [← Ep.out hneg]; exact hown'
                        case measure => simp [RowKit.intOf]; omega
                    · obtain rfl : j = zs.length := by omega
                      go_wp2
                      go_ret
                      refine ⟨?_, hBq.trans (hBz.mono hBq.size)⟩
                      unfold Allotted
                      rw [HF.out, ← HG.out]
                      exact ⟨_, rfl, owns_lower hown hBq.size⟩
                · obtain ⟨m', rfl⟩ : ∃ m', m = m' + 1 := ⟨m - 1, by omega⟩
                  have hne13 : B1 ≠ B3 := by omega
                  have hne23 : B2 ≠ B3 := by omega
                  have HR := Lib.hid (And.intro r1 (And.intro r2 r3))
                  have HG := Lib.hid hgv
                  clear r1 r2 r3 hgv
                  go_wp2
                  go_loop [15, 80] (fun x i => ∃ j : Nat, j ≤ zs.length ∧ i = .int .i64 j ∧ x = .int .i64 (bst G R j)) (fun _ i => zs.length - (RowKit.intOf i).toNat)
                  case atStart => exact ⟨0, Nat.zero_le _, rfl, rfl⟩
                  case round =>
                    obtain ⟨j, hj, rfl, rfl⟩ := hrel
                    have hbr := bst_range G R j
                    by_cases hlt : j < zs.length
                    · have c2 := HR.out.2.1.cell hlt
                      have c3 := HR.out.2.2.cell hlt
                      have Hst := Lib.hid (show bst G R (j + 1) = if G j = 0 ∧ (bst G R j < 0 ∨ R (bst G R j).toNat < R j) then (j : Int) else bst G R j from rfl)
                      generalize bst G R j = x at *
                      by_cases hG : G j = 0
                      · rw [hG] at c3
                        by_cases hbn : x < 0
                        · obtain rfl : x = -1 := by omega
                          have Hst' := Lib.hid (Hst.out.trans (if_pos ⟨hG, .inl (by omega)⟩))
                          clear Hst hG
                          go_wp2
                          go_round
                          case rel => exact ⟨j + 1, by omega, by go_num, int_int Hst'.out.symm⟩
                          case measure => simp [RowKit.intOf]; omega
                        · obtain ⟨q, rfl⟩ : ∃ q : Nat, x = q := ⟨x.toNat, by omega⟩
                          have hq : q < zs.length := by omega
                          have cq := HR.out.2.1.cell hq
                          by_cases hr : R q < R j
                          · have Hst' := Lib.hid (Hst.out.trans (if_pos ⟨hG, .inr (by simpa using hr)⟩))
                            have hr' : ((R q : Nat) : Int) < ((R j : Nat) : Int) := by omega
                            clear Hst hG
                            go_wp2
                            go_round
                            case rel => exact ⟨j + 1, by omega, by go_num, int_int Hst'.out.symm⟩
                            case measure => simp [RowKit.intOf]; omega
                          · have Hst' := Lib.hid (Hst.out.trans (if_neg (by rintro ⟨_, h | h⟩ <;> first | omega | exact hr (by simpa using h))))
                            have hr' : ¬ ((R q : Nat) : Int) < ((R j : Nat) : Int) := by omega
                            clear Hst hG
                            go_wp2
                            go_round
                            case rel => exact ⟨j + 1, by omega, by go_num, int_int Hst'.out.symm⟩
                            case measure => simp [RowKit.intOf]; omega
                      · have Hst' := Lib.hid (Hst.out.trans (if_neg (fun h => hG h.1)))
                        clear Hst
                        go_wp2
                        go_round
                        case rel => exact ⟨_, _, _, _, ⟨j + 1, by omega, by go_num, int_int Hst'.out.symm⟩, rfl, rfl, rfl, rfl⟩
                        case measure => simp [RowKit.intOf]; omega
                    · obtain rfl : j = zs.length := by omega
                      have Hgv : Hid (give zs.length R (m' + 1) G O = if bst G R zs.length < 0 then none else give zs.length R m' (fun j => if j = (bst G R zs.length).toNat then 1 else G j) (fun j => if j = (bst G R zs.length).toNat then IntKind.u64.wrap (O j + 1) else O j)) := Lib.hid rfl
                      generalize bst G R zs.length = x at *
                      by_cases hbn : x < 0
                      · have Hn := Lib.hid (HG.out.symm.trans (Hgv.out.trans (if_pos hbn)))
                        clear Hgv HG
                        go_wp2
                        go_ret
                        refine ⟨?_, hBq⟩
                        unfold Allotted
                        rw [HF.out, Hn.out]
                        rfl
                      · obtain ⟨q, rfl⟩ : ∃ q : Nat, x = q := ⟨x.toNat, by omega⟩
                        have hq : q < zs.length := by omega
                        have Hn := Lib.hid ((Hgv.out.trans (if_neg hbn)).symm.trans HG.out)
                        clear Hgv HG
                        have c3 := HR.out.2.2.cell hq
                        have f3 := HR.out.2.2.frozen q
                        have s1 := (HR.out.1.setOther (a := ⟨B3, q, none⟩) hne13 (.int .i64 1)).cell hq
                        have s2 := (HR.out.1.setOther (a := ⟨B3, q, none⟩) hne13 (.int .i64 1)).frozen q
                        go_wp2
                        go_roundw
                        case rel =>
                          obtain ⟨r1, r2, r3⟩ := HR.out
                          refine ⟨m', _, _, by omega, by go_num, Hn.out, ?_, ?_, ?_, (hBq.setCell hb3 _).setCell hb1 _⟩
                          · refine ((r1.setOther (a := ⟨B3, q, none⟩) hne13 _).set q _).congr (fun t _ => ?_)
                            by_cases h : t = q
                            · subst h; simp
                            · simp [h]
                          · exact (r2.setOther (a := ⟨B3, q, none⟩) hne23 _).setOther (a := ⟨B1, q, none⟩) (fun h => hne h.symm) _
                          · refine ((r3.set q _).setOther (a := ⟨B1, q, none⟩) (fun h => hne13 h.symm) _).congr (fun t _ => ?_)
                            by_cases h : t = q
                            · subst h; simp
                            · simp [h]
                        case measure => simp [RowKit.intOf]
end Go.Proofs.YtkeicflmbhokhaaDoor

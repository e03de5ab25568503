/- Contract of law 6's Make: the chart that it makes. -/
import Derived.Test.YtafmakhhdinknaaGreatDoorLawa
import Derived.Deep.RegionHeld3
import Derived.Deep.RegionWith
import Derived.Test.YtafmakhhdinknaaGreatDoorOne
import Derived.Deep.DeepCutAuto
import Derived.Test.YtafmakhhdinknaaGreatDoorNall
import Derived.OwnWalk
import Derived.Test.YtafmakhhdinknaaGreatDoorTall
namespace Go.Proofs.YtafmakhhdinknaaGreatDoor
open Go.RowKit
set_option linter.unusedVariables false
set_option linter.unusedSimpArgs false
theorem Recs.cellsQ {w : World} {g off i : Nat} {x : Qt} (h : ∀ j u, (qc x)[j]? = some u → w.cell? ⟨g, off + i * 4 + j, none⟩ = some u) :
    w.cell? ⟨g, off + i * 4, none⟩ = some (.int .u8 (x.code : Int)) ∧ w.cell? ⟨g, off + i * 4 + 1, none⟩ = some (.int .u8 (x.kind : Int)) ∧ w.cell? ⟨g, off + i * 4 + 2, none⟩ = some (.int .u8 (x.par : Int)) ∧ w.cell? ⟨g, off + i * 4 + 3, none⟩ = some (.int .u8 (x.name : Int)) :=
  ⟨h 0 _ rfl, h 1 _ rfl, h 2 _ rfl, h 3 _ rfl⟩
theorem cell_on {W w1 : World} (hb : Below W.heap.size W w1) {p : Addr} {v : Value} (h : W.cell? p = some v) : w1.cell? p = some v := by
  rw [hb.cell (World.block_lt_of_cell? W p h)]; exact h
theorem frozen_on {W w1 : World} (hb : Below W.heap.size W w1) {p : Addr} (h : p.block < W.heap.size) (hf : W.frozen? p = false) : w1.frozen? p = false := by
  rw [hb.frozen h]; exact hf
set_option maxHeartbeats 4000000 in
set_option maxRecDepth 100000 in
theorem make_c (v : Value) (l : List Qt) (w : World) (hR : Recs qc 4 w v l) :
    Calls Tryz.prog 85 #[v] w fun e w' => ∃ v', e = .returned v' ∧ w'.ownsRow w.heap.size 84 4 v' (mkC l).length ((mkC l).flatMap cc) ∧ Below w.heap.size w w' := by
  obtain ⟨i0, hi, hz0, hz1, hz2⟩ := info_parts info35
  obtain ⟨r0, cap0, rfl, hm⟩ := hR.form
  have HR := Lib.hid hR
  obtain ⟨L, hL⟩ : ∃ L, l.length = L := ⟨_, rfl⟩
  have HL := Lib.hid hL
  obtain ⟨M, hM⟩ : ∃ M, mkC l = M := ⟨_, rfl⟩
  have HM := Lib.hid (show (stI l (min 40 L)).1 = M by rw [← hM, ← hL]; rfl)
  rw [hM]
  rw [hL] at HR hm ⊢
  clear hR hL hM
  go_enter Tryz.func85, Tryz.ntmps85
  go_wp2
  go_loopw [3, 4, 11] (fun s3 s4 i wr => ∃ (k C : Nat) (r : Option Addr) (cap : Nat) (c : List Ac), s3 = .slice r k cap ∧ s4 = .int .u32 (C : Int) ∧ i = .int .i64 k ∧ k ≤ L ∧ k ≤ 40 ∧ C ≤ 4 * k ∧ wr.ownsRow w.heap.size 84 4 (.slice r k cap) k (c.flatMap cc) ∧ Hid (c.length = k ∧ stI l k = (c, C)) ∧ Below w.heap.size w wr) (fun _ _ i _ => L - (intOf i).toNat)
  case atStart => exact ⟨0, 0, none, 0, [], rfl, rfl, rfl, Nat.zero_le _, Nat.zero_le _, Nat.le_refl _, World.ownsRow_nil _ _ _ _, Lib.hid ⟨rfl, rfl⟩, Below.refl _ _⟩
  case round =>
    obtain ⟨k, C, r, cap, c, rfl, rfl, rfl, hk, hk4, hC, hown, HC, hb⟩ := hrel
    rename World => wr
    have hbs := hb.size
    by_cases hlt : k < L
    · obtain ⟨x, hx⟩ : ∃ x, l[k]? = some x := ⟨l[k]'(by have := HL.out; omega), List.getElem?_eq_getElem (by have := HL.out; omega)⟩
      obtain ⟨g, off, rfl, hg, hc⟩ := (HR.out.stay hb).at hx
      obtain ⟨c0, c1, c2, c3⟩ := Recs.cellsQ hc
      by_cases h40 : k = 40
      · have hd : ((k : Int) == 40) = true := by simp; omega
        have HE : Hid (c = M) := Lib.hid (by rw [← HM.out, show min 40 L = k by omega, HC.out.2])
        have HB := Lib.hid hb
        have HO := Lib.hid hown
        clear hb hown hx hc h40
        go_wp2
        go_ret
        refine ⟨_, rfl, ?_, HB.out.alloc (by omega) _⟩
        rw [← HE.out, HC.out.1]
        exact HO.out.alloc _
      · have hd : ((k : Int) == 40) = false := by simp; omega
        have hk41 : k + 1 ≤ 40 := by omega
        have hQ : x.code % 4 < 4 := Nat.mod_lt _ (by omega)
        obtain ⟨C', hC'⟩ : ∃ C', C + 1 + x.code % 4 = C' := ⟨_, rfl⟩
        have e1 : (C : Int) + (1 + (x.code : Int) % 4) = (C' : Int) := by omega
        have hC4 : C' ≤ 4 * (k + 1) := by omega
        obtain ⟨kd, hkd⟩ : ∃ kd, x.kind % 5 = kd := ⟨_, rfl⟩
        have e2 : (x.kind : Int) % 5 = (kd : Int) := by omega
        have HX := Lib.hid (And.intro hx (And.intro hC' hkd))
        have HB := Lib.hid hb
        have HO := Lib.hid hown
        have KN := Lib.hid (fun w => lname_c x.name w)
        clear hb hown hx hc h40 hQ hC' hkd
        go_upto_region 8 with fail
        have hX : wr.heap.size < (wr.alloc (.cells #[.int .u8 (x.code : Int), .int .u8 (x.kind : Int), .int .u8 (x.par : Int), .int .u8 (x.name : Int)] 152)).heap.size := by simp
        have x0 := box_cell wr #[.int .u8 (x.code : Int), .int .u8 (x.kind : Int), .int .u8 (x.par : Int), .int .u8 (x.name : Int)] 152 0 _ rfl
        have x1 := box_cell wr #[.int .u8 (x.code : Int), .int .u8 (x.kind : Int), .int .u8 (x.par : Int), .int .u8 (x.name : Int)] 152 1 _ rfl
        have x2 := box_cell wr #[.int .u8 (x.code : Int), .int .u8 (x.kind : Int), .int .u8 (x.par : Int), .int .u8 (x.name : Int)] 152 2 _ rfl
        have x3 := box_cell wr #[.int .u8 (x.code : Int), .int .u8 (x.kind : Int), .int .u8 (x.par : Int), .int .u8 (x.name : Int)] 152 3 _ rfl
        have HB1 := Lib.hid (HB.out.alloc hbs (.cells #[.int .u8 (x.code : Int), .int .u8 (x.kind : Int), .int .u8 (x.par : Int), .int .u8 (x.name : Int)] 152))
        have HO1 := Lib.hid (HO.out.alloc (.cells #[.int .u8 (x.code : Int), .int .u8 (x.kind : Int), .int .u8 (x.par : Int), .int .u8 (x.name : Int)] 152))
        generalize wr.alloc (.cells #[.int .u8 (x.code : Int), .int .u8 (x.kind : Int), .int .u8 (x.par : Int), .int .u8 (x.name : Int)] 152) = W1 at *
        generalize wr.heap.size = X at *
        go_cut [7] (fun s7 wx => ∃ G : Nat, s7 = .pointer (some ⟨G, 0, none⟩) ∧ W1.heap.size ≤ G ∧ Box4 wx G (.int .u32 (C' : Int)) (.string (nm5 (x.name % 5))) (.int .u8 (kd : Int)) (.int .u32 0) ∧ Below W1.heap.size W1 wx)
        case first =>
          clear HB HO HX HR HC HM HB1 HO1
          generalize nm5 (x.name % 5) = NM at *
          refine wp_region_any (by kernel_rfl) ?_
          change wpAny _ _ _ _ _ _ _ (World.drew _)
          have bl0 : Below W1.heap.size W1 W1.drew := (Below.refl _ _).drew
          refine take_op (i := 0) (.move (.tmp 4)) (some 25) (.int .u32 (C' : Int)) (by unfold opWants; kernel_rfl) (by kernel_rfl) (by kernel_rfl) (by kernel_rfl) (fun _ _ _ h => h) (fun o ho w' => ?_) ?_
          · unfold execOp; simp only [ho]; go_simp
          simp only [Act.put, List.setIfInBounds_toArray, List.set_cons_zero, List.set_cons_succ]
          refine take_op (i := 1) (.fieldAddr 152 (.tmp 6) 3) (some 26) (.pointer (some ⟨X, 3, none⟩)) (by unfold opWants; kernel_rfl) (by kernel_rfl) (by kernel_rfl) (by kernel_rfl) (fun _ _ _ h => h) (fun o ho w' => ?_) ?_
          · unfold execOp; simp only [ho]; go_simp
          simp only [Act.put, List.setIfInBounds_toArray, List.set_cons_zero, List.set_cons_succ]
          refine take_op (i := 4) (.fieldAddr 152 (.tmp 6) 1) (some 29) (.pointer (some ⟨X, 1, none⟩)) (by unfold opWants; kernel_rfl) (by kernel_rfl) (by kernel_rfl) (by kernel_rfl) (fun _ _ _ h => h) (fun o ho w' => ?_) ?_
          · unfold execOp; simp only [ho]; go_simp
          simp only [Act.put, List.setIfInBounds_toArray, List.set_cons_zero, List.set_cons_succ]
          refine any3 2 5 8 (by kernel_rfl) ?_ ?_ ?_
          · skip
            refine op_load 5 (.tmp 26) (some 27) (by unfold opIs; kernel_rfl) (.pointer (some ⟨X, 3, none⟩)) (.int .u8 (x.name : Int)) (by kernel_rfl) (load_u8 _ _ _ _ ((bl0.cell (p := ⟨X, 3, none⟩) hX).trans x3)) ?_
            simp only [Act.put, List.setIfInBounds_toArray, List.set_cons_zero, List.set_cons_succ]
            refine any3 3 5 8 (by kernel_rfl) ?_ ?_ ?_
            · skip
              refine op_call (.call { callee := .value (.func 105), args := #[.tmp 27], argTypes := #[5] }) (some 28) (by unfold opIs; kernel_rfl) 105 #[.int .u8 (x.name : Int)] (fun o ho => by unfold execOp; rw [ho]; kernel_rfl) (KN.out _) ?_
              rintro e v2 ⟨rfl, hb2⟩
              refine ⟨_, rfl, ?_⟩
              have bl2 := bel_call bl0 hb2
              simp only [Act.put, List.setIfInBounds_toArray, List.set_cons_zero, List.set_cons_succ]
              refine any2 5 8 (by kernel_rfl) ?_ ?_
              · skip
                refine op_load 5 (.tmp 29) (some 30) (by unfold opIs; kernel_rfl) (.pointer (some ⟨X, 1, none⟩)) (.int .u8 (x.kind : Int)) (by kernel_rfl) (load_u8 _ _ _ _ ((bl2.cell (p := ⟨X, 1, none⟩) hX).trans x1)) ?_
                simp only [Act.put, List.setIfInBounds_toArray, List.set_cons_zero, List.set_cons_succ]
                refine take_op (i := 6) (.binOp .rem 5 (.tmp 30) (.const (.int .u8 5)) 5) (some 31) (.int .u8 (kd : Int)) (by unfold opWants; kernel_rfl) (by kernel_rfl) (by kernel_rfl) (by kernel_rfl) (fun _ _ _ h => h) (fun o ho w' => ?_) ?_
                · unfold execOp; simp only [ho]; (go_simp; rw [Int.tmod_eq_emod_of_nonneg (by omega)]; exact e2)
                simp only [Act.put, List.setIfInBounds_toArray, List.set_cons_zero, List.set_cons_succ]
                refine take_op (i := 7) (.build 84 #[(0, .tmp 25), (1, .tmp 28), (2, .tmp 31)]) (some 32) (.agg #[.int .u32 (C' : Int), .string NM, .int .u8 (kd : Int), .int .u32 0]) (by unfold opWants; kernel_rfl) (by kernel_rfl) (by kernel_rfl) (by kernel_rfl) (fun _ _ _ h => h) (fun o ho w' => ?_) ?_
                · unfold execOp; simp only [ho]; (first | kernel_rfl | go_simp)
                simp only [Act.put, List.setIfInBounds_toArray, List.set_cons_zero, List.set_cons_succ]
                refine any1 8 (by kernel_rfl) ?_
                · skip
                  refine opw_newA (some 7) (by unfold opWants; kernel_rfl) ?_
                  have hQ4 := bl2.size
                  have pr4 := Box4.of bl2 (.int .u32 0) (.string ⟨#[]⟩) (.int .u8 0) (.int .u32 0) 84
                  have bl4 := bel_new bl2 (.cells #[.int .u32 0, .string ⟨#[]⟩, .int .u8 0, .int .u32 0] 84)
                  simp only [Act.put, List.setIfInBounds_toArray, List.set_cons_zero, List.set_cons_succ]
                  refine any1 9 (by kernel_rfl) ?_
                  · skip
                    refine op_store 84 (.tmp 7) (.tmp 32) none (by unfold opIs; kernel_rfl) (.pointer (some ⟨_, 0, none⟩)) (.agg #[.int .u32 (C' : Int), .string NM, .int .u8 (kd : Int), .int .u32 0]) (by kernel_rfl) (by kernel_rfl) (store_A pr4 _ _ _ _) ?_
                    have bl5 := below_sets bl4 hQ4 (.int .u32 (C' : Int)) (.string NM) (.int .u8 (kd : Int)) (.int .u32 0)
                    have pr5 := pr4.sets (.int .u32 (C' : Int)) (.string NM) (.int .u8 (kd : Int)) (.int .u32 0)
                    simp only [Act.put]
                    refine wpAny_done (by kernel_rfl) ?_ _
                    go_wp2
                    go_meet
                    exact ⟨_, rfl, hQ4, pr5, bl5⟩
              · skip
                refine opw_newA (some 7) (by unfold opWants; kernel_rfl) ?_
                have hQ3 := bl2.size
                have pr3 := Box4.of bl2 (.int .u32 0) (.string ⟨#[]⟩) (.int .u8 0) (.int .u32 0) 84
                have bl3 := bel_new bl2 (.cells #[.int .u32 0, .string ⟨#[]⟩, .int .u8 0, .int .u32 0] 84)
                simp only [Act.put, List.setIfInBounds_toArray, List.set_cons_zero, List.set_cons_succ]
                refine any1 5 (by kernel_rfl) ?_
                · skip
                  refine op_load 5 (.tmp 29) (some 30) (by unfold opIs; kernel_rfl) (.pointer (some ⟨X, 1, none⟩)) (.int .u8 (x.kind : Int)) (by kernel_rfl) (load_u8 _ _ _ _ ((bl3.cell (p := ⟨X, 1, none⟩) hX).trans x1)) ?_
                  simp only [Act.put, List.setIfInBounds_toArray, List.set_cons_zero, List.set_cons_succ]
                  refine take_op (i := 6) (.binOp .rem 5 (.tmp 30) (.const (.int .u8 5)) 5) (some 31) (.int .u8 (kd : Int)) (by unfold opWants; kernel_rfl) (by kernel_rfl) (by kernel_rfl) (by kernel_rfl) (fun _ _ _ h => h) (fun o ho w' => ?_) ?_
                  · unfold execOp; simp only [ho]; (go_simp; rw [Int.tmod_eq_emod_of_nonneg (by omega)]; exact e2)
                  simp only [Act.put, List.setIfInBounds_toArray, List.set_cons_zero, List.set_cons_succ]
                  refine take_op (i := 7) (.build 84 #[(0, .tmp 25), (1, .tmp 28), (2, .tmp 31)]) (some 32) (.agg #[.int .u32 (C' : Int), .string NM, .int .u8 (kd : Int), .int .u32 0]) (by unfold opWants; kernel_rfl) (by kernel_rfl) (by kernel_rfl) (by kernel_rfl) (fun _ _ _ h => h) (fun o ho w' => ?_) ?_
                  · unfold execOp; simp only [ho]; (first | kernel_rfl | go_simp)
                  simp only [Act.put, List.setIfInBounds_toArray, List.set_cons_zero, List.set_cons_succ]
                  refine any1 9 (by kernel_rfl) ?_
                  · skip
                    refine op_store 84 (.tmp 7) (.tmp 32) none (by unfold opIs; kernel_rfl) (.pointer (some ⟨_, 0, none⟩)) (.agg #[.int .u32 (C' : Int), .string NM, .int .u8 (kd : Int), .int .u32 0]) (by kernel_rfl) (by kernel_rfl) (store_A pr3 _ _ _ _) ?_
                    have bl5 := below_sets bl3 hQ3 (.int .u32 (C' : Int)) (.string NM) (.int .u8 (kd : Int)) (.int .u32 0)
                    have pr5 := pr3.sets (.int .u32 (C' : Int)) (.string NM) (.int .u8 (kd : Int)) (.int .u32 0)
                    simp only [Act.put]
                    refine wpAny_done (by kernel_rfl) ?_ _
                    go_wp2
                    go_meet
                    exact ⟨_, rfl, hQ3, pr5, bl5⟩
            · skip
              refine op_load 5 (.tmp 29) (some 30) (by unfold opIs; kernel_rfl) (.pointer (some ⟨X, 1, none⟩)) (.int .u8 (x.kind : Int)) (by kernel_rfl) (load_u8 _ _ _ _ ((bl0.cell (p := ⟨X, 1, none⟩) hX).trans x1)) ?_
              simp only [Act.put, List.setIfInBounds_toArray, List.set_cons_zero, List.set_cons_succ]
              refine take_op (i := 6) (.binOp .rem 5 (.tmp 30) (.const (.int .u8 5)) 5) (some 31) (.int .u8 (kd : Int)) (by unfold opWants; kernel_rfl) (by kernel_rfl) (by kernel_rfl) (by kernel_rfl) (fun _ _ _ h => h) (fun o ho w' => ?_) ?_
              · unfold execOp; simp only [ho]; (go_simp; rw [Int.tmod_eq_emod_of_nonneg (by omega)]; exact e2)
              simp only [Act.put, List.setIfInBounds_toArray, List.set_cons_zero, List.set_cons_succ]
              refine any2 3 8 (by kernel_rfl) ?_ ?_
              · skip
                refine op_call (.call { callee := .value (.func 105), args := #[.tmp 27], argTypes := #[5] }) (some 28) (by unfold opIs; kernel_rfl) 105 #[.int .u8 (x.name : Int)] (fun o ho => by unfold execOp; rw [ho]; kernel_rfl) (KN.out _) ?_
                rintro e v3 ⟨rfl, hb3⟩
                refine ⟨_, rfl, ?_⟩
                have bl3 := bel_call bl0 hb3
                simp only [Act.put, List.setIfInBounds_toArray, List.set_cons_zero, List.set_cons_succ]
                refine take_op (i := 7) (.build 84 #[(0, .tmp 25), (1, .tmp 28), (2, .tmp 31)]) (some 32) (.agg #[.int .u32 (C' : Int), .string NM, .int .u8 (kd : Int), .int .u32 0]) (by unfold opWants; kernel_rfl) (by kernel_rfl) (by kernel_rfl) (by kernel_rfl) (fun _ _ _ h => h) (fun o ho w' => ?_) ?_
                · unfold execOp; simp only [ho]; (first | kernel_rfl | go_simp)
                simp only [Act.put, List.setIfInBounds_toArray, List.set_cons_zero, List.set_cons_succ]
                refine any1 8 (by kernel_rfl) ?_
                · skip
                  refine opw_newA (some 7) (by unfold opWants; kernel_rfl) ?_
                  have hQ4 := bl3.size
                  have pr4 := Box4.of bl3 (.int .u32 0) (.string ⟨#[]⟩) (.int .u8 0) (.int .u32 0) 84
                  have bl4 := bel_new bl3 (.cells #[.int .u32 0, .string ⟨#[]⟩, .int .u8 0, .int .u32 0] 84)
                  simp only [Act.put, List.setIfInBounds_toArray, List.set_cons_zero, List.set_cons_succ]
                  refine any1 9 (by kernel_rfl) ?_
                  · skip
                    refine op_store 84 (.tmp 7) (.tmp 32) none (by unfold opIs; kernel_rfl) (.pointer (some ⟨_, 0, none⟩)) (.agg #[.int .u32 (C' : Int), .string NM, .int .u8 (kd : Int), .int .u32 0]) (by kernel_rfl) (by kernel_rfl) (store_A pr4 _ _ _ _) ?_
                    have bl5 := below_sets bl4 hQ4 (.int .u32 (C' : Int)) (.string NM) (.int .u8 (kd : Int)) (.int .u32 0)
                    have pr5 := pr4.sets (.int .u32 (C' : Int)) (.string NM) (.int .u8 (kd : Int)) (.int .u32 0)
                    simp only [Act.put]
                    refine wpAny_done (by kernel_rfl) ?_ _
                    go_wp2
                    go_meet
                    exact ⟨_, rfl, hQ4, pr5, bl5⟩
              · skip
                refine opw_newA (some 7) (by unfold opWants; kernel_rfl) ?_
                have hQ3 := bl0.size
                have pr3 := Box4.of bl0 (.int .u32 0) (.string ⟨#[]⟩) (.int .u8 0) (.int .u32 0) 84
                have bl3 := bel_new bl0 (.cells #[.int .u32 0, .string ⟨#[]⟩, .int .u8 0, .int .u32 0] 84)
                simp only [Act.put, List.setIfInBounds_toArray, List.set_cons_zero, List.set_cons_succ]
                refine any1 3 (by kernel_rfl) ?_
                · skip
                  refine op_call (.call { callee := .value (.func 105), args := #[.tmp 27], argTypes := #[5] }) (some 28) (by unfold opIs; kernel_rfl) 105 #[.int .u8 (x.name : Int)] (fun o ho => by unfold execOp; rw [ho]; kernel_rfl) (KN.out _) ?_
                  rintro e v4 ⟨rfl, hb4⟩
                  refine ⟨_, rfl, ?_⟩
                  have bl4 := bel_call bl3 hb4
                  have pr4 := pr3.stay hb4
                  simp only [Act.put, List.setIfInBounds_toArray, List.set_cons_zero, List.set_cons_succ]
                  refine take_op (i := 7) (.build 84 #[(0, .tmp 25), (1, .tmp 28), (2, .tmp 31)]) (some 32) (.agg #[.int .u32 (C' : Int), .string NM, .int .u8 (kd : Int), .int .u32 0]) (by unfold opWants; kernel_rfl) (by kernel_rfl) (by kernel_rfl) (by kernel_rfl) (fun _ _ _ h => h) (fun o ho w' => ?_) ?_
                  · unfold execOp; simp only [ho]; (first | kernel_rfl | go_simp)
                  simp only [Act.put, List.setIfInBounds_toArray, List.set_cons_zero, List.set_cons_succ]
                  refine any1 9 (by kernel_rfl) ?_
                  · skip
                    refine op_store 84 (.tmp 7) (.tmp 32) none (by unfold opIs; kernel_rfl) (.pointer (some ⟨_, 0, none⟩)) (.agg #[.int .u32 (C' : Int), .string NM, .int .u8 (kd : Int), .int .u32 0]) (by kernel_rfl) (by kernel_rfl) (store_A pr4 _ _ _ _) ?_
                    have bl5 := below_sets bl4 hQ3 (.int .u32 (C' : Int)) (.string NM) (.int .u8 (kd : Int)) (.int .u32 0)
                    have pr5 := pr4.sets (.int .u32 (C' : Int)) (.string NM) (.int .u8 (kd : Int)) (.int .u32 0)
                    simp only [Act.put]
                    refine wpAny_done (by kernel_rfl) ?_ _
                    go_wp2
                    go_meet
                    exact ⟨_, rfl, hQ3, pr5, bl5⟩
            · skip
              refine opw_newA (some 7) (by unfold opWants; kernel_rfl) ?_
              have hQ2 := bl0.size
              have pr2 := Box4.of bl0 (.int .u32 0) (.string ⟨#[]⟩) (.int .u8 0) (.int .u32 0) 84
              have bl2 := bel_new bl0 (.cells #[.int .u32 0, .string ⟨#[]⟩, .int .u8 0, .int .u32 0] 84)
              simp only [Act.put, List.setIfInBounds_toArray, List.set_cons_zero, List.set_cons_succ]
              refine any2 3 5 (by kernel_rfl) ?_ ?_
              · skip
                refine op_call (.call { callee := .value (.func 105), args := #[.tmp 27], argTypes := #[5] }) (some 28) (by unfold opIs; kernel_rfl) 105 #[.int .u8 (x.name : Int)] (fun o ho => by unfold execOp; rw [ho]; kernel_rfl) (KN.out _) ?_
                rintro e v3 ⟨rfl, hb3⟩
                refine ⟨_, rfl, ?_⟩
                have bl3 := bel_call bl2 hb3
                have pr3 := pr2.stay hb3
                simp only [Act.put, List.setIfInBounds_toArray, List.set_cons_zero, List.set_cons_succ]
                refine any1 5 (by kernel_rfl) ?_
                · skip
                  refine op_load 5 (.tmp 29) (some 30) (by unfold opIs; kernel_rfl) (.pointer (some ⟨X, 1, none⟩)) (.int .u8 (x.kind : Int)) (by kernel_rfl) (load_u8 _ _ _ _ ((bl3.cell (p := ⟨X, 1, none⟩) hX).trans x1)) ?_
                  simp only [Act.put, List.setIfInBounds_toArray, List.set_cons_zero, List.set_cons_succ]
                  refine take_op (i := 6) (.binOp .rem 5 (.tmp 30) (.const (.int .u8 5)) 5) (some 31) (.int .u8 (kd : Int)) (by unfold opWants; kernel_rfl) (by kernel_rfl) (by kernel_rfl) (by kernel_rfl) (fun _ _ _ h => h) (fun o ho w' => ?_) ?_
                  · unfold execOp; simp only [ho]; (go_simp; rw [Int.tmod_eq_emod_of_nonneg (by omega)]; exact e2)
                  simp only [Act.put, List.setIfInBounds_toArray, List.set_cons_zero, List.set_cons_succ]
                  refine take_op (i := 7) (.build 84 #[(0, .tmp 25), (1, .tmp 28), (2, .tmp 31)]) (some 32) (.agg #[.int .u32 (C' : Int), .string NM, .int .u8 (kd : Int), .int .u32 0]) (by unfold opWants; kernel_rfl) (by kernel_rfl) (by kernel_rfl) (by kernel_rfl) (fun _ _ _ h => h) (fun o ho w' => ?_) ?_
                  · unfold execOp; simp only [ho]; (first | kernel_rfl | go_simp)
                  simp only [Act.put, List.setIfInBounds_toArray, List.set_cons_zero, List.set_cons_succ]
                  refine any1 9 (by kernel_rfl) ?_
                  · skip
                    refine op_store 84 (.tmp 7) (.tmp 32) none (by unfold opIs; kernel_rfl) (.pointer (some ⟨_, 0, none⟩)) (.agg #[.int .u32 (C' : Int), .string NM, .int .u8 (kd : Int), .int .u32 0]) (by kernel_rfl) (by kernel_rfl) (store_A pr3 _ _ _ _) ?_
                    have bl5 := below_sets bl3 hQ2 (.int .u32 (C' : Int)) (.string NM) (.int .u8 (kd : Int)) (.int .u32 0)
                    have pr5 := pr3.sets (.int .u32 (C' : Int)) (.string NM) (.int .u8 (kd : Int)) (.int .u32 0)
                    simp only [Act.put]
                    refine wpAny_done (by kernel_rfl) ?_ _
                    go_wp2
                    go_meet
                    exact ⟨_, rfl, hQ2, pr5, bl5⟩
              · skip
                refine op_load 5 (.tmp 29) (some 30) (by unfold opIs; kernel_rfl) (.pointer (some ⟨X, 1, none⟩)) (.int .u8 (x.kind : Int)) (by kernel_rfl) (load_u8 _ _ _ _ ((bl2.cell (p := ⟨X, 1, none⟩) hX).trans x1)) ?_
                simp only [Act.put, List.setIfInBounds_toArray, List.set_cons_zero, List.set_cons_succ]
                refine take_op (i := 6) (.binOp .rem 5 (.tmp 30) (.const (.int .u8 5)) 5) (some 31) (.int .u8 (kd : Int)) (by unfold opWants; kernel_rfl) (by kernel_rfl) (by kernel_rfl) (by kernel_rfl) (fun _ _ _ h => h) (fun o ho w' => ?_) ?_
                · unfold execOp; simp only [ho]; (go_simp; rw [Int.tmod_eq_emod_of_nonneg (by omega)]; exact e2)
                simp only [Act.put, List.setIfInBounds_toArray, List.set_cons_zero, List.set_cons_succ]
                refine any1 3 (by kernel_rfl) ?_
                · skip
                  refine op_call (.call { callee := .value (.func 105), args := #[.tmp 27], argTypes := #[5] }) (some 28) (by unfold opIs; kernel_rfl) 105 #[.int .u8 (x.name : Int)] (fun o ho => by unfold execOp; rw [ho]; kernel_rfl) (KN.out _) ?_
                  rintro e v4 ⟨rfl, hb4⟩
                  refine ⟨_, rfl, ?_⟩
                  have bl4 := bel_call bl2 hb4
                  have pr4 := pr2.stay hb4
                  simp only [Act.put, List.setIfInBounds_toArray, List.set_cons_zero, List.set_cons_succ]
                  refine take_op (i := 7) (.build 84 #[(0, .tmp 25), (1, .tmp 28), (2, .tmp 31)]) (some 32) (.agg #[.int .u32 (C' : Int), .string NM, .int .u8 (kd : Int), .int .u32 0]) (by unfold opWants; kernel_rfl) (by kernel_rfl) (by kernel_rfl) (by kernel_rfl) (fun _ _ _ h => h) (fun o ho w' => ?_) ?_
                  · unfold execOp; simp only [ho]; (first | kernel_rfl | go_simp)
                  simp only [Act.put, List.setIfInBounds_toArray, List.set_cons_zero, List.set_cons_succ]
                  refine any1 9 (by kernel_rfl) ?_
                  · skip
                    refine op_store 84 (.tmp 7) (.tmp 32) none (by unfold opIs; kernel_rfl) (.pointer (some ⟨_, 0, none⟩)) (.agg #[.int .u32 (C' : Int), .string NM, .int .u8 (kd : Int), .int .u32 0]) (by kernel_rfl) (by kernel_rfl) (store_A pr4 _ _ _ _) ?_
                    have bl5 := below_sets bl4 hQ2 (.int .u32 (C' : Int)) (.string NM) (.int .u8 (kd : Int)) (.int .u32 0)
                    have pr5 := pr4.sets (.int .u32 (C' : Int)) (.string NM) (.int .u8 (kd : Int)) (.int .u32 0)
                    simp only [Act.put]
                    refine wpAny_done (by kernel_rfl) ?_ _
                    go_wp2
                    go_meet
                    exact ⟨_, rfl, hQ2, pr5, bl5⟩
          · skip
            refine op_load 5 (.tmp 29) (some 30) (by unfold opIs; kernel_rfl) (.pointer (some ⟨X, 1, none⟩)) (.int .u8 (x.kind : Int)) (by kernel_rfl) (load_u8 _ _ _ _ ((bl0.cell (p := ⟨X, 1, none⟩) hX).trans x1)) ?_
            simp only [Act.put, List.setIfInBounds_toArray, List.set_cons_zero, List.set_cons_succ]
            refine take_op (i := 6) (.binOp .rem 5 (.tmp 30) (.const (.int .u8 5)) 5) (some 31) (.int .u8 (kd : Int)) (by unfold opWants; kernel_rfl) (by kernel_rfl) (by kernel_rfl) (by kernel_rfl) (fun _ _ _ h => h) (fun o ho w' => ?_) ?_
            · unfold execOp; simp only [ho]; (go_simp; rw [Int.tmod_eq_emod_of_nonneg (by omega)]; exact e2)
            simp only [Act.put, List.setIfInBounds_toArray, List.set_cons_zero, List.set_cons_succ]
            refine any2 2 8 (by kernel_rfl) ?_ ?_
            · skip
              refine op_load 5 (.tmp 26) (some 27) (by unfold opIs; kernel_rfl) (.pointer (some ⟨X, 3, none⟩)) (.int .u8 (x.name : Int)) (by kernel_rfl) (load_u8 _ _ _ _ ((bl0.cell (p := ⟨X, 3, none⟩) hX).trans x3)) ?_
              simp only [Act.put, List.setIfInBounds_toArray, List.set_cons_zero, List.set_cons_succ]
              refine any2 3 8 (by kernel_rfl) ?_ ?_
              · skip
                refine op_call (.call { callee := .value (.func 105), args := #[.tmp 27], argTypes := #[5] }) (some 28) (by unfold opIs; kernel_rfl) 105 #[.int .u8 (x.name : Int)] (fun o ho => by unfold execOp; rw [ho]; kernel_rfl) (KN.out _) ?_
                rintro e v3 ⟨rfl, hb3⟩
                refine ⟨_, rfl, ?_⟩
                have bl3 := bel_call bl0 hb3
                simp only [Act.put, List.setIfInBounds_toArray, List.set_cons_zero, List.set_cons_succ]
                refine take_op (i := 7) (.build 84 #[(0, .tmp 25), (1, .tmp 28), (2, .tmp 31)]) (some 32) (.agg #[.int .u32 (C' : Int), .string NM, .int .u8 (kd : Int), .int .u32 0]) (by unfold opWants; kernel_rfl) (by kernel_rfl) (by kernel_rfl) (by kernel_rfl) (fun _ _ _ h => h) (fun o ho w' => ?_) ?_
                · unfold execOp; simp only [ho]; (first | kernel_rfl | go_simp)
                simp only [Act.put, List.setIfInBounds_toArray, List.set_cons_zero, List.set_cons_succ]
                refine any1 8 (by kernel_rfl) ?_
                · skip
                  refine opw_newA (some 7) (by unfold opWants; kernel_rfl) ?_
                  have hQ4 := bl3.size
                  have pr4 := Box4.of bl3 (.int .u32 0) (.string ⟨#[]⟩) (.int .u8 0) (.int .u32 0) 84
                  have bl4 := bel_new bl3 (.cells #[.int .u32 0, .string ⟨#[]⟩, .int .u8 0, .int .u32 0] 84)
                  simp only [Act.put, List.setIfInBounds_toArray, List.set_cons_zero, List.set_cons_succ]
                  refine any1 9 (by kernel_rfl) ?_
                  · skip
                    refine op_store 84 (.tmp 7) (.tmp 32) none (by unfold opIs; kernel_rfl) (.pointer (some ⟨_, 0, none⟩)) (.agg #[.int .u32 (C' : Int), .string NM, .int .u8 (kd : Int), .int .u32 0]) (by kernel_rfl) (by kernel_rfl) (store_A pr4 _ _ _ _) ?_
                    have bl5 := below_sets bl4 hQ4 (.int .u32 (C' : Int)) (.string NM) (.int .u8 (kd : Int)) (.int .u32 0)
                    have pr5 := pr4.sets (.int .u32 (C' : Int)) (.string NM) (.int .u8 (kd : Int)) (.int .u32 0)
                    simp only [Act.put]
                    refine wpAny_done (by kernel_rfl) ?_ _
                    go_wp2
                    go_meet
                    exact ⟨_, rfl, hQ4, pr5, bl5⟩
              · skip
                refine opw_newA (some 7) (by unfold opWants; kernel_rfl) ?_
                have hQ3 := bl0.size
                have pr3 := Box4.of bl0 (.int .u32 0) (.string ⟨#[]⟩) (.int .u8 0) (.int .u32 0) 84
                have bl3 := bel_new bl0 (.cells #[.int .u32 0, .string ⟨#[]⟩, .int .u8 0, .int .u32 0] 84)
                simp only [Act.put, List.setIfInBounds_toArray, List.set_cons_zero, List.set_cons_succ]
                refine any1 3 (by kernel_rfl) ?_
                · skip
                  refine op_call (.call { callee := .value (.func 105), args := #[.tmp 27], argTypes := #[5] }) (some 28) (by unfold opIs; kernel_rfl) 105 #[.int .u8 (x.name : Int)] (fun o ho => by unfold execOp; rw [ho]; kernel_rfl) (KN.out _) ?_
                  rintro e v4 ⟨rfl, hb4⟩
                  refine ⟨_, rfl, ?_⟩
                  have bl4 := bel_call bl3 hb4
                  have pr4 := pr3.stay hb4
                  simp only [Act.put, List.setIfInBounds_toArray, List.set_cons_zero, List.set_cons_succ]
                  refine take_op (i := 7) (.build 84 #[(0, .tmp 25), (1, .tmp 28), (2, .tmp 31)]) (some 32) (.agg #[.int .u32 (C' : Int), .string NM, .int .u8 (kd : Int), .int .u32 0]) (by unfold opWants; kernel_rfl) (by kernel_rfl) (by kernel_rfl) (by kernel_rfl) (fun _ _ _ h => h) (fun o ho w' => ?_) ?_
                  · unfold execOp; simp only [ho]; (first | kernel_rfl | go_simp)
                  simp only [Act.put, List.setIfInBounds_toArray, List.set_cons_zero, List.set_cons_succ]
                  refine any1 9 (by kernel_rfl) ?_
                  · skip
                    refine op_store 84 (.tmp 7) (.tmp 32) none (by unfold opIs; kernel_rfl) (.pointer (some ⟨_, 0, none⟩)) (.agg #[.int .u32 (C' : Int), .string NM, .int .u8 (kd : Int), .int .u32 0]) (by kernel_rfl) (by kernel_rfl) (store_A pr4 _ _ _ _) ?_
                    have bl5 := below_sets bl4 hQ3 (.int .u32 (C' : Int)) (.string NM) (.int .u8 (kd : Int)) (.int .u32 0)
                    have pr5 := pr4.sets (.int .u32 (C' : Int)) (.string NM) (.int .u8 (kd : Int)) (.int .u32 0)
                    simp only [Act.put]
                    refine wpAny_done (by kernel_rfl) ?_ _
                    go_wp2
                    go_meet
                    exact ⟨_, rfl, hQ3, pr5, bl5⟩
            · skip
              refine opw_newA (some 7) (by unfold opWants; kernel_rfl) ?_
              have hQ2 := bl0.size
              have pr2 := Box4.of bl0 (.int .u32 0) (.string ⟨#[]⟩) (.int .u8 0) (.int .u32 0) 84
              have bl2 := bel_new bl0 (.cells #[.int .u32 0, .string ⟨#[]⟩, .int .u8 0, .int .u32 0] 84)
              simp only [Act.put, List.setIfInBounds_toArray, List.set_cons_zero, List.set_cons_succ]
              refine any1 2 (by kernel_rfl) ?_
              · skip
                refine op_load 5 (.tmp 26) (some 27) (by unfold opIs; kernel_rfl) (.pointer (some ⟨X, 3, none⟩)) (.int .u8 (x.name : Int)) (by kernel_rfl) (load_u8 _ _ _ _ ((bl2.cell (p := ⟨X, 3, none⟩) hX).trans x3)) ?_
                simp only [Act.put, List.setIfInBounds_toArray, List.set_cons_zero, List.set_cons_succ]
                refine any1 3 (by kernel_rfl) ?_
                · skip
                  refine op_call (.call { callee := .value (.func 105), args := #[.tmp 27], argTypes := #[5] }) (some 28) (by unfold opIs; kernel_rfl) 105 #[.int .u8 (x.name : Int)] (fun o ho => by unfold execOp; rw [ho]; kernel_rfl) (KN.out _) ?_
                  rintro e v4 ⟨rfl, hb4⟩
                  refine ⟨_, rfl, ?_⟩
                  have bl4 := bel_call bl2 hb4
                  have pr4 := pr2.stay hb4
                  simp only [Act.put, List.setIfInBounds_toArray, List.set_cons_zero, List.set_cons_succ]
                  refine take_op (i := 7) (.build 84 #[(0, .tmp 25), (1, .tmp 28), (2, .tmp 31)]) (some 32) (.agg #[.int .u32 (C' : Int), .string NM, .int .u8 (kd : Int), .int .u32 0]) (by unfold opWants; kernel_rfl) (by kernel_rfl) (by kernel_rfl) (by kernel_rfl) (fun _ _ _ h => h) (fun o ho w' => ?_) ?_
                  · unfold execOp; simp only [ho]; (first | kernel_rfl | go_simp)
                  simp only [Act.put, List.setIfInBounds_toArray, List.set_cons_zero, List.set_cons_succ]
                  refine any1 9 (by kernel_rfl) ?_
                  · skip
                    refine op_store 84 (.tmp 7) (.tmp 32) none (by unfold opIs; kernel_rfl) (.pointer (some ⟨_, 0, none⟩)) (.agg #[.int .u32 (C' : Int), .string NM, .int .u8 (kd : Int), .int .u32 0]) (by kernel_rfl) (by kernel_rfl) (store_A pr4 _ _ _ _) ?_
                    have bl5 := below_sets bl4 hQ2 (.int .u32 (C' : Int)) (.string NM) (.int .u8 (kd : Int)) (.int .u32 0)
                    have pr5 := pr4.sets (.int .u32 (C' : Int)) (.string NM) (.int .u8 (kd : Int)) (.int .u32 0)
                    simp only [Act.put]
                    refine wpAny_done (by kernel_rfl) ?_ _
                    go_wp2
                    go_meet
                    exact ⟨_, rfl, hQ2, pr5, bl5⟩
          · skip
            refine opw_newA (some 7) (by unfold opWants; kernel_rfl) ?_
            have hQ1 := bl0.size
            have pr1 := Box4.of bl0 (.int .u32 0) (.string ⟨#[]⟩) (.int .u8 0) (.int .u32 0) 84
            have bl1 := bel_new bl0 (.cells #[.int .u32 0, .string ⟨#[]⟩, .int .u8 0, .int .u32 0] 84)
            simp only [Act.put, List.setIfInBounds_toArray, List.set_cons_zero, List.set_cons_succ]
            refine any2 2 5 (by kernel_rfl) ?_ ?_
            · skip
              refine op_load 5 (.tmp 26) (some 27) (by unfold opIs; kernel_rfl) (.pointer (some ⟨X, 3, none⟩)) (.int .u8 (x.name : Int)) (by kernel_rfl) (load_u8 _ _ _ _ ((bl1.cell (p := ⟨X, 3, none⟩) hX).trans x3)) ?_
              simp only [Act.put, List.setIfInBounds_toArray, List.set_cons_zero, List.set_cons_succ]
              refine any2 3 5 (by kernel_rfl) ?_ ?_
              · skip
                refine op_call (.call { callee := .value (.func 105), args := #[.tmp 27], argTypes := #[5] }) (some 28) (by unfold opIs; kernel_rfl) 105 #[.int .u8 (x.name : Int)] (fun o ho => by unfold execOp; rw [ho]; kernel_rfl) (KN.out _) ?_
                rintro e v3 ⟨rfl, hb3⟩
                refine ⟨_, rfl, ?_⟩
                have bl3 := bel_call bl1 hb3
                have pr3 := pr1.stay hb3
                simp only [Act.put, List.setIfInBounds_toArray, List.set_cons_zero, List.set_cons_succ]
                refine any1 5 (by kernel_rfl) ?_
                · skip
                  refine op_load 5 (.tmp 29) (some 30) (by unfold opIs; kernel_rfl) (.pointer (some ⟨X, 1, none⟩)) (.int .u8 (x.kind : Int)) (by kernel_rfl) (load_u8 _ _ _ _ ((bl3.cell (p := ⟨X, 1, none⟩) hX).trans x1)) ?_
                  simp only [Act.put, List.setIfInBounds_toArray, List.set_cons_zero, List.set_cons_succ]
                  refine take_op (i := 6) (.binOp .rem 5 (.tmp 30) (.const (.int .u8 5)) 5) (some 31) (.int .u8 (kd : Int)) (by unfold opWants; kernel_rfl) (by kernel_rfl) (by kernel_rfl) (by kernel_rfl) (fun _ _ _ h => h) (fun o ho w' => ?_) ?_
                  · unfold execOp; simp only [ho]; (go_simp; rw [Int.tmod_eq_emod_of_nonneg (by omega)]; exact e2)
                  simp only [Act.put, List.setIfInBounds_toArray, List.set_cons_zero, List.set_cons_succ]
                  refine take_op (i := 7) (.build 84 #[(0, .tmp 25), (1, .tmp 28), (2, .tmp 31)]) (some 32) (.agg #[.int .u32 (C' : Int), .string NM, .int .u8 (kd : Int), .int .u32 0]) (by unfold opWants; kernel_rfl) (by kernel_rfl) (by kernel_rfl) (by kernel_rfl) (fun _ _ _ h => h) (fun o ho w' => ?_) ?_
                  · unfold execOp; simp only [ho]; (first | kernel_rfl | go_simp)
                  simp only [Act.put, List.setIfInBounds_toArray, List.set_cons_zero, List.set_cons_succ]
                  refine any1 9 (by kernel_rfl) ?_
                  · skip
                    refine op_store 84 (.tmp 7) (.tmp 32) none (by unfold opIs; kernel_rfl) (.pointer (some ⟨_, 0, none⟩)) (.agg #[.int .u32 (C' : Int), .string NM, .int .u8 (kd : Int), .int .u32 0]) (by kernel_rfl) (by kernel_rfl) (store_A pr3 _ _ _ _) ?_
                    have bl5 := below_sets bl3 hQ1 (.int .u32 (C' : Int)) (.string NM) (.int .u8 (kd : Int)) (.int .u32 0)
                    have pr5 := pr3.sets (.int .u32 (C' : Int)) (.string NM) (.int .u8 (kd : Int)) (.int .u32 0)
                    simp only [Act.put]
                    refine wpAny_done (by kernel_rfl) ?_ _
                    go_wp2
                    go_meet
                    exact ⟨_, rfl, hQ1, pr5, bl5⟩
              · skip
                refine op_load 5 (.tmp 29) (some 30) (by unfold opIs; kernel_rfl) (.pointer (some ⟨X, 1, none⟩)) (.int .u8 (x.kind : Int)) (by kernel_rfl) (load_u8 _ _ _ _ ((bl1.cell (p := ⟨X, 1, none⟩) hX).trans x1)) ?_
                simp only [Act.put, List.setIfInBounds_toArray, List.set_cons_zero, List.set_cons_succ]
                refine take_op (i := 6) (.binOp .rem 5 (.tmp 30) (.const (.int .u8 5)) 5) (some 31) (.int .u8 (kd : Int)) (by unfold opWants; kernel_rfl) (by kernel_rfl) (by kernel_rfl) (by kernel_rfl) (fun _ _ _ h => h) (fun o ho w' => ?_) ?_
                · unfold execOp; simp only [ho]; (go_simp; rw [Int.tmod_eq_emod_of_nonneg (by omega)]; exact e2)
                simp only [Act.put, List.setIfInBounds_toArray, List.set_cons_zero, List.set_cons_succ]
                refine any1 3 (by kernel_rfl) ?_
                · skip
                  refine op_call (.call { callee := .value (.func 105), args := #[.tmp 27], argTypes := #[5] }) (some 28) (by unfold opIs; kernel_rfl) 105 #[.int .u8 (x.name : Int)] (fun o ho => by unfold execOp; rw [ho]; kernel_rfl) (KN.out _) ?_
                  rintro e v4 ⟨rfl, hb4⟩
                  refine ⟨_, rfl, ?_⟩
                  have bl4 := bel_call bl1 hb4
                  have pr4 := pr1.stay hb4
                  simp only [Act.put, List.setIfInBounds_toArray, List.set_cons_zero, List.set_cons_succ]
                  refine take_op (i := 7) (.build 84 #[(0, .tmp 25), (1, .tmp 28), (2, .tmp 31)]) (some 32) (.agg #[.int .u32 (C' : Int), .string NM, .int .u8 (kd : Int), .int .u32 0]) (by unfold opWants; kernel_rfl) (by kernel_rfl) (by kernel_rfl) (by kernel_rfl) (fun _ _ _ h => h) (fun o ho w' => ?_) ?_
                  · unfold execOp; simp only [ho]; (first | kernel_rfl | go_simp)
                  simp only [Act.put, List.setIfInBounds_toArray, List.set_cons_zero, List.set_cons_succ]
                  refine any1 9 (by kernel_rfl) ?_
                  · skip
                    refine op_store 84 (.tmp 7) (.tmp 32) none (by unfold opIs; kernel_rfl) (.pointer (some ⟨_, 0, none⟩)) (.agg #[.int .u32 (C' : Int), .string NM, .int .u8 (kd : Int), .int .u32 0]) (by kernel_rfl) (by kernel_rfl) (store_A pr4 _ _ _ _) ?_
                    have bl5 := below_sets bl4 hQ1 (.int .u32 (C' : Int)) (.string NM) (.int .u8 (kd : Int)) (.int .u32 0)
                    have pr5 := pr4.sets (.int .u32 (C' : Int)) (.string NM) (.int .u8 (kd : Int)) (.int .u32 0)
                    simp only [Act.put]
                    refine wpAny_done (by kernel_rfl) ?_ _
                    go_wp2
                    go_meet
                    exact ⟨_, rfl, hQ1, pr5, bl5⟩
            · skip
              refine op_load 5 (.tmp 29) (some 30) (by unfold opIs; kernel_rfl) (.pointer (some ⟨X, 1, none⟩)) (.int .u8 (x.kind : Int)) (by kernel_rfl) (load_u8 _ _ _ _ ((bl1.cell (p := ⟨X, 1, none⟩) hX).trans x1)) ?_
              simp only [Act.put, List.setIfInBounds_toArray, List.set_cons_zero, List.set_cons_succ]
              refine take_op (i := 6) (.binOp .rem 5 (.tmp 30) (.const (.int .u8 5)) 5) (some 31) (.int .u8 (kd : Int)) (by unfold opWants; kernel_rfl) (by kernel_rfl) (by kernel_rfl) (by kernel_rfl) (fun _ _ _ h => h) (fun o ho w' => ?_) ?_
              · unfold execOp; simp only [ho]; (go_simp; rw [Int.tmod_eq_emod_of_nonneg (by omega)]; exact e2)
              simp only [Act.put, List.setIfInBounds_toArray, List.set_cons_zero, List.set_cons_succ]
              refine any1 2 (by kernel_rfl) ?_
              · skip
                refine op_load 5 (.tmp 26) (some 27) (by unfold opIs; kernel_rfl) (.pointer (some ⟨X, 3, none⟩)) (.int .u8 (x.name : Int)) (by kernel_rfl) (load_u8 _ _ _ _ ((bl1.cell (p := ⟨X, 3, none⟩) hX).trans x3)) ?_
                simp only [Act.put, List.setIfInBounds_toArray, List.set_cons_zero, List.set_cons_succ]
                refine any1 3 (by kernel_rfl) ?_
                · skip
                  refine op_call (.call { callee := .value (.func 105), args := #[.tmp 27], argTypes := #[5] }) (some 28) (by unfold opIs; kernel_rfl) 105 #[.int .u8 (x.name : Int)] (fun o ho => by unfold execOp; rw [ho]; kernel_rfl) (KN.out _) ?_
                  rintro e v4 ⟨rfl, hb4⟩
                  refine ⟨_, rfl, ?_⟩
                  have bl4 := bel_call bl1 hb4
                  have pr4 := pr1.stay hb4
                  simp only [Act.put, List.setIfInBounds_toArray, List.set_cons_zero, List.set_cons_succ]
                  refine take_op (i := 7) (.build 84 #[(0, .tmp 25), (1, .tmp 28), (2, .tmp 31)]) (some 32) (.agg #[.int .u32 (C' : Int), .string NM, .int .u8 (kd : Int), .int .u32 0]) (by unfold opWants; kernel_rfl) (by kernel_rfl) (by kernel_rfl) (by kernel_rfl) (fun _ _ _ h => h) (fun o ho w' => ?_) ?_
                  · unfold execOp; simp only [ho]; (first | kernel_rfl | go_simp)
                  simp only [Act.put, List.setIfInBounds_toArray, List.set_cons_zero, List.set_cons_succ]
                  refine any1 9 (by kernel_rfl) ?_
                  · skip
                    refine op_store 84 (.tmp 7) (.tmp 32) none (by unfold opIs; kernel_rfl) (.pointer (some ⟨_, 0, none⟩)) (.agg #[.int .u32 (C' : Int), .string NM, .int .u8 (kd : Int), .int .u32 0]) (by kernel_rfl) (by kernel_rfl) (store_A pr4 _ _ _ _) ?_
                    have bl5 := below_sets bl4 hQ1 (.int .u32 (C' : Int)) (.string NM) (.int .u8 (kd : Int)) (.int .u32 0)
                    have pr5 := pr4.sets (.int .u32 (C' : Int)) (.string NM) (.int .u8 (kd : Int)) (.int .u32 0)
                    simp only [Act.put]
                    refine wpAny_done (by kernel_rfl) ?_ _
                    go_wp2
                    go_meet
                    exact ⟨_, rfl, hQ1, pr5, bl5⟩
        case rest =>
          obtain ⟨G, rfl, hG, hbox, hbx⟩ := hcut
          rename World => wx
          have HS : Hid (stI l (k + 1) = (c ++ [newA c C x], C')) := Lib.hid (by have h := stI_step HX.out.1; rw [HC.out.2] at h; exact Prod.ext h.1 (h.2.trans HX.out.2.1))
          have hxs := hbx.size
          have y2 := (hbx.cell (p := ⟨X, 2, none⟩) hX).trans x2
          have HB2 := Lib.hid (HB1.out.trans (hbx.mono HB1.out.size))
          have HO2 := Lib.hid (owns_stay HO1.out hbx)
          have hbs2 : w.heap.size ≤ wx.heap.size := HB2.out.size
          have hCb : Hid (cc (bareA C x) = [.int .u32 (C' : Int), .string (nm5 (x.name % 5)), .int .u8 (kd : Int), .int .u32 0]) := Lib.hid (by
            have e : (C + 1 + x.code % 4) % 4294967296 = C' := by have := HX.out.2.1; omega
            show ([.int .u32 (((C + 1 + x.code % 4) % 4294967296 : Nat) : Int), .string (nm5 (x.name % 5)), .int .u8 ((x.kind % 5 : Nat) : Int), .int .u32 ((0 : Nat) : Int)] : List Value) = _
            rw [e, HX.out.2.2]
            rfl)
          generalize nm5 (x.name % 5) = NM at *
          clear hbx x0 x1 x2 x3 c0 c1 c2 c3 HB HO HB1 KN hd e1 e2
          have hxp := x.h3
          have HG := Lib.hid hbox
          have HOL := Lib.hid HO1.out.lt
          clear HO1
          obtain ⟨g0, g1, g2, g3, f0, f1, f2, f3, hGs⟩ := hbox
          have hGw : G < wx.heap.size := hGs
          by_cases hno : k = 0 ∨ x.par % 3 = 0
          · have HA : Hid (cc (newA c C x) = [.int .u32 (C' : Int), .string NM, .int .u8 (kd : Int), .int .u32 0]) := Lib.hid (by rw [show newA c C x = bareA C x by unfold newA; rw [if_neg (by have := HC.out.1; omega)]]; exact hCb.out)
            by_cases hk0 : k = 0
            · clear hno
              have hd0 : k ≤ 0 := by omega
              clear hk0
              go_wp2_with (at_builtin; refine wpList_append_own _ rfl (.tmp 62) (.tmp 64) 60 rfl w.heap.size 84 i0 (.agg #[.int .u32 0, .string ⟨#[]⟩, .int .u8 0, .int .u32 0]) 4 32 Tryz.underlying60 hi hz0 hz1 hz2 rfl (by decide) _ k _ rfl (HO2.out.alloc _) ⟨wx.heap.size, 0, none⟩ 1 1 [.int .u32 (C' : Int), .string NM, .int .u8 (kd : Int), .int .u32 0] rfl rfl (cells_new _ [.int .u32 (C' : Int), .string NM, .int .u8 (kd : Int), .int .u32 0] _) (fun u hu => by simp at hu; rcases hu with rfl | rfl | rfl | rfl <;> rfl) (by unfold maxLen; omega) (by omega) (by simp; omega) ?_; intro v2 w3 hown3 hgrow3 _; have HB3 := Lib.hid ((HB2.out.alloc (by omega) _).grown hgrow3 (by simp; omega) (fun j hj => (HO2.out.lt j hj).1)); have HO3 := Lib.hid hown3; obtain ⟨r2, cap2, rfl⟩ := owns_form hown3; clear hgrow3 hown3)
              go_roundw
              case rel => exact ⟨k + 1, C', r2, cap2, c ++ [newA c C x], rfl, rfl, by go_num, by omega, by omega, hC4, by rw [flat_snoc, HA.out]; exact HO3.out, Lib.hid ⟨by simp; exact HC.out.1, HS.out⟩, HB3.out⟩
              case measure => simp [intOf]; omega
            · have hp0 : (x.par : Int) % 3 = 0 := by omega
              have hk1 : 0 < k := by omega
              clear hno hk0
              go_wp2_with (at_builtin; refine wpList_append_own _ rfl (.tmp 62) (.tmp 64) 60 rfl w.heap.size 84 i0 (.agg #[.int .u32 0, .string ⟨#[]⟩, .int .u8 0, .int .u32 0]) 4 32 Tryz.underlying60 hi hz0 hz1 hz2 rfl (by decide) _ k _ rfl (HO2.out.alloc _) ⟨wx.heap.size, 0, none⟩ 1 1 [.int .u32 (C' : Int), .string NM, .int .u8 (kd : Int), .int .u32 0] rfl rfl (cells_new _ [.int .u32 (C' : Int), .string NM, .int .u8 (kd : Int), .int .u32 0] _) (fun u hu => by simp at hu; rcases hu with rfl | rfl | rfl | rfl <;> rfl) (by unfold maxLen; omega) (by omega) (by simp; omega) ?_; intro v2 w3 hown3 hgrow3 _; have HB3 := Lib.hid ((HB2.out.alloc (by omega) _).grown hgrow3 (by simp; omega) (fun j hj => (HO2.out.lt j hj).1)); have HO3 := Lib.hid hown3; obtain ⟨r2, cap2, rfl⟩ := owns_form hown3; clear hgrow3 hown3)
              go_roundw
              case rel => exact ⟨k + 1, C', r2, cap2, c ++ [newA c C x], rfl, rfl, by go_num, by omega, by omega, hC4, by rw [flat_snoc, HA.out]; exact HO3.out, Lib.hid ⟨by simp; exact HC.out.1, HS.out⟩, HB3.out⟩
              case measure => simp [intOf]; omega
          · have hk1 : 0 < k := by omega
            have hp0 : (0 : Int) < (x.par : Int) % 3 := by omega
            obtain ⟨pi, hpi⟩ : ∃ pi, x.par % k = pi := ⟨_, rfl⟩
            have hpk : pi < k := hpi ▸ Nat.mod_lt _ hk1
            have e3 : (x.par : Int) % (k : Int) = (pi : Int) := by rw [← hpi]; simp
            obtain ⟨p, hp⟩ : ∃ p, c[pi]? = some p := ⟨c[pi]'(by have := HC.out.1; omega), List.getElem?_eq_getElem (by have := HC.out.1; omega)⟩
            have hnew : newA c C x = if (wayF 13 c p.code).length < 11 then (bareA C x).inA p else bareA C x := by
              unfold newA
              rw [if_pos (by have := HC.out.1; omega), HC.out.1, hpi, hp]
            have hRo : Recs cc 4 wx (.slice r k cap) c := recs_of_owns cc_len HO2.out HC.out.1.symm (by omega)
            obtain ⟨g', o', rfl, hg', hc'⟩ := hRo.at hp
            obtain ⟨d0, d1, d2, d3⟩ := Recs.cells4 (c := c) hc'
            have HGP := Lib.hid (HG.out.stay ((Below.refl wx.heap.size wx).alloc (Nat.le_refl _) (.cells #[.int .u32 (p.code : Int), .string p.name, .int .u8 (p.kind : Int), .int .u32 (p.par : Int)] 84)))
            have P0 := Lib.hid (box_cell wx #[.int .u32 (p.code : Int), .string p.name, .int .u8 (p.kind : Int), .int .u32 (p.par : Int)] 84 0 _ rfl)
            have P2 := Lib.hid (box_cell wx #[.int .u32 (p.code : Int), .string p.name, .int .u8 (p.kind : Int), .int .u32 (p.par : Int)] 84 2 _ rfl)
            have HQ := Lib.hid (deep_c _ c p.code _ (hRo.stay ((Below.refl wx.heap.size wx).alloc (Nat.le_refl _) (.cells #[.int .u32 (p.code : Int), .string p.name, .int .u8 (p.kind : Int), .int .u32 (p.par : Int)] 84))))
            have hgG : g' ≠ G := by have := (HOL.out g' rfl).2; omega
            clear hno hpi hp hRo hc' HG
            generalize (wayF 13 c p.code).length = D at *
            by_cases hD : D < 11
            · have HA : Hid (cc (newA c C x) = [.int .u32 (C' : Int), .string NM, .int .u8 (p.kind : Int), .int .u32 (p.code : Int)]) := Lib.hid (by
                rw [hnew, if_pos hD]
                have h := hCb.out
                unfold cc at h
                unfold cc Ac.inA
                simp only [List.cons.injEq, Value.int.injEq, Value.string.injEq, true_and, and_true] at h ⊢
                exact ⟨h.1, h.2.1⟩)
              clear hnew
              go_wp2_with (go_at_call 106; refine HQ.out.mono ?_; rintro e w2 ⟨rfl, hb2⟩; have HO4 := Lib.hid (owns_stay (HO2.out.alloc _) hb2); have HB4 := Lib.hid ((HB2.out.alloc hbs2 _).trans (hb2.mono (HB2.out.alloc hbs2 _).size)); have hs4 : w.heap.size ≤ w2.heap.size := HB4.out.size; obtain ⟨g0, g1, g2, g3, f0, f1, f2, f3, hGs⟩ := HGP.out.stay hb2; have q0 := cell_on hb2 P0.out; have q2 := cell_on hb2 P2.out; clear hb2)
              have hne : G ≠ wx.heap.size := by omega
              have hB4 : Hid (Box4 w2 G (.int .u32 (C' : Int)) (.string NM) (.int .u8 (kd : Int)) (.int .u32 0)) := Lib.hid ⟨g0, g1, g2, g3, f0, f1, f2, f3, hGs⟩
              have hown5 : some G ≠ (Value.slice (some ⟨g', o', none⟩) k cap).ownBlock := fun e => hgG (Option.some.inj e).symm
              go_cut [61] (fun _ wy => Box4 wy G (.int .u32 (C' : Int)) (.string NM) (.int .u8 (p.kind : Int)) (.int .u32 (p.code : Int)) ∧ wy.ownsRow w.heap.size 84 4 (.slice (some ⟨g', o', none⟩) k cap) k (c.flatMap cc) ∧ Below w.heap.size w wy)
              case first =>
                go_region
                all_goals
                  go_wp2_with fail
                  go_meet
                  exact ⟨((hB4.out.set3 _).set2 _).drew, (owns_set_other (owns_set_other HO4.out ⟨G, 3, none⟩ _ (fun e => hown5 e.symm)) ⟨G, 2, none⟩ _ (fun e => hown5 e.symm)).drew, ((HB4.out.setCell (show w.heap.size ≤ G by omega) _).setCell (show w.heap.size ≤ G by omega) _).drew⟩
              case rest =>
                obtain ⟨hb5, ho5, hbl5⟩ := hcut
                rename World => wy
                have HO5 := Lib.hid ho5
                have HB5 := Lib.hid hbl5
                have hs5 : w.heap.size ≤ wy.heap.size := hbl5.size
                obtain ⟨z0, z1, z2, z3, _, _, _, _, hz5⟩ := hb5
                clear ho5 hbl5 g0 g1 g2 g3 f0 f1 f2 f3
                go_wp2_with (at_builtin; refine wpList_append_own _ rfl (.tmp 62) (.tmp 64) 60 rfl w.heap.size 84 i0 (.agg #[.int .u32 0, .string ⟨#[]⟩, .int .u8 0, .int .u32 0]) 4 32 Tryz.underlying60 hi hz0 hz1 hz2 rfl (by decide) _ k _ rfl (HO5.out.alloc _) ⟨wy.heap.size, 0, none⟩ 1 1 [.int .u32 (C' : Int), .string NM, .int .u8 (p.kind : Int), .int .u32 (p.code : Int)] rfl rfl (cells_new _ [.int .u32 (C' : Int), .string NM, .int .u8 (p.kind : Int), .int .u32 (p.code : Int)] _) (fun u hu => by simp at hu; rcases hu with rfl | rfl | rfl | rfl <;> rfl) (by unfold maxLen; omega) (by omega) (by simp; omega) ?_; intro v2 w3 hown3 hgrow3 _; have HB3 := Lib.hid ((HB5.out.alloc (by omega) _).grown hgrow3 (by simp; omega) (fun j hj => (HO5.out.lt j hj).1)); have HO3 := Lib.hid hown3; obtain ⟨r2, cap2, rfl⟩ := owns_form hown3; clear hgrow3 hown3)
                go_roundw
                case rel => exact ⟨k + 1, C', r2, cap2, c ++ [newA c C x], rfl, rfl, by go_num, by omega, by omega, hC4, by rw [flat_snoc, HA.out]; exact HO3.out, Lib.hid ⟨by simp; exact HC.out.1, HS.out⟩, HB3.out⟩
                case measure => simp [intOf]; omega
            · have HA : Hid (cc (newA c C x) = [.int .u32 (C' : Int), .string NM, .int .u8 (kd : Int), .int .u32 0]) := Lib.hid (by rw [hnew, if_neg hD]; exact hCb.out)
              clear hnew
              go_wp2_with (first
                  | (go_at_call 106; refine HQ.out.mono ?_; rintro e w2 ⟨rfl, hb2⟩; have HO4 := Lib.hid (owns_stay (HO2.out.alloc _) hb2); have HB4 := Lib.hid ((HB2.out.alloc hbs2 _).trans (hb2.mono (HB2.out.alloc hbs2 _).size)); have hs4 : w.heap.size ≤ w2.heap.size := HB4.out.size; obtain ⟨g0, g1, g2, g3, f0, f1, f2, f3, hGs⟩ := HGP.out.stay hb2; have q0 := cell_on hb2 P0.out; have q2 := cell_on hb2 P2.out; clear hb2)
                  | (at_builtin; refine wpList_append_own _ rfl (.tmp 62) (.tmp 64) 60 rfl w.heap.size 84 i0 (.agg #[.int .u32 0, .string ⟨#[]⟩, .int .u8 0, .int .u32 0]) 4 32 Tryz.underlying60 hi hz0 hz1 hz2 rfl (by decide) _ k _ rfl (HO4.out.alloc _) ⟨w2.heap.size, 0, none⟩ 1 1 [.int .u32 (C' : Int), .string NM, .int .u8 (kd : Int), .int .u32 0] rfl rfl (cells_new _ [.int .u32 (C' : Int), .string NM, .int .u8 (kd : Int), .int .u32 0] _) (fun u hu => by simp at hu; rcases hu with rfl | rfl | rfl | rfl <;> rfl) (by unfold maxLen; omega) (by omega) (by simp; omega) ?_; intro v2 w3 hown3 hgrow3 _; have HB3 := Lib.hid ((HB4.out.alloc (by omega) _).grown hgrow3 (by simp; omega) (fun j hj => (HO4.out.lt j hj).1)); have HO3 := Lib.hid hown3; obtain ⟨r2, cap2, rfl⟩ := owns_form hown3; clear hgrow3 hown3))
              go_roundw
              case rel => exact ⟨k + 1, C', r2, cap2, c ++ [newA c C x], rfl, rfl, by go_num, by omega, by omega, hC4, by rw [flat_snoc, HA.out]; exact HO3.out, Lib.hid ⟨by simp; exact HC.out.1, HS.out⟩, HB3.out⟩
              case measure => simp [intOf]; omega
    · obtain rfl : k = L := by omega
      have HE : Hid (c = M) := Lib.hid (by rw [← HM.out, show min 40 k = k by omega, HC.out.2])
      have HB := Lib.hid hb
      have HO := Lib.hid hown
      clear hb hown
      go_wp2
      go_ret
      refine ⟨_, rfl, ?_, HB.out⟩
      rw [← HE.out, HC.out.1]
      exact HO.out
end Go.Proofs.YtafmakhhdinknaaGreatDoor
/- Contract of slices.Sort at a few entities, whole. -/
namespace Go.Proofs.YtafmakhhdinknaaGreatDoor
open Go.RowKit
set_option linter.unusedVariables false
set_option linter.unusedSimpArgs false
set_option maxRecDepth 100000 in
theorem len64_few (n : Nat) (h : n ≤ 12) (w : World) : Calls Tryz.prog 165 #[.int .u64 (n : Int)] w fun e w' => (∃ m : Int, e = .returned (.int .i64 m)) ∧ w' = w := by
  rcases (by omega : n = 0 ∨ n = 1 ∨ n = 2 ∨ n = 3 ∨ n = 4 ∨ n = 5 ∨ n = 6 ∨ n = 7 ∨ n = 8 ∨ n = 9 ∨ n = 10 ∨ n = 11 ∨ n = 12) with rfl | rfl | rfl | rfl | rfl | rfl | rfl | rfl | rfl | rfl | rfl | rfl | rfl
  all_goals
    clear h
    go_enter Tryz.func165, Tryz.ntmps165
    go_wp2
    go_ret
    exact ⟨⟨_, rfl⟩, rfl⟩
theorem len_few (n : Nat) (h : n ≤ 12) (w : World) : Calls Tryz.prog 130 #[.int .u64 (n : Int)] w fun e w' => (∃ m : Int, e = .returned (.int .i64 m)) ∧ w' = w := by
  have K := Lib.hid (fun w => len64_few n h w)
  clear h
  go_enter Tryz.func130, Tryz.ntmps130
  go_wp2_with (go_at_call 165; refine (K.out _).mono ?_; rintro e w1 ⟨⟨m, rfl⟩, rfl⟩)
  go_ret
  exact ⟨⟨_, rfl⟩, rfl⟩
theorem ins16_none (p : Option Addr) (cap : Nat) (w : World) : Calls Tryz.prog 155 #[.slice p 0 cap, .int .i64 0, .int .i64 0] w fun e w' => e = .returned (.tuple #[]) ∧ w' = w := by
  go_enter Tryz.func155, Tryz.ntmps155
  go_wp2
  go_loopw [6] (fun i wr => i = .int .i64 1 ∧ wr = w) (fun _ _ => 0)
  case atStart => exact ⟨rfl, rfl⟩
  case round =>
    obtain ⟨rfl, rfl⟩ := hrel
    go_wp2
    go_end0
    exact ⟨rfl, rfl⟩
/-- What a sort of few numbers does, whatever they are: said of the slice as it is handed over. -/
def Sorts (T : TypeId) (base : Nat) (v : Value) (n : Nat) (xs : List Nat) (w w' : World) : Prop :=
  ∃ ys, ys.Perm xs ∧ Srt ys ∧ w'.ownsRow base T 1 v n (ys.flatMap uc) ∧ w.grownBy w' v.ownBlock
theorem ins_any16 (xs : List Nat) (v : Value) (n base : Nat) (w : World) (ho : w.ownsRow base 87 1 v n (xs.flatMap uc)) (hn : xs.length = n) (h12 : n ≤ 12) :
    Calls Tryz.prog 155 #[v, .int .i64 0, .int .i64 (n : Int)] w fun e w' => e = .returned (.tuple #[]) ∧ Sorts 87 base v n xs w w' := by
  by_cases h0 : n = 0
  · subst h0
    obtain rfl := List.eq_nil_of_length_eq_zero hn
    obtain ⟨r, cap, rfl⟩ : ∃ r cap, v = .slice r 0 cap := by
      rcases ho.2 with ⟨rfl, _⟩ | ⟨g, cap, cur, rfl, _⟩
      · exact ⟨_, _, rfl⟩
      · exact ⟨_, _, rfl⟩
    refine (ins16_none r cap w).mono ?_
    rintro e w' ⟨rfl, rfl⟩
    exact ⟨rfl, [], List.Perm.refl _, List.Pairwise.nil, ho, World.grownBy.refl _ _⟩
  · obtain ⟨g, cap, rfl⟩ : ∃ g cap, v = .slice (some ⟨g, 0, none⟩) n cap := by
      rcases ho.2 with ⟨_, h⟩ | ⟨g, cap, cur, rfl, _⟩
      · exact absurd h h0
      · exact ⟨_, _, rfl⟩
    exact (ins16 xs g n cap base w ho hn (by omega) h12).mono fun e w' ⟨h1, ys, h2, h3, h4, h5⟩ => ⟨h1, ys, h2, h3, h4, h5⟩
set_option maxHeartbeats 1000000 in
set_option maxRecDepth 100000 in
theorem pdq16 (xs : List Nat) (v : Value) (n base : Nat) (m : Int) (w : World) (ho : w.ownsRow base 87 1 v n (xs.flatMap uc)) (hn : xs.length = n) (h12 : n ≤ 12) :
    Calls Tryz.prog 129 #[v, .int .i64 0, .int .i64 (n : Int), .int .i64 m] w fun e w' => e = .returned (.tuple #[]) ∧ Sorts 87 base v n xs w w' := by
  have K := Lib.hid (ins_any16 xs v n base w ho hn h12)
  obtain ⟨r, cap, rfl⟩ : ∃ r cap, v = .slice r n cap := by
    rcases ho.2 with ⟨rfl, h⟩ | ⟨g, cap, cur, rfl, _⟩
    · subst h; exact ⟨_, _, rfl⟩
    · exact ⟨_, _, rfl⟩
  have e1 : (n : Int) ≤ 12 := by omega
  clear ho hn
  go_enter Tryz.func129, Tryz.ntmps129
  go_wp2
  refine wp_loop_rounds 1 ?_
  rw [rounds_succ]
  go_wp2_with (go_at_call 155; refine K.out.mono ?_; rintro e w1 ⟨rfl, hs⟩; have HS := Lib.hid hs; clear hs)
  (try simp only [Exit.inBlock, Exit.then])
  refine bodyPost_ret (results_none rfl _ _ _) rfl ?_
  exact ⟨rfl, HS.out⟩
theorem sort16 (xs : List Nat) (v : Value) (n base : Nat) (w : World) (ho : w.ownsRow base 87 1 v n (xs.flatMap uc)) (hn : xs.length = n) (h12 : n ≤ 12) :
    Calls Tryz.prog 108 #[v] w fun e w' => e = .returned (.tuple #[]) ∧ Sorts 87 base v n xs w w' := by
  have K := Lib.hid (fun m => pdq16 xs v n base m w ho hn h12)
  have KL := Lib.hid (fun w => len_few n h12 w)
  obtain ⟨r, cap, rfl⟩ : ∃ r cap, v = .slice r n cap := by
    rcases ho.2 with ⟨rfl, h⟩ | ⟨g, cap, cur, rfl, _⟩
    · subst h; exact ⟨_, _, rfl⟩
    · exact ⟨_, _, rfl⟩
  have e1 : IntKind.u64.wrap (n : Int) = (n : Int) := by rw [IntKind.wrap_u64]; omega
  clear ho hn
  go_enter Tryz.func108, Tryz.ntmps108
  go_wp2_with (first
    | (go_at_call 130; refine (KL.out _).mono ?_; rintro e w1 ⟨⟨m, rfl⟩, rfl⟩)
    | (go_at_call 129; refine (K.out m).mono ?_; rintro e w1 ⟨rfl, hs⟩; have HS := Lib.hid hs; clear hs))
  go_end0
  exact ⟨rfl, HS.out⟩
end Go.Proofs.YtafmakhhdinknaaGreatDoor
/- Contract of law 7's Make. -/
namespace Go.Proofs.YtafmakhhdinknaaGreatDoor
open Go.RowKit
set_option linter.unusedVariables false
set_option linter.unusedSimpArgs false
set_option maxHeartbeats 2000000 in
set_option maxRecDepth 100000 in
theorem makeU_c (v : Value) (l : List Nat) (w : World) (hR : Recs uc 1 w v l) :
    Calls Tryz.prog 86 #[v] w fun e w' => ∃ v', e = .returned v' ∧ w'.ownsRow w.heap.size 87 1 v' (mkU l).length ((mkU l).flatMap uc) ∧ Below w.heap.size w w' := by
  obtain ⟨i0, hi, hz0, hz1, hz2⟩ := info_parts info16
  obtain ⟨r0, cap0, rfl, hm⟩ := hR.form
  have HR := Lib.hid hR
  obtain ⟨L, hL⟩ : ∃ L, l.length = L := ⟨_, rfl⟩
  have HL := Lib.hid hL
  rw [hL] at HR hm ⊢
  clear hR hL
  go_enter Tryz.func86, Tryz.ntmps86
  go_wp2
  go_loopw [3, 8] (fun s3 i wr => ∃ (k m : Nat) (r : Option Addr) (cap : Nat) (o : List Nat), s3 = .slice r m cap ∧ i = .int .i64 k ∧ k ≤ L ∧ m ≤ 9 ∧ wr.ownsRow w.heap.size 87 1 (.slice r m cap) m (o.flatMap uc) ∧ Hid (o.length = m ∧ o = stU l k) ∧ Below w.heap.size w wr) (fun _ i _ => L - (intOf i).toNat)
  case atStart => exact ⟨0, 0, none, 0, [], rfl, rfl, Nat.zero_le _, Nat.zero_le _, World.ownsRow_nil _ _ _ _, Lib.hid ⟨rfl, rfl⟩, Below.refl _ _⟩
  case round =>
    obtain ⟨k, m, r, cap, o, rfl, rfl, hk, hm9, hown, HC, hb⟩ := hrel
    rename World => wr
    have hbs := hb.size
    by_cases hlt : k < L
    · obtain ⟨x, hx⟩ : ∃ x, l[k]? = some x := ⟨l[k]'(by have := HL.out; omega), List.getElem?_eq_getElem (by have := HL.out; omega)⟩
      obtain ⟨g, off, rfl, hg, hc⟩ := (HR.out.stay hb).at hx
      have c0 := hc 0 _ rfl
      simp only [Nat.mul_one, Nat.add_zero] at c0
      obtain ⟨y, hy⟩ : ∃ y, 1 + x % 9 = y := ⟨_, rfl⟩
      have hx9 : x % 9 < 9 := Nat.mod_lt _ (by omega)
      have e1 : 1 + (x : Int).tmod 9 = (y : Int) := by rw [Int.tmod_eq_emod_of_nonneg (by omega)]; omega
      have e2 : IntKind.u16.wrap (y : Int) = (y : Int) := by rw [IntKind.wrap_u16]; omega
      have e3 : 1 + (x : Int) % 9 = (y : Int) := by omega
      have hst := stU_step hx
      have KC := contains_u _ o y wr (recs_of_owns uc_len hown HC.out.1.symm (by omega))
      have HST := Lib.hid (show stU l (k + 1) = if y ∈ o then o else o ++ [y] by rw [hst, ← HC.out.2, ← hy]; rfl)
      have HM := Lib.hid (show (stU l (k + 1)).length ≤ 9 from stU_few l (k + 1))
      have HB := Lib.hid hb
      have HO := Lib.hid hown
      have HOL := Lib.hid hown.lt
      by_cases hin : y ∈ o
      · rw [decide_eq_true hin] at KC
        have HK := Lib.hid KC
        have HI := Lib.hid hin
        clear hb hown hx hc hst KC hy hin
        go_wp2_with (go_at_call 107; refine HK.out.mono ?_; rintro e w1 ⟨rfl, rfl⟩)
        go_roundw
        case rel => exact ⟨k + 1, m, r, cap, o, rfl, by go_num, by omega, by omega, HO.out, Lib.hid ⟨HC.out.1, by rw [HST.out, if_pos HI.out]⟩, HB.out⟩
        case measure => simp [intOf]; omega
      · rw [decide_eq_false hin] at KC
        have HK := Lib.hid KC
        have HI := Lib.hid hin
        clear hb hown hx hc hst KC hy hin
        go_wp2_with (first
          | (go_at_call 107; refine HK.out.mono ?_; rintro e w1 ⟨rfl, rfl⟩)
          | (at_builtin; refine wpList_append_own _ rfl (.tmp 19) (.tmp 21) 62 rfl w.heap.size 87 i0 (.int .u16 0) 1 2 Tryz.underlying62 hi hz0 hz1 hz2 rfl (by decide) _ m _ rfl (HO.out.alloc _) ⟨_, 0, none⟩ 1 1 (uc y) rfl rfl (cells_new _ (uc y) _) (uc_one y) (by unfold maxLen; omega) (by omega) (by simp; omega) ?_; intro v2 w3 hown3 hgrow3 _; have HB3 := Lib.hid ((HB.out.alloc hbs _).grown hgrow3 (by simp; omega) (fun j hj => (HOL.out j hj).1)); have HO3 := Lib.hid hown3; obtain ⟨r2, cap2, rfl⟩ := owns_form hown3; clear hgrow3 hown3))
        go_roundw
        case rel =>
          have hl1 : (o ++ [y]).length = m + 1 := by simp; exact HC.out.1
          have hst := HST.out
          rw [if_neg HI.out] at hst
          have := HM.out
          rw [hst, hl1] at this
          exact ⟨k + 1, m + 1, r2, cap2, o ++ [y], rfl, by go_num, by omega, this, by rw [flat_snoc]; exact HO3.out, Lib.hid ⟨hl1, hst.symm⟩, HB3.out⟩
        case measure => simp [intOf]; omega
    · obtain rfl : k = L := by omega
      have KS := Lib.hid (sort16 o _ m w.heap.size wr hown HC.out.1 (by omega))
      have HB := Lib.hid hb
      have HOL := Lib.hid hown.lt
      clear hb hown
      go_wp2_with (go_at_call 108; refine KS.out.mono ?_; rintro e w1 ⟨rfl, hs⟩; have HS := Lib.hid hs; clear hs)
      go_ret
      obtain ⟨ys, hp, hs, ho, hg⟩ := HS.out
      have e := sort_mk (l := l) (ys := ys) (by rw [HL.out, ← HC.out.2]; exact hp) hs
      subst e
      have hl := hp.length_eq
      rw [HC.out.1] at hl
      refine ⟨_, rfl, by rw [hl]; exact ho, HB.out.grown hg hbs (fun j hj => (HOL.out j hj).1)⟩
end Go.Proofs.YtafmakhhdinknaaGreatDoor
/- Contract of law 10's Frame. -/
namespace Go.Proofs.YtafmakhhdinknaaGreatDoor
open Go.RowKit
set_option linter.unusedVariables false
set_option linter.unusedSimpArgs false
/-- A box that is only read. -/
structure RBox (w : World) (b : Nat) (cs : List Value) : Prop where
  size : b < w.heap.size
  at_ : ∀ j v, cs[j]? = some v → w.cell? ⟨b, j, none⟩ = some v
theorem RBox.new (w : World) (cs : List Value) (T : TypeId) : RBox (w.alloc (.cells cs.toArray T)) w.heap.size cs :=
  ⟨by simp, fun j v h => box_cell w _ T j v (by simpa using h)⟩
theorem RBox.stay {w w' : World} {b : Nat} {cs : List Value} (h : RBox w b cs) (hb : Below w.heap.size w w') : RBox w' b cs :=
  ⟨Nat.lt_of_lt_of_le h.size hb.size, fun j v hj => (hb.cell (p := ⟨b, j, none⟩) h.size).trans (h.at_ j v hj)⟩
theorem RBox.alloc {w : World} {b : Nat} {cs : List Value} (h : RBox w b cs) (o : Obj) : RBox (w.alloc o) b cs := h.stay ((Below.refl _ _).alloc (Nat.le_refl _) o)
theorem RBox.grown {w w' : World} {b : Nat} {cs : List Value} {row : Option Nat} (h : RBox w b cs) (hg : w.grownBy w' row) (hne : some b ≠ row) : RBox w' b cs :=
  ⟨Nat.lt_of_lt_of_le h.size hg.size, fun j v hj => (World.cell?_of_block (a := ⟨b, j, none⟩) (hg.block b h.size hne)).trans (h.at_ j v hj)⟩
theorem owns_mono {w : World} {base base' : Nat} {e : TypeId} {size : Nat} {v : Value} {n : Nat} {xs : List Value} (h : w.ownsRow base e size v n xs) (hb : base' ≤ base) : w.ownsRow base' e size v n xs := by
  refine ⟨h.1, ?_⟩
  rcases h.2 with h0 | ⟨g, cap, cur, h1, h2, h3⟩
  · exact .inl h0
  · exact .inr ⟨g, cap, cur, h1, Nat.le_trans hb h2, h3⟩
theorem box4_heap {w : World} {g : Nat} {c0 c1 c2 c3 : Value} {T : TypeId} (h : w.heap[g]? = some (.cells #[c0, c1, c2, c3] T (0, 0))) : Box4 w g c0 c1 c2 c3 := by
  refine ⟨?_, ?_, ?_, ?_, ?_, ?_, ?_, ?_, (Array.getElem?_eq_some_iff.1 h).1⟩ <;> simp [World.cell?, World.frozen?, h]
theorem owns_type_far {w : World} {base : Nat} {e T : TypeId} {size : Nat} {r : Option Addr} {n cap g : Nat} {xs : List Value} {c : Array Value} (h : w.ownsRow base e size (.slice r n cap) n xs) (hg : w.heap[g]? = some (.cells c T (0, 0))) (hne : e ≠ T) : (Value.slice r n cap).ownBlock ≠ some g := fun he => by
  rcases h.2 with ⟨h1, _⟩ | ⟨k, cp, cur, h1, _, h2, _⟩
  · cases h1; cases he
  · cases h1
    cases he
    rw [h2] at hg
    injection hg with hg
    injection hg with _ h3
    exact hne h3
theorem grown_sets (w : World) (b : Nat) (d0 d1 d2 d3 : Value) : w.grownBy ((((w.setCell ⟨b, 0, none⟩ d0).setCell ⟨b, 1, none⟩ d1).setCell ⟨b, 2, none⟩ d2).setCell ⟨b, 3, none⟩ d3) (some b) :=
  (((grownBy_set w ⟨b, 0, none⟩ d0).trans (grownBy_set _ ⟨b, 1, none⟩ d1)).trans (grownBy_set _ ⟨b, 2, none⟩ d2)).trans (grownBy_set _ ⟨b, 3, none⟩ d3)
theorem Box4.set0 {w : World} {b : Nat} {c0 c1 c2 c3 : Value} (h : Box4 w b c0 c1 c2 c3) (u : Value) : Box4 (w.setCell ⟨b, 0, none⟩ u) b u c1 c2 c3 := by
  obtain ⟨h0, h1, h2, h3, f0, f1, f2, f3, h4⟩ := h
  exact ⟨by go_simp, by go_simp, by go_simp, by go_simp, by go_simp, by go_simp, by go_simp, by go_simp, by go_simp⟩
theorem Box4.set1 {w : World} {b : Nat} {c0 c1 c2 c3 : Value} (h : Box4 w b c0 c1 c2 c3) (u : Value) : Box4 (w.setCell ⟨b, 1, none⟩ u) b c0 u c2 c3 := by
  obtain ⟨h0, h1, h2, h3, f0, f1, f2, f3, h4⟩ := h
  exact ⟨by go_simp, by go_simp, by go_simp, by go_simp, by go_simp, by go_simp, by go_simp, by go_simp, by go_simp⟩
section
variable {P : Program} {ops : Array Oper} {Q : Exit → Act → World → Prop}
theorem op_run {i : Nat} {K : Act → World → Prop} {a : Act} {w w' : World} (op : Op) (dst : Option Tmp) (ho : opIs ops i op dst) (v : Value) (hrun : ∀ o : Oper, o.op = op → (execOp a.eval o).run P w = .ok (.value v) w') (hk : K (a.put dst v) w') : wpOp P ops Q i K a w := by
  refine op_any ho (fun o h1 h2 => ?_)
  unfold Oper.wp
  rw [hrun o h1]
  subst h2
  exact hk
end
/-- A book by small numbers, as a value. -/
def bV (vCh vUn : Value) (first : Int) (vLo vJs : Value) : Value := .agg #[vCh, vUn, .int .i16 first, vLo, vJs]
/-- What holds of the values by which law 10 makes a frame. -/
def RF (B X : Nat) (vCh vUn vLo : Value) (first E : Int) (C : List Ac) (U : List Nat) (S : List Int) : Nat → Value → World → Prop
  | 0, v, _ => v = .pointer (some ⟨X, 0, none⟩)
  | 1, v, _ => v = vCh
  | 2, v, w => w.ownsRow B 84 4 v C.length (C.flatMap cc)
  | 3, v, _ => v = .pointer (some ⟨X, 1, none⟩)
  | 4, v, _ => v = vUn
  | 5, v, w => w.ownsRow B 87 1 v U.length (U.flatMap uc)
  | 6, v, _ => v = .pointer (some ⟨X, 2, none⟩)
  | 7, v, _ => v = .int .i16 first
  | 8, v, _ => v = .pointer (some ⟨X, 3, none⟩)
  | 9, v, _ => v = vLo
  | 10, v, w => ∃ vS, v = .agg #[vS, .int .i32 E] ∧ w.ownsRow B 29 1 vS S.length (S.flatMap dcl)
  | 11, v, w => ∃ vC vU vS, v = .agg #[vC, vU, vS, .int .i32 E] ∧ w.ownsRow B 84 4 vC C.length (C.flatMap cc) ∧ w.ownsRow B 87 1 vU U.length (U.flatMap uc) ∧ w.ownsRow B 29 1 vS S.length (S.flatMap dcl)
  | _, v, w => ∃ g, v = .pointer (some ⟨g, 0, none⟩) ∧ B ≤ g ∧ w.heap[g]? = some (.cells #[.slice none 0 0, .slice none 0 0, .slice none 0 0, .int .i32 0] 64 (0, 0))
theorem RF.stay {B X : Nat} {vCh vUn vLo : Value} {first E : Int} {C : List Ac} {U : List Nat} {S : List Int} {w w' : World} (hb : Below w.heap.size w w') : ∀ j u, RF B X vCh vUn vLo first E C U S j u w → RF B X vCh vUn vLo first E C U S j u w'
  | 0, _, h => h
  | 1, _, h => h
  | 2, _, h => owns_below (by exact h) hb
  | 3, _, h => h
  | 4, _, h => h
  | 5, _, h => owns_below (by exact h) hb
  | 6, _, h => h
  | 7, _, h => h
  | 8, _, h => h
  | 9, _, h => h
  | 10, _, ⟨vS, h1, h2⟩ => ⟨vS, h1, owns_below h2 hb⟩
  | 11, _, ⟨vC, vU, vS, h1, h2, h3, h4⟩ => ⟨vC, vU, vS, h1, owns_below h2 hb, owns_below h3 hb, owns_below h4 hb⟩
  | _ + 12, _, ⟨g, h1, h2, h3⟩ => ⟨g, h1, h2, (hb.block g (Array.getElem?_eq_some_iff.1 h3).1).trans h3⟩
set_option maxHeartbeats 4000000 in
set_option maxRecDepth 100000 in
theorem frame_c (x : Bk) (vCh vUn vLo vJs : Value) (w : World) (h1 : Recs qc 4 w vCh x.chart) (h2 : Recs uc 1 w vUn x.units) (h3 : Recs u8c 1 w vLo x.long) :
    Calls Tryz.prog 70 #[bV vCh vUn x.first vLo vJs] w fun e w' => ∃ vC vU vS, e = .returned (frV vC vU vS (frB x).E) ∧ w'.ownsRow w.heap.size 84 4 vC (frB x).C.length ((frB x).C.flatMap cc) ∧ w'.ownsRow w.heap.size 87 1 vU (frB x).U.length ((frB x).U.flatMap uc) ∧ w'.ownsRow w.heap.size 29 1 vS (frB x).S.length ((frB x).S.flatMap dcl) ∧ Below w.heap.size w w' := by
  have hmix : Tryz.prog.follows .mixedOrders = true := by kernel_rfl
  have H1 := Lib.hid h1
  have H2 := Lib.hid h2
  have H3 := Lib.hid h3
  have hf := x.hf
  unfold bV frV
  obtain ⟨r1, c1, rfl, _⟩ := h1.form
  obtain ⟨r2, c2, rfl, _⟩ := h2.form
  obtain ⟨r3, c3, rfl, _⟩ := h3.form
  clear h1 h2 h3
  go_enter Tryz.func70, Tryz.ntmps70
  go_upto_region 1 with fail
  have hb := ((Below.refl w.heap.size w).alloc (Nat.le_refl _) (.cells #[.slice r1 x.chart.length c1, .slice r2 x.units.length c2, .int .i16 x.first, .slice r3 x.long.length c3, vJs] 101)).alloc (by simp) (.cells #[.slice none 0 0, .slice none 0 0, .slice none 0 0, .int .i32 0] 64)
  have bx := (RBox.new w [.slice r1 x.chart.length c1, .slice r2 x.units.length c2, .int .i16 x.first, .slice r3 x.long.length c3, vJs] 101).alloc (.cells #[.slice none 0 0, .slice none 0 0, .slice none 0 0, .int .i32 0] 64)
  have s1 : (w.alloc (.cells #[.slice r1 x.chart.length c1, .slice r2 x.units.length c2, .int .i16 x.first, .slice r3 x.long.length c3, vJs] 101)).heap.size = w.heap.size + 1 := by simp
  change RBox ((w.alloc (.cells #[.slice r1 x.chart.length c1, .slice r2 x.units.length c2, .int .i16 x.first, .slice r3 x.long.length c3, vJs] 101)).alloc _) _ _ at bx
  generalize w.alloc (.cells #[.slice r1 x.chart.length c1, .slice r2 x.units.length c2, .int .i16 x.first, .slice r3 x.long.length c3, vJs] 101) = w1 at hb bx s1 ⊢
  have br := Box4.new w1 (.slice none 0 0) (.slice none 0 0) (.slice none 0 0) (.int .i32 0) 64
  have s2 : (w1.alloc (.cells #[.slice none 0 0, .slice none 0 0, .slice none 0 0, .int .i32 0] 64)).heap.size = w.heap.size + 1 + 1 := by simp; omega
  rw [s1] at br
  generalize w1.alloc (.cells #[.slice none 0 0, .slice none 0 0, .slice none 0 0, .int .i32 0] 64) = W at hb bx br s2 ⊢
  have HX := Lib.hid bx
  have HBR := Lib.hid br
  have HB := Lib.hid hb
  have HS := Lib.hid s2
  clear hb bx br s1 s2
  refine wp_region_part 13 (fun w' => Below W.heap.size W w') (RF W.heap.size w.heap.size (.slice r1 x.chart.length c1) (.slice r2 x.units.length c2) (.slice r3 x.long.length c3) x.first (mkE x.first x.long) (mkC x.chart) (mkU x.units) (mkS x.first x.long)) hmix (by decide) (by kernel_rfl) (by kernel_rfl) (by kernel_rfl) (Below.refl _ _).drew ?_ ?_
  · intro a w' i hi hC hfar hrd
    have hBw : Below w.heap.size w w' := HB.out.trans (hC.mono (by have := HS.out; omega))
    have K1 := make_c (.slice r1 x.chart.length c1) x.chart w' (H1.out.stay hBw)
    have K2 := makeU_c (.slice r2 x.units.length c2) x.units w' (H2.out.stay hBw)
    have K3 := makeC_c (.slice r3 x.long.length c3) x.long x.first hf w' (H3.out.stay hBw)
    rcases (by omega : i = 0 ∨ i = 1 ∨ i = 2 ∨ i = 3 ∨ i = 4 ∨ i = 5 ∨ i = 6 ∨ i = 7 ∨ i = 8 ∨ i = 9 ∨ i = 10 ∨ i = 11 ∨ i = 12) with rfl | rfl | rfl | rfl | rfl | rfl | rfl | rfl | rfl | rfl | rfl | rfl | rfl
    · refine op_run (.fieldAddr 101 (.tmp 1) 0) (some 4) (by unfold opIs; kernel_rfl) (.pointer (some ⟨w.heap.size, 0, none⟩)) (w' := w') (fun o ho => by unfold execOp; rw [ho]; simp only [(hfar 1 (by kernel_rfl)).trans (show _ = Value.pointer (some ⟨w.heap.size, 0, none⟩) by kernel_rfl)]; go_simp) ?_
      exact ⟨_, congrArg (fun d => a.put d (.pointer (some ⟨w.heap.size, 0, none⟩))) (by kernel_rfl), hC, rfl, fun j u h => h⟩
    · refine op_load 97 (.tmp 4) (some 5) (by unfold opIs; kernel_rfl) _ (.slice r1 x.chart.length c1) (hrd 0 4 (by kernel_rfl) (by kernel_rfl)) (by have := (HX.out.stay hC).at_ 0 _ rfl; go_simp) ?_
      exact ⟨_, congrArg (fun d => a.put d (.slice r1 x.chart.length c1)) (by kernel_rfl), hC, rfl, fun j u h => h⟩
    · refine op_call (.call { callee := .value (.func 85), args := #[.tmp 5], argTypes := #[97] }) (some 6) (by unfold opIs; kernel_rfl) 85 #[.slice r1 x.chart.length c1] (fun o ho => by unfold execOp; rw [ho]; simp only [resolve, List.map_toArray, List.map_cons, List.map_nil, show a.eval (.tmp 5) = _ from hrd 1 5 (by kernel_rfl) (by kernel_rfl)]; kernel_rfl) K1 ?_
      rintro e w'' ⟨v', rfl, ho, hb⟩
      exact ⟨_, rfl, _, congrArg (fun d => a.put d _) (by kernel_rfl), hC.trans (hb.mono hC.size), owns_mono ho hC.size, RF.stay hb⟩
    · refine op_run (.fieldAddr 101 (.tmp 1) 1) (some 7) (by unfold opIs; kernel_rfl) (.pointer (some ⟨w.heap.size, 1, none⟩)) (w' := w') (fun o ho => by unfold execOp; rw [ho]; simp only [(hfar 1 (by kernel_rfl)).trans (show _ = Value.pointer (some ⟨w.heap.size, 0, none⟩) by kernel_rfl)]; go_simp) ?_
      exact ⟨_, congrArg (fun d => a.put d (.pointer (some ⟨w.heap.size, 1, none⟩))) (by kernel_rfl), hC, rfl, fun j u h => h⟩
    · refine op_load 61 (.tmp 7) (some 8) (by unfold opIs; kernel_rfl) _ (.slice r2 x.units.length c2) (hrd 3 7 (by kernel_rfl) (by kernel_rfl)) (by have := (HX.out.stay hC).at_ 1 _ rfl; go_simp) ?_
      exact ⟨_, congrArg (fun d => a.put d (.slice r2 x.units.length c2)) (by kernel_rfl), hC, rfl, fun j u h => h⟩
    · refine op_call (.call { callee := .value (.func 86), args := #[.tmp 8], argTypes := #[61] }) (some 9) (by unfold opIs; kernel_rfl) 86 #[.slice r2 x.units.length c2] (fun o ho => by unfold execOp; rw [ho]; simp only [resolve, List.map_toArray, List.map_cons, List.map_nil, show a.eval (.tmp 8) = _ from hrd 4 8 (by kernel_rfl) (by kernel_rfl)]; kernel_rfl) K2 ?_
      rintro e w'' ⟨v', rfl, ho, hb⟩
      exact ⟨_, rfl, _, congrArg (fun d => a.put d _) (by kernel_rfl), hC.trans (hb.mono hC.size), owns_mono ho hC.size, RF.stay hb⟩
    · refine op_run (.fieldAddr 101 (.tmp 1) 2) (some 10) (by unfold opIs; kernel_rfl) (.pointer (some ⟨w.heap.size, 2, none⟩)) (w' := w') (fun o ho => by unfold execOp; rw [ho]; simp only [(hfar 1 (by kernel_rfl)).trans (show _ = Value.pointer (some ⟨w.heap.size, 0, none⟩) by kernel_rfl)]; go_simp) ?_
      exact ⟨_, congrArg (fun d => a.put d (.pointer (some ⟨w.heap.size, 2, none⟩))) (by kernel_rfl), hC, rfl, fun j u h => h⟩
    · refine op_load 98 (.tmp 10) (some 11) (by unfold opIs; kernel_rfl) _ (.int .i16 x.first) (hrd 6 10 (by kernel_rfl) (by kernel_rfl)) (by have := (HX.out.stay hC).at_ 2 _ rfl; go_simp) ?_
      exact ⟨_, congrArg (fun d => a.put d (.int .i16 x.first)) (by kernel_rfl), hC, rfl, fun j u h => h⟩
    · refine op_run (.fieldAddr 101 (.tmp 1) 3) (some 12) (by unfold opIs; kernel_rfl) (.pointer (some ⟨w.heap.size, 3, none⟩)) (w' := w') (fun o ho => by unfold execOp; rw [ho]; simp only [(hfar 1 (by kernel_rfl)).trans (show _ = Value.pointer (some ⟨w.heap.size, 0, none⟩) by kernel_rfl)]; go_simp) ?_
      exact ⟨_, congrArg (fun d => a.put d (.pointer (some ⟨w.heap.size, 3, none⟩))) (by kernel_rfl), hC, rfl, fun j u h => h⟩
    · refine op_load 45 (.tmp 12) (some 13) (by unfold opIs; kernel_rfl) _ (.slice r3 x.long.length c3) (hrd 8 12 (by kernel_rfl) (by kernel_rfl)) (by have := (HX.out.stay hC).at_ 3 _ rfl; go_simp) ?_
      exact ⟨_, congrArg (fun d => a.put d (.slice r3 x.long.length c3)) (by kernel_rfl), hC, rfl, fun j u h => h⟩
    · refine op_call (.call { callee := .value (.func 87), args := #[.tmp 11, .tmp 13], argTypes := #[98, 45] }) (some 14) (by unfold opIs; kernel_rfl) 87 #[.int .i16 x.first, .slice r3 x.long.length c3] (fun o ho => by unfold execOp; rw [ho]; simp only [resolve, List.map_toArray, List.map_cons, List.map_nil, show a.eval (.tmp 11) = _ from hrd 7 11 (by kernel_rfl) (by kernel_rfl), show a.eval (.tmp 13) = _ from hrd 9 13 (by kernel_rfl) (by kernel_rfl)]; kernel_rfl) K3 ?_
      rintro e w'' ⟨v', rfl, ho, hb⟩
      exact ⟨_, rfl, _, congrArg (fun d => a.put d _) (by kernel_rfl), hC.trans (hb.mono hC.size), ⟨v', rfl, owns_mono ho hC.size⟩, RF.stay hb⟩
    · obtain ⟨vS, e3, hS⟩ := hrd 10 14 (by kernel_rfl) (by kernel_rfl)
      have e1 : w'.ownsRow W.heap.size 84 4 (a.eval (.tmp 6)) (mkC x.chart).length ((mkC x.chart).flatMap cc) := hrd 2 6 (by kernel_rfl) (by kernel_rfl)
      have e2 : w'.ownsRow W.heap.size 87 1 (a.eval (.tmp 9)) (mkU x.units).length ((mkU x.units).flatMap uc) := hrd 5 9 (by kernel_rfl) (by kernel_rfl)
      obtain ⟨q1, n1, g1⟩ := owns_form e1
      obtain ⟨q2, n2, g2⟩ := owns_form e2
      obtain ⟨q3, n3, rfl⟩ := owns_form hS
      rw [g1] at e1
      rw [g2] at e2
      refine op_run (.build 64 #[(0, .tmp 6), (1, .tmp 9), (2, .tmp 14)]) (some 15) (by unfold opIs; kernel_rfl) (.agg #[.slice q1 (mkC x.chart).length n1, .slice q2 (mkU x.units).length n2, .slice q3 (mkS x.first x.long).length n3, .int .i32 (mkE x.first x.long)]) (w' := w') (fun o ho => by
        unfold execOp; rw [ho]
        simp only [List.map_toArray, List.map_cons, List.map_nil, e3, g1, g2]
        go_simp) ?_
      exact ⟨_, congrArg (fun d => a.put d (.agg #[.slice q1 (mkC x.chart).length n1, .slice q2 (mkU x.units).length n2, .slice q3 (mkS x.first x.long).length n3, .int .i32 (mkE x.first x.long)])) (by kernel_rfl), hC, ⟨_, _, _, rfl, e1, e2, hS⟩, fun j u h => h⟩
    · refine op_run (.alloc 64) (some 3) (by unfold opIs; kernel_rfl) (.pointer (some ⟨w'.heap.size, 0, none⟩)) (w' := w'.alloc (.cells #[.slice none 0 0, .slice none 0 0, .slice none 0 0, .int .i32 0] 64)) (fun o ho => by unfold execOp; rw [ho]; go_simp) ?_
      have hb := (Below.refl w'.heap.size w').alloc (Nat.le_refl _) (.cells #[.slice none 0 0, .slice none 0 0, .slice none 0 0, .int .i32 0] 64)
      exact ⟨_, congrArg (fun d => a.put d (.pointer (some ⟨w'.heap.size, 0, none⟩))) (by kernel_rfl), hC.trans (hb.mono hC.size), ⟨_, rfl, hC.size, heap_alloc_new w' _⟩, RF.stay hb⟩
  · intro b w' hC hR
    obtain ⟨vC, vU, vS, e11, oC, oU, oS⟩ := hR 11 (by omega)
    obtain ⟨g, e12, hg, hgz⟩ := hR 12 (by omega)
    simp only [List.take_succ_cons, List.take_zero, List.drop_succ_cons, List.drop_zero, putL, if_true, Nat.reduceAdd, Act.put, List.getElem_toArray, List.getElem_cons_zero, List.getElem_cons_succ, List.setIfInBounds_toArray, List.set_cons_zero, List.set_cons_succ]
    rw [e11, e12]
    clear e11 e12 hR
    obtain ⟨q1, n1, rfl⟩ := owns_form oC
    obtain ⟨q2, n2, rfl⟩ := owns_form oU
    obtain ⟨q3, n3, rfl⟩ := owns_form oS
    have bg := box4_heap hgz
    have fC := owns_type_far oC hgz (by decide)
    have fU := owns_type_far oU hgz (by decide)
    have fS := owns_type_far oS hgz (by decide)
    have BR := Lib.hid (HBR.out.stay hC)
    have HB1 := Lib.hid (HB.out.trans (hC.mono (by have := HS.out; omega)))
    have HSZ := Lib.hid hC.size
    have HG := Lib.hid hg
    obtain ⟨LC, hLC⟩ : ∃ n, (mkC x.chart).length = n := ⟨_, rfl⟩
    obtain ⟨LU, hLU⟩ : ∃ n, (mkU x.units).length = n := ⟨_, rfl⟩
    obtain ⟨LS, hLS⟩ : ∃ n, (mkS x.first x.long).length = n := ⟨_, rfl⟩
    obtain ⟨EE, hEE⟩ : ∃ n, mkE x.first x.long = n := ⟨_, rfl⟩
    rw [hLC] at oC fC ⊢
    rw [hLU] at oU fU ⊢
    rw [hLS] at oS fS ⊢
    rw [hEE]
    have HOC := Lib.hid oC
    have HOU := Lib.hid oU
    have HOS := Lib.hid oS
    have HFC := Lib.hid fC
    have HFU := Lib.hid fU
    have HFS := Lib.hid fS
    have HE : Hid ((frB x).E = EE ∧ (frB x).S = mkS x.first x.long) := Lib.hid ⟨hEE, rfl⟩
    have HL := Lib.hid (And.intro hLC (And.intro hLU hLS))
    obtain ⟨z0, z1, z2, z3, z4, z5, z6, z7, z8⟩ := bg
    have HBG := Lib.hid (show Box4 w' g _ _ _ _ from ⟨z0, z1, z2, z3, z4, z5, z6, z7, z8⟩)
    clear oC oU oS fC fU fS hLC hLU hLS hEE hg hC hgz H1 H2 H3 HX HBR HB
    go_upto_region 2 with fail
    have G1 := grown_sets w' g (.slice q1 LC n1) (.slice q2 LU n2) (.slice q3 LS n3) (.int .i32 EE)
    have BG := Lib.hid (HBG.out.sets (.slice q1 LC n1) (.slice q2 LU n2) (.slice q3 LS n3) (.int .i32 EE))
    have PC := Lib.hid (HOC.out.kept G1 (.inr HFC.out))
    have PU := Lib.hid (HOU.out.kept G1 (.inr HFU.out))
    have PS := Lib.hid (HOS.out.kept G1 (.inr HFS.out))
    have PR := Lib.hid (BR.out.grown G1 (by intro h; have := Option.some.inj h; have := HG.out; have := HS.out; omega))
    have PB := Lib.hid (HB1.out.grown G1 HB1.out.size (fun j hj => by cases hj; have := HG.out; have := HS.out; omega))
    have PZ := Lib.hid (Nat.le_trans HSZ.out G1.size)
    clear G1 HBG HOC HOU HOS BR HB1 HSZ z0 z1 z2 z3 z4 z5 z6 z7 z8
    generalize ((((w'.setCell ⟨g, 0, none⟩ (.slice q1 LC n1)).setCell ⟨g, 1, none⟩ (.slice q2 LU n2)).setCell ⟨g, 2, none⟩ (.slice q3 LS n3)).setCell ⟨g, 3, none⟩ (.int .i32 EE)) = V0 at *
    obtain ⟨z0, z1, z2, z3, z4, z5, z6, z7, z8⟩ := BG.out
    rcases Nat.eq_zero_or_pos LC with hc0 | hc0
    · subst hc0
      go_upto_region 4 with fail
      have GS : World.grownBy V0 (V0.setCell ⟨g, 0, none⟩ (.slice (some ⟨V0.heap.size, 0, none⟩) 1 1)) (some g) := grownBy_set V0 ⟨g, 0, none⟩ (.slice (some ⟨V0.heap.size, 0, none⟩) 1 1)
      have hz : (V0.setCell ⟨g, 0, none⟩ (.slice (some ⟨V0.heap.size, 0, none⟩) 1 1)).heap.size = V0.heap.size := by simp
      have GB := (Below.refl (V0.setCell ⟨g, 0, none⟩ (.slice (some ⟨V0.heap.size, 0, none⟩) 1 1)).heap.size (V0.setCell ⟨g, 0, none⟩ (.slice (some ⟨V0.heap.size, 0, none⟩) 1 1))).alloc (Nat.le_refl _) (.cells #[.int .u32 7, .string ⟨#[67, 97, 115, 104]⟩, .int .u8 0, .int .u32 0] 84)
      have hgs : g < V0.heap.size := BG.out.size
      have hlit := World.ownsRow_lit (base := W.heap.size) (e := 84) (size := 4) (V0.setCell ⟨g, 0, none⟩ (.slice (some ⟨V0.heap.size, 0, none⟩) 1 1)) #[.int .u32 7, .string ⟨#[67, 97, 115, 104]⟩, .int .u8 0, .int .u32 0] 1 (by rw [hz]; exact PZ.out) (by unfold maxLen; omega) rfl
      rw [hz] at hlit
      have N_BG := Lib.hid ((BG.out.set0 (.slice (some ⟨V0.heap.size, 0, none⟩) 1 1)).alloc (.cells #[.int .u32 7, .string ⟨#[67, 97, 115, 104]⟩, .int .u8 0, .int .u32 0] 84))
      have N_PC := Lib.hid hlit
      have N_PU := Lib.hid (owns_below (PU.out.kept GS (.inr HFU.out)) GB)
      have N_PS := Lib.hid (owns_below (PS.out.kept GS (.inr HFS.out)) GB)
      have N_PR := Lib.hid ((PR.out.grown GS (by intro h; have := Option.some.inj h; have := HG.out; have := HS.out; omega)).alloc (.cells #[.int .u32 7, .string ⟨#[67, 97, 115, 104]⟩, .int .u8 0, .int .u32 0] 84))
      have hpb := PB.out.grown GS PB.out.size (fun j hj => by cases hj; have := HG.out; have := HS.out; omega)
      have N_PB := Lib.hid (hpb.alloc hpb.size (.cells #[.int .u32 7, .string ⟨#[67, 97, 115, 104]⟩, .int .u8 0, .int .u32 0] 84))
      have N_PZ := Lib.hid (Nat.le_trans (Nat.le_trans PZ.out GS.size) GB.size)
      have N_HFC := Lib.hid (show (Value.slice (some ⟨V0.heap.size, 0, none⟩) 1 1).ownBlock ≠ some g by intro h; exact absurd (Option.some.inj h) (Nat.ne_of_gt hgs))
      clear BG PC PU PS PR PB PZ HFC
      clear GS GB hgs hz hpb hlit z0 z1 z2 z3 z4 z5 z6 z7 z8
      generalize hA : (V0.setCell ⟨g, 0, none⟩ (.slice (some ⟨V0.heap.size, 0, none⟩) 1 1)).alloc (.cells #[.int .u32 7, .string ⟨#[67, 97, 115, 104]⟩, .int .u8 0, .int .u32 0] 84) = V1 at *
      clear hA
      generalize V0.heap.size = YC at *
      have BG := N_BG
      have PC := N_PC
      have PU := N_PU
      have PS := N_PS
      have PR := N_PR
      have PB := N_PB
      have PZ := N_PZ
      have HFC := N_HFC
      clear N_BG N_PC N_PU N_PS N_PR N_PB N_PZ N_HFC
      obtain ⟨z0, z1, z2, z3, z4, z5, z6, z7, z8⟩ := BG.out
      rcases Nat.eq_zero_or_pos LU with hu0 | hu0
      · subst hu0
        go_upto_region 6 with fail
        have GS : World.grownBy V1 (V1.setCell ⟨g, 1, none⟩ (.slice (some ⟨V1.heap.size, 0, none⟩) 1 1)) (some g) := grownBy_set V1 ⟨g, 1, none⟩ (.slice (some ⟨V1.heap.size, 0, none⟩) 1 1)
        have hz : (V1.setCell ⟨g, 1, none⟩ (.slice (some ⟨V1.heap.size, 0, none⟩) 1 1)).heap.size = V1.heap.size := by simp
        have GB := (Below.refl (V1.setCell ⟨g, 1, none⟩ (.slice (some ⟨V1.heap.size, 0, none⟩) 1 1)).heap.size (V1.setCell ⟨g, 1, none⟩ (.slice (some ⟨V1.heap.size, 0, none⟩) 1 1))).alloc (Nat.le_refl _) (.cells #[.int .u16 5] 87)
        have hgs : g < V1.heap.size := BG.out.size
        have hlit := World.ownsRow_lit (base := W.heap.size) (e := 87) (size := 1) (V1.setCell ⟨g, 1, none⟩ (.slice (some ⟨V1.heap.size, 0, none⟩) 1 1)) #[.int .u16 5] 1 (by rw [hz]; exact PZ.out) (by unfold maxLen; omega) rfl
        rw [hz] at hlit
        have N_BG := Lib.hid ((BG.out.set1 (.slice (some ⟨V1.heap.size, 0, none⟩) 1 1)).alloc (.cells #[.int .u16 5] 87))
        have N_PU := Lib.hid hlit
        have N_PC := Lib.hid (owns_below (PC.out.kept GS (.inr HFC.out)) GB)
        have N_PS := Lib.hid (owns_below (PS.out.kept GS (.inr HFS.out)) GB)
        have N_PR := Lib.hid ((PR.out.grown GS (by intro h; have := Option.some.inj h; have := HG.out; have := HS.out; omega)).alloc (.cells #[.int .u16 5] 87))
        have hpb := PB.out.grown GS PB.out.size (fun j hj => by cases hj; have := HG.out; have := HS.out; omega)
        have N_PB := Lib.hid (hpb.alloc hpb.size (.cells #[.int .u16 5] 87))
        have N_PZ := Lib.hid (Nat.le_trans (Nat.le_trans PZ.out GS.size) GB.size)
        have N_HFU := Lib.hid (show (Value.slice (some ⟨V1.heap.size, 0, none⟩) 1 1).ownBlock ≠ some g by intro h; exact absurd (Option.some.inj h) (Nat.ne_of_gt hgs))
        clear BG PC PU PS PR PB PZ HFU
        clear GS GB hgs hz hpb hlit z0 z1 z2 z3 z4 z5 z6 z7 z8
        generalize hA : (V1.setCell ⟨g, 1, none⟩ (.slice (some ⟨V1.heap.size, 0, none⟩) 1 1)).alloc (.cells #[.int .u16 5] 87) = V2 at *
        clear hA
        generalize V1.heap.size = YU at *
        have BG := N_BG
        have PC := N_PC
        have PU := N_PU
        have PS := N_PS
        have PR := N_PR
        have PB := N_PB
        have PZ := N_PZ
        have HFU := N_HFU
        clear N_BG N_PC N_PU N_PS N_PR N_PB N_PZ N_HFU
        obtain ⟨z0, z1, z2, z3, z4, z5, z6, z7, z8⟩ := BG.out
        obtain ⟨t0, t1, t2, t3, t4, t5, t6, t7, t8⟩ := PR.out
        have GR := grown_sets V2 (w.heap.size + 1) (.slice (some ⟨YC, 0, none⟩) 1 1) (.slice (some ⟨YU, 0, none⟩) 1 1) (.slice q3 LS n3) (.int .i32 EE)
        have hr := PR.out.sets (.slice (some ⟨YC, 0, none⟩) 1 1) (.slice (some ⟨YU, 0, none⟩) 1 1) (.slice q3 LS n3) (.int .i32 EE)
        have hbf := PB.out.grown GR PB.out.size (fun j hj => by cases hj; omega)
        have rC := PC.out.kept GR (.inr (owns_far PC.out (m := w.heap.size + 1) (.inl (by have := HS.out; omega))))
        have rU := PU.out.kept GR (.inr (owns_far PU.out (m := w.heap.size + 1) (.inl (by have := HS.out; omega))))
        have rS := PS.out.kept GR (.inr (owns_far PS.out (m := w.heap.size + 1) (.inl (by have := HS.out; omega))))
        have HH := Lib.hid (And.intro hbf (And.intro rC (And.intro rU rS)))
        have HRR := Lib.hid hr
        clear GR hbf rC rU rS hr
        go_wp2_with fail
        obtain ⟨hbf, rC, rU, rS⟩ := HH.out
        obtain ⟨x0, x1, x2, x3, _, _, _, _, _⟩ := HRR.out
        refine bodyPost_ret (v := .agg #[(.slice (some ⟨YC, 0, none⟩) 1 1), (.slice (some ⟨YU, 0, none⟩) 1 1), .slice q3 LS n3, .int .i32 EE]) (by simp [results, Tryz.results70, go_sem, x0, x1, x2, x3]) rfl ?_
        refine ⟨_, _, _, by rw [HE.out.1], ?_, ?_, ?_, hbf⟩
        · show World.ownsRow _ _ _ _ _ (frC x.chart).length ((frC x.chart).flatMap cc)
          unfold frC
          rw [if_pos (List.length_eq_zero_iff.1 HL.out.1)]
          exact owns_mono rC (by have := HS.out; omega)
        · show World.ownsRow _ _ _ _ _ (frU x.units).length ((frU x.units).flatMap uc)
          unfold frU
          rw [if_pos (List.length_eq_zero_iff.1 HL.out.2.1)]
          exact owns_mono rU (by have := HS.out; omega)
        · rw [HE.out.2, HL.out.2.2]
          exact owns_mono rS (by have := HS.out; omega)
      · skip
        have eU : ((LU : Int) == 0) = false := by simp; omega
        have eU2 : ¬ LU = 0 := by omega
        go_upto_region 6 with fail
        obtain ⟨t0, t1, t2, t3, t4, t5, t6, t7, t8⟩ := PR.out
        have GR := grown_sets V1 (w.heap.size + 1) (.slice (some ⟨YC, 0, none⟩) 1 1) (.slice q2 LU n2) (.slice q3 LS n3) (.int .i32 EE)
        have hr := PR.out.sets (.slice (some ⟨YC, 0, none⟩) 1 1) (.slice q2 LU n2) (.slice q3 LS n3) (.int .i32 EE)
        have hbf := PB.out.grown GR PB.out.size (fun j hj => by cases hj; omega)
        have rC := PC.out.kept GR (.inr (owns_far PC.out (m := w.heap.size + 1) (.inl (by have := HS.out; omega))))
        have rU := PU.out.kept GR (.inr (owns_far PU.out (m := w.heap.size + 1) (.inl (by have := HS.out; omega))))
        have rS := PS.out.kept GR (.inr (owns_far PS.out (m := w.heap.size + 1) (.inl (by have := HS.out; omega))))
        have HH := Lib.hid (And.intro hbf (And.intro rC (And.intro rU rS)))
        have HRR := Lib.hid hr
        clear GR hbf rC rU rS hr
        go_wp2_with fail
        obtain ⟨hbf, rC, rU, rS⟩ := HH.out
        obtain ⟨x0, x1, x2, x3, _, _, _, _, _⟩ := HRR.out
        refine bodyPost_ret (v := .agg #[(.slice (some ⟨YC, 0, none⟩) 1 1), (.slice q2 LU n2), .slice q3 LS n3, .int .i32 EE]) (by simp [results, Tryz.results70, go_sem, x0, x1, x2, x3]) rfl ?_
        refine ⟨_, _, _, by rw [HE.out.1], ?_, ?_, ?_, hbf⟩
        · show World.ownsRow _ _ _ _ _ (frC x.chart).length ((frC x.chart).flatMap cc)
          unfold frC
          rw [if_pos (List.length_eq_zero_iff.1 HL.out.1)]
          exact owns_mono rC (by have := HS.out; omega)
        · show World.ownsRow _ _ _ _ _ (frU x.units).length ((frU x.units).flatMap uc)
          unfold frU
          rw [if_neg (fun h => eU2 (by rw [← HL.out.2.1, h]; rfl)), HL.out.2.1]
          exact owns_mono rU (by have := HS.out; omega)
        · rw [HE.out.2, HL.out.2.2]
          exact owns_mono rS (by have := HS.out; omega)
    · skip
      have eC : ((LC : Int) == 0) = false := by simp; omega
      have eC2 : ¬ LC = 0 := by omega
      go_upto_region 4 with fail
      rcases Nat.eq_zero_or_pos LU with hu0 | hu0
      · subst hu0
        go_upto_region 6 with fail
        have GS : World.grownBy V0 (V0.setCell ⟨g, 1, none⟩ (.slice (some ⟨V0.heap.size, 0, none⟩) 1 1)) (some g) := grownBy_set V0 ⟨g, 1, none⟩ (.slice (some ⟨V0.heap.size, 0, none⟩) 1 1)
        have hz : (V0.setCell ⟨g, 1, none⟩ (.slice (some ⟨V0.heap.size, 0, none⟩) 1 1)).heap.size = V0.heap.size := by simp
        have GB := (Below.refl (V0.setCell ⟨g, 1, none⟩ (.slice (some ⟨V0.heap.size, 0, none⟩) 1 1)).heap.size (V0.setCell ⟨g, 1, none⟩ (.slice (some ⟨V0.heap.size, 0, none⟩) 1 1))).alloc (Nat.le_refl _) (.cells #[.int .u16 5] 87)
        have hgs : g < V0.heap.size := BG.out.size
        have hlit := World.ownsRow_lit (base := W.heap.size) (e := 87) (size := 1) (V0.setCell ⟨g, 1, none⟩ (.slice (some ⟨V0.heap.size, 0, none⟩) 1 1)) #[.int .u16 5] 1 (by rw [hz]; exact PZ.out) (by unfold maxLen; omega) rfl
        rw [hz] at hlit
        have N_BG := Lib.hid ((BG.out.set1 (.slice (some ⟨V0.heap.size, 0, none⟩) 1 1)).alloc (.cells #[.int .u16 5] 87))
        have N_PU := Lib.hid hlit
        have N_PC := Lib.hid (owns_below (PC.out.kept GS (.inr HFC.out)) GB)
        have N_PS := Lib.hid (owns_below (PS.out.kept GS (.inr HFS.out)) GB)
        have N_PR := Lib.hid ((PR.out.grown GS (by intro h; have := Option.some.inj h; have := HG.out; have := HS.out; omega)).alloc (.cells #[.int .u16 5] 87))
        have hpb := PB.out.grown GS PB.out.size (fun j hj => by cases hj; have := HG.out; have := HS.out; omega)
        have N_PB := Lib.hid (hpb.alloc hpb.size (.cells #[.int .u16 5] 87))
        have N_PZ := Lib.hid (Nat.le_trans (Nat.le_trans PZ.out GS.size) GB.size)
        have N_HFU := Lib.hid (show (Value.slice (some ⟨V0.heap.size, 0, none⟩) 1 1).ownBlock ≠ some g by intro h; exact absurd (Option.some.inj h) (Nat.ne_of_gt hgs))
        clear BG PC PU PS PR PB PZ HFU
        clear GS GB hgs hz hpb hlit z0 z1 z2 z3 z4 z5 z6 z7 z8
        generalize hA : (V0.setCell ⟨g, 1, none⟩ (.slice (some ⟨V0.heap.size, 0, none⟩) 1 1)).alloc (.cells #[.int .u16 5] 87) = V2 at *
        clear hA
        generalize V0.heap.size = YU at *
        have BG := N_BG
        have PC := N_PC
        have PU := N_PU
        have PS := N_PS
        have PR := N_PR
        have PB := N_PB
        have PZ := N_PZ
        have HFU := N_HFU
        clear N_BG N_PC N_PU N_PS N_PR N_PB N_PZ N_HFU
        obtain ⟨z0, z1, z2, z3, z4, z5, z6, z7, z8⟩ := BG.out
        obtain ⟨t0, t1, t2, t3, t4, t5, t6, t7, t8⟩ := PR.out
        have GR := grown_sets V2 (w.heap.size + 1) (.slice q1 LC n1) (.slice (some ⟨YU, 0, none⟩) 1 1) (.slice q3 LS n3) (.int .i32 EE)
        have hr := PR.out.sets (.slice q1 LC n1) (.slice (some ⟨YU, 0, none⟩) 1 1) (.slice q3 LS n3) (.int .i32 EE)
        have hbf := PB.out.grown GR PB.out.size (fun j hj => by cases hj; omega)
        have rC := PC.out.kept GR (.inr (owns_far PC.out (m := w.heap.size + 1) (.inl (by have := HS.out; omega))))
        have rU := PU.out.kept GR (.inr (owns_far PU.out (m := w.heap.size + 1) (.inl (by have := HS.out; omega))))
        have rS := PS.out.kept GR (.inr (owns_far PS.out (m := w.heap.size + 1) (.inl (by have := HS.out; omega))))
        have HH := Lib.hid (And.intro hbf (And.intro rC (And.intro rU rS)))
        have HRR := Lib.hid hr
        clear GR hbf rC rU rS hr
        go_wp2_with fail
        obtain ⟨hbf, rC, rU, rS⟩ := HH.out
        obtain ⟨x0, x1, x2, x3, _, _, _, _, _⟩ := HRR.out
        refine bodyPost_ret (v := .agg #[(.slice q1 LC n1), (.slice (some ⟨YU, 0, none⟩) 1 1), .slice q3 LS n3, .int .i32 EE]) (by simp [results, Tryz.results70, go_sem, x0, x1, x2, x3]) rfl ?_
        refine ⟨_, _, _, by rw [HE.out.1], ?_, ?_, ?_, hbf⟩
        · show World.ownsRow _ _ _ _ _ (frC x.chart).length ((frC x.chart).flatMap cc)
          unfold frC
          rw [if_neg (fun h => eC2 (by rw [← HL.out.1, h]; rfl)), HL.out.1]
          exact owns_mono rC (by have := HS.out; omega)
        · show World.ownsRow _ _ _ _ _ (frU x.units).length ((frU x.units).flatMap uc)
          unfold frU
          rw [if_pos (List.length_eq_zero_iff.1 HL.out.2.1)]
          exact owns_mono rU (by have := HS.out; omega)
        · rw [HE.out.2, HL.out.2.2]
          exact owns_mono rS (by have := HS.out; omega)
      · skip
        have eU : ((LU : Int) == 0) = false := by simp; omega
        have eU2 : ¬ LU = 0 := by omega
        go_upto_region 6 with fail
        obtain ⟨t0, t1, t2, t3, t4, t5, t6, t7, t8⟩ := PR.out
        have GR := grown_sets V0 (w.heap.size + 1) (.slice q1 LC n1) (.slice q2 LU n2) (.slice q3 LS n3) (.int .i32 EE)
        have hr := PR.out.sets (.slice q1 LC n1) (.slice q2 LU n2) (.slice q3 LS n3) (.int .i32 EE)
        have hbf := PB.out.grown GR PB.out.size (fun j hj => by cases hj; omega)
        have rC := PC.out.kept GR (.inr (owns_far PC.out (m := w.heap.size + 1) (.inl (by have := HS.out; omega))))
        have rU := PU.out.kept GR (.inr (owns_far PU.out (m := w.heap.size + 1) (.inl (by have := HS.out; omega))))
        have rS := PS.out.kept GR (.inr (owns_far PS.out (m := w.heap.size + 1) (.inl (by have := HS.out; omega))))
        have HH := Lib.hid (And.intro hbf (And.intro rC (And.intro rU rS)))
        have HRR := Lib.hid hr
        clear GR hbf rC rU rS hr
        go_wp2_with fail
        obtain ⟨hbf, rC, rU, rS⟩ := HH.out
        obtain ⟨x0, x1, x2, x3, _, _, _, _, _⟩ := HRR.out
        refine bodyPost_ret (v := .agg #[(.slice q1 LC n1), (.slice q2 LU n2), .slice q3 LS n3, .int .i32 EE]) (by simp [results, Tryz.results70, go_sem, x0, x1, x2, x3]) rfl ?_
        refine ⟨_, _, _, by rw [HE.out.1], ?_, ?_, ?_, hbf⟩
        · show World.ownsRow _ _ _ _ _ (frC x.chart).length ((frC x.chart).flatMap cc)
          unfold frC
          rw [if_neg (fun h => eC2 (by rw [← HL.out.1, h]; rfl)), HL.out.1]
          exact owns_mono rC (by have := HS.out; omega)
        · show World.ownsRow _ _ _ _ _ (frU x.units).length ((frU x.units).flatMap uc)
          unfold frU
          rw [if_neg (fun h => eU2 (by rw [← HL.out.2.1, h]; rfl)), HL.out.2.1]
          exact owns_mono rU (by have := HS.out; omega)
        · rw [HE.out.2, HL.out.2.2]
          exact owns_mono rS (by have := HS.out; omega)
end Go.Proofs.YtafmakhhdinknaaGreatDoor
/- Contract of law 10's Make. -/
namespace Go.Proofs.YtafmakhhdinknaaGreatDoor
open Go.RowKit
set_option linter.unusedVariables false
set_option linter.unusedSimpArgs false
/-- A block known whole. -/
def HBox (w : World) (b : Nat) (cs : List Value) (T : TypeId) : Prop := w.heap[b]? = some (.cells cs.toArray T (0, 0))
theorem HBox.new (w : World) (cs : List Value) (T : TypeId) : HBox (w.alloc (.cells cs.toArray T)) w.heap.size cs T := heap_alloc_new w _
theorem HBox.size {w : World} {b : Nat} {cs : List Value} {T : TypeId} (h : HBox w b cs T) : b < w.heap.size := (Array.getElem?_eq_some_iff.1 h).1
theorem HBox.cell {w : World} {b : Nat} {cs : List Value} {T : TypeId} (h : HBox w b cs T) {j : Nat} {v : Value} (hj : cs[j]? = some v) : w.cell? ⟨b, j, none⟩ = some v := by
  have h' : w.heap[b]? = some (.cells cs.toArray T (0, 0)) := h
  simp [World.cell?, h', hj]
theorem HBox.frozen {w : World} {b : Nat} {cs : List Value} {T : TypeId} (h : HBox w b cs T) (j : Nat) : w.frozen? ⟨b, j, none⟩ = false := by
  have h' : w.heap[b]? = some (.cells cs.toArray T (0, 0)) := h
  simp [World.frozen?, h']
theorem HBox.stay {w w' : World} {b : Nat} {cs : List Value} {T : TypeId} (h : HBox w b cs T) (hb : Below w.heap.size w w') : HBox w' b cs T := (hb.block b h.size).trans h
theorem HBox.alloc {w : World} {b : Nat} {cs : List Value} {T : TypeId} (h : HBox w b cs T) (o : Obj) : HBox (w.alloc o) b cs T := h.stay ((Below.refl _ _).alloc (Nat.le_refl _) o)
theorem HBox.grown {w w' : World} {b : Nat} {cs : List Value} {T : TypeId} {row : Option Nat} (h : HBox w b cs T) (hg : w.grownBy w' row) (hne : some b ≠ row) : HBox w' b cs T := (hg.block b h.size hne).trans h
theorem HBox.set {w : World} {b : Nat} {cs : List Value} {T : TypeId} (h : HBox w b cs T) (j : Nat) (u : Value) : HBox (w.setCell ⟨b, j, none⟩ u) b (cs.set j u) T := by
  have h' : w.heap[b]? = some (.cells cs.toArray T (0, 0)) := h
  unfold HBox
  simp only [World.setCell, Array.getElem?_modify, h', if_true]
  simp
theorem HBox.far {w : World} {b : Nat} {cs : List Value} {T e : TypeId} {base size : Nat} {r : Option Addr} {n cap : Nat} {xs : List Value} (h : HBox w b cs T) (ho : w.ownsRow base e size (.slice r n cap) n xs) (hne : e ≠ T) : (Value.slice r n cap).ownBlock ≠ some b := owns_type_far ho h hne
theorem infoJ : (Tryz.prog.info? 94).map (fun i => (i.zero, i.size, i.bytes)) = some (some (.agg #[.int .i32 0, .slice none 0 0]), 2, 32) := by kernel_rfl
/-- A row of journals that is one's own, and so are all their lines. -/
structure JOwn (base : Nat) (w : World) (vJ : Value) (vs : List Jm) : Prop where
  row : w.ownsRow base 94 2 vJ vs.length (vs.flatMap jc)
  lines : ∀ p ∈ vs, w.ownsRow base 116 4 p.2.1 p.2.2.length (p.2.2.flatMap lc)
theorem JOwn.below {base : Nat} {w w' : World} {vJ : Value} {vs : List Jm} (h : JOwn base w vJ vs) (hb : Below w.heap.size w w') : JOwn base w' vJ vs := ⟨owns_below h.row hb, fun p hp => owns_below (h.lines p hp) hb⟩
theorem JOwn.far {base : Nat} {w w' : World} {vJ : Value} {vs : List Jm} (h : JOwn base w vJ vs) {m : Nat} (hg : w.grownBy w' (some m)) (hm : m < base) : JOwn base w' vJ vs :=
  ⟨h.row.kept hg (.inr fun e => by have := h.row.lt m e; omega), fun p hp => (h.lines p hp).kept hg (.inr fun e => by have := (h.lines p hp).lt m e; omega)⟩
theorem JOwn.mono {base base' : Nat} {w : World} {vJ : Value} {vs : List Jm} (h : JOwn base w vJ vs) (hb : base' ≤ base) : JOwn base' w vJ vs := ⟨owns_mono h.row hb, fun p hp => owns_mono (h.lines p hp) hb⟩
theorem JOwn.jrow {base : Nat} {w : World} {vJ : Value} {vs : List Jm} (h : JOwn base w vJ vs) (hl : vs.length ≤ 1000) (hl2 : ∀ p ∈ vs, p.2.2.length ≤ 1000) : JRow w vJ vs :=
  ⟨recs_of_owns jc_len h.row rfl (by omega), fun p hp => recs_of_owns lc_len (h.lines p hp) rfl (by have := hl2 p hp; omega)⟩
/-- A journal by small numbers, and its lines' slice. -/
abbrev Jp := Jn × Value
def jnc (p : Jp) : List Value := [.int .u8 (p.1.later : Int), p.2]
theorem jnc_len (p : Jp) : (jnc p).length = 2 := rfl
/-- A book by small numbers, in memory. -/
structure BkM (x : Bk) (vCh vUn vLo vJs : Value) (js : List Jp) (w : World) : Prop where
  ch : Recs qc 4 w vCh x.chart
  un : Recs uc 1 w vUn x.units
  lo : Recs u8c 1 w vLo x.long
  jr : Recs jnc 2 w vJs js
  jl : ∀ p ∈ js, Recs smc 4 w p.2 p.1.lines
  je : x.journals = js.map (·.1)
theorem BkM.stay {x : Bk} {vCh vUn vLo vJs : Value} {js : List Jp} {w w' : World} (h : BkM x vCh vUn vLo vJs js w) (hb : Below w.heap.size w w') : BkM x vCh vUn vLo vJs js w' :=
  ⟨h.ch.stay hb, h.un.stay hb, h.lo.stay hb, h.jr.stay hb, fun p hp => (h.jl p hp).stay hb, h.je⟩
/-- Two rows of unlike types are apart. -/
theorem owns_apart {w : World} {base base' : Nat} {e e' : TypeId} {size size' : Nat} {v v' : Value} {n n' : Nat} {xs xs' : List Value} (h : w.ownsRow base e size v n xs) (h' : w.ownsRow base' e' size' v' n' xs') (hne : e ≠ e') : v.ownBlock = none ∨ v.ownBlock ≠ v'.ownBlock := by
  rcases h.2 with ⟨h1, _⟩ | ⟨k, cp, cur, h1, _, h2, _⟩
  · subst h1; exact .inl rfl
  · subst h1
    refine .inr ?_
    rcases h'.2 with ⟨g1, _⟩ | ⟨k', cp', cur', g1, _, g2, _⟩
    · subst g1
      intro he
      cases he
    · subst g1
      intro he
      have e : k = k' := Option.some.inj he
      subst e
      rw [h2] at g2
      injection g2 with g2
      injection g2 with _ h3
      exact hne h3
theorem JOwn.push {base : Nat} {w w' : World} {vJ v' : Value} {vs : List Jm} {d : Int} {vL : Value} {ls : List Ln} (h : JOwn base w vJ vs) (hL : w.ownsRow base 116 4 vL ls.length (ls.flatMap lc)) (hg : w.grownBy w' vJ.ownBlock)
    (ho : w'.ownsRow base 94 2 v' (vs.length + 1) (vs.flatMap jc ++ [.int .i32 d, vL])) : JOwn base w' v' (vs ++ [(d, vL, ls)]) := by
  refine ⟨?_, fun p hp => ?_⟩
  · rw [List.length_append, flat_snoc]
    exact ho
  · rcases List.mem_append.1 hp with h1 | h1
    · exact (h.lines p h1).kept hg (owns_apart (h.lines p h1) h.row (by decide))
    · simp at h1
      subst h1
      exact hL.kept hg (owns_apart hL h.row (by decide))
set_option maxHeartbeats 4000000 in
set_option maxRecDepth 100000 in
theorem makeB_c (x : Bk) (vCh vUn vLo vJs : Value) (js : List Jp) (w : World) (hM : BkM x vCh vUn vLo vJs js w) (h8 : ∀ j ∈ x.journals, j.lines.length ≤ 8) (hl : x.journals.length ≤ 100) :
    Calls Tryz.prog 53 #[bV vCh vUn x.first vLo vJs] w fun e w' => ∃ vC vU vS vJ vs, e = .returned (bkV vC vU vS (frB x).E vJ) ∧ w'.ownsRow w.heap.size 84 4 vC (frB x).C.length ((frB x).C.flatMap cc) ∧ w'.ownsRow w.heap.size 87 1 vU (frB x).U.length ((frB x).U.flatMap uc) ∧ w'.ownsRow w.heap.size 29 1 vS (frB x).S.length ((frB x).S.flatMap dcl) ∧ JOwn w.heap.size w' vJ vs ∧ vs.map jOf = makeJ x ∧ Below w.heap.size w w' := by
  have hmix : Tryz.prog.follows .mixedOrders = true := by kernel_rfl
  obtain ⟨i0, hi, hz0, hz1, hz2⟩ := info_parts infoJ
  have HM := Lib.hid hM
  obtain ⟨rJ, cJ, rfl, hmJ⟩ := hM.jr.form
  obtain ⟨L, hL⟩ : ∃ n, js.length = n := ⟨_, rfl⟩
  have HL := Lib.hid hL
  have hLj : x.journals.length = L := by rw [hM.je, List.length_map, hL]
  have H8 := Lib.hid h8
  have HLJ := Lib.hid hLj
  rw [hLj] at hl
  have KF := Lib.hid (fun (w' : World) (h : BkM x vCh vUn vLo (.slice rJ js.length cJ) js w') => frame_c x vCh vUn vLo (.slice rJ js.length cJ) w' h.ch h.un h.lo)
  unfold bV frV at KF
  unfold bV bkV
  rw [hL] at HM KF hmJ ⊢
  obtain ⟨EE, hEE⟩ : ∃ n, (frB x).E = n := ⟨_, rfl⟩
  rw [hEE] at KF ⊢
  have HEE := Lib.hid hEE
  clear hM hL hLj h8 hEE
  go_enter Tryz.func53, Tryz.ntmps53
  go_upto_region 1 with fail
  have hb := ((Below.refl w.heap.size w).alloc (Nat.le_refl _) (.cells #[vCh, vUn, .int .i16 x.first, vLo, .slice rJ L cJ] 101)).alloc (by simp) (.cells #[.slice none 0 0, .slice none 0 0, .slice none 0 0, .int .i32 0, .slice none 0 0] 67)
  have bx := (HBox.new w [vCh, vUn, .int .i16 x.first, vLo, .slice rJ L cJ] 101).alloc (.cells #[.slice none 0 0, .slice none 0 0, .slice none 0 0, .int .i32 0, .slice none 0 0] 67)
  have s1 : (w.alloc (.cells #[vCh, vUn, .int .i16 x.first, vLo, .slice rJ L cJ] 101)).heap.size = w.heap.size + 1 := by simp
  change HBox ((w.alloc (.cells #[vCh, vUn, .int .i16 x.first, vLo, .slice rJ L cJ] 101)).alloc _) _ _ _ at bx
  generalize w.alloc (.cells #[vCh, vUn, .int .i16 x.first, vLo, .slice rJ L cJ] 101) = w1 at hb bx s1 ⊢
  have br := HBox.new w1 [.slice none 0 0, .slice none 0 0, .slice none 0 0, .int .i32 0, .slice none 0 0] 67
  have s2 : (w1.alloc (.cells #[.slice none 0 0, .slice none 0 0, .slice none 0 0, .int .i32 0, .slice none 0 0] 67)).heap.size = w.heap.size + 1 + 1 := by simp; omega
  rw [s1] at br
  change HBox (w1.alloc (.cells #[.slice none 0 0, .slice none 0 0, .slice none 0 0, .int .i32 0, .slice none 0 0] 67)) _ _ _ at br
  generalize w1.alloc (.cells #[.slice none 0 0, .slice none 0 0, .slice none 0 0, .int .i32 0, .slice none 0 0] 67) = W at hb bx br s2 ⊢
  have HX := Lib.hid bx
  have HBR := Lib.hid br
  have HB := Lib.hid hb
  have HS := Lib.hid s2
  have x0 := bx.cell (j := 0) rfl
  have x1 := bx.cell (j := 1) rfl
  have x2 := bx.cell (j := 2) rfl
  have x3 := bx.cell (j := 3) rfl
  have x4 := bx.cell (j := 4) rfl
  have K1 := Lib.hid (KF.out W (HM.out.stay hb))
  clear hb bx br s1 s2 KF
  go_upto_region 2 with (go_at_call 70; refine K1.out.mono ?_; rintro e w2 ⟨vC, vU, vS, rfl, oC, oU, oS, hb2⟩; obtain ⟨rC, cC, rfl⟩ := owns_form oC; obtain ⟨rU, cU, rfl⟩ := owns_form oU; obtain ⟨rS, cS, rfl⟩ := owns_form oS; have HOC := Lib.hid oC; have HOU := Lib.hid oU; have HOS := Lib.hid oS; have HB2 := Lib.hid hb2; clear oC oU oS hb2)
  have hbx := HBox.new w2 [.slice rC (frB x).C.length cC, .slice rU (frB x).U.length cU, .slice rS (frB x).S.length cS, .int .i32 EE, .slice none 0 0] 67
  have hW : W.heap.size ≤ w2.heap.size := HB2.out.size
  have hbw := (Below.refl w2.heap.size w2).alloc (Nat.le_refl _) (.cells #[.slice rC (frB x).C.length cC, .slice rU (frB x).U.length cU, .slice rS (frB x).S.length cS, .int .i32 EE, .slice none 0 0] 67)
  have hs2 : (w2.alloc (.cells #[.slice rC (frB x).C.length cC, .slice rU (frB x).U.length cU, .slice rS (frB x).S.length cS, .int .i32 EE, .slice none 0 0] 67)).heap.size = w2.heap.size + 1 := by simp
  change HBox (w2.alloc (.cells #[.slice rC (frB x).C.length cC, .slice rU (frB x).U.length cU, .slice rS (frB x).S.length cS, .int .i32 EE, .slice none 0 0] 67)) _ _ _ at hbx
  have PC := Lib.hid (owns_below HOC.out hbw)
  have PU := Lib.hid (owns_below HOU.out hbw)
  have PS := Lib.hid (owns_below HOS.out hbw)
  have FC := Lib.hid (owns_far HOC.out (m := w2.heap.size) (.inr (Nat.le_refl _)))
  have FU := Lib.hid (owns_far HOU.out (m := w2.heap.size) (.inr (Nat.le_refl _)))
  have FS := Lib.hid (owns_far HOS.out (m := w2.heap.size) (.inr (Nat.le_refl _)))
  have hWV := HB2.out.trans (hbw.mono HB2.out.size)
  have PX := Lib.hid (HX.out.stay hWV)
  have PR := Lib.hid (HBR.out.stay hWV)
  have PB := Lib.hid (HB.out.trans (hWV.mono (by have := HS.out; omega)))
  clear x0 x1 x2 x3 x4 hbw hWV HX HBR HB HB2 HOC HOU HOS K1
  generalize w2.alloc (.cells #[.slice rC (frB x).C.length cC, .slice rU (frB x).U.length cU, .slice rS (frB x).S.length cS, .int .i32 EE, .slice none 0 0] 67) = V at *
  have hX : w.heap.size + 1 + 1 ≤ w2.heap.size := by have := HS.out; omega
  have HXV := Lib.hid hs2
  generalize w2.heap.size = X at *
  clear hs2
  have hsl : (frB x).S.length ≤ 13 := (mkS_lens x.first x.long).2
  have hRS : Recs dcl 1 V (.slice rS (frB x).S.length cS) (frB x).S := recs_of_owns dcl_len PS.out rfl (by omega)
  obtain ⟨gS, oS, hr, hgS, hcS⟩ := hRS.at (mkS_head x.first x.long)
  have d0 := hcS 0 (.int .i32 x.first) rfl
  simp only [Nat.zero_mul, Nat.add_zero] at d0
  subst hr
  have hs1 : 1 ≤ (frB x).S.length := (mkS_lens x.first x.long).1
  obtain ⟨LS, hLS⟩ : ∃ n, (frB x).S.length = n := ⟨_, rfl⟩
  have HLS := Lib.hid hLS
  rw [hLS] at hs1 hbx
  rw [hLS] at PS FS
  have c2 := hbx.cell (j := 2) rfl
  have x4 := PX.out.cell (j := 4) rfl
  have HBX := Lib.hid hbx
  clear hcS hRS hLS hsl hbx
  go_wp2_with fail
  go_loopw [4, 20] (fun s i wr => ∃ (k : Nat) (d : Int) (vs : List Jm) (m : Nat) (r : Option Addr) (cap : Nat), s = .int .i32 d ∧ i = .int .i64 k ∧ k ≤ L ∧ m ≤ k ∧ Hid (m = vs.length) ∧ Hid (stJ x k = (d, vs.map jOf)) ∧ Hid (HBox wr X [.slice rC (frB x).C.length cC, .slice rU (frB x).U.length cU, .slice (some ⟨gS, oS, none⟩) LS cS, .int .i32 EE, .slice r m cap] 67) ∧ Hid (JOwn (X + 1) wr (.slice r m cap) vs) ∧ Hid (wr.ownsRow W.heap.size 84 4 (.slice rC (frB x).C.length cC) (frB x).C.length ((frB x).C.flatMap cc) ∧ wr.ownsRow W.heap.size 87 1 (.slice rU (frB x).U.length cU) (frB x).U.length ((frB x).U.flatMap uc) ∧ wr.ownsRow W.heap.size 29 1 (.slice (some ⟨gS, oS, none⟩) LS cS) LS ((frB x).S.flatMap dcl)) ∧ Hid (HBox wr w.heap.size [vCh, vUn, .int .i16 x.first, vLo, .slice rJ L cJ] 101 ∧ HBox wr (w.heap.size + 1) [.slice none 0 0, .slice none 0 0, .slice none 0 0, .int .i32 0, .slice none 0 0] 67) ∧ Hid (Below w.heap.size w wr) ∧ Hid (X + 1 ≤ wr.heap.size)) (fun _ i _ => L - (intOf i).toNat)
  case atStart => exact ⟨0, x.first, [], 0, none, 0, rfl, rfl, Nat.zero_le _, Nat.zero_le _, Lib.hid rfl, Lib.hid rfl, HBX, Lib.hid ⟨World.ownsRow_nil _ _ _ _, fun p hp => by cases hp⟩, Lib.hid ⟨PC.out, PU.out, PS.out⟩, Lib.hid ⟨PX.out, PR.out⟩, PB, Lib.hid (by have := HXV.out; omega)⟩
  case round =>
    clear HBX PC PU PS PX PR PB HXV d0 c2 x4
    obtain ⟨k, d, vs, m, r, cap, rfl, rfl, hk, hmk, HML, HST, HBX, HJ, HP, HXR, PB, HZ⟩ := hrel
    rename World => wr
    have hst := stJ_ok x H8.out k (by rw [HLJ.out]; exact hk)
    rw [HST.out, HEE.out] at hst
    have hE := mkE_le x.first x.long
    rw [show mkE x.first x.long = EE from HEE.out] at hE
    have hfi := x.hf
    obtain ⟨⟨hd1, hd2⟩, _⟩ := hst
    simp only at hd1 hd2
    have b3 := HBX.out.cell (j := 3) rfl
    have b4 := HBX.out.cell (j := 4) rfl
    have b0 := HBX.out.cell (j := 0) rfl
    have b1 := HBX.out.cell (j := 1) rfl
    have b2 := HBX.out.cell (j := 2) rfl
    by_cases hlt : k < L
    · obtain ⟨⟨j, vl⟩, hp⟩ : ∃ p, js[k]? = some p := ⟨js[k]'(by have := HL.out; omega), List.getElem?_eq_getElem (by have := HL.out; omega)⟩
      have hxj : x.journals[k]? = some j := by rw [HM.out.je, List.getElem?_map, hp]; rfl
      have hjl := (HM.out.stay PB.out).jl _ (List.mem_of_getElem? hp)
      have hj8 := H8.out j (List.mem_of_getElem? hxj)
      obtain ⟨rl, cl, e, hml⟩ := hjl.form
      simp only at e hjl hml
      subst e
      obtain ⟨gJ, oJ, rfl, hgJ, hcJ⟩ := (HM.out.stay PB.out).jr.at hp
      have y0 := hcJ 0 (.int .u8 (j.later : Int)) rfl
      have y1 := hcJ 1 (.slice rl j.lines.length cl) rfl
      simp only [Nat.add_zero] at y0
      have HXJ := Lib.hid hxj
      have HJL := Lib.hid hjl
      have hlt40 : j.later % 40 < 40 := Nat.mod_lt _ (by omega)
      obtain ⟨y, hy⟩ : ∃ y, j.later % 40 = y := ⟨_, rfl⟩
      rw [hy] at hlt40
      have hlat := j.hl
      have t1 : (j.later : Int).tmod 40 = (y : Int) := by rw [Int.tmod_eq_emod_of_nonneg (by omega)]; omega
      have t2 : (j.later : Int) % 40 = (y : Int) := by omega
      have t3 : IntKind.i32.wrap (y : Int) = (y : Int) := by rw [IntKind.wrap_i32]; omega
      have t4 : IntKind.i32.wrap (d + (y : Int)) = d + (y : Int) := by rw [IntKind.wrap_i32]; omega
      have t5 : IntKind.i32.wrap (EE - 1) = EE - 1 := by rw [IntKind.wrap_i32]; omega
      have hdn : dayJ EE d j = min (d + (y : Int)) (EE - 1) := by unfold dayJ; rw [hy]
      have HDN := Lib.hid hdn
      clear hcJ hp hxj hjl hy hdn
      go_upto_region 6 with fail
      have hbw := (Below.refl wr.heap.size wr).alloc (Nat.le_refl _) (.cells #[.int .u8 (j.later : Int), .slice rl j.lines.length cl] 121)
      have hy := HBox.new wr [.int .u8 (j.later : Int), .slice rl j.lines.length cl] 121
      change HBox (wr.alloc (.cells #[.int .u8 (j.later : Int), .slice rl j.lines.length cl] 121)) _ _ _ at hy
      have HBX1 := Lib.hid (HBX.out.stay hbw)
      have HJ1 := Lib.hid (HJ.out.below hbw)
      have HP1 := Lib.hid (And.intro (owns_below HP.out.1 hbw) (And.intro (owns_below HP.out.2.1 hbw) (owns_below HP.out.2.2 hbw)))
      have HXR1 := Lib.hid (And.intro (HXR.out.1.stay hbw) (HXR.out.2.stay hbw))
      have PB1 := Lib.hid (PB.out.trans (hbw.mono PB.out.size))
      have HZ1 := Lib.hid (Nat.le_trans HZ.out hbw.size)
      have HJL1 := Lib.hid (HJL.out.stay hbw)
      clear hbw b0 b1 b2 b3 b4 y0 y1 HBX HJ HP HXR PB HZ HJL hgJ
      generalize wr.alloc (.cells #[.int .u8 (j.later : Int), .slice rl j.lines.length cl] 121) = W1 at *
      have b0 := HBX1.out.cell (j := 0) rfl
      have b1 := HBX1.out.cell (j := 1) rfl
      have b2 := HBX1.out.cell (j := 2) rfl
      have b3 := HBX1.out.cell (j := 3) rfl
      have y0 := hy.cell (j := 0) rfl
      have y1 := hy.cell (j := 1) rfl
      generalize wr.heap.size = YB at *
      clear hy
      obtain ⟨hcm, hcl, hcn⟩ := frC_made x.chart
      obtain ⟨hur, hus, hul, hun⟩ := frU_ok x.units
      have hsl2 : (frB x).S.length ≤ 13 := (mkS_lens x.first x.long).2
      have hFM : FrM (frB x) (.slice rC (frB x).C.length cC) (.slice rU (frB x).U.length cU) (.slice (some ⟨gS, oS, none⟩) LS cS) W1 :=
        ⟨recs_of_owns cc_len HP1.out.1 rfl (by show (frC x.chart).length ≤ _; omega), recs_of_owns uc_len HP1.out.2.1 rfl (by show (frU x.units).length ≤ _; omega), recs_of_owns dcl_len HP1.out.2.2 (by rw [HLS.out]) (by rw [← HLS.out]; omega)⟩
      have K2 := lines_c (frB x) _ _ _ _ j.lines (j.later : Int) W1 hFM hcn hun (fun z hz => by have := hus z hz; omega) (by show (frC x.chart).length ≤ _; omega) (by show (frU x.units).length ≤ _; omega) HJL1.out hj8
      unfold frV at K2
      rw [HEE.out] at K2
      obtain ⟨NL, hNL⟩ : ∃ NL, linesB (frB x).C (frB x).U j.lines = NL := ⟨_, rfl⟩
      obtain ⟨dn, hdn⟩ : ∃ dn, min (d + (y : Int)) (EE - 1) = dn := ⟨_, rfl⟩
      have hstep : stJ x (k + 1) = (dn, if NL = [] then vs.map jOf else vs.map jOf ++ [(dn, NL)]) := by
        rw [stJ_step HXJ.out, HST.out]
        unfold stepJ
        rw [hNL, HEE.out, HDN.out, hdn]
      have hdnb : x.first ≤ dn ∧ dn < EE := by rw [← hdn]; omega
      have hnl : NL.length ≤ 17 := by
        rw [← hNL]
        unfold linesB
        have := pads_len (frB x).C (frB x).U (sumZ (j.lines.map (lnA (frB x).C (frB x).U))) (frB x).U.length
        rw [List.length_append, List.length_map]
        have : (frB x).U.length ≤ 9 := hul
        omega
      rw [hNL] at K2
      have K3 := Lib.hid K2
      have HSTEP := Lib.hid hstep
      have HDNE := Lib.hid hdn
      clear K2 hstep hdnb hFM hcm hcl hcn hur hus hul hun hsl2 hNL
      go_upto_region 7 with fail
      clear hdn
      obtain ⟨N, hN⟩ : ∃ N, NL.length = N := ⟨_, rfl⟩
      have HN := Lib.hid hN
      rw [hN] at K3 hnl
      clear hN
      go_upto_region 8 with (go_at_call 71; refine K3.out.mono ?_; rintro e w3 ⟨v5, rfl, o5, hb3⟩; obtain ⟨r5, c5, rfl⟩ := owns_form o5; have HO5 := Lib.hid o5; have HB3 := Lib.hid hb3; clear o5 hb3)
      have HBX3 := Lib.hid (HBX1.out.stay HB3.out)
      have HJ3 := Lib.hid (HJ1.out.below HB3.out)
      have HP3 := Lib.hid (And.intro (owns_below HP1.out.1 HB3.out) (And.intro (owns_below HP1.out.2.1 HB3.out) (owns_below HP1.out.2.2 HB3.out)))
      have HXR3 := Lib.hid (And.intro (HXR1.out.1.stay HB3.out) (HXR1.out.2.stay HB3.out))
      have PB3 := Lib.hid (PB1.out.trans (HB3.out.mono PB1.out.size))
      have HZ3 := Lib.hid (Nat.le_trans HZ1.out HB3.out.size)
      have HO5b := Lib.hid (owns_mono HO5.out HZ1.out)
      clear b0 b1 b2 b3 y0 y1 HBX1 HJ1 HP1 HXR1 PB1 HZ1 HB3 HJL1 HO5 K3
      have b4 := HBX3.out.cell (j := 4) rfl
      have f4 := HBX3.out.frozen 4
      by_cases hN0 : N = 0
      · subst hN0
        have HNL : Hid (NL = []) := Lib.hid (List.length_eq_zero_iff.1 HN.out)
        go_wp2_with fail
        go_roundw
        case rel => exact ⟨k + 1, dn, vs, m, r, cap, rfl, by go_num, by omega, by omega, HML, Lib.hid (by rw [HSTEP.out, if_pos HNL.out]), HBX3, HJ3, HP3, HXR3, PB3, HZ3⟩
        case measure => simp [intOf]; omega
      · have e1 : (0 : Int) < (N : Int) := by omega
        have HNL : Hid (¬ NL = []) := Lib.hid (fun h => hN0 (by rw [← HN.out, h]; rfl))
        have hrow := HJ3.out.row
        rw [← HML.out] at hrow
        have HROW := Lib.hid hrow
        clear hrow
        go_wp2_with (at_builtin; refine wpList_append_own_at _ rfl (.tmp 44) (.tmp 48) 65 rfl (X + 1) 94 i0 _ 2 32 Tryz.underlying65 hi hz0 hz1 hz2 rfl (by decide) _ m _ rfl (HROW.out.alloc _) ⟨_, 0, none⟩ 1 1 [.int .i32 dn, .slice r5 N c5] rfl rfl (cells_new _ [.int .i32 dn, .slice r5 N c5] _) (fun v hv => by simp at hv; rcases hv with rfl | rfl <;> rfl) (by unfold maxLen; omega) (by omega) (by simp; have := HZ3.out; omega) ?_; intro v6 w6 hown6 hgrow6 _ hat6; have hs4 : (w3.alloc (.cells #[.int .i32 dn, .slice r5 N c5] 94)).heap.size = w3.heap.size + 1 := by simp
                     have hbw := (Below.refl w3.heap.size w3).alloc (Nat.le_refl _) (.cells #[.int .i32 dn, .slice r5 N c5] 94)
                     have hbx6 := (HBX3.out.stay hbw).grown hgrow6 (fun h => owns_far HROW.out (m := X) (.inl (by omega)) h.symm)
                     have HJ6 := Lib.hid (JOwn.push (d := dn) (HJ3.out.below hbw) (by rw [HN.out]; exact owns_below HO5b.out hbw) hgrow6 (by rw [← HML.out]; exact hown6))
                     have HP6 := Lib.hid (And.intro ((owns_below HP3.out.1 hbw).kept hgrow6 (owns_apart (owns_below HP3.out.1 hbw) (HROW.out.alloc (.cells #[.int .i32 dn, .slice r5 N c5] 94)) (by decide))) (And.intro ((owns_below HP3.out.2.1 hbw).kept hgrow6 (owns_apart (owns_below HP3.out.2.1 hbw) (HROW.out.alloc (.cells #[.int .i32 dn, .slice r5 N c5] 94)) (by decide))) ((owns_below HP3.out.2.2 hbw).kept hgrow6 (owns_apart (owns_below HP3.out.2.2 hbw) (HROW.out.alloc (.cells #[.int .i32 dn, .slice r5 N c5] 94)) (by decide)))))
                     have HXR6 := Lib.hid (And.intro ((HXR3.out.1.stay hbw).grown hgrow6 (fun h => owns_far HROW.out (m := w.heap.size) (.inl (by omega)) h.symm)) ((HXR3.out.2.stay hbw).grown hgrow6 (fun h => owns_far HROW.out (m := w.heap.size + 1) (.inl (by omega)) h.symm)))
                     have PB6 := Lib.hid ((PB3.out.trans (hbw.mono PB3.out.size)).grown hgrow6 (by have := PB3.out.size; omega) (fun j hj => by have := HROW.out.lt j hj; omega))
                     have HZ6 := Lib.hid (Nat.le_trans (Nat.le_trans HZ3.out hbw.size) hgrow6.size)
                     obtain ⟨r6, cap6, rfl⟩ := owns_form hown6
                     have b6 := hbx6.cell (j := 4) rfl
                     have f6 := hbx6.frozen 4
                     have HBX6 := Lib.hid hbx6
                     clear hgrow6 hown6 hat6 hs4 hbw hbx6)
        go_roundw
        case rel =>
          have hg := grownBy_set w6 ⟨X, 4, none⟩ (.slice r6 (m + 1) cap6)
          have hg' : w6.grownBy (w6.setCell ⟨X, 4, none⟩ (.slice r6 (m + 1) cap6)) (some X) := hg
          refine ⟨k + 1, dn, vs ++ [(dn, .slice r5 N c5, NL)], m + 1, r6, cap6, rfl, by go_num, by omega, by omega, Lib.hid (by rw [List.length_append, ← HML.out]; rfl), Lib.hid ?_, Lib.hid (HBX6.out.set 4 _), Lib.hid (HJ6.out.far hg' (by omega)), Lib.hid ⟨HP6.out.1.kept hg' (.inr FC.out), HP6.out.2.1.kept hg' (.inr FU.out), HP6.out.2.2.kept hg' (.inr FS.out)⟩, Lib.hid ⟨HXR6.out.1.grown hg' (by intro h; have := Option.some.inj h; omega), HXR6.out.2.grown hg' (by intro h; have := Option.some.inj h; omega)⟩, Lib.hid (PB6.out.grown hg' PB6.out.size (fun j hj => by cases hj; omega)), Lib.hid (Nat.le_trans HZ6.out hg'.size)⟩
          rw [HSTEP.out, if_neg HNL.out, List.map_append]
          rfl
        case measure => simp [intOf]; omega
    · obtain rfl : k = L := by omega
      have c0 := HXR.out.2.cell (j := 0) rfl
      have c1 := HXR.out.2.cell (j := 1) rfl
      have c2 := HXR.out.2.cell (j := 2) rfl
      have c3 := HXR.out.2.cell (j := 3) rfl
      have c4 := HXR.out.2.cell (j := 4) rfl
      have g0 := HXR.out.2.frozen 0
      have g1 := HXR.out.2.frozen 1
      have g2 := HXR.out.2.frozen 2
      have g3 := HXR.out.2.frozen 3
      have g4 := HXR.out.2.frozen 4
      have GR : wr.grownBy (((((wr.setCell ⟨w.heap.size + 1, 0, none⟩ (.slice rC (frB x).C.length cC)).setCell ⟨w.heap.size + 1, 1, none⟩ (.slice rU (frB x).U.length cU)).setCell ⟨w.heap.size + 1, 2, none⟩ (.slice (some ⟨gS, oS, none⟩) LS cS)).setCell ⟨w.heap.size + 1, 3, none⟩ (.int .i32 EE)).setCell ⟨w.heap.size + 1, 4, none⟩ (.slice r m cap)) (some (w.heap.size + 1)) := ((((grownBy_set wr ⟨w.heap.size + 1, 0, none⟩ _).trans (grownBy_set _ ⟨w.heap.size + 1, 1, none⟩ _)).trans (grownBy_set _ ⟨w.heap.size + 1, 2, none⟩ _)).trans (grownBy_set _ ⟨w.heap.size + 1, 3, none⟩ _)).trans (grownBy_set _ ⟨w.heap.size + 1, 4, none⟩ _)
      have HR5 := Lib.hid ((((((HXR.out.2).set 0 (.slice rC (frB x).C.length cC)).set 1 (.slice rU (frB x).U.length cU)).set 2 (.slice (some ⟨gS, oS, none⟩) LS cS)).set 3 (.int .i32 EE)).set 4 (.slice r m cap))
      have RJ := Lib.hid (HJ.out.far GR (by omega))
      have R1 := Lib.hid (HP.out.1.kept GR (.inr (owns_far HP.out.1 (m := w.heap.size + 1) (.inl (by have := HS.out; omega)))))
      have R2 := Lib.hid (HP.out.2.1.kept GR (.inr (owns_far HP.out.2.1 (m := w.heap.size + 1) (.inl (by have := HS.out; omega)))))
      have R3 := Lib.hid (HP.out.2.2.kept GR (.inr (owns_far HP.out.2.2 (m := w.heap.size + 1) (.inl (by have := HS.out; omega)))))
      have RB := Lib.hid (PB.out.grown GR PB.out.size (fun j hj => by cases hj; omega))
      clear GR
      go_wp2_with fail
      have x0 := HR5.out.cell (j := 0) rfl
      have x1 := HR5.out.cell (j := 1) rfl
      have x2 := HR5.out.cell (j := 2) rfl
      have x3 := HR5.out.cell (j := 3) rfl
      have x4 := HR5.out.cell (j := 4) rfl
      refine bodyPost_ret (v := .agg #[.slice rC (frB x).C.length cC, .slice rU (frB x).U.length cU, .slice (some ⟨gS, oS, none⟩) LS cS, .int .i32 EE, .slice r m cap]) (by simp [results, Tryz.results53, go_sem, x0, x1, x2, x3, x4]) rfl ?_
      have hmk : vs.map jOf = makeJ x := by
        unfold makeJ
        rw [HLJ.out, HST.out]
      refine ⟨_, _, _, _, rfl, owns_mono R1.out (by have := HS.out; omega), owns_mono R2.out (by have := HS.out; omega), ?_, ?_⟩
      · rw [HLS.out]
        exact owns_mono R3.out (by have := HS.out; omega)
      · first
          | exact ⟨vs, RJ.out.mono (by omega), hmk, RB.out⟩
          | exact ⟨⟨vs, RJ.out.mono (by omega), hmk⟩, RB.out⟩
end Go.Proofs.YtafmakhhdinknaaGreatDoor
/- A book in a box: five stores. -/
namespace Go.Proofs.YtafmakhhdinknaaGreatDoor
open Go.RowKit
set_option linter.unusedVariables false
set_option linter.unusedSimpArgs false
theorem owns_box_far {w : World} {base g : Nat} {e T : TypeId} {size n : Nat} {v : Value} {xs cs : List Value} (h : w.ownsRow base e size v n xs) (hg : HBox w g cs T) (hne : e ≠ T) : v.ownBlock = none ∨ v.ownBlock ≠ some g := by
  obtain ⟨r, cap, rfl⟩ := owns_form h
  exact .inr (owns_type_far h hg hne)
theorem HBox.set5 {w : World} {b : Nat} {c0 c1 c2 c3 c4 : Value} {T : TypeId} (h : HBox w b [c0, c1, c2, c3, c4] T) (d0 d1 d2 d3 d4 : Value) : HBox (((((w.setCell ⟨b, 0, none⟩ d0).setCell ⟨b, 1, none⟩ d1).setCell ⟨b, 2, none⟩ d2).setCell ⟨b, 3, none⟩ d3).setCell ⟨b, 4, none⟩ d4) b [d0, d1, d2, d3, d4] T :=
  ((((h.set 0 d0).set 1 d1).set 2 d2).set 3 d3).set 4 d4
theorem grown_sets5 (w : World) (b : Nat) (d0 d1 d2 d3 d4 : Value) : w.grownBy (((((w.setCell ⟨b, 0, none⟩ d0).setCell ⟨b, 1, none⟩ d1).setCell ⟨b, 2, none⟩ d2).setCell ⟨b, 3, none⟩ d3).setCell ⟨b, 4, none⟩ d4) (some b) :=
  (grown_sets w b d0 d1 d2 d3).trans (grownBy_set _ ⟨b, 4, none⟩ d4)
end Go.Proofs.YtafmakhhdinknaaGreatDoor
/- Contract of law 10's Light; law 10's Awake. -/
namespace Go.Proofs.YtafmakhhdinknaaGreatDoor
open Go.RowKit
set_option linter.unusedVariables false
set_option linter.unusedSimpArgs false
def lightB (x : Bk) : Bool := x.journals.all (fun j => decide (j.lines.length ≤ 8)) && (decide (x.chart.length ≤ 20) && (decide (x.units.length ≤ 8) && (decide (x.long.length ≤ 8) && decide (x.journals.length ≤ 12))))
theorem light_of {x : Bk} (h : lightB x = true) : (∀ j ∈ x.journals, j.lines.length ≤ 8) ∧ x.chart.length ≤ 20 ∧ x.units.length ≤ 8 ∧ x.long.length ≤ 8 ∧ x.journals.length ≤ 12 := by
  unfold lightB at h
  simp only [Bool.and_eq_true, decide_eq_true_eq, List.all_eq_true] at h
  exact h
end Go.Proofs.YtafmakhhdinknaaGreatDoor
/- Law 10's Awake. -/
namespace Go.Proofs.YtafmakhhdinknaaGreatDoor
open Go.RowKit
set_option linter.unusedVariables false
set_option linter.unusedSimpArgs false
def bk0 : Bk := ⟨[], [], 0, [], [], by omega⟩
theorem bk0_mem (w : World) : BkM bk0 (.slice none 0 0) (.slice none 0 0) (.slice none 0 0) (.slice none 0 0) [] w :=
  ⟨.inl ⟨_, _, rfl, rfl⟩, .inl ⟨_, _, rfl, rfl⟩, .inl ⟨_, _, rfl, rfl⟩, .inl ⟨_, _, rfl, rfl⟩, fun p hp => (by cases hp), rfl⟩
theorem frB_lens (x : Bk) : (frB x).C.length ≤ 40 ∧ (frB x).U.length ≤ 9 ∧ (frB x).S.length ≤ 13 ∧ 1 ≤ (frB x).S.length := ⟨(frC_made x.chart).2.1, (frU_ok x.units).2.2.1, (mkS_lens x.first x.long).2, (mkS_lens x.first x.long).1⟩
theorem frM_owns {x : Bk} {base : Nat} {vC vU vS : Value} {w : World} (h1 : w.ownsRow base 84 4 vC (frB x).C.length ((frB x).C.flatMap cc)) (h2 : w.ownsRow base 87 1 vU (frB x).U.length ((frB x).U.flatMap uc)) (h3 : w.ownsRow base 29 1 vS (frB x).S.length ((frB x).S.flatMap dcl)) : FrM (frB x) vC vU vS w := by
  obtain ⟨a, b, c, _⟩ := frB_lens x
  exact ⟨recs_of_owns cc_len h1 rfl (by omega), recs_of_owns uc_len h2 rfl (by omega), recs_of_owns dcl_len h3 rfl (by omega)⟩
/-- A made book in memory. -/
structure MadeM (x : Bk) (w : World) (vC vU vS vJ : Value) (vs : List Jm) : Prop where
  fr : FrM (frB x) vC vU vS w
  jr : JRow w vJ vs
  js : vs.map jOf = makeJ x
theorem MadeM.stay {x : Bk} {w w' : World} {vC vU vS vJ : Value} {vs : List Jm} (h : MadeM x w vC vU vS vJ vs) (hb : Below w.heap.size w w') : MadeM x w' vC vU vS vJ vs := ⟨h.fr.stay hb, h.jr.stay hb, h.js⟩
theorem linesB_len {C : List Ac} {U : List Nat} {xs : List Sm} : (linesB C U xs).length ≤ xs.length + U.length := by
  unfold linesB
  have := pads_len C U (sumZ (xs.map (lnA C U))) U.length
  rw [List.length_append, List.length_map]
  omega
theorem stJ_lens (x : Bk) (h8 : ∀ j ∈ x.journals, j.lines.length ≤ 8) : ∀ k, k ≤ x.journals.length → ∀ p ∈ (stJ x k).2, p.2.length ≤ 17
  | 0, _, p, hp => by simp [stJ] at hp
  | k + 1, hk, p, hp => by
    have hx := List.getElem?_eq_getElem (l := x.journals) (i := k) (by omega)
    rw [stJ_step hx] at hp
    unfold stepJ at hp
    have hj8 := h8 _ (List.getElem_mem (by omega : k < x.journals.length))
    split at hp
    · exact stJ_lens x h8 k (by omega) p hp
    · rcases List.mem_append.1 hp with h | h
      · exact stJ_lens x h8 k (by omega) p h
      · simp at h
        subst h
        have := linesB_len (C := (frB x).C) (U := (frB x).U) (xs := (x.journals[k]'(by omega)).lines)
        have := (frB_lens x).2.1
        show (linesB _ _ _).length ≤ 17
        omega
/-- What the laws ask of a made book's journals. -/
theorem made_lens {x : Bk} {vs : List Jm} (h8 : ∀ j ∈ x.journals, j.lines.length ≤ 8) (hl : x.journals.length ≤ 100) (h : vs.map jOf = makeJ x) : vs.length ≤ x.journals.length ∧ ∀ p ∈ vs, p.2.2.length ≤ 17 ∧ -2147483648 ≤ p.1 ∧ p.1 ≤ 2147483647 := by
  obtain ⟨_, b, c, d⟩ := stJ_ok x h8 x.journals.length (Nat.le_refl _)
  have hE := mkE_le x.first x.long
  have hf := x.hf
  obtain ⟨a, _⟩ := stJ_ok x h8 x.journals.length (Nat.le_refl _)
  refine ⟨?_, fun p hp => ?_⟩
  · have e : vs.length = (makeJ x).length := by rw [← h, List.length_map]
    rw [e]; exact d
  · have hm : jOf p ∈ makeJ x := by rw [← h]; exact List.mem_map.2 ⟨p, hp, rfl⟩
    have h1 := b _ hm
    have h2 := stJ_lens x h8 x.journals.length (Nat.le_refl _) _ hm
    have hp1 := h1.1.per
    have h3 : (jOf p).1 = p.1 := rfl
    have h4 : (jOf p).2.length = p.2.2.length := rfl
    have h5 : (frB x).E = mkE x.first x.long := rfl
    rw [h3] at h1 hp1
    rw [h4] at h2
    refine ⟨h2, ?_, ?_⟩
    · unfold perI at hp1
      split at hp1
      · rename_i hc
        have hS0 : 0 < cntD (frB x).S p.1 := hc.2
        obtain ⟨s0, hs0⟩ : ∃ s, (frB x).S[0]? = some s := ⟨_, mkS_head x.first x.long⟩
        have := (cnt_iff (d := p.1) (mkS_rise x.first x.long) hs0).2 hS0
        have := mkS_mem (List.mem_of_getElem? hs0)
        omega
      · omega
    · omega
theorem JOwn.made {x : Bk} {base : Nat} {w : World} {vC vU vS vJ : Value} {vs : List Jm} (h8 : ∀ j ∈ x.journals, j.lines.length ≤ 8) (hl : x.journals.length ≤ 100) (h1 : w.ownsRow base 84 4 vC (frB x).C.length ((frB x).C.flatMap cc)) (h2 : w.ownsRow base 87 1 vU (frB x).U.length ((frB x).U.flatMap uc)) (h3 : w.ownsRow base 29 1 vS (frB x).S.length ((frB x).S.flatMap dcl)) (hJ : JOwn base w vJ vs) (hm : vs.map jOf = makeJ x) : MadeM x w vC vU vS vJ vs := by
  obtain ⟨a, b⟩ := made_lens h8 hl hm
  exact ⟨frM_owns h1 h2 h3, hJ.jrow (by omega) (fun p hp => by have := b p hp; omega), hm⟩
/-- Check of a made book. -/
theorem BookC.made {I : World → Prop} (B : BookC I) {x : Bk} {w : World} {vC vU vS vJ : Value} {vs : List Jm} (hI : I w) (hM : MadeM x w vC vU vS vJ vs) (h8 : ∀ j ∈ x.journals, j.lines.length ≤ 8) (hl : x.journals.length ≤ 100) :
    Calls Tryz.prog 55 #[bkV vC vU vS (frB x).E vJ] w fun e w' => e = .returned (.int .i64 0) ∧ Below w.heap.size w w' := by
  obtain ⟨a, b⟩ := made_lens h8 hl hM.js
  have := B.check vC vU vS vJ (frB x) vs w hI hM.fr (frB_in x) hM.jr (by omega) (fun p hp => by have := b p hp; omega)
  rw [hM.js, made_ok x h8 (by omega)] at this
  exact this
set_option maxHeartbeats 4000000 in
set_option maxRecDepth 100000 in
theorem awake10_any {I : World → Prop} (C : AllotC) (D : DayC I) (K : KeyC I) (U : UnitC) (LC : CalC I) (EC : EntryC I) (B : BookC I) (w : World) (hI : I w) :
    Calls Tryz.prog 26 #[] w fun e w' => e = .returned (.bool true) ∧ Below w.heap.size w w' := by
  have h8 : ∀ j ∈ bk0.journals, j.lines.length ≤ 8 := fun j hj => by cases hj
  have KM := makeB_c bk0 _ _ _ _ [] w (bk0_mem w) h8 (by decide)
  unfold bV at KM
  have KC := Lib.hid (fun (w' : World) (vC vU vS vJ : Value) (vs : List Jm) (h : Below w.heap.size w w') (hM : MadeM bk0 w' vC vU vS vJ vs) => B.made (D.stay hI h) hM h8 (by decide))
  have KD := Lib.hid (fun (w' : World) (vC vU vS vJ : Value) (hJ : JRow w' vJ []) => B.days vC vU vS vJ (frB bk0) [] w' hJ (by simp))
  have KA := Lib.hid (fun (w' : World) (h : Below w.heap.size w w') => awake9_any C D K U LC EC w' (D.stay hI h))
  have HMK : Hid (∀ {base : Nat} {w' : World} {vC vU vS vJ : Value} {vs : List Jm}, w'.ownsRow base 84 4 vC (frB bk0).C.length ((frB bk0).C.flatMap cc) → w'.ownsRow base 87 1 vU (frB bk0).U.length ((frB bk0).U.flatMap uc) → w'.ownsRow base 29 1 vS (frB bk0).S.length ((frB bk0).S.flatMap dcl) → JOwn base w' vJ vs → vs.map jOf = makeJ bk0 → MadeM bk0 w' vC vU vS vJ vs) := Lib.hid (fun h1 h2 h3 hJ hm => JOwn.made h8 (by decide) h1 h2 h3 hJ hm)
  unfold bkV at KM KC KD
  obtain ⟨EE, hEE⟩ : ∃ n, (frB bk0).E = n := ⟨_, rfl⟩
  rw [hEE] at KM KC KD
  have K1 := Lib.hid KM
  clear KM C D K U LC EC B hI h8 hEE
  go_enter Tryz.func26, Tryz.ntmps26
  go_upto_region 2 with (go_at_call 53; refine K1.out.mono ?_; rintro e w2 ⟨vC, vU, vS, vJ, vs, rfl, oC, oU, oS, hJ, hm, hb2⟩; have hvs : vs = [] := List.map_eq_nil_iff.1 (hm.trans rfl); subst hvs; have HMM := Lib.hid (HMK.out oC oU oS hJ hm); obtain ⟨r1, c1, rfl⟩ := owns_form oC; obtain ⟨r2, c2, rfl⟩ := owns_form oU; obtain ⟨r3, c3, rfl⟩ := owns_form oS; obtain ⟨r4, c4, rfl⟩ := owns_form hJ.row; have HB2 := Lib.hid hb2; clear oC oU oS hJ hm hb2)
  have hbw := (Below.refl w2.heap.size w2).alloc (Nat.le_refl _) (.cells #[.slice r1 (frB bk0).C.length c1, .slice r2 (frB bk0).U.length c2, .slice r3 (frB bk0).S.length c3, .int .i32 EE, .slice r4 0 c4] 67)
  have bx := HBox.new w2 [.slice r1 (frB bk0).C.length c1, .slice r2 (frB bk0).U.length c2, .slice r3 (frB bk0).S.length c3, .int .i32 EE, .slice r4 0 c4] 67
  change HBox (w2.alloc (.cells #[.slice r1 (frB bk0).C.length c1, .slice r2 (frB bk0).U.length c2, .slice r3 (frB bk0).S.length c3, .int .i32 EE, .slice r4 0 c4] 67)) _ _ _ at bx
  have HX := Lib.hid bx
  have HMW := Lib.hid (HMM.out.stay hbw)
  have HBW := Lib.hid (HB2.out.trans (hbw.mono HB2.out.size))
  clear hbw HB2 HMM K1 HMK
  generalize w2.alloc (.cells #[.slice r1 (frB bk0).C.length c1, .slice r2 (frB bk0).U.length c2, .slice r3 (frB bk0).S.length c3, .int .i32 EE, .slice r4 0 c4] 67) = W at *
  generalize w2.heap.size = Y at *
  have x0 := bx.cell (j := 0) rfl
  have x1 := bx.cell (j := 1) rfl
  have x2 := bx.cell (j := 2) rfl
  have x3 := bx.cell (j := 3) rfl
  have x4 := bx.cell (j := 4) rfl
  clear bx
  go_wp2_with (first
    | (go_at_call 56; refine (KA.out _ HB4.out).mono ?_; rintro e w5 ⟨rfl, h5⟩; have HB5 := Lib.hid (HB4.out.trans (h5.mono HB4.out.size)); clear h5)
    | (go_at_call 55; refine (KC.out w3 _ _ _ _ _ HB3.out HM3.out).mono ?_; rintro e w4 ⟨rfl, h4⟩; have HB4 := Lib.hid (HB3.out.trans (h4.mono HB3.out.size)); clear h4)
    | (go_at_call 54; refine (KD.out W _ _ _ _ HMW.out.jr).mono ?_; rintro e w3 ⟨rfl, h3⟩; have hx3 := HX.out.stay h3; have y0 := hx3.cell (j := 0) rfl; have y1 := hx3.cell (j := 1) rfl; have y2 := hx3.cell (j := 2) rfl; have y3 := hx3.cell (j := 3) rfl; have y4 := hx3.cell (j := 4) rfl; have HM3 := Lib.hid (HMW.out.stay h3); have HB3 := Lib.hid (HBW.out.trans (h3.mono HBW.out.size)); clear h3 hx3))
  go_ret
  exact ⟨by simp, HB5.out⟩
end Go.Proofs.YtafmakhhdinknaaGreatDoor
/- Made books as values: made, loaded. -/
namespace Go.Proofs.YtafmakhhdinknaaGreatDoor
open Go.RowKit
set_option linter.unusedVariables false
set_option linter.unusedSimpArgs false
/-- A made book as a value. -/
def MkB (x : Bk) (w : World) (v : Value) : Prop := ∃ (vC vU vS vJ : Value) (vs : List Jm), v = bkV vC vU vS (frB x).E vJ ∧ MadeM x w vC vU vS vJ vs
theorem MkB.stay {x : Bk} {w w' : World} {v : Value} (h : MkB x w v) (hb : Below w.heap.size w w') : MkB x w' v := by
  obtain ⟨vC, vU, vS, vJ, vs, e, hM⟩ := h
  exact ⟨vC, vU, vS, vJ, vs, e, hM.stay hb⟩
theorem load_x {w : World} {b : Nat} {vCh vUn vLo vJs : Value} {n : Int} (h : HBox w b [vCh, vUn, .int .i16 n, vLo, vJs] 101) : (Instr.loadAt 101 (.pointer (some ⟨b, 0, none⟩))).run Tryz.prog w = .ok (.agg #[vCh, vUn, .int .i16 n, vLo, vJs]) w := by
  have x0 := h.cell (j := 0) rfl
  have x1 := h.cell (j := 1) rfl
  have x2 := h.cell (j := 2) rfl
  have x3 := h.cell (j := 3) rfl
  have x4 := h.cell (j := 4) rfl
  go_simp
theorem load_bk {w : World} {b : Nat} {v0 v1 v2 v3 v4 : Value} (h : HBox w b [v0, v1, v2, v3, v4] 67) : (Instr.loadAt 67 (.pointer (some ⟨b, 0, none⟩))).run Tryz.prog w = .ok (.agg #[v0, v1, v2, v3, v4]) w := by
  have x0 := h.cell (j := 0) rfl
  have x1 := h.cell (j := 1) rfl
  have x2 := h.cell (j := 2) rfl
  have x3 := h.cell (j := 3) rfl
  have x4 := h.cell (j := 4) rfl
  go_simp
theorem mk_c (x : Bk) (vCh vUn vLo vJs : Value) (js : List Jp) (w : World) (hM : BkM x vCh vUn vLo vJs js w) (hT : lightB x = true) :
    Calls Tryz.prog 53 #[.agg #[vCh, vUn, .int .i16 x.first, vLo, vJs]] w fun e w' => ∃ v, e = .returned v ∧ MkB x w' v ∧ Below w.heap.size w w' := by
  have hl := light_of hT
  refine (makeB_c x vCh vUn vLo vJs js w hM hl.1 (by have := hl.2.2.2.2; omega)).mono ?_
  rintro e w' ⟨vC, vU, vS, vJ, vs, rfl, oC, oU, oS, hJ, hm, hb⟩
  exact ⟨_, rfl, ⟨_, _, _, _, _, rfl, JOwn.made hl.1 (by have := hl.2.2.2.2; omega) oC oU oS hJ hm⟩, hb⟩
end Go.Proofs.YtafmakhhdinknaaGreatDoor

/- Contract of the library's Insert of one number among entities: ahead of the end, with room and without. -/
import Derived.Test.YtmbfnbbgphpcgaaGreatDoorNp
namespace Go.Proofs.YtmbfnbbgphpcgaaGreatDoor
open Go.RowKit
set_option linter.unusedVariables false
set_option linter.unusedSimpArgs false
theorem usize16 : (Tryz.prog.info? 54).map (·.size) = some 1 := by kernel_rfl
/-- Where memory is known whole. -/
theorem row_whole {w : World} {base g n cap : Nat} {e : TypeId} {l : List Nat} (h : w.ownsRow base e 1 (.slice (some ⟨g, 0, none⟩) n cap) n (l.flatMap uc)) :
    ∃ cur : List Value, w.heap[g]? = some (.cells cur.toArray e (0, 0)) ∧ cur.length = cap ∧ cur.take n = l.flatMap uc ∧ base ≤ g ∧ n ≤ cap ∧ cap ≤ maxLen := by
  rcases h.2 with ⟨h', _⟩ | ⟨g', cap', cur, h', hb, hg, hnc, hcm, hcs, htake⟩
  · cases h'
  · cases h'
    exact ⟨cur.toList, by simpa using hg, by simpa using hcs, by simpa using htake, hb, hnc, hcm⟩
theorem cells_at {w : World} {g : Nat} {cur : List Value} {T : TypeId} (h : w.heap[g]? = some (.cells cur.toArray T (0, 0))) (o : Nat) : ∀ j v, (cur.drop o)[j]? = some v → w.cell? ((⟨g, o, none⟩ : Addr).add j) = some v := fun j v hj => by
  have e : (⟨g, o, none⟩ : Addr).add j = ⟨g, o + j, none⟩ := by unfold Addr.add; split <;> simp_all
  rw [e, cell_of_row w g _ _ _ _ h]
  rw [List.getElem?_drop] at hj
  simpa using hj
theorem grown_of {w w' : World} {g : Nat} (hb : Below 0 w w') (h : ∀ b, b ≠ g → w'.heap[b]? = w.heap[b]?) : w.grownBy w' (some g) :=
  ⟨hb.os, hb.tape, hb.output, hb.size, fun j _ hj => h j (fun e => hj (by rw [e]))⟩
theorem slice_low (G N cap p : Nat) (hp : p ≤ N) (hc : ¬ cap = p) : ∀ w, (Instr.slice 53 (.slice (some ⟨G, 0, none⟩) N cap) (some (.int .i64 (p : Int))) none none).run Tryz.prog w = .ok (.slice (some ⟨G, p, none⟩) (N - p) (cap - p)) w := fun w => by
  have hu : Tryz.prog.underlying 53 = some (.slice (Tryz.prog.elem 53)) := by kernel_rfl
  have hs : ∀ w, (sizeOf (Tryz.prog.elem 53)).run Tryz.prog w = .ok 1 w := fun w => by kernel_rfl
  rw [run_slice_l w 53 (some ⟨G, 0, none⟩) N cap hu .i64 (p : Int) (by omega) (by omega), hs w]
  simp only [Result.andThen_ok, sliced, Int.toNat_natCast]
  rw [if_neg hc]
  simp [Addr.add]; omega
set_option maxHeartbeats 4000000 in
set_option maxRecDepth 100000 in
/-- Ahead of the end, there is room. -/
theorem insert_room (G cap : Nat) (o : List Nat) (M a n V base : Nat) (w : World) (T : TypeId) (ho : w.ownsRow base 54 1 (.slice (some ⟨G, 0, none⟩) M cap) M (o.flatMap uc)) (hM : o.length = M) (ha : a < M) (hroom : M < cap) (hl : M ≤ 1000) (hV : w.heap[V]? = some (.cells #[.int .u16 (n : Int)] T (0, 0))) (hVG : V ≠ G) :
    Calls Tryz.prog 34 #[.slice (some ⟨G, 0, none⟩) M cap, .int .i64 (a : Int), .slice (some ⟨V, 0, none⟩) 1 1] w fun e w' =>
      ∃ v', e = .returned v' ∧ w'.ownsRow base 54 1 v' (M + 1) ((o.take a ++ n :: o.drop a).flatMap uc) ∧ w.grownBy w' (some G) := by
  obtain ⟨cur, hG, hcl, htk, hbG, _, hcm⟩ := row_whole ho
  have hXl : (o.flatMap uc).length = M := by have := ho.1; omega
  obtain ⟨D, hD⟩ : ∃ D, (o.flatMap uc).drop a = D := ⟨_, rfl⟩
  have hDl : D.length = M - a := by rw [← hD, List.length_drop, hXl]
  have hD1 : ∀ v ∈ D, v.oneCell' = true := fun v hv => flat_one uc_one o v (by rw [← hD] at hv; exact List.mem_of_mem_drop hv)
  obtain ⟨p, hp⟩ : ∃ p, a + 1 = p := ⟨_, rfl⟩
  obtain ⟨N, hN⟩ : ∃ N, M + 1 = N := ⟨_, rfl⟩
  have hcD : ∀ j v, D[j]? = some v → w.cell? ((⟨G, a, none⟩ : Addr).add j) = some v := fun j v hj => cells_at hG a j v (by
    rw [← hD, ← htk, List.drop_take] at hj
    rw [List.getElem?_take] at hj
    split at hj
    · exact hj
    · cases hj)
  have hfin : (splice (splice cur p D) a [.int .u16 (n : Int)]).take N = (o.take a ++ n :: o.drop a).flatMap uc := by
    rw [← hp, ← hN, splice_old ha hDl (by omega), List.flatMap_append, List.flatMap_cons, flatU_take, flatU_drop, hD, ← htk, List.take_take, show min a M = a by omega]
    rfl
  have hln : ((o.take a ++ n :: o.drop a).flatMap uc).length = N := by rw [← hfin, List.length_take, length_splice _ _ _ (by rw [length_splice _ _ _ (by omega)]; simp; omega), length_splice _ _ _ (by omega)]; omega
  have hsV : w.shape? V = some (T, 1) := by unfold World.shape?; rw [hV]; rfl
  have hsG : w.shape? G = some (54, cap) := by unfold World.shape?; rw [hG]; simp [hcl]
  have hfV : ∀ j, w.frozen? ⟨V, j, none⟩ = false := fun j => by unfold World.frozen?; rw [hV]; simp
  have hz : ∀ w, (Go.sizeOf 54).run Tryz.prog w = .ok 1 w := fun w => by kernel_rfl
  have hov : ∀ lb cb, (callFunc 49 #[.slice (some ⟨V, 0, none⟩) 1 1, .slice (some ⟨G, p, none⟩) lb cb]).run Tryz.prog w = .ok (.value (.bool false)) w := fun lb cb => by
    rw [run_callFunc_extern Tryz.func49 (by kernel_rfl) (by kernel_rfl) (by kernel_rfl) (e := Extern.SlicesOverlaps.overlaps #[52, 52] #[4]) (by kernel_rfl),
      Lib.run_overlaps_apart w 52 4 54 Tryz.underlying52 1 hz ⟨V, 0, none⟩ ⟨G, p, none⟩ 1 1 lb cb hVG T 54 1 cap hsV hsG (by omega) (hfV 0) (hfV 1)]
    rfl
  have hVc : ∀ (w' : World), (∀ b, b ≠ G → w'.heap[b]? = w.heap[b]?) → ∀ j v, ([.int .u16 (n : Int)] : List Value)[j]? = some v → w'.cell? ((⟨V, 0, none⟩ : Addr).add j) = some v := fun w' h j v hj => by
    have e : (⟨V, 0, none⟩ : Addr).add j = ⟨V, j, none⟩ := by unfold Addr.add; split <;> simp_all
    rw [e, cell_of_row w' V _ _ _ _ ((h V hVG).trans hV)]
    simpa using hj
  have hDr : w.drew.heap = w.heap := rfl
  have HG : Hid (w.drew.heap[G]? = some (.cells cur.toArray 54 (0, 0))) := Lib.hid hG
  have HCD : Hid (∀ j v, D[j]? = some v → w.drew.cell? ((⟨G, a, none⟩ : Addr).add j) = some v) := Lib.hid hcD
  have HVC := Lib.hid hVc
  have HF := Lib.hid (And.intro hfin hln)
  have HDL := Lib.hid hDl
  have HD1 := Lib.hid hD1
  have HCL := Lib.hid hcl
  have HB0 := Lib.hid ((Below.refl 0 w).drew)
  have e1 : (a : Int) + 1 = (p : Int) := by omega
  have e2 : (M : Int) + 1 = (N : Int) := by omega
  have e3 : IntKind.i64.wrap ((a : Int) + 1) = (p : Int) := by rw [IntKind.wrap_i64]; omega
  have e4 : IntKind.i64.wrap ((M : Int) + 1) = (N : Int) := by rw [IntKind.wrap_i64]; omega
  have e5 : IntKind.i64.wrap (p : Int) = (p : Int) := by rw [IntKind.wrap_i64]; omega
  have n1 : ¬ cap = p := by omega
  have n2 : ¬ cap = a := by omega
  have n3 : ¬ ((a : Int) = (M : Int)) := by omega
  have n4 : p ≤ N := by omega
  have n5 : N ≤ cap := by omega
  have n6 : cap ≤ 9223372036854775807 := by unfold maxLen at hcm; omega
  have n7 : ((a : Int) == (M : Int)) = false := by simp; omega
  have hS1 := slice_low G N cap p n4 n1
  have hS2 := slice_low G N cap a (by omega) n2
  have HP := Lib.hid hp
  have HN := Lib.hid hN
  clear ho hM hG hcl htk hXl hD hDl hD1 hcD hfin hln hsV hsG hfV hz hV hVc hDr hp hN
  generalize (o.take a ++ n :: o.drop a).flatMap uc = Z at *
  go_enter Tryz.func34, Tryz.ntmps34
  go_wp2_with (simp only [hov])
  go_still_tail 8, (by kernel_rfl)
  change wpList _ _ _ _ _ w.drew
  refine wpList_copy_rows rfl (.tmp 73) (.tmp 76) 53 53 rfl 1 54 Tryz.underlying53 usize16 (some ⟨G, p, none⟩) (some ⟨G, a, none⟩) (N - p) (cap - p) (N - a) (cap - a) rfl rfl G p cur 54 HG.out D (M - a) (by show M - a = min (N - a) (N - p); have := HP.out; have := HN.out; omega) (by rw [HDL.out]; omega) (fun _ => ⟨rfl, _, rfl, HCD.out⟩) (by rw [HDL.out, HCL.out]; have := HP.out; omega) HD1.out 0 w HB0.out (Nat.zero_le _) ?_
  intro w1 HG1 hB1 hO1
  have HB1 := Lib.hid hB1
  have HO1 : Hid (∀ b, b ≠ G → w1.heap[b]? = w.heap[b]?) := Lib.hid hO1
  clear hB1 hO1
  go_wp2_with (refine wpList_copy_rows rfl (.tmp 80) (.tmp 81) 53 52 rfl 1 54 Tryz.underlying53 usize16 (some ⟨G, a, none⟩) (some ⟨V, 0, none⟩) (N - a) (cap - a) 1 1 rfl rfl G a (splice cur p D) 54 HG1.out [.int .u16 (n : Int)] 1 (by show 1 = min 1 (N - a); have := HP.out; omega) rfl (fun _ => ⟨rfl, _, rfl, HVC.out _ HO1.out⟩) (by rw [length_splice _ _ _ (by have := HDL.out; have := HCL.out; have := HP.out; omega)]; have := HCL.out; simp; omega) (fun v hv => by simp at hv; subst hv; rfl) 0 w HB1.out (Nat.zero_le _) ?_; intro w2 HG2 hB2 hO2; have HB2 := Lib.hid hB2; have HO2 := Lib.hid (fun b hb => (hO2 b hb).trans (HO1.out b hb)); clear hB2 hO2)
  go_ret
  refine ⟨_, rfl, ⟨HF.out.2.trans (by omega), .inr ⟨G, cap, _, by rw [HN.out]; rfl, hbG, HG2.out, by omega, hcm, ?_, ?_⟩⟩, grown_of HB2.out HO2.out⟩
  · have h1 : (splice cur p D).length = cap := by rw [length_splice _ _ _ (by have := HDL.out; have := HCL.out; have := HP.out; omega)]; exact HCL.out
    have h2 : (splice (splice cur p D) a [Value.int .u16 (n : Int)]).length = cap := by rw [length_splice _ _ _ (by rw [h1]; simp; omega)]; exact h1
    simpa using h2
  · rw [Nat.mul_one, HN.out]
    exact HF.out.1
theorem slice_high (G M cap a : Nat) (ha : a ≤ M) (hc : M ≤ cap) (h0 : 0 < cap) : ∀ w, (Instr.slice 53 (.slice (some ⟨G, 0, none⟩) M cap) none (some (.int .i64 (a : Int))) none).run Tryz.prog w = .ok (.slice (some ⟨G, 0, none⟩) a cap) w := fun w => by
  have hu : Tryz.prog.underlying 53 = some (.slice (Tryz.prog.elem 53)) := by kernel_rfl
  have hs : ∀ w, (sizeOf (Tryz.prog.elem 53)).run Tryz.prog w = .ok 1 w := fun w => by kernel_rfl
  rw [run_slice_h w 53 (some ⟨G, 0, none⟩) M cap hu .i64 (a : Int) (by omega) (by omega), hs w]
  simp only [Result.andThen_ok, sliced, Int.toNat_natCast]
  rw [if_neg (by omega)]
  simp [Addr.add]
set_option maxHeartbeats 4000000 in
set_option maxRecDepth 100000 in
/-- Ahead of the end, there is no room. -/
theorem insert_grow (G cap : Nat) (o : List Nat) (M a n V base : Nat) (w : World) (T : TypeId) (ho : w.ownsRow base 54 1 (.slice (some ⟨G, 0, none⟩) M cap) M (o.flatMap uc)) (hM : o.length = M) (ha : a < M) (hroom : cap < M + 1) (hl : M ≤ 1000) (hV : w.heap[V]? = some (.cells #[.int .u16 (n : Int)] T (0, 0))) :
    Calls Tryz.prog 34 #[.slice (some ⟨G, 0, none⟩) M cap, .int .i64 (a : Int), .slice (some ⟨V, 0, none⟩) 1 1] w fun e w' =>
      ∃ v', e = .returned v' ∧ w'.ownsRow base 54 1 v' (M + 1) ((o.take a ++ n :: o.drop a).flatMap uc) ∧ w.grownBy w' (some G) := by
  obtain ⟨i0, hi, hz0, hz1, hz2⟩ := info_parts info16
  obtain ⟨cur, hG, hcl, htk, hbG, hMc, hcm⟩ := row_whole ho
  have hXl : (o.flatMap uc).length = M := by have := ho.1; omega
  obtain ⟨D, hD⟩ : ∃ D, (o.flatMap uc).drop a = D := ⟨_, rfl⟩
  have hDl : D.length = M - a := by rw [← hD, List.length_drop, hXl]
  have hD1 : ∀ v ∈ D, v.oneCell' = true := fun v hv => flat_one uc_one o v (by rw [← hD] at hv; exact List.mem_of_mem_drop hv)
  obtain ⟨p, hp⟩ : ∃ p, a + 1 = p := ⟨_, rfl⟩
  obtain ⟨N, hN⟩ : ∃ N, M + 1 = N := ⟨_, rfl⟩
  obtain ⟨K, hK⟩ : ∃ K, N - a = K := ⟨_, rfl⟩
  have hGs : G < w.heap.size := (Array.getElem?_eq_some_iff.1 hG).1
  have hVs : V < w.heap.size := (Array.getElem?_eq_some_iff.1 hV).1
  have hcD : ∀ (w' : World), w'.heap[G]? = w.heap[G]? → ∀ j v, D[j]? = some v → w'.cell? ((⟨G, a, none⟩ : Addr).add j) = some v := fun w' hw' j v hj => cells_at (hw'.trans hG) a j v (by
    rw [← hD, ← htk, List.drop_take] at hj
    rw [List.getElem?_take] at hj
    split at hj
    · exact hj
    · cases hj)
  have hVc : ∀ (w' : World), w'.heap[V]? = w.heap[V]? → ∀ j v, ([.int .u16 (n : Int)] : List Value)[j]? = some v → w'.cell? ((⟨V, 0, none⟩ : Addr).add j) = some v := fun w' h j v hj => by
    have e : (⟨V, 0, none⟩ : Addr).add j = ⟨V, j, none⟩ := by unfold Addr.add; split <;> simp_all
    rw [e, cell_of_row w' V _ _ _ _ (h.trans hV)]
    simpa using hj
  have hold : (Builtin.firstCells i0.size a (.slice (some ⟨G, 0, none⟩) a cap)).run Tryz.prog w.drew = .ok ((o.flatMap uc).take a).toArray w.drew := by
    rw [hz1]
    exact run_firstCells_some w.drew 1 a ⟨G, 0, none⟩ a cap ((o.flatMap uc).take a) (by rw [List.length_take]; omega) (fun j v hj => cells_at (w := w.drew) hG 0 j v (by
      rw [← htk, List.take_take] at hj
      rw [List.getElem?_take] at hj
      split at hj
      · exact hj
      · cases hj))
  have hap : ∀ ty, (Builtin.append_ #[53, 3] ty #[.slice (some ⟨G, 0, none⟩) a cap, .int .i64 (K : Int)]).run Tryz.prog w = .ok (.slice (some ⟨w.heap.size, 0, none⟩) N (grownCap w N cap 54)) (w.drew.alloc (.cells (((o.flatMap uc).take a).toArray ++ Builtin.zeroCells (Value.int .u16 0).cells K ++ Builtin.zeroCells (Value.int .u16 0).cells (grownCap w N cap 54 - N)) 54)) := fun ty => by
    have h := Lib.run_append_grow_zeros w 53 3 ty 54 i0 (.int .u16 0) .i64 .i64 Tryz.underlying53 Tryz.underlying3 hi hz0 (some ⟨G, 0, none⟩) a cap ((o.flatMap uc).take a) hold K (by omega) (by omega) (by omega) (by omega) (by rw [hz2]; omega) (by rw [hz2, show a + K = N by omega]; exact growslice_fits (by omega) (by omega))
    rw [show a + K = N by omega] at h
    exact h
  obtain ⟨C, hC⟩ : ∃ C, grownCap w N cap 54 = C := ⟨_, rfl⟩
  have hCN : N ≤ C := hC ▸ grownCap_ge w _ _ _
  have hCm : C ≤ maxLen := hC ▸ grownCap_le_maxLen w N cap _ (by unfold maxLen; omega)
  rw [hC] at hap
  obtain ⟨R, hR, hRl, hRt⟩ : ∃ R : List Value, (((o.flatMap uc).take a).toArray ++ Builtin.zeroCells (Value.int .u16 0).cells K ++ Builtin.zeroCells (Value.int .u16 0).cells (C - N)) = R.toArray ∧ R.length = C ∧ R.take a = (o.flatMap uc).take a := by
    generalize o.flatMap uc = X at hXl
    refine ⟨_, (Array.toArray_toList).symm, ?_, ?_⟩
    · simp [Builtin.zeroCells, Value.cells]; omega
    · rw [Array.toList_append, Array.toList_append, List.append_assoc, List.take_append_of_le_length (by rw [List.length_take]; omega)]
      exact List.take_of_length_le (by rw [List.length_take]; omega)
  rw [hR] at hap
  obtain ⟨H, hH⟩ : ∃ H, w.heap.size = H := ⟨_, rfl⟩
  obtain ⟨W1, hW1⟩ : ∃ W1, w.drew.alloc (.cells R.toArray 54) = W1 := ⟨_, rfl⟩
  have hWH : W1.heap[H]? = some (.cells R.toArray 54 (0, 0)) := by rw [← hW1, ← hH]; exact heap_alloc_new w.drew _
  have hWo : ∀ b, b < H → W1.heap[b]? = w.heap[b]? := fun b hb => by rw [← hW1]; exact heap_alloc_old w.drew _ (by rw [← hH] at hb; exact hb)
  have hWB : Below 0 w W1 := by rw [← hW1]; exact ((Below.refl 0 w).drew).alloc (Nat.zero_le _) _
  rw [hW1, hH] at hap
  have hfin : (splice (splice R a [.int .u16 (n : Int)]) p D).take N = (o.take a ++ n :: o.drop a).flatMap uc := by
    rw [← hp, ← hN, splice_new ha hDl (by omega), List.flatMap_append, List.flatMap_cons, flatU_take, flatU_drop, hD, hRt]
    rfl
  have hln : ((o.take a ++ n :: o.drop a).flatMap uc).length = N := by rw [← hfin, List.length_take, length_splice _ _ _ (by rw [length_splice _ _ _ (by simp; omega)]; omega), length_splice _ _ _ (by simp; omega)]; omega
  have HAP := Lib.hid hap
  have HWH := Lib.hid hWH
  have HCD := Lib.hid (fun (w' : World) (h : ∀ b, b ≠ H → w'.heap[b]? = W1.heap[b]?) => hcD w' ((h G (by omega)).trans (hWo G (by omega))))
  have HVC := Lib.hid (hVc W1 (hWo V (by omega)))
  have HF := Lib.hid (And.intro hfin hln)
  have HDL := Lib.hid hDl
  have HD1 := Lib.hid hD1
  have HRL := Lib.hid hRl
  have HB0 := Lib.hid hWB
  have HWO := Lib.hid hWo
  have HHS := Lib.hid hH
  have e1 : (a : Int) + 1 = (p : Int) := by omega
  have e2 : (M : Int) + 1 = (N : Int) := by omega
  have e3 : IntKind.i64.wrap ((a : Int) + 1) = (p : Int) := by rw [IntKind.wrap_i64]; omega
  have e4 : IntKind.i64.wrap ((M : Int) + 1) = (N : Int) := by rw [IntKind.wrap_i64]; omega
  have e5 : IntKind.i64.wrap (p : Int) = (p : Int) := by rw [IntKind.wrap_i64]; omega
  have e6 : (N : Int) - (a : Int) = (K : Int) := by omega
  have n1 : ¬ C = p := by omega
  have n2 : ¬ C = a := by omega
  have n3 : ¬ ((a : Int) = (M : Int)) := by omega
  have n4 : p ≤ N := by omega
  have n5 : (cap : Int) < (N : Int) := by omega
  have n6 : C ≤ 9223372036854775807 := by unfold maxLen at hCm; omega
  have n7 : ((a : Int) == (M : Int)) = false := by simp; omega
  have n8 : ¬ cap = a := by omega
  have n9 : M ≤ cap := hMc
  have hS0 := slice_high G M cap a (by omega) hMc (by omega)
  have hS1 := slice_low H N C p n4 n1
  have hS2 := slice_low H N C a (by omega) n2
  have hS3 := slice_low G M cap a (by omega) n8
  have HP := Lib.hid hp
  have HN := Lib.hid hN
  have HK := Lib.hid hK
  have hbH : base ≤ H := by omega
  clear ho hM hG hcl htk hXl hD hDl hD1 hcD hfin hln hV hVc hp hN hold hap hC hR hRl hRt hWH hWo hWB hW1 hK hi hz0 hz1 hz2 hH hGs hVs
  generalize (o.take a ++ n :: o.drop a).flatMap uc = Z at *
  go_enter Tryz.func34, Tryz.ntmps34
  go_wp2_with (first
    | (at_builtin; refine wpList_append_runU rfl _ _ _ _ rfl _ _ _ _ rfl rfl HAP.out ?_)
    | (refine wpList_copy_rows rfl (.tmp 43) (.tmp 44) 53 52 rfl 1 54 Tryz.underlying53 usize16 (some ⟨H, a, none⟩) (some ⟨V, 0, none⟩) (N - a) (C - a) 1 1 rfl rfl H a R 54 HWH.out [.int .u16 (n : Int)] 1 (by show 1 = min 1 (N - a); have := HP.out; omega) rfl (fun _ => ⟨rfl, _, rfl, HVC.out⟩) (by have := HRL.out; simp; omega) (fun v hv => by simp at hv; subst hv; rfl) 0 w HB0.out (Nat.zero_le _) ?_; intro w1 HG1 hB1 hO1; have HB1 := Lib.hid hB1; have HO1 := Lib.hid hO1; clear hB1 hO1))
  go_still_tail 8, (by kernel_rfl)
  change wpList _ _ _ _ _ w1.drew
  have HG1' : Hid (w1.drew.heap[H]? = some (.cells (splice R a [.int .u16 (n : Int)]).toArray 54 (0, 0))) := HG1
  have HB1' : Hid (Below 0 w w1.drew) := Lib.hid HB1.out.drew
  have HO1' : Hid (∀ b, b ≠ H → w1.drew.heap[b]? = W1.heap[b]?) := HO1
  refine wpList_copy_rows rfl (.tmp 50) (.tmp 53) 53 53 rfl 1 54 Tryz.underlying53 usize16 (some ⟨H, p, none⟩) (some ⟨G, a, none⟩) (N - p) (C - p) (M - a) (cap - a) rfl rfl H p (splice R a [.int .u16 (n : Int)]) 54 HG1'.out D (M - a) (by show M - a = min (M - a) (N - p); have := HP.out; have := HN.out; omega) (by rw [HDL.out]; omega) (fun _ => ⟨rfl, _, rfl, HCD.out _ HO1'.out⟩) (by rw [HDL.out, length_splice _ _ _ (by have := HRL.out; simp; omega), HRL.out]; have := HP.out; omega) HD1.out 0 w HB1'.out (Nat.zero_le _) ?_
  intro w2 HG2 hB2 hO2
  have HB2 := Lib.hid hB2
  have HO2 : Hid (∀ b, b ≠ H → w2.heap[b]? = W1.heap[b]?) := Lib.hid (fun b hb => (hO2 b hb).trans (HO1'.out b hb))
  clear hB2 hO2
  go_wp2
  go_ret
  refine ⟨_, rfl, ⟨HF.out.2.trans (by omega), .inr ⟨H, C, _, by rw [HN.out]; rfl, hbH, HG2.out, by omega, hCm, ?_, ?_⟩⟩, HB2.out.os, HB2.out.tape, HB2.out.output, HB2.out.size, fun b hb _ => (HO2.out b (by have := HHS.out; omega)).trans (HWO.out b (by have := HHS.out; omega))⟩
  · have h1 : (splice R a [Value.int .u16 (n : Int)]).length = C := by rw [length_splice _ _ _ (by have := HRL.out; simp; omega)]; exact HRL.out
    have h2 : (splice (splice R a [Value.int .u16 (n : Int)]) p D).length = C := by rw [length_splice _ _ _ (by rw [h1, HDL.out]; have := HP.out; omega)]; exact h1
    simpa using h2
  · rw [Nat.mul_one, HN.out]
    exact HF.out.1
end Go.Proofs.YtmbfnbbgphpcgaaGreatDoor

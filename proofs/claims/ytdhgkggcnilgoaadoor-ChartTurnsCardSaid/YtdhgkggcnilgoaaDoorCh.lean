/- Contracts of slices.Index, Contains, Equal at numbers of 32 bits; of Equal at accounts. -/
import Derived.Test.YtdhgkggcnilgoaaDoorCg
import Derived.Laws.StructEq
namespace Go.Proofs.YtdhgkggcnilgoaaDoor
open Go.RowKit
set_option linter.unusedVariables false
set_option linter.unusedSimpArgs false
/-- A number's cell. -/
def nc (n : Nat) : List Value := [.int .u32 (n : Int)]
theorem nc_len (n : Nat) : (nc n).length = 1 := rfl
theorem nc_one (n : Nat) : ∀ v ∈ nc n, v.oneCell' = true := fun v hv => by simp [nc] at hv; subst hv; rfl
set_option maxHeartbeats 1000000 in
set_option maxRecDepth 100000 in
theorem index_n (v : Value) (ks : List Nat) (x : Nat) (w : World) (hR : Recs nc 1 w v ks) :
    Calls Tryd.prog 37 #[v, .int .u32 (x : Int)] w fun e w' => (∃ i : Int, e = .returned (.int .i64 i) ∧ (0 ≤ i ↔ x ∈ ks)) ∧ w' = w := by
  obtain ⟨r, cap, rfl, hm⟩ := hR.form
  have HR := Lib.hid hR
  obtain ⟨L, hL⟩ : ∃ L, ks.length = L := ⟨_, rfl⟩
  have HL := Lib.hid hL
  rw [hL] at HR hm ⊢
  clear hR hL
  go_enter Tryd.func37, Tryd.ntmps37
  go_wp2
  go_loop [8] (fun i => ∃ k : Nat, k ≤ L ∧ i = .int .i64 k ∧ Hid (∀ j, j < k → ks[j]? ≠ some x)) (fun i => L - (intOf i).toNat)
  case atStart => exact ⟨0, Nat.zero_le _, rfl, Lib.hid (fun j hj => by omega)⟩
  case round =>
    obtain ⟨k, hk, rfl, HN⟩ := hrel
    by_cases hlt : k < L
    · obtain ⟨y, hy⟩ : ∃ y, ks[k]? = some y := ⟨ks[k]'(by have := HL.out; omega), List.getElem?_eq_getElem (by have := HL.out; omega)⟩
      obtain ⟨g, off, rfl, hg, hc⟩ := HR.out.at hy
      have c0 := hc 0 _ rfl
      simp only [Nat.mul_one, Nat.add_zero] at c0
      have HY := Lib.hid hy
      clear hy hc
      by_cases hxy : x = y
      · subst hxy
        have hd : ((x : Int) == (x : Int)) = true := by simp
        go_wp2
        go_ret
        exact ⟨⟨k, rfl, ⟨fun _ => List.mem_of_getElem? HY.out, fun _ => by omega⟩⟩, rfl⟩
      · have hd : ((x : Int) == (y : Int)) = false := by simp; omega
        go_wp2
        go_round
        case rel =>
          refine ⟨k + 1, by omega, by go_num, Lib.hid (fun j hj e => ?_)⟩
          by_cases h : j = k
          · subst h; rw [HY.out] at e; exact hxy (Option.some.inj e).symm
          · exact HN.out j (by omega) e
        case measure => simp [intOf]; omega
    · obtain rfl : k = L := by omega
      go_wp2
      go_ret
      refine ⟨⟨-1, rfl, ?_⟩, rfl⟩
      have : ¬ x ∈ ks := fun hm => by
        obtain ⟨j, hj, e⟩ := List.getElem_of_mem hm
        exact HN.out j (by have := HL.out; omega) (by rw [List.getElem?_eq_getElem hj, e])
      exact ⟨fun h => by omega, fun h => absurd h this⟩
theorem contains_n (v : Value) (ks : List Nat) (x : Nat) (w : World) (hR : Recs nc 1 w v ks) :
    Calls Tryd.prog 22 #[v, .int .u32 (x : Int)] w fun e w' => e = .returned (.bool (decide (x ∈ ks))) ∧ w' = w := by
  have K : Hid (Calls Tryd.prog 37 #[v, .int .u32 (x : Int)] w fun e w' => (∃ i : Int, e = .returned (.int .i64 i) ∧ decide (0 ≤ i) = decide (x ∈ ks)) ∧ w' = w) :=
    Lib.hid ((index_n v ks x _ hR).mono fun _ _ ⟨⟨i, h1, h2⟩, h3⟩ => ⟨⟨i, h1, decide_eq_decide.2 h2⟩, h3⟩)
  clear hR
  generalize decide (x ∈ ks) = r at *
  go_enter Tryd.func22, Tryd.ntmps22
  go_wp2_with (go_at_call 37; refine K.out.mono ?_; rintro e w1 ⟨⟨i, rfl, hi⟩, rfl⟩; have HI := Lib.hid hi; clear hi)
  go_ret
  exact ⟨by have := HI.out; simp_all, rfl⟩
set_option maxHeartbeats 1000000 in
set_option maxRecDepth 100000 in
theorem equal_n (v1 v2 : Value) (ks : List Nat) (w : World) (h1 : Recs nc 1 w v1 ks) (h2 : Recs nc 1 w v2 ks) :
    Calls Tryd.prog 19 #[v1, v2] w fun e w' => e = .returned (.bool true) ∧ Below w.heap.size w w' := by
  obtain ⟨r1, cap1, rfl, hm⟩ := h1.form
  obtain ⟨r2, cap2, rfl, _⟩ := h2.form
  have H1 := Lib.hid h1
  have H2 := Lib.hid h2
  clear h1 h2
  obtain ⟨n, hn⟩ : ∃ n, ks.length = n := ⟨_, rfl⟩
  have HN := Lib.hid hn
  rw [hn] at H1 H2 hm ⊢
  clear hn
  go_enter Tryd.func19, Tryd.ntmps19
  go_wp2
  go_loopw [13] (fun i wr => ∃ j q : Nat, j ≤ n ∧ i = .int .i64 j ∧ wr = w.drewN q) (fun i _ => n - (intOf i).toNat)
  case atStart => exact ⟨0, 0, Nat.zero_le _, rfl, rfl⟩
  case round =>
    obtain ⟨j, q, hj, rfl, rfl⟩ := hrel
    by_cases hlt : j < n
    · obtain ⟨y, hy⟩ : ∃ y, ks[j]? = some y := ⟨ks[j]'(by have := HN.out; omega), List.getElem?_eq_getElem (by have := HN.out; omega)⟩
      obtain ⟨g1, o1, rfl, _, c1⟩ := H1.out.at hy
      obtain ⟨g2, o2, rfl, _, c2⟩ := H2.out.at hy
      have a0 := c1 0 _ rfl
      have b0 := c2 0 _ rfl
      simp only [Nat.mul_one, Nat.add_zero] at a0 b0
      clear hy c1 c2
      go_wp2_with fail
      go_quiet (fail)
      go_wp2
      go_roundw
      case rel => exact ⟨j + 1, q + nq, by omega, by go_num, rfl⟩
      case measure => simp [intOf]; omega
    · obtain rfl : j = n := by omega
      go_wp2
      go_ret
      exact ⟨rfl, rfl, rfl, rfl, Nat.le_refl _, fun _ _ => rfl⟩
set_option maxRecDepth 100000 in
theorem neq_same_c (x : Ac) (w : World) : (binOp .neq 35 (.agg #[.int .u32 (x.code : Int), .string x.name, .int .u8 (x.kind : Int), .int .u32 (x.par : Int)]) (.agg #[.int .u32 (x.code : Int), .string x.name, .int .u8 (x.kind : Int), .int .u32 (x.par : Int)])).run Tryd.prog w = .ok (.bool false) w := by
  have hp : Tryd.prog.stoodInHeld 35 = false := by kernel_rfl
  have ht := Tryd.underlying35
  have hf : Tryd.prog.underlying 35 = some (.struct (Tryd.prog.fieldsOf 35)) := by kernel_rfl
  rw [run_neq_struct, show (10000 : Nat) = 9999 + 1 from rfl, run_equalIn_agg w 9999 _ _ _ hf hp]
  have he : (Tryd.prog.fieldsOf 35) = (match Tryd.prog.underlying 35 with | some (.struct fs) => fs | _ => #[]) := rfl
  rw [he, ht]
  simp [Op.eqFields, go_sem, Tryd.underlying22, Tryd.underlying9, Tryd.underlying24]
set_option maxHeartbeats 1000000 in
set_option maxRecDepth 100000 in
theorem equal_c (v1 v2 : Value) (ks : List Ac) (w : World) (h1 : Recs cc 4 w v1 ks) (h2 : Recs cc 4 w v2 ks) :
    Calls Tryd.prog 24 #[v1, v2] w fun e w' => e = .returned (.bool true) ∧ Below w.heap.size w w' := by
  obtain ⟨r1, cap1, rfl, hm⟩ := h1.form
  obtain ⟨r2, cap2, rfl, _⟩ := h2.form
  have H1 := Lib.hid h1
  have H2 := Lib.hid h2
  clear h1 h2
  obtain ⟨n, hn⟩ : ∃ n, ks.length = n := ⟨_, rfl⟩
  have HN := Lib.hid hn
  rw [hn] at H1 H2 hm ⊢
  clear hn
  go_enter Tryd.func24, Tryd.ntmps24
  go_wp2
  go_loopw [13] (fun i wr => ∃ j q : Nat, j ≤ n ∧ i = .int .i64 j ∧ wr = w.drewN q) (fun i _ => n - (intOf i).toNat)
  case atStart => exact ⟨0, 0, Nat.zero_le _, rfl, rfl⟩
  case round =>
    obtain ⟨j, q, hj, rfl, rfl⟩ := hrel
    by_cases hlt : j < n
    · obtain ⟨y, hy⟩ : ∃ y, ks[j]? = some y := ⟨ks[j]'(by have := HN.out; omega), List.getElem?_eq_getElem (by have := HN.out; omega)⟩
      obtain ⟨g1, o1, rfl, _, c1⟩ := H1.out.at hy
      obtain ⟨g2, o2, rfl, _, c2⟩ := H2.out.at hy
      obtain ⟨a0, a1, a2, a3⟩ := Recs.cells4 (c := ks) c1
      obtain ⟨b0, b1, b2, b3⟩ := Recs.cells4 (c := ks) c2
      have hne := fun w => neq_same_c y w
      clear hy c1 c2
      go_wp2_with fail
      go_quiet (fail)
      go_wp2
      go_roundw
      case rel => exact ⟨j + 1, q + nq, by omega, by go_num, rfl⟩
      case measure => simp [intOf]; omega
    · obtain rfl : j = n := by omega
      go_wp2
      go_ret
      exact ⟨rfl, rfl, rfl, rfl, Nat.le_refl _, fun _ _ => rfl⟩
end Go.Proofs.YtdhgkggcnilgoaaDoor

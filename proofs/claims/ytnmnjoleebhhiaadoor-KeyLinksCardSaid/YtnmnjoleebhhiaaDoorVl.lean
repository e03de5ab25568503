/- Contracts of slices.Index and slices.Contains at keys and at pairs of keys. -/
import Derived.Test.YtnmnjoleebhhiaaDoorVk
import Derived.LoopTactic
namespace Go.Proofs.YtnmnjoleebhhiaaDoor
open Go.RowKit Go.Sort
set_option linter.unusedVariables false
set_option linter.unusedSimpArgs false
theorem Recs.cells3 {ks : List Kt} {w : World} {g off cap i : Nat} {x : Kt} (h : ∀ i x, ks[i]? = some x → ∀ j u, (kc x)[j]? = some u → w.cell? ⟨g, off + i * 3 + j, none⟩ = some u) (hx : ks[i]? = some x) :
    w.cell? ⟨g, off + i * 3, none⟩ = some (.int .u32 (x.a : Int)) ∧ w.cell? ⟨g, off + i * 3 + 1, none⟩ = some (.int .u16 (x.e : Int)) ∧ w.cell? ⟨g, off + i * 3 + 2, none⟩ = some (.int .u16 (x.p : Int)) :=
  ⟨h i x hx 0 _ rfl, h i x hx 1 _ rfl, h i x hx 2 _ rfl⟩
theorem eqb_k (x y : Kt) (w : World) : (binOp .eql 25 (kv x) (kv y)).run Tryd.prog w = .ok (.bool (decide (x = y))) w := by
  have h := eql_k x y w
  unfold kv at h ⊢
  simp [binOp, h]
set_option maxHeartbeats 1000000 in
set_option maxRecDepth 100000 in
theorem index_k (v : Value) (ks : List Kt) (x : Kt) (w : World) (hR : Recs kc 3 w v ks) :
    Calls Tryd.prog 29 #[v, kv x] w fun e w' => (∃ i : Int, e = .returned (.int .i64 i) ∧ decide (0 ≤ i) = decide (x ∈ ks)) ∧ Below w.heap.size w w' := by
  have hB := (Below.refl w.heap.size w).alloc (Nat.le_refl _) (.cells #[.int .u32 (x.a : Int), .int .u16 (x.e : Int), .int .u16 (x.p : Int)] 25)
  have a0 := box_cell w #[.int .u32 (x.a : Int), .int .u16 (x.e : Int), .int .u16 (x.p : Int)] 25 0 _ rfl
  have a1 := box_cell w #[.int .u32 (x.a : Int), .int .u16 (x.e : Int), .int .u16 (x.p : Int)] 25 1 _ rfl
  have a2 := box_cell w #[.int .u32 (x.a : Int), .int .u16 (x.e : Int), .int .u16 (x.p : Int)] 25 2 _ rfl
  have hR1 := hR.stay hB
  have HB := Lib.hid hB
  have hkv : kv x = .agg #[.int .u32 (x.a : Int), .int .u16 (x.e : Int), .int .u16 (x.p : Int)] := rfl
  have EQ := Lib.hid (fun (y : Kt) w => eqb_k x y w)
  unfold kv at EQ
  rw [hkv]
  clear hkv hB hR
  rcases hR1 with ⟨r, cap, rfl, rfl⟩ | ⟨g, off, cap, rfl, hg, hm, hcap, hc⟩
  · go_enter Tryd.func29, Tryd.ntmps29
    go_wp2
    go_loop [8] (fun i => i = .int .i64 0) (fun _ => 0)
    case atStart => rfl
    case round =>
      obtain rfl := hrel
      go_wp2
      go_ret
      exact ⟨⟨-1, rfl, by simp⟩, HB.out⟩
  · have HC := Lib.hid hc
    clear hc
    go_enter Tryd.func29, Tryd.ntmps29
    go_wp2
    generalize hW : w.alloc (.cells #[.int .u32 (x.a : Int), .int .u16 (x.e : Int), .int .u16 (x.p : Int)] 25) = W at *
    clear hW
    go_loopw [8] (fun i wr => ∃ k q : Nat, k ≤ ks.length ∧ i = .int .i64 k ∧ wr = W.drewN q ∧ Hid (∀ j, j < k → ks[j]? ≠ some x)) (fun i _ => ks.length - (RowKit.intOf i).toNat)
    case atStart => exact ⟨0, 0, Nat.zero_le _, rfl, rfl, Lib.hid (fun j hj => by omega)⟩
    case round =>
      obtain ⟨k, q, hk, rfl, rfl, HN⟩ := hrel
      by_cases hlt : k < ks.length
      · obtain ⟨y, hy⟩ : ∃ y, ks[k]? = some y := ⟨ks[k], List.getElem?_eq_getElem hlt⟩
        obtain ⟨c0, c1, c2⟩ := Recs.cells3 (cap := cap) HC.out hy
        have heq := fun w => EQ.out y w
        have HY := Lib.hid hy
        clear hy
        by_cases hxy : x = y
        · subst hxy
          have hd : decide (x = x) = true := by simp
          rw [hd] at heq
          clear hd
          go_wp2_with fail
          go_quiet (fail)
          go_wp2
          go_ret
          refine ⟨⟨k, rfl, ?_⟩, HB.out.trans ⟨rfl, rfl, rfl, Nat.le_refl _, fun _ _ => rfl⟩⟩
          rw [decide_eq_true (show (0 : Int) ≤ (k : Int) by omega), decide_eq_true (List.mem_of_getElem? HY.out)]
        · have hd : decide (x = y) = false := decide_eq_false hxy
          rw [hd] at heq
          clear hd
          go_wp2_with fail
          go_quiet (fail)
          go_wp2
          go_roundw
          case rel =>
            refine ⟨k + 1, q + nq, by omega, by go_num, rfl, Lib.hid (fun j hj e => ?_)⟩
            by_cases h : j = k
            · subst h; rw [HY.out] at e; exact hxy (Option.some.inj e).symm
            · exact HN.out j (by omega) e
          case measure => simp [RowKit.intOf]; omega
      · obtain rfl : k = ks.length := by omega
        go_wp2
        go_ret
        refine ⟨⟨-1, rfl, ?_⟩, HB.out.trans ⟨rfl, rfl, rfl, Nat.le_refl _, fun _ _ => rfl⟩⟩
        have : ¬ x ∈ ks := fun hm => by
          obtain ⟨j, hj, e⟩ := List.getElem_of_mem hm
          exact HN.out j hj (by rw [List.getElem?_eq_getElem hj, e])
        rw [decide_eq_false this]; rfl
theorem contains_k (v : Value) (ks : List Kt) (x : Kt) (w : World) (hR : Recs kc 3 w v ks) :
    Calls Tryd.prog 18 #[v, kv x] w fun e w' => e = .returned (.bool (decide (x ∈ ks))) ∧ Below w.heap.size w w' := by
  have hB := (Below.refl w.heap.size w).alloc (Nat.le_refl _) (.cells #[.int .u32 (x.a : Int), .int .u16 (x.e : Int), .int .u16 (x.p : Int)] 25)
  have K := Lib.hid (index_k v ks x _ (hR.stay hB))
  have HB := Lib.hid hB
  clear hR hB
  unfold kv at K ⊢
  generalize decide (x ∈ ks) = r at *
  go_enter Tryd.func18, Tryd.ntmps18
  go_wp2_with (go_at_call 29; refine K.out.mono ?_; rintro e w1 ⟨⟨i, rfl, hi⟩, hb1⟩; have HI := Lib.hid hi; have HB1 := Lib.hid hb1; clear hi hb1)
  go_ret
  exact ⟨by have := HI.out; simp_all, HB.out.trans (HB1.out.mono HB.out.size)⟩
end Go.Proofs.YtnmnjoleebhhiaaDoor

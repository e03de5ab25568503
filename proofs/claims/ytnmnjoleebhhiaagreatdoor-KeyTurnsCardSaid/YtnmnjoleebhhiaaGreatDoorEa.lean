/- Contracts of slices.Clone at records, of slices.Equal at keys and at pairs of keys that are alike. -/
import Derived.Test.YtnmnjoleebhhiaaGreatDoorVp
import Derived.Test.YtnmnjoleebhhiaaGreatDoorThree
import Derived.Lib.SliceRun
namespace Go.Proofs.YtnmnjoleebhhiaaGreatDoor
open Go.RowKit Go.Sort
set_option linter.unusedVariables false
set_option linter.unusedSimpArgs false
theorem mc_one (x : Mt) : ∀ v ∈ mc x, v.oneCell' = true := fun v hv => by simp [mc] at hv; rcases hv with rfl | rfl | rfl | rfl <;> rfl
theorem flat_one {α : Type} {enc : α → List Value} (h : ∀ x, ∀ v ∈ enc x, v.oneCell' = true) (xs : List α) : ∀ v ∈ xs.flatMap enc, v.oneCell' = true := fun v hv => by
  obtain ⟨x, _, hx⟩ := List.mem_flatMap.1 hv
  exact h x v hx
/-- All cells of a row of records, one after another. -/
theorem recs_flat {α : Type} {enc : α → List Value} {k : Nat} (hk : ∀ x, (enc x).length = k) (hk0 : 0 < k) {w : World} {g off n cap : Nat} {xs : List α} (h : Recs enc k w (.slice (some ⟨g, off, none⟩) n cap) xs) : ∀ j u, (xs.flatMap enc)[j]? = some u → w.cell? ⟨g, off + j, none⟩ = some u := by
  intro j u hu
  have hj : j < xs.length * k := by have := (List.getElem?_eq_some_iff.1 hu).1; rwa [flat_len hk] at this
  have hi : j / k < xs.length := (Nat.div_lt_iff_lt_mul hk0).2 hj
  have hm : j % k < k := Nat.mod_lt _ hk0
  have ex : xs[j / k]? = some xs[j / k] := List.getElem?_eq_getElem hi
  have hl : j % k < (enc xs[j / k]).length := by rw [hk]; exact hm
  have eu : (enc xs[j / k])[j % k]? = some (enc xs[j / k])[j % k] := List.getElem?_eq_getElem hl
  have hf := flat_get hk ex eu
  have hd : j / k * k + j % k = j := by rw [Nat.mul_comm]; exact Nat.div_add_mod j k
  rw [hd, hu] at hf
  obtain ⟨g', off', e, _, hc⟩ := h.at ex
  cases e
  have := hc _ _ eu
  rw [Nat.add_assoc, hd] at this
  rw [this, hf]
theorem infoM : (Tryz.prog.info? 33).map (fun i => (i.zero, i.size, i.bytes)) = some (some (.agg #[.int .u32 0, .int .u16 0, .int .u16 0, .int .i64 0]), 4, 16) := by kernel_rfl
set_option maxHeartbeats 1000000 in
set_option maxRecDepth 100000 in
theorem clone_m (b off n cap : Nat) (zs : List Mt) (w : World) (hR : Recs mc 4 w (.slice (some ⟨b, off, none⟩) n cap) zs) (hb : b < w.heap.size) (hl : n ≤ 1000) (hn : n = zs.length) (h0 : 0 < n) :
    Calls Tryz.prog 8 #[.slice (some ⟨b, off, none⟩) n cap] w fun e w' => ∃ v, e = .returned v ∧ w'.ownsRow w.heap.size 33 4 v n (zs.flatMap mc) ∧ Below w.heap.size w w' := by
  obtain ⟨i0, hi, hz0, hz1, hz2⟩ := info_parts infoM
  have q22 : ∀ (w : World) (a : Option Addr) (n c n' c' : Nat), (binOp .eql 22 (.slice a n c) (.slice none n' c')).run Tryz.prog w = .ok (.bool a.isNone) w := fun w a n c n' c' => Lib.run_eql_slice_nil w _ _ a n c n' c' Tryz.underlying22
  have HC := Lib.hid (show ∀ j u, (zs.flatMap mc)[j]? = some u → (w.alloc (.cells #[] 33)).cell? ((⟨b, off, none⟩ : Addr).add j) = some u from fun j u hu => by
    rw [Lib.add_plain, World.cell?_alloc_lt _ _ _ hb]
    exact recs_flat mc_len (by omega) hR j u hu)
  have hlen : (zs.flatMap mc).length = n * 4 := by rw [flat_len mc_len, hn]
  clear hR
  go_enter Tryz.func8, Tryz.ntmps8
  go_wp2_with (at_builtin; refine wpList_append_own _ rfl (.tmp 5) (.tmp 6) 22 rfl w.heap.size 33 i0 (.agg #[.int .u32 0, .int .u16 0, .int .u16 0, .int .i64 0]) 4 16 Tryz.underlying22 hi hz0 hz1 hz2 rfl (by decide) _ 0 [] rfl (World.ownsRow_made w #[] 0 (Nat.le_refl _) (by decide) (by simp)) ⟨b, off, none⟩ n cap (zs.flatMap mc) rfl hlen HC.out (flat_one mc_one zs) (by unfold maxLen; omega) (by omega) (by simp) ?_; intro v' w3 hown' hgrow3 _)
  go_ret
  refine ⟨_, rfl, ?_, ?_⟩
  · simpa using hown'
  · exact ((Below.refl _ _).alloc (Nat.le_refl _) _).grown hgrow3 (by simp) (fun k hk => by have e : some w.heap.size = some k := hk; injection e with e; omega)
theorem neq_same_k (x : Kt) (w : World) : (binOp .neq 31 (.agg #[.int .u32 (x.a : Int), .int .u16 (x.e : Int), .int .u16 (x.p : Int)]) (.agg #[.int .u32 (x.a : Int), .int .u16 (x.e : Int), .int .u16 (x.p : Int)])).run Tryz.prog w = .ok (.bool false) w := by
  have h := eql_k x x w
  rw [decide_eq_true rfl] at h
  unfold kv at h
  simp [binOp, h]
theorem neq_same_p (x : Kt × Kt) (w : World) : (binOp .neq 47 (.agg #[.int .u32 (x.1.a : Int), .int .u16 (x.1.e : Int), .int .u16 (x.1.p : Int), .int .u32 (x.2.a : Int), .int .u16 (x.2.e : Int), .int .u16 (x.2.p : Int)]) (.agg #[.int .u32 (x.1.a : Int), .int .u16 (x.1.e : Int), .int .u16 (x.1.p : Int), .int .u32 (x.2.a : Int), .int .u16 (x.2.e : Int), .int .u16 (x.2.p : Int)])).run Tryz.prog w = .ok (.bool false) w := by
  have h := eql_p x x w
  rw [decide_eq_true rfl] at h
  unfold pv at h
  simp [binOp, h]
set_option maxHeartbeats 1000000 in
set_option maxRecDepth 100000 in
theorem equal_k (v1 v2 : Value) (ks : List Kt) (w : World) (h1 : Recs kc 3 w v1 ks) (h2 : Recs kc 3 w v2 ks) :
    Calls Tryz.prog 11 #[v1, v2] w fun e w' => e = .returned (.bool true) ∧ Below w.heap.size w w' := by
  obtain ⟨r1, cap1, rfl, hm⟩ := h1.form
  obtain ⟨r2, cap2, rfl, _⟩ := h2.form
  have H1 := Lib.hid h1
  have H2 := Lib.hid h2
  clear h1 h2
  obtain ⟨n, hn⟩ : ∃ n, ks.length = n := ⟨_, rfl⟩
  have HN := Lib.hid hn
  rw [hn] at H1 H2 hm ⊢
  clear hn
  go_enter Tryz.func11, Tryz.ntmps11
  go_wp2
  go_loopw [13] (fun i wr => ∃ j q : Nat, j ≤ n ∧ i = .int .i64 j ∧ wr = w.drewN q) (fun i _ => n - (RowKit.intOf i).toNat)
  case atStart => exact ⟨0, 0, Nat.zero_le _, rfl, rfl⟩
  case round =>
    obtain ⟨j, q, hj, rfl, rfl⟩ := hrel
    by_cases hlt : j < n
    · obtain ⟨y, hy⟩ : ∃ y, ks[j]? = some y := ⟨ks[j]'(by have := HN.out; omega), List.getElem?_eq_getElem (by have := HN.out; omega)⟩
      obtain ⟨g1, o1, rfl, _, c1⟩ := H1.out.at hy
      obtain ⟨g2, o2, rfl, _, c2⟩ := H2.out.at hy
      have a0 := c1 0 _ rfl
      have a1 := c1 1 _ rfl
      have a2 := c1 2 _ rfl
      have b0 := c2 0 _ rfl
      have b1 := c2 1 _ rfl
      have b2 := c2 2 _ rfl
      rw [Nat.add_zero] at a0 b0
      have hne := fun w => neq_same_k y w
      clear hy c1 c2
      go_wp2_with fail
      go_quiet (fail)
      go_wp2
      go_roundw
      case rel => exact ⟨j + 1, q + nq, by omega, by go_num, rfl⟩
      case measure => simp [RowKit.intOf]; omega
    · obtain rfl : j = n := by omega
      go_wp2
      go_ret
      exact ⟨rfl, rfl, rfl, rfl, Nat.le_refl _, fun _ _ => rfl⟩
set_option maxHeartbeats 1000000 in
set_option maxRecDepth 100000 in
theorem equal_p (v1 v2 : Value) (ks : List (Kt × Kt)) (w : World) (h1 : Recs pc 6 w v1 ks) (h2 : Recs pc 6 w v2 ks) :
    Calls Tryz.prog 12 #[v1, v2] w fun e w' => e = .returned (.bool true) ∧ Below w.heap.size w w' := by
  obtain ⟨r1, cap1, rfl, hm⟩ := h1.form
  obtain ⟨r2, cap2, rfl, _⟩ := h2.form
  have H1 := Lib.hid h1
  have H2 := Lib.hid h2
  clear h1 h2
  obtain ⟨n, hn⟩ : ∃ n, ks.length = n := ⟨_, rfl⟩
  have HN := Lib.hid hn
  rw [hn] at H1 H2 hm ⊢
  clear hn
  go_enter Tryz.func12, Tryz.ntmps12
  go_wp2
  go_loopw [13] (fun i wr => ∃ j q : Nat, j ≤ n ∧ i = .int .i64 j ∧ wr = w.drewN q) (fun i _ => n - (RowKit.intOf i).toNat)
  case atStart => exact ⟨0, 0, Nat.zero_le _, rfl, rfl⟩
  case round =>
    obtain ⟨j, q, hj, rfl, rfl⟩ := hrel
    by_cases hlt : j < n
    · obtain ⟨y, hy⟩ : ∃ y, ks[j]? = some y := ⟨ks[j]'(by have := HN.out; omega), List.getElem?_eq_getElem (by have := HN.out; omega)⟩
      obtain ⟨g1, o1, rfl, _, c1⟩ := H1.out.at hy
      obtain ⟨g2, o2, rfl, _, c2⟩ := H2.out.at hy
      have a0 := c1 0 _ rfl
      have a1 := c1 1 _ rfl
      have a2 := c1 2 _ rfl
      have a3 := c1 3 _ rfl
      have a4 := c1 4 _ rfl
      have a5 := c1 5 _ rfl
      have b0 := c2 0 _ rfl
      have b1 := c2 1 _ rfl
      have b2 := c2 2 _ rfl
      have b3 := c2 3 _ rfl
      have b4 := c2 4 _ rfl
      have b5 := c2 5 _ rfl
      rw [Nat.add_zero] at a0 b0
      have hne := fun w => neq_same_p y w
      clear hy c1 c2
      go_wp2_with fail
      go_quiet (fail)
      go_wp2
      go_roundw
      case rel => exact ⟨j + 1, q + nq, by omega, by go_num, rfl⟩
      case measure => simp [RowKit.intOf]; omega
    · obtain rfl : j = n := by omega
      go_wp2
      go_ret
      exact ⟨rfl, rfl, rfl, rfl, Nat.le_refl _, fun _ _ => rfl⟩
end Go.Proofs.YtnmnjoleebhhiaaGreatDoor

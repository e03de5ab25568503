/- Contract of the library's Concat of two slices of days. -/
import Derived.Test.YtmbfnbbgphpcgaaGreatDoorJt
import Derived.Deep.Upon
namespace Go.Proofs.YtmbfnbbgphpcgaaGreatDoor
open Go.RowKit
set_option linter.unusedVariables false
set_option linter.unusedSimpArgs false
set_option maxHeartbeats 2000000 in
set_option maxRecDepth 100000 in
/-- Room for some days, of nothing. -/
theorem grow_d (n base : Nat) (w : World) (h0 : 0 < n) (hn : n ≤ 1000) (hb : base ≤ w.heap.size) :
    Calls Tryz.prog 28 #[.slice none 0 0, .int .i64 (n : Int)] w fun e w' => ∃ v', e = .returned v' ∧ w'.ownsRow base 25 1 v' 0 ([] : List Value) ∧ Below base w w' := by
  obtain ⟨i0, hi, hz0, hz1, hz2⟩ := info_parts infoD
  have hold : (Builtin.firstCells i0.size 0 (.slice none 0 0)).run Tryz.prog w.drew = .ok ([] : List Value).toArray w.drew := run_firstCells_none ..
  have hrz := fun ty => Lib.run_append_grow_zeros (P := Tryz.prog) w 24 3 ty 25 i0 _ .i64 .i64 Tryz.underlying24 Tryz.underlying3 hi hz0 none 0 0 [] hold n h0 (by omega) (by omega) (by omega) (by rw [hz2]; omega)
    (by have h1 := growslice_fits (need := 0 + n) (old := 0) (bytes := i0.bytes) (by omega) (by rw [hz2]; omega); exact h1)
  have hG0 : grownCap w (0 + n) 0 25 ≤ maxLen := grownCap_le_maxLen w _ _ _ (by unfold maxLen; omega)
  have hG1 : 0 + n ≤ grownCap w (0 + n) 0 25 := grownCap_ge w _ _ _
  obtain ⟨G, hG⟩ : ∃ G, G = grownCap w (0 + n) 0 25 := ⟨_, rfl⟩
  rw [← hG] at hrz hG0 hG1
  have hcs : (([] : List Value).toArray ++ Builtin.zeroCells (Value.int .i32 0).cells n ++ Builtin.zeroCells (Value.int .i32 0).cells (G - (0 + n))).size = G * 1 := by
    simp [Builtin.zeroCells, Value.cells]; omega
  obtain ⟨CS, hCS⟩ : ∃ CS, ([] : List Value).toArray ++ Builtin.zeroCells (Value.int .i32 0).cells n ++ Builtin.zeroCells (Value.int .i32 0).cells (G - (0 + n)) = CS := ⟨_, rfl⟩
  rw [hCS] at hcs hrz
  have h1 : ¬ ((n : Int) < 0) := by omega
  have h4 : (n : Int) > 0 := by omega
  have hmx : G ≤ 9223372036854775807 := by unfold maxLen at hG0; omega
  have HO := Lib.hid (World.ownsRow_made (base := base) (e := 25) w.drew CS G hb hG0 hcs)
  have HB := Lib.hid ((Below.refl base w).drew.alloc hb (.cells CS 25))
  have HR := Lib.hid hrz
  clear hold hrz hCS hcs hG hi hz0 hz1 hz2 hb
  go_enter Tryz.func28, Tryz.ntmps28
  go_wp2_with (at_builtin; refine Lib.wpList_append_run _ rfl _ _ _ _ rfl _ _ rfl rfl _ _ (HR.out _) ?_)
  all_goals
    go_ret
    exact ⟨_, rfl, HO.out, HB.out⟩
set_option maxHeartbeats 2000000 in
set_option maxRecDepth 100000 in
/-- Days behind days. -/
theorem append_days (v y : Value) (xs cs : List Int) (base : Nat) (w : World) (ho : w.ownsRow base 25 1 v xs.length (xs.flatMap dcl)) (hR : Recs dcl 1 w y cs) (hn : xs.length + cs.length ≤ 1000) (hb : base ≤ w.heap.size) :
    ∃ v' w', (∀ ty, (Builtin.append_ #[24, 24] ty #[v, y]).run Tryz.prog w = .ok v' w') ∧ w'.ownsRow base 25 1 v' (xs ++ cs).length ((xs ++ cs).flatMap dcl) ∧ Below base w w' := by
  obtain ⟨i0, hi, hz0, hz1, hz2⟩ := info_parts infoD
  have hu := Tryz.underlying24
  by_cases h0 : cs = []
  · subst h0
    obtain ⟨r, cap, rfl, _⟩ := hR.form
    obtain ⟨r1, cap1, rfl⟩ := owns_form ho
    have hc : xs.length ≤ cap1 := by
      rcases ho.2 with ⟨h0, h1⟩ | ⟨g, cp, cur, h0, _, _, h1, _⟩
      · omega
      · cases h0; exact h1
    have hs : Src Tryz.prog i0.size 24 (.slice r 0 cap) 0 [] w := by
      refine ⟨.inl ⟨_, hu⟩, fun w' => ?_, ?_, ?_, by simp, by simp⟩
      · simp [Builtin.lenOf]
      · cases r <;> simp [Builtin.firstCells, loadCells, loadCellsFrom]
      · cases r <;> simp [Builtin.firstCells, loadCells, loadCellsFrom]
    refine ⟨_, _, fun ty => run_append_nothing w _ _ ty _ i0 hu hi r1 xs.length cap1 hc _ hs, ?_, Below.refl _ _⟩
    simpa using ho
  · have hpos : 0 < cs.length := List.length_pos_iff.2 h0
    obtain ⟨r, cap, rfl, _⟩ := hR.form
    obtain ⟨g, off, rfl, _, _⟩ := hR.at (List.getElem?_eq_getElem hpos)
    have hcells : ∀ j u, (cs.flatMap dcl)[j]? = some u → w.cell? ((⟨g, off, none⟩ : Addr).add j) = some u := fun j u hj => by
      have e1 : (⟨g, off, none⟩ : Addr).add j = ⟨g, off + j, none⟩ := by unfold Addr.add; split <;> simp_all
      rw [e1]
      exact recs_flat dcl_len (by omega) hR j u hj
    have hrun : ∃ v' w', (∀ ty, (Builtin.append_ #[24, 24] ty #[v, .slice (some ⟨g, off, none⟩) cs.length cap]).run Tryz.prog w = .ok v' w') ∧ w'.ownsRow base 25 1 v' (xs.length + cs.length) (xs.flatMap dcl ++ cs.flatMap dcl) ∧ w.grownBy w' v.ownBlock := by
      obtain ⟨v', w', h1, h2, h3, _⟩ := run_append_own_at (P := Tryz.prog) w base 24 0 25 i0 _ 1 4 hu hi hz0 hz1 hz2 rfl (by decide) v xs.length (xs.flatMap dcl) ho ⟨g, off, none⟩ cs.length cap (cs.flatMap dcl) (flat_len dcl_len cs) hcells (flat_one dcl_one cs) (by unfold maxLen; omega) (by omega) hb
      exact ⟨v', w', fun ty => h1, h2, h3⟩
    obtain ⟨v', w', h1, h2, h3⟩ := hrun
    refine ⟨v', w', h1, ?_, (Below.refl base w).grown h3 hb (fun j hj => (ho.lt j hj).1)⟩
    rw [List.length_append, List.flatMap_append]
    exact h2
set_option maxHeartbeats 2000000 in
set_option maxRecDepth 100000 in
/-- Two slices of days, one behind the other. -/
theorem concat_d (V : Nat) (v1 v2 : Value) (S T : List Int) (w : World) (h1 : Recs dcl 1 w v1 S) (h2 : Recs dcl 1 w v2 T) (hl : S.length ≤ 100) (hl2 : T.length ≤ 100) (hp : 0 < T.length)
    (c0 : w.cell? ⟨V, 0, none⟩ = some v1) (c1 : w.cell? ⟨V, 1, none⟩ = some v2) (hV : V < w.heap.size) :
    Calls Tryz.prog 20 #[.slice (some ⟨V, 0, none⟩) 2 2] w fun e w' => ∃ v', e = .returned v' ∧ w'.ownsRow w.heap.size 25 1 v' (S ++ T).length ((S ++ T).flatMap dcl) ∧ Below w.heap.size w w' := by
  have H1 := Lib.hid h1
  have H2 := Lib.hid h2
  obtain ⟨r1, cap1, rfl, _⟩ := h1.form
  obtain ⟨r2, cap2, rfl, _⟩ := h2.form
  have KA := Lib.hid (fun v y xs cs wr => append_days v y xs cs w.heap.size wr)
  have HL := Lib.hid (And.intro hl hl2)
  obtain ⟨n1, hn1⟩ : ∃ n, S.length = n := ⟨_, rfl⟩
  obtain ⟨n2, hn2⟩ : ∃ n, T.length = n := ⟨_, rfl⟩
  rw [hn1] at hl H1 c0
  rw [hn2] at hl2 hp H2 c1
  have KG := Lib.hid (grow_d (n1 + n2) w.heap.size w (by omega) (by omega) (Nat.le_refl _))
  clear h1 h2 hn1 hn2
  go_enter Tryz.func20, Tryz.ntmps20
  go_wp2
  go_loop [3, 11] (fun s i => ∃ k z : Nat, s = .int .i64 z ∧ i = .int .i64 k ∧ ((k = 0 ∧ z = 0) ∨ (k = 1 ∧ z = n1) ∨ (k = 2 ∧ z = n1 + n2))) (fun _ i => 2 - (intOf i).toNat)
  case atStart => exact ⟨0, 0, rfl, rfl, .inl ⟨rfl, rfl⟩⟩
  case round =>
    obtain ⟨k, z, rfl, rfl, h⟩ := hrel
    rcases h with ⟨rfl, rfl⟩ | ⟨rfl, rfl⟩ | ⟨rfl, rfl⟩
    · go_wp2
      go_round
      case rel => exact ⟨1, n1, by go_num, by go_num, .inr (.inl ⟨rfl, rfl⟩)⟩
      case measure => simp [intOf]
    · go_wp2
      go_round
      case rel => exact ⟨2, z + n2, by go_num, by go_num, .inr (.inr ⟨rfl, rfl⟩)⟩
      case measure => simp [intOf]
    · go_wp2_with (go_at_call 28; refine KG.out.mono ?_; rintro e w1 ⟨v', rfl, ho, hb⟩; have HO1 := Lib.hid ho; have HB1 := Lib.hid hb; clear ho hb)
      go_loopw [6, 27] (fun s i wr => ∃ (k : Nat) (X : List Int), i = .int .i64 k ∧ Hid (wr.ownsRow w.heap.size 25 1 s X.length (X.flatMap dcl)) ∧ Hid (Below w.heap.size w wr) ∧ ((k = 0 ∧ X = []) ∨ (k = 1 ∧ X = S) ∨ (k = 2 ∧ X = S ++ T))) (fun _ i _ => 2 - (intOf i).toNat)
      case atStart => exact ⟨0, [], rfl, HO1, HB1, .inl ⟨rfl, rfl⟩⟩
      case round =>
        clear HO1 HB1
        obtain ⟨k, X, rfl, HO, HB, h⟩ := hrel
        rename World => wr
        have q0 := (HB.out.cell (p := ⟨V, 0, none⟩) hV).trans c0
        have q1 := (HB.out.cell (p := ⟨V, 1, none⟩) hV).trans c1
        rcases h with ⟨rfl, rfl⟩ | ⟨rfl, rfl⟩ | ⟨rfl, rfl⟩
        · obtain ⟨v', w', hr, ho, hb⟩ := KA.out _ _ [] S wr HO.out (H1.out.stay HB.out) (by have := HL.out; simp; omega) HB.out.size
          have HR := Lib.hid hr
          have HO' := Lib.hid ho
          have HB' := Lib.hid (HB.out.trans hb)
          clear hr ho hb
          go_wp2_with (at_builtin; refine Lib.wpList_append_run _ rfl _ _ _ _ rfl _ _ rfl rfl _ _ (HR.out _) ?_)
          go_roundw
          case rel => exact ⟨1, S, by go_num, HO', HB', .inr (.inl ⟨rfl, rfl⟩)⟩
          case measure => simp [intOf]
        · obtain ⟨v', w', hr, ho, hb⟩ := KA.out _ _ X T wr HO.out (H2.out.stay HB.out) (by have := HL.out; omega) HB.out.size
          have HR := Lib.hid hr
          have HO' := Lib.hid ho
          have HB' := Lib.hid (HB.out.trans hb)
          clear hr ho hb
          go_wp2_with (at_builtin; refine Lib.wpList_append_run _ rfl _ _ _ _ rfl _ _ rfl rfl _ _ (HR.out _) ?_)
          go_roundw
          case rel => exact ⟨2, X ++ T, by go_num, HO', HB', .inr (.inr ⟨rfl, rfl⟩)⟩
          case measure => simp [intOf]
        · go_wp2
          go_ret
          exact ⟨_, rfl, HO.out, HB.out⟩
theorem concat_at (v : Value) (S : List Int) (E : Int) (w : World) (hR : Recs dcl 1 w v S) (hl : S.length ≤ 100) :
    Calls Tryz.prog 20 #[.slice (some ⟨w.heap.size + 1, 0, none⟩) 2 2] ((w.alloc (.cells #[.int .i32 E] 25)).alloc (.cells #[v, .slice (some ⟨w.heap.size, 0, none⟩) 1 1] 24)) fun e w' =>
      ∃ v', e = .returned v' ∧ Recs dcl 1 w' v' (S ++ [E]) ∧ Below w.heap.size w w' := by
  have hb : Below w.heap.size w ((w.alloc (.cells #[.int .i32 E] 25)).alloc (.cells #[v, .slice (some ⟨w.heap.size, 0, none⟩) 1 1] 24)) := ((Below.refl _ _).alloc (Nat.le_refl _) _).alloc (by simp) _
  have hs : ((w.alloc (.cells #[.int .i32 E] 25)).alloc (.cells #[v, .slice (some ⟨w.heap.size, 0, none⟩) 1 1] 24)).heap.size = w.heap.size + 2 := by simp
  have hE : Recs dcl 1 ((w.alloc (.cells #[.int .i32 E] 25)).alloc (.cells #[v, .slice (some ⟨w.heap.size, 0, none⟩) 1 1] 24)) (.slice (some ⟨w.heap.size, 0, none⟩) 1 1) [E] :=
    recs_of_owns dcl_len ((World.ownsRow_lit (base := w.heap.size) (e := 25) (size := 1) w #[.int .i32 E] 1 (Nat.le_refl _) (by unfold maxLen; omega) rfl).alloc _) rfl (by omega)
  refine (concat_d (w.heap.size + 1) v _ S [E] _ (hR.stay hb) hE hl (by simp) (by simp) ?_ ?_ (by rw [hs]; omega)).mono ?_
  · simp
  · simp
  · rintro e w' ⟨v', rfl, ho, h⟩
    refine ⟨v', rfl, recs_of_owns dcl_len ho rfl (by simp; omega), hb.trans (h.mono (by rw [hs]; omega))⟩
end Go.Proofs.YtmbfnbbgphpcgaaGreatDoor

/- Contract of package chart's Moved. -/
import Derived.Test.YtdhgkggcnilgoaaDoorCq
namespace Go.Proofs.YtdhgkggcnilgoaaDoor
open Go.RowKit
set_option linter.unusedVariables false
set_option linter.unusedSimpArgs false
theorem at_split {α : Type} {xs : List α} {k : Nat} {x : α} (h : xs[k]? = some x) : ∃ A B, xs = A ++ x :: B ∧ A.length = k := by
  obtain ⟨hk, e⟩ := List.getElem?_eq_some_iff.1 h
  refine ⟨xs.take k, xs.drop (k + 1), ?_, by rw [List.length_take]; omega⟩
  have := (List.take_append_drop k xs).symm
  rwa [List.drop_eq_getElem_cons hk, e] at this
/-- One cell of a row of records turned. -/
theorem flat_set {α : Type} {enc : α → List Value} {sz : Nat} (hk : ∀ x, (enc x).length = sz) {xs : List α} {k j : Nat} {x y : α} {u : Value} (h : xs[k]? = some x) (hj : j < sz) (hy : enc y = (enc x).set j u) : (xs.flatMap enc).set (k * sz + j) u = (xs.set k y).flatMap enc := by
  obtain ⟨A, B, rfl, hA⟩ := at_split h
  have hl : (A.flatMap enc).length = k * sz := by rw [flat_len hk, hA]
  rw [List.flatMap_append, List.flatMap_cons, List.set_append_right _ _ (by omega), hl, show k * sz + j - k * sz = j by omega, List.set_append_left _ _ (by rw [hk]; exact hj), ← hy]
  rw [List.set_append_right _ _ (by omega), hA, Nat.sub_self, List.set_cons_zero, List.flatMap_append, List.flatMap_cons]
theorem cur_at {c : List Ac} {k : Nat} {a : Ac} (g : Ac → Ac) (h : c[k]? = some a) : ((c.take k).map g ++ c.drop k)[k]? = some a := by
  obtain ⟨hk, e⟩ := List.getElem?_eq_some_iff.1 h
  rw [List.getElem?_append_right (by simp; omega)]
  simp
  rw [Nat.min_eq_left (by omega), Nat.sub_self, Nat.add_zero]
  exact h
theorem cur_step {c : List Ac} {k : Nat} {a : Ac} (g : Ac → Ac) (h : c[k]? = some a) : (c.take (k + 1)).map g ++ c.drop (k + 1) = ((c.take k).map g ++ c.drop k).set k (g a) := by
  obtain ⟨hk, e⟩ := List.getElem?_eq_some_iff.1 h
  rw [List.take_succ_eq_append_getElem hk, e, List.map_append, List.drop_eq_getElem_cons hk, e, List.set_append_right _ _ (by simp; omega)]
  simp
  rw [Nat.min_eq_left (by omega), Nat.sub_self, List.set_cons_zero]
theorem cur_len (c : List Ac) (k : Nat) (g : Ac → Ac) : ((c.take k).map g ++ c.drop k).length = c.length := by simp; omega
set_option maxHeartbeats 2000000 in
set_option maxRecDepth 100000 in
theorem moved_c (v : Value) (c : List Ac) (f t : Nat) (ht : t < 4294967296) (w : World) (hR : Recs cc 4 w v c) (hl : c.length ≤ 1000) :
    Calls Tryd.prog 27 #[v, .int .u32 (f : Int), .int .u32 (t : Int)] w fun e w' => ∃ v', e = .returned v' ∧ w'.ownsRow w.heap.size 35 4 v' (moveA c f t ht).length ((moveA c f t ht).flatMap cc) ∧ Below w.heap.size w w' := by
  obtain ⟨r0, cap0, rfl, _⟩ := hR.form
  obtain ⟨L, hL⟩ : ∃ L, c.length = L := ⟨_, rfl⟩
  have HL := Lib.hid hL
  rw [hL] at hR ⊢
  have KT := Lib.hid (taken_lit [(.slice r0 L cap0, c)] #[.slice r0 L cap0] 1 L c w (fun p hp => by simp at hp; subst hp; exact hR) rfl (by omega) rfl (by simp) hL (by omega))
  have HML : Hid ((moveA c f t ht).length = L) := Lib.hid (by unfold moveA; rw [List.length_map]; exact hL)
  obtain ⟨g, hg⟩ : ∃ g : Ac → Ac, (fun a : Ac => if a.par = f then a.to t ht else a) = g := ⟨_, rfl⟩
  have HMA : Hid (moveA c f t ht = c.map g) := Lib.hid (by rw [← hg]; rfl)
  have HGY : Hid (∀ a : Ac, a.par = f → cc (g a) = (cc a).set 3 (.int .u32 (t : Int))) := Lib.hid (fun a ha => by rw [← hg]; simp only [if_pos ha]; rfl)
  have HGN : Hid (∀ a : Ac, a.par ≠ f → g a = a) := Lib.hid (fun a ha => by rw [← hg]; simp only [if_neg ha])
  rw [hL] at hl
  clear hR hg hL
  generalize moveA c f t ht = M at *
  go_enter Tryd.func27, Tryd.ntmps27
  go_wp2_with (go_at_call 38; refine KT.out.mono ?_; rintro e w1 ⟨v1, rfl, ho1, hb1⟩; have HO1 := Lib.hid ho1; have HB1 := Lib.hid hb1; obtain ⟨r1, cap1, rfl⟩ := owns_form ho1; clear ho1 hb1)
  go_loopw [14] (fun i wr => ∃ k : Nat, k ≤ L ∧ i = .int .i64 k ∧ wr.ownsRow w.heap.size 35 4 (.slice r1 L cap1) L (((c.take k).map g ++ c.drop k).flatMap cc) ∧ Below w.heap.size w wr) (fun i _ => L - (intOf i).toNat)
  case atStart => exact ⟨0, Nat.zero_le _, rfl, by simpa using HO1.out, HB1.out⟩
  case round =>
    obtain ⟨k, hk, rfl, hown, hb⟩ := hrel
    rename World => wr
    by_cases hlt : k < L
    · obtain ⟨a, ha⟩ : ∃ a, c[k]? = some a := ⟨c[k]'(by have := HL.out; omega), List.getElem?_eq_getElem (by have := HL.out; omega)⟩
      have hca := cur_at g ha
      have hcs := cur_step g ha
      have hcl := cur_len c k g
      obtain ⟨G, hr1, hGb⟩ : ∃ G, r1 = some ⟨G, 0, none⟩ ∧ w.heap.size ≤ G := by
        rcases hown.2 with ⟨h0, h1⟩ | ⟨g', cp, cur, h0, h1, _⟩
        · omega
        · cases h0; exact ⟨g', rfl, h1⟩
      subst hr1
      have hp := hown.cellAt (k * 4 + 3) (by omega)
      have hz := hown.frozenAt (k * 4 + 3)
      rw [flat_get cc_len hca (j := 3) (u := .int .u32 (a.par : Int)) rfl] at hp
      have HST := Lib.hid (hown.stored (k * 4 + 3) (.int .u32 (t : Int))).1
      have HFS : Hid (a.par = f → (((c.take k).map g ++ c.drop k).flatMap cc).set (k * 4 + 3) (.int .u32 (t : Int)) = ((c.take (k + 1)).map g ++ c.drop (k + 1)).flatMap cc) := Lib.hid (fun h => by rw [hcs]; exact flat_set cc_len hca (by omega) (HGY.out a h))
      have HFN : Hid (a.par ≠ f → ((c.take k).map g ++ c.drop k) = ((c.take (k + 1)).map g ++ c.drop (k + 1))) := Lib.hid (fun h => by
        rw [hcs, HGN.out a h]
        exact (List.ext_getElem? fun i => by
          rw [List.getElem?_set]
          by_cases e : k = i
          · subst e; rw [if_pos rfl, hca]; simp [hcl]; have := (List.getElem?_eq_some_iff.1 ha).1; omega
          · rw [if_neg e]))
      have HO := Lib.hid hown
      have HB := Lib.hid hb
      clear hown hb ha hca hcs hcl
      by_cases hpf : a.par = f
      · have hd : ((a.par : Int) == (f : Int)) = true := by simp [hpf]
        have HF1 := Lib.hid (HFS.out hpf)
        clear hpf HFS HFN
        go_wp2
        go_roundw
        case rel => exact ⟨k + 1, by omega, by go_num, by rw [← HF1.out]; exact HST.out, HB.out.setCell hGb _⟩
        case measure => simp [intOf]; omega
      · have hd : ((a.par : Int) == (f : Int)) = false := by simp; omega
        have HF1 := Lib.hid (HFN.out hpf)
        clear hpf HFS HFN
        go_wp2
        go_roundw
        case rel => exact ⟨k + 1, by omega, by go_num, by rw [← HF1.out]; exact HO.out, HB.out⟩
        case measure => simp [intOf]; omega
    · obtain rfl : k = L := by omega
      have e : ((c.take k).map g ++ c.drop k) = c.map g := by rw [List.take_of_length_le (by have := HL.out; omega), List.drop_eq_nil_of_le (by have := HL.out; omega), List.append_nil]
      have HO := Lib.hid hown
      have HB := Lib.hid hb
      have HE := Lib.hid e
      clear hown hb e
      go_wp2
      go_ret
      refine ⟨_, rfl, ?_, HB.out⟩
      rw [HML.out, HMA.out, ← HE.out]
      exact HO.out
end Go.Proofs.YtdhgkggcnilgoaaDoor

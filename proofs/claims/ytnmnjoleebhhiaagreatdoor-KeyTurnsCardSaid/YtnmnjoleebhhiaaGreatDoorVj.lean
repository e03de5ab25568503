/- 'm[k]++' at a map as a list; contracts of Links.Link and Links.Many. -/
import Derived.Test.YtnmnjoleebhhiaaGreatDoorVi
import Derived.WideKeyEntry
namespace Go.Proofs.YtnmnjoleebhhiaaGreatDoor
open Go.RowKit Go.Sort Go.MapKept
open Go.ChangeMaps (setBlock heap_setBlock_same heap_setBlock_other)
open Go.WideElems (findIdx_born findIdx_arr modify_last set_self)
set_option linter.unusedVariables false
set_option linter.unusedSimpArgs false
section
variable {κ β : Type} [DecidableEq κ] {P : Program} {t k e : TypeId} {enc : κ → Value} {ven : β → Value} {z : β}
theorem MapOf.entry (M : MapT P t k e enc ven z) {b : Nat} {L : List (κ × β)} {w : World} (h : MapOf enc ven b L w) (x : κ) :
    ∃ (st : Nat) (w1 : World), (Instr.mapEntry t (.map (some b)) (enc x)).run P w = .ok (.tuple #[ven ((getK L x).getD z), goInt st]) w1 ∧ MapOf enc ven b (putK L x ((getK L x).getD z)) w1 ∧ w.grownBy w1 (some b) ∧
      ∀ v : β, ∃ w3, (Instr.entryStore t (.map (some b)) (goInt st) (ven v)).run P w1 = .ok () w3 ∧ MapOf enc ven b (putK L x v) w3 ∧ w1.grownBy w3 (some b) := by
  have hn := h.nodup
  obtain ⟨es, clock, hb, hs, hL⟩ := h
  have hs0 := hs
  obtain ⟨s1, s2, s3⟩ := hs0
  obtain ⟨q, hq⟩ := M.key x
  have gb : ∀ (w : World) (o : Obj), w.grownBy (setBlock w b o) (some b) := fun w o => ⟨rfl, rfl, rfl, by simp [setBlock], fun i _ hi => by simp only [setBlock, Array.getElem?_setIfInBounds]; rw [if_neg (fun e => hi (by rw [e]))]⟩
  rcases M.law.find w hq es.toList (key_all M hL) with ⟨h1, h2⟩ | ⟨j, e0, h1, h2, h3⟩
  · have hg : getK L x = none := getK_none.2 fun p hp e1 => by
      have : enc p.1 ∈ es.toList.map (·.key) := by rw [keys_of hL]; exact List.mem_map.2 ⟨p, hp, rfl⟩
      obtain ⟨y, hy, e2⟩ := List.mem_map.1 this
      exact h2 y hy (by rw [e2, e1])
    rw [hg]
    have hw1 := heap_setBlock_same hb (.map (es.push ⟨enc x, ven z, clock⟩) (clock + 1))
    refine ⟨clock, setBlock w b (.map (es.push ⟨enc x, ven z, clock⟩) (clock + 1)), ?_, ⟨_, _, hw1, stamped_push hs h2, ?_⟩, gb _ _, fun v => ⟨setBlock (setBlock w b (.map (es.push ⟨enc x, ven z, clock⟩) (clock + 1))) b (.map (es.push ⟨enc x, ven v, clock⟩) (clock + 1)), ?_, ⟨_, _, heap_setBlock_same hw1 _, stamped_push hs h2, ?_⟩, gb _ _⟩⟩
    · simp [Instr.mapEntry, run_underlying M.und, MapKept.run_getObj_map hb, M.law.check w false hq, h1, M.zero w, MapKept.run_setObj_map _ hb, Result.andThen, setBlock]
    · rw [putK_new hg, Array.toList_push, List.map_append, List.map_append, hL]; rfl
    · have hidx : (es.push ⟨enc x, ven z, clock⟩).findIdx? (fun e => ((e.born : Nat) : Int) == ((clock : Nat) : Int)) = some es.size := by
        rw [findIdx_arr]
        have := findIdx_born (l := (es.push ⟨enc x, ven z, clock⟩).toList) (j := es.size) (e0 := ⟨enc x, ven z, clock⟩) (by
          simp only [Array.toList_push, List.map_append, List.map_cons, List.map_nil]
          refine List.nodup_append.2 ⟨s2, by simp, fun a ha c hc e1 => ?_⟩
          simp only [List.mem_singleton] at hc
          obtain ⟨x, hx, rfl⟩ := List.mem_map.1 ha
          have := s1 x hx
          omega) (by simp)
        exact this
      have hmod : (es.push ⟨enc x, ven z, clock⟩).modify es.size (fun e => { e with val := ven v }) = es.push ⟨enc x, ven v, clock⟩ := by
        apply Array.ext'
        rw [Array.toList_modify, Array.toList_push, Array.toList_push, ← Array.length_toList, modify_last]
      have st : ∀ w2 : World, w2.heap[b]? = some (.map (es.push ⟨enc x, ven z, clock⟩) (clock + 1)) → (Instr.entryStore t (.map (some b)) (goInt clock) (ven v)).run P w2 = .ok () (setBlock w2 b (.map (es.push ⟨enc x, ven v, clock⟩) (clock + 1))) := fun w2 hw2 => by
        simp [Instr.entryStore, MapKept.run_getObj_map hw2, asInt, asIntOf, goInt, hidx, hmod, MapKept.run_setObj_map _ hw2, Result.andThen, setBlock]
      exact st _ hw1
    · rw [putK_new hg, Array.toList_push, List.map_append, List.map_append, hL]; rfl
  · have hj : es[j]? = some e0 := by simpa using h2
    obtain ⟨p, hp, e1, e2⟩ := entry_at hL h2
    have e3 : p.1 = x := M.inj _ _ (by rw [← e1, h3])
    have hg : getK L x = some p.2 := getK_of_mem hn (by rw [← e3]; exact List.mem_of_getElem? hp)
    rw [hg]
    have hset : ∀ v, putK L x v = L.set j (x, v) := fun v => putK_set hn (w := p.2) (by rw [hp, ← e3])
    have hself : putK L x p.2 = L := by rw [hset]; exact set_self _ _ _ (by rw [hp, ← e3])
    have hsame : es.modify j (fun e => { e with key := enc x }) = es := by
      apply Array.ext'
      rw [Array.toList_modify, ChangeMaps.modify_eq_set _ _ _ _ h2]
      have : ({ e0 with key := enc x } : MapEntry) = e0 := by rw [← h3]
      rw [this]
      exact set_self _ _ _ h2
    have hw1 := heap_setBlock_same hb (.map es clock)
    have hkeyf : ∀ v, ∀ e', es[j]? = some e' → ({ e' with key := enc x, val := ven v } : MapEntry).key = e'.key := fun v e' he' => by rw [hj] at he'; cases he'; exact h3.symm
    refine ⟨e0.born, setBlock w b (.map es clock), ?_, ⟨_, _, hw1, hs, by rw [hL]; show _ = List.map _ (putK L x p.2); rw [hself]⟩, gb _ _, fun v => ⟨setBlock (setBlock w b (.map es clock)) b (.map (es.modify j (fun e' => { e' with key := enc x, val := ven v })) clock), ?_, ⟨_, _, heap_setBlock_same hw1 _, stamped_modify hs _ _ (fun _ _ => rfl) (fun e' _ he' => hkeyf v e' he'), ?_⟩, gb _ _⟩⟩
    · have e4 : ven ((some p.2).getD z) = e0.val := e2.symm
      rw [e4]
      simp [Instr.mapEntry, run_underlying M.und, MapKept.run_getObj_map hb, M.law.check w false hq, h1, hj, h3, M.law.stays w hq, hsame, MapKept.run_setObj_map _ hb, Result.andThen, setBlock]
    · have hidx : es.findIdx? (fun e => ((e.born : Nat) : Int) == ((e0.born : Nat) : Int)) = some j := by
        rw [findIdx_arr]
        exact findIdx_born s2 h2
      have hmod : es.modify j (fun e => { e with val := ven v }) = es.modify j (fun e' => { e' with key := enc x, val := ven v }) := by
        apply Array.ext'
        rw [Array.toList_modify, Array.toList_modify, ChangeMaps.modify_eq_set _ _ _ _ h2, ChangeMaps.modify_eq_set _ _ _ _ h2, ← h3]
      have st : ∀ w2 : World, w2.heap[b]? = some (.map es clock) → (Instr.entryStore t (.map (some b)) (goInt e0.born) (ven v)).run P w2 = .ok () (setBlock w2 b (.map (es.modify j (fun e' => { e' with key := enc x, val := ven v })) clock)) := fun w2 hw2 => by
        simp [Instr.entryStore, MapKept.run_getObj_map hw2, asInt, asIntOf, goInt, hidx, hmod, MapKept.run_setObj_map _ hw2, Result.andThen, setBlock]
      exact st _ hw1
    · rw [Array.toList_modify, ChangeMaps.modify_eq_set _ _ _ _ h2, hset, List.map_set, List.map_set, hL]
end
set_option maxHeartbeats 4000000 in
set_option maxRecDepth 100000 in
theorem llink_k (b : Nat) (L : List ((Kt × Kt) × Int)) (x y : Kt) (w : World) (hM : MapOf pv (Value.int .i64) b L w) (h0 : 0 ≤ (getK L (x, y)).getD 0) (h1 : (getK L (x, y)).getD 0 < 1073741824) :
    Calls Tryz.prog 7 #[.map (some b), kv x, kv y] w fun e w' => e = .returned (.tuple #[]) ∧ MapOf pv (Value.int .i64) b (putK L (x, y) ((getK L (x, y)).getD 0 + 1)) w' ∧ w.grownBy w' (some b) := by
  have hbl := hM.lt
  have heq : ∀ w, (binOp .eql 27 (.map (some b)) (.map none)).run Tryz.prog w = .ok (.bool false) w := fun w => run_eql_map_nil w _ _ _ (some b) Tryz.underlying27
  have hB := ((Below.refl w.heap.size w).alloc (Nat.le_refl _) (.cells #[.int .u32 (x.a : Int), .int .u16 (x.e : Int), .int .u16 (x.p : Int)] 31)).alloc (by simp) (.cells #[.int .u32 (y.a : Int), .int .u16 (y.e : Int), .int .u16 (y.p : Int)] 31)
  have hBx := boxes_at w #[.int .u32 (x.a : Int), .int .u16 (x.e : Int), .int .u16 (x.p : Int)] #[.int .u32 (y.a : Int), .int .u16 (y.e : Int), .int .u16 (y.p : Int)] 31 31
  have a0 := (hBx 0).1 _ rfl
  have a1 := (hBx 1).1 _ rfl
  have a2 := (hBx 2).1 _ rfl
  have b0 := (hBx 0).2 _ rfl
  have b1 := (hBx 1).2 _ rfl
  have b2 := (hBx 2).2 _ rfl
  have hM1 : MapOf pv (Value.int .i64) b L (((w.alloc (.cells #[.int .u32 (x.a : Int), .int .u16 (x.e : Int), .int .u16 (x.p : Int)] 31)).alloc (.cells #[.int .u32 (y.a : Int), .int .u16 (y.e : Int), .int .u16 (y.p : Int)] 31)).drew) := (hM.below hB hbl).same rfl
  obtain ⟨st, w2, he, hM2, hg2, hst⟩ := hM1.entry map_l (x, y)
  have hl1 := hM1.look map_l (x, y) false
  have hl2 := hM2.look map_l (x, y) false
  rw [getK_putK, if_pos rfl, Option.getD_some] at hl2
  obtain ⟨w3, hs, hM3, hg3⟩ := hst ((getK L (x, y)).getD 0 + 1)
  have HM3 := Lib.hid hM3
  have HG := Lib.hid (hg2.trans hg3)
  have HB := Lib.hid hB
  clear hM hM1 hM2 hst hM3 hg2 hg3 hB hBx
  obtain ⟨c, hc⟩ : ∃ c, (getK L (x, y)).getD 0 = c := ⟨_, rfl⟩
  obtain ⟨L', hL'⟩ : ∃ L', putK L (x, y) (c + 1) = L' := ⟨_, rfl⟩
  rw [hc] at h0 h1 he hl1 hl2 hs HM3 ⊢
  rw [hL'] at HM3 ⊢
  clear hc hL'
  simp only [Bool.false_eq_true, if_false] at hl1 hl2
  unfold pv at he hl1 hl2
  unfold goInt at he hs
  simp only at he hl1 hl2
  unfold kv
  go_enter Tryz.func7, Tryz.ntmps7
  go_wp2_with fail
  generalize (w.alloc (.cells #[.int .u32 (x.a : Int), .int .u16 (x.e : Int), .int .u16 (x.p : Int)] 31)).alloc (.cells #[.int .u32 (y.a : Int), .int .u16 (y.e : Int), .int .u16 (y.p : Int)] 31) = W at *
  go_region
  all_goals
    go_wp2
    go_end0
    refine ⟨rfl, HM3.out, ?_⟩
    exact ⟨HG.out.os.trans HB.out.os, HG.out.tape.trans HB.out.tape, HG.out.output.trans HB.out.output, Nat.le_trans HB.out.size HG.out.size, fun k hk hne => (HG.out.block k (Nat.lt_of_lt_of_le hk HB.out.size) hne).trans (HB.out.block k hk)⟩
theorem llink_nil (x y : Kt) (w : World) : Calls Tryz.prog 7 #[.map none, kv x, kv y] w fun e w' => e = .returned (.tuple #[]) ∧ Below w.heap.size w w' := by
  have heq : ∀ w, (binOp .eql 27 (.map none) (.map none)).run Tryz.prog w = .ok (.bool true) w := fun w => run_eql_map_nil w _ _ _ none Tryz.underlying27
  have hB := Lib.hid (((Below.refl w.heap.size w).alloc (Nat.le_refl _) (.cells #[.int .u32 (x.a : Int), .int .u16 (x.e : Int), .int .u16 (x.p : Int)] 31)).alloc (by simp) (.cells #[.int .u32 (y.a : Int), .int .u16 (y.e : Int), .int .u16 (y.p : Int)] 31))
  unfold kv
  go_enter Tryz.func7, Tryz.ntmps7
  go_wp2
  refine bodyPost_ret (results_none rfl _ _ _) rfl ?_
  exact ⟨rfl, hB.out⟩
set_option maxRecDepth 100000 in
theorem lmany_k (b : Nat) (L : List ((Kt × Kt) × Int)) (x y : Kt) (w : World) (hM : MapOf pv (Value.int .i64) b L w) :
    Calls Tryz.prog 10 #[.map (some b), kv x, kv y] w fun e w' => e = .returned (.int .i64 ((getK L (x, y)).getD 0)) ∧ Below w.heap.size w w' := by
  have hB := ((Below.refl w.heap.size w).alloc (Nat.le_refl _) (.cells #[.int .u32 (x.a : Int), .int .u16 (x.e : Int), .int .u16 (x.p : Int)] 31)).alloc (by simp) (.cells #[.int .u32 (y.a : Int), .int .u16 (y.e : Int), .int .u16 (y.p : Int)] 31)
  have hBx := boxes_at w #[.int .u32 (x.a : Int), .int .u16 (x.e : Int), .int .u16 (x.p : Int)] #[.int .u32 (y.a : Int), .int .u16 (y.e : Int), .int .u16 (y.p : Int)] 31 31
  have a0 := (hBx 0).1 _ rfl
  have a1 := (hBx 1).1 _ rfl
  have a2 := (hBx 2).1 _ rfl
  have b0 := (hBx 0).2 _ rfl
  have b1 := (hBx 1).2 _ rfl
  have b2 := (hBx 2).2 _ rfl
  have hl := (hM.below hB hM.lt).look map_l (x, y) false
  have HB := Lib.hid hB
  clear hM hB hBx
  generalize (getK L (x, y)).getD 0 = c at *
  simp only [Bool.false_eq_true, if_false] at hl
  unfold pv at hl
  simp only at hl
  unfold kv
  go_enter Tryz.func10, Tryz.ntmps10
  go_wp2
  go_ret
  exact ⟨rfl, HB.out⟩
set_option maxRecDepth 100000 in
theorem lmany_nil (x y : Kt) (w : World) : Calls Tryz.prog 10 #[.map none, kv x, kv y] w fun e w' => e = .returned (.int .i64 0) ∧ Below w.heap.size w w' := by
  have hB := ((Below.refl w.heap.size w).alloc (Nat.le_refl _) (.cells #[.int .u32 (x.a : Int), .int .u16 (x.e : Int), .int .u16 (x.p : Int)] 31)).alloc (by simp) (.cells #[.int .u32 (y.a : Int), .int .u16 (y.e : Int), .int .u16 (y.p : Int)] 31)
  have hl := fun w => map_l.look_nil (x, y) w
  have HB := Lib.hid hB
  clear hB
  unfold pv at hl
  simp only at hl
  unfold kv
  go_enter Tryz.func10, Tryz.ntmps10
  go_wp2
  go_ret
  exact ⟨rfl, HB.out⟩
end Go.Proofs.YtnmnjoleebhhiaaGreatDoor

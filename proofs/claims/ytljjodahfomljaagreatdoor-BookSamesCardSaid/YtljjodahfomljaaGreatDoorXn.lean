/- The walk of law BookParts. -/
import Derived.Test.YtljjodahfomljaaGreatDoorXl
import Derived.BigRegion
namespace Go.Proofs.YtljjodahfomljaaGreatDoor
open Go.RowKit
set_option linter.unusedVariables false
set_option linter.unusedSimpArgs false
set_option maxHeartbeats 1000000 in
set_option maxRecDepth 100000 in
theorem clone_j (xs : List Jm) (r : Option Addr) (n cap : Nat) (w : World) (hR : Recs jc 2 w (.slice r n cap) xs) (hn : xs.length = n) (hl : n ≤ 1000) (hone : ∀ u ∈ xs.flatMap jc, u.oneCell' = true) :
    Calls Tryz.prog 27 #[.slice r n cap] w fun e w' => ∃ v', e = .returned v' ∧ w'.ownsRow w.heap.size 66 2 v' n (xs.flatMap jc) ∧ Below w.heap.size w w' := by
  obtain ⟨i0, hi, hz0, hz1, hz2⟩ := info_parts infoJ
  have q22 : ∀ (w : World) (a : Option Addr) (n c n' c' : Nat), (binOp .eql 39 (.slice a n c) (.slice none n' c')).run Tryz.prog w = .ok (.bool a.isNone) w := fun w a n c n' c' => Lib.run_eql_slice_nil w _ _ a n c n' c' Tryz.underlying39
  have hlen : (xs.flatMap jc).length = n * 2 := by rw [flat_len jc_len, hn]
  cases r with
  | none =>
    have h0 : n = 0 := by
      rcases hR with ⟨_, _, h1, h2⟩ | ⟨_, _, _, h1, _⟩
      · cases h1; rfl
      · cases h1
    subst h0
    have hx : xs.flatMap jc = [] := List.eq_nil_of_length_eq_zero (by simpa using hlen)
    rw [hx]
    clear hR hlen hx
    go_enter Tryz.func27, Tryz.ntmps27
    go_wp2
    go_ret
    exact ⟨_, rfl, World.ownsRow_nil _ _ _ _, Below.refl _ _⟩
  | some ad =>
    have HC := Lib.hid (show ∀ j u, (xs.flatMap jc)[j]? = some u → (w.alloc (.cells #[] 66)).cell? (ad.add j) = some u from fun j u hu => by
      rcases hR with ⟨_, _, h1, h2⟩ | ⟨g, off, c, h1, hg, h3, h4, h5⟩
      · rw [h2] at hu; simp at hu
      · cases h1
        have e : (⟨g, off, none⟩ : Addr).add j = ⟨g, off + j, none⟩ := by unfold Addr.add; split <;> simp_all
        rw [e, World.cell?_alloc_lt _ _ _ hg]
        exact recs_flat jc_len (by omega) (.inr ⟨g, off, cap, rfl, hg, h3, h4, h5⟩) j u hu)
    have h1 := hone
    clear hR hone
    generalize xs.flatMap jc = zs at *
    go_enter Tryz.func27, Tryz.ntmps27
    go_wp2_with (at_builtin; refine wpList_append_own _ rfl (.tmp 5) (.tmp 6) 39 rfl w.heap.size 66 i0 (.agg #[.int .i32 0, .slice none 0 0]) 2 32 Tryz.underlying39 hi hz0 hz1 hz2 rfl (by decide) _ 0 [] rfl (World.ownsRow_made w #[] 0 (Nat.le_refl _) (by decide) (by simp)) ad n cap zs rfl hlen HC.out h1 (by unfold maxLen; omega) (by omega) (by simp) ?_; intro v3 w3 hown3 hgrow3 _)
    go_ret
    refine ⟨_, rfl, by simpa using hown3, ((Below.refl _ _).alloc (Nat.le_refl _) _).grown hgrow3 (by simp) (fun k hk => by have e : some w.heap.size = some k := hk; injection e with e; omega)⟩
/-- What holds of the values by which the two books are made. -/
def RP (B Y : Nat) (vC vU vS vJ : Value) (E : Int) (vs : List Jm) : Nat → Value → World → Prop
  | 0, v, _ => v = .pointer (some ⟨Y, 0, none⟩)
  | 1, v, _ => v = .agg #[vC, vU, vS, .int .i32 E]
  | 2, v, _ => v = .agg #[vC, vU, vS, .int .i32 E, .slice none 0 0]
  | 3, v, _ => v = .pointer (some ⟨Y, 0, none⟩)
  | 4, v, _ => v = .agg #[vC, vU, vS, .int .i32 E]
  | 5, v, _ => v = .pointer (some ⟨Y, 4, none⟩)
  | 6, v, _ => v = vJ
  | 7, v, w => w.ownsRow B 66 2 v vs.length (vs.flatMap jc)
  | 8, v, w => ∃ vT, v = .agg #[vC, vU, vS, .int .i32 E, vT] ∧ w.ownsRow B 66 2 vT vs.length (vs.flatMap jc)
  | 11, v, w => ∃ g, v = .pointer (some ⟨g, 0, none⟩) ∧ HBox w g [vC, vU, vS, .int .i32 E, .slice none 0 0] 41
  | _, v, w => ∃ g c0 c1 c2 c3 c4, v = .pointer (some ⟨g, 0, none⟩) ∧ B ≤ g ∧ HBox w g [c0, c1, c2, c3, c4] 41
theorem RP.stay {B Y : Nat} {vC vU vS vJ : Value} {E : Int} {vs : List Jm} {w w' : World} (hb : Below w.heap.size w w') : ∀ j u, RP B Y vC vU vS vJ E vs j u w → RP B Y vC vU vS vJ E vs j u w'
  | 0, _, h => h
  | 1, _, h => h
  | 2, _, h => h
  | 3, _, h => h
  | 4, _, h => h
  | 5, _, h => h
  | 6, _, h => h
  | 7, _, h => owns_below (by exact h) hb
  | 8, _, ⟨vT, h1, h2⟩ => ⟨vT, h1, owns_below h2 hb⟩
  | 9, _, ⟨g, c0, c1, c2, c3, c4, h1, h2, h3⟩ => ⟨g, c0, c1, c2, c3, c4, h1, h2, h3.stay hb⟩
  | 10, _, ⟨g, c0, c1, c2, c3, c4, h1, h2, h3⟩ => ⟨g, c0, c1, c2, c3, c4, h1, h2, h3.stay hb⟩
  | 11, _, ⟨g, h1, h3⟩ => ⟨g, h1, h3.stay hb⟩
  | _ + 12, _, ⟨g, c0, c1, c2, c3, c4, h1, h2, h3⟩ => ⟨g, c0, c1, c2, c3, c4, h1, h2, h3.stay hb⟩
theorem owns_box_far {w : World} {base g : Nat} {e T : TypeId} {size n : Nat} {v : Value} {xs cs : List Value} (h : w.ownsRow base e size v n xs) (hg : HBox w g cs T) (hne : e ≠ T) : v.ownBlock = none ∨ v.ownBlock ≠ some g := by
  obtain ⟨r, cap, rfl⟩ := owns_form h
  exact .inr (owns_type_far h hg hne)
theorem HBox.set5 {w : World} {b : Nat} {c0 c1 c2 c3 c4 : Value} {T : TypeId} (h : HBox w b [c0, c1, c2, c3, c4] T) (d0 d1 d2 d3 d4 : Value) : HBox (((((w.setCell ⟨b, 0, none⟩ d0).setCell ⟨b, 1, none⟩ d1).setCell ⟨b, 2, none⟩ d2).setCell ⟨b, 3, none⟩ d3).setCell ⟨b, 4, none⟩ d4) b [d0, d1, d2, d3, d4] T :=
  ((((h.set 0 d0).set 1 d1).set 2 d2).set 3 d3).set 4 d4
theorem grown_sets5 (w : World) (b : Nat) (d0 d1 d2 d3 d4 : Value) : w.grownBy (((((w.setCell ⟨b, 0, none⟩ d0).setCell ⟨b, 1, none⟩ d1).setCell ⟨b, 2, none⟩ d2).setCell ⟨b, 3, none⟩ d3).setCell ⟨b, 4, none⟩ d4) (some b) :=
  (grown_sets w b d0 d1 d2 d3).trans (grownBy_set _ ⟨b, 4, none⟩ d4)
theorem RP.store {B Y : Nat} {vC vU vS vJ : Value} {E : Int} {vs : List Jm} {w w' : World} {g : Nat} {cs : List Value} (hg : w.grownBy w' (some g)) (h0 : HBox w g cs 41) (h1 : HBox w' g [vC, vU, vS, .int .i32 E, .slice none 0 0] 41) : ∀ j u, RP B Y vC vU vS vJ E vs j u w → RP B Y vC vU vS vJ E vs j u w'
  | 0, _, h => h
  | 1, _, h => h
  | 2, _, h => h
  | 3, _, h => h
  | 4, _, h => h
  | 5, _, h => h
  | 6, _, h => h
  | 7, u, h => by
    have h' : w.ownsRow B 66 2 u vs.length (vs.flatMap jc) := h
    exact h'.kept hg (owns_box_far h' h0 (by decide))
  | 8, _, ⟨vT, e1, e2⟩ => ⟨vT, e1, e2.kept hg (owns_box_far e2 h0 (by decide))⟩
  | 11, u, ⟨k, e1, e3⟩ => by
    by_cases e : k = g
    · subst e; exact ⟨k, e1, h1⟩
    · exact ⟨k, e1, e3.grown hg (fun h => e (Option.some.inj h))⟩
  | 9, u, ⟨k, c0, c1, c2, c3, c4, e1, e2, e3⟩ => by
    by_cases e : k = g
    · subst e; exact ⟨k, _, _, _, _, _, e1, e2, h1⟩
    · exact ⟨k, c0, c1, c2, c3, c4, e1, e2, e3.grown hg (fun h => e (Option.some.inj h))⟩
  | 10, u, ⟨k, c0, c1, c2, c3, c4, e1, e2, e3⟩ => by
    by_cases e : k = g
    · subst e; exact ⟨k, _, _, _, _, _, e1, e2, h1⟩
    · exact ⟨k, c0, c1, c2, c3, c4, e1, e2, e3.grown hg (fun h => e (Option.some.inj h))⟩
  | _ + 12, u, ⟨k, c0, c1, c2, c3, c4, e1, e2, e3⟩ => by
    by_cases e : k = g
    · subst e; exact ⟨k, _, _, _, _, _, e1, e2, h1⟩
    · exact ⟨k, c0, c1, c2, c3, c4, e1, e2, e3.grown hg (fun h => e (Option.some.inj h))⟩
theorem grown_row {V w w' : World} {g : Nat} {row : Option Nat} (h : V.grownBy w (some g)) (hg : w.grownBy w' row) (hrow : ∀ k, row = some k → V.heap.size ≤ k) : V.grownBy w' (some g) :=
  ⟨hg.os.trans h.os, hg.tape.trans h.tape, hg.output.trans h.output, Nat.le_trans h.size hg.size, fun k hk hne => (hg.block k (Nat.lt_of_lt_of_le hk h.size) (fun e => by have := hrow k e.symm; omega)).trans (h.block k hk hne)⟩
theorem grown_below {V w w' : World} {g : Nat} (h : V.grownBy w (some g)) (hb : Below w.heap.size w w') : V.grownBy w' (some g) :=
  grown_row h (row := none) ⟨hb.os, hb.tape, hb.output, hb.size, fun k hk _ => hb.block k hk⟩ (fun k e => by cases e)
theorem sub_push {vs sel : List Jm} {k : Nat} {p : Jm} (h : sel.Sublist (vs.take k)) (hp : vs[k]? = some p) : (sel ++ [p]).Sublist (vs.take (k + 1)) := by
  rw [List.take_add_one, hp]
  exact h.append (List.Sublist.refl _)
theorem sub_next {vs sel : List Jm} {k : Nat} (h : sel.Sublist (vs.take k)) : sel.Sublist (vs.take (k + 1)) := by
  rw [List.take_add_one]
  exact h.trans (List.sublist_append_left _ _)
def P910 (i : Nat) (u : Value) (j : Nat) (v : Value) : Prop := ((i = 9 ∧ j = 10) ∨ (i = 10 ∧ j = 9) → u ≠ v) ∧ ((i = 9 ∧ j = 11) ∨ (i = 11 ∧ j = 9) → u = v)
theorem p910_no {l : List Oper} {a : Act} {i : Nat} (h : i < 9) (n : Nat) (R : Nat → Value → World → Prop) (w : World) (v : Value) : ∀ j u, j < n → j ≠ i → depB l j i = false → R j u w → (∀ t, depB l i j = true → dstB l j = some t → a.eval (.tmp t) = u) → P910 j u i v ∧ P910 i v j u := fun j u _ _ _ _ _ => ⟨⟨fun e => by omega, fun e => by omega⟩, ⟨fun e => by omega, fun e => by omega⟩⟩
/-- Some of a made book's journals are a book's. -/
theorem sub_ok {x : Bk} {vs sel : List Jm} (h8 : ∀ j ∈ x.journals, j.lines.length ≤ 8) (hl : x.journals.length ≤ 100) (h : vs.map jOf = makeJ x) (hs : sel.Sublist vs) : chkB (frB x) (sel.map jOf) = 0 := by
  obtain ⟨_, b, c, d⟩ := stJ_ok x h8 x.journals.length (Nat.le_refl _)
  have hs2 : (sel.map jOf).Sublist (makeJ x) := by rw [← h]; exact hs.map _
  have hlen := hs2.length_le
  have hmk : (makeJ x).length ≤ x.journals.length := d
  unfold chkB
  rw [if_neg (by rw [frB_chk]; simp), if_neg (by omega)]
  exact chkJs_ok (fun j hj => (b j (hs2.subset hj)).1) (c.sublist hs2) fun q e => by cases e
theorem set_off {α : Type} (A B : List α) (i : Nat) (u : α) {n : Nat} (h : A.length = n) : (A ++ B).set (n + i) u = A ++ B.set i u := by
  rw [List.set_append_right _ _ (by omega), h, Nat.add_sub_cancel_left]
theorem two_at {α : Type} {vs : List α} {k : Nat} {p q : α} (hp : vs[k]? = some p) (hq : vs[k + 1]? = some q) : ∃ A B, vs = A ++ p :: q :: B ∧ A.length = k := by
  obtain ⟨hk, e⟩ := List.getElem?_eq_some_iff.1 hp
  obtain ⟨hk2, e2⟩ := List.getElem?_eq_some_iff.1 hq
  refine ⟨vs.take k, vs.drop (k + 2), ?_, by rw [List.length_take]; omega⟩
  have h1 := (List.take_append_drop k vs).symm
  rw [List.drop_eq_getElem_cons hk, List.drop_eq_getElem_cons hk2, e, e2] at h1
  exact h1
theorem swap_flat {A B : List Jm} {p q : Jm} {k : Nat} (hA : A.length = k) : (((((A ++ p :: q :: B).flatMap jc).set (k * 2) (.int .i32 q.1)).set (k * 2 + 1) q.2.1).set (k * 2 + 2) (.int .i32 p.1)).set (k * 2 + 3) p.2.1 = (A ++ q :: p :: B).flatMap jc := by
  have hl : (A.flatMap jc).length = k * 2 := by rw [flat_len jc_len, hA]
  have e : (A ++ p :: q :: B).flatMap jc = A.flatMap jc ++ ([.int .i32 p.1, p.2.1, .int .i32 q.1, q.2.1] ++ B.flatMap jc) := by simp [jc]
  rw [e, show k * 2 = k * 2 + 0 from rfl, set_off _ _ 0 _ hl]
  rw [show k * 2 + 0 + 1 = k * 2 + 1 from rfl, show k * 2 + 0 + 2 = k * 2 + 2 from rfl, show k * 2 + 0 + 3 = k * 2 + 3 from rfl, set_off _ _ 1 _ hl, set_off _ _ 2 _ hl, set_off _ _ 3 _ hl]
  simp [jc]
theorem swap_mem {vs A B : List Jm} {p q : Jm} (hs : vs = A ++ p :: q :: B) : ∀ j ∈ A ++ q :: p :: B, j ∈ vs := fun j hj => by
  subst hs
  rcases List.mem_append.1 hj with h | h
  · exact List.mem_append.2 (.inl h)
  · rcases List.mem_cons.1 h with rfl | h
    · simp
    · rcases List.mem_cons.1 h with rfl | h
      · simp
      · exact List.mem_append.2 (.inr (List.mem_cons_of_mem _ (List.mem_cons_of_mem _ h)))
theorem swap_len {vs A B : List Jm} {p q : Jm} {n : Nat} (hs : vs = A ++ p :: q :: B) (h : vs.length = n) : (A ++ q :: p :: B).length = n := by
  subst hs; subst h; simp
/-- Two of a made book's journals, one beside the other, the other way round. -/
theorem swap_chk {x : Bk} {vs A B : List Jm} {p q : Jm} (h8 : ∀ j ∈ x.journals, j.lines.length ≤ 8) (hl : x.journals.length ≤ 100) (h : vs.map jOf = makeJ x) (hs : vs = A ++ p :: q :: B) : chkB (frB x) ((A ++ q :: p :: B).map jOf) = if p.1 = q.1 then 0 else 6 := by
  obtain ⟨_, b, c, d⟩ := stJ_ok x h8 x.journals.length (Nat.le_refl _)
  have hmk : (makeJ x).length ≤ x.journals.length := d
  have b' : ∀ j ∈ makeJ x, OkJ (frB x) j := fun j hj => (b j hj).1
  have c' : (makeJ x).Pairwise (fun a b => a.1 ≤ b.1) := c
  clear b c d
  rw [← h, hs] at hmk b' c'
  simp only [List.map_append, List.map_cons] at hmk b' c' ⊢
  have hlen : (A.map jOf ++ jOf q :: jOf p :: B.map jOf).length = (A.map jOf ++ jOf p :: jOf q :: B.map jOf).length := by simp
  have b2 : ∀ j ∈ A.map jOf ++ jOf q :: jOf p :: B.map jOf, OkJ (frB x) j := fun j hj => b' j (by
    rcases List.mem_append.1 hj with h | h
    · exact List.mem_append.2 (.inl h)
    · rcases List.mem_cons.1 h with rfl | h
      · simp
      · rcases List.mem_cons.1 h with rfl | h
        · simp
        · exact List.mem_append.2 (.inr (List.mem_cons_of_mem _ (List.mem_cons_of_mem _ h))))
  obtain ⟨cA, cr, cx⟩ := List.pairwise_append.1 c'
  obtain ⟨cp, cr2⟩ := List.pairwise_cons.1 cr
  obtain ⟨cq, cB⟩ := List.pairwise_cons.1 cr2
  have hpq : p.1 ≤ q.1 := cp (jOf q) (List.mem_cons_self ..)
  unfold chkB
  rw [if_neg (by rw [frB_chk]; simp), if_neg (by omega)]
  by_cases e : p.1 = q.1
  · rw [if_pos e]
    have ee : (jOf p).1 = (jOf q).1 := e
    refine chkJs_ok b2 (List.pairwise_append.2 ⟨cA, List.pairwise_cons.2 ⟨fun j hj => ?_, List.pairwise_cons.2 ⟨fun j hj => cp j (List.mem_cons_of_mem _ hj), cB⟩⟩, fun i hi j hj => ?_⟩) fun q e => by cases e
    · rcases List.mem_cons.1 hj with rfl | h
      · rw [ee]; exact Int.le_refl _
      · exact cq j h
    · rcases List.mem_cons.1 hj with rfl | h
      · exact cx i hi _ (by simp)
      · rcases List.mem_cons.1 h with rfl | h
        · exact cx i hi _ (by simp)
        · exact cx i hi j (List.mem_cons_of_mem _ (List.mem_cons_of_mem _ h))
  · rw [if_neg e]
    exact chkJs_bad (b2 _ (by simp)) (b2 _ (by simp)) (by have : p.1 < q.1 := by omega
                                                          exact this) (fun j hj => b2 j (List.mem_append.2 (.inl hj))) (List.pairwise_append.2 ⟨cA, List.pairwise_singleton _ _, fun i hi j hj => cx i hi j (by simp at hj; subst hj; simp)⟩) fun q e => by cases e
theorem jrow_one {w : World} {v : Value} {vs : List Jm} (h : JRow w v vs) : ∀ u ∈ vs.flatMap jc, u.oneCell' = true := fun u hu => by
  obtain ⟨p, hp, h1⟩ := List.mem_flatMap.1 hu
  obtain ⟨r, c, e, _⟩ := (h.2 p hp).form
  simp only [jc, e] at h1
  rcases List.mem_cons.1 h1 with rfl | h1
  · rfl
  · simp at h1; subst h1; rfl
set_option maxHeartbeats 8000000 in
set_option maxRecDepth 100000 in
theorem bookparts_any {I : World → Prop} (C : AllotC) (D : DayC I) (K : KeyC I) (U : UnitC) (LC : CalC I) (EC : EntryC I) (B : BookC I) (x : Bk) (vCh vUn vLo vJs : Value) (js : List Jp) (wh at_ : Nat) (w : World) (hI : I w) (hM : BkM x vCh vUn vLo vJs js w) (hwh : wh < 65536) (hat : at_ < 256) :
    Calls Tryz.prog 8 #[bV vCh vUn x.first vLo vJs, .int .u16 (wh : Int), .int .u8 (at_ : Int)] w fun e w' => e = .returned (.bool true) ∧ Below w.heap.size w w' := by
  have hmix : Tryz.prog.follows .mixedOrders = true := by kernel_rfl
  obtain ⟨i0, hi, hz0, hz1, hz2⟩ := info_parts infoJ
  obtain ⟨q1, d1, rfl, _⟩ := hM.ch.form
  obtain ⟨q2, d2, rfl, _⟩ := hM.un.form
  obtain ⟨q3, d3, rfl, _⟩ := hM.lo.form
  obtain ⟨q4, d4, rfl, _⟩ := hM.jr.form
  obtain ⟨vCh, hvCh⟩ : ∃ v, Value.slice q1 x.chart.length d1 = v := ⟨_, rfl⟩
  obtain ⟨vUn, hvUn⟩ : ∃ v, Value.slice q2 x.units.length d2 = v := ⟨_, rfl⟩
  obtain ⟨vLo, hvLo⟩ : ∃ v, Value.slice q3 x.long.length d3 = v := ⟨_, rfl⟩
  obtain ⟨vJs, hvJs⟩ : ∃ v, Value.slice q4 js.length d4 = v := ⟨_, rfl⟩
  rw [hvCh, hvUn, hvLo, hvJs] at hM ⊢
  clear hvCh hvUn hvLo hvJs
  have KA := Lib.hid (fun (w' : World) (h : Below w.heap.size w w') => awake10_any C D K U LC EC B w' (D.stay hI h))
  have KL := Lib.hid (fun (w' : World) (h : Below w.heap.size w w') => light_c x vCh vUn vLo vJs js w' (hM.stay h))
  have KM := Lib.hid (fun (hT : lightB x = true) (w' : World) (h : Below w.heap.size w w') => makeB_c x vCh vUn vLo vJs js w' (hM.stay h) (light_of hT).1 (by have := (light_of hT).2.2.2.2; omega))
  have KB := Lib.hid (fun (vC vU vS vJ : Value) (vs : List Jm) (w' : World) (h : Below w.heap.size w w') (hF : FrM (frB x) vC vU vS w') (hJ : JRow w' vJ vs) (hl : vs.length ≤ 100) (hp : ∀ p ∈ vs, p.2.2.length ≤ 100 ∧ -2147483648 ≤ p.1 ∧ p.1 ≤ 2147483647) => B.check vC vU vS vJ (frB x) vs w' (D.stay hI h) hF (frB_in x) hJ hl hp)
  obtain ⟨EE, hEE⟩ : ∃ n, (frB x).E = n := ⟨_, rfl⟩
  obtain ⟨LT, hLT⟩ : ∃ b, lightB x = b := ⟨_, rfl⟩
  have HLT := Lib.hid hLT
  rw [hLT] at KL
  rw [hEE] at KM KB
  unfold bV at KL KM ⊢
  unfold bkV at KM KB
  have hb := (Below.refl w.heap.size w).alloc (Nat.le_refl _) (.cells #[vCh, vUn, .int .i16 x.first, vLo, vJs] 28)
  have bx := HBox.new w [vCh, vUn, .int .i16 x.first, vLo, vJs] 28
  change HBox (w.alloc (.cells #[vCh, vUn, .int .i16 x.first, vLo, vJs] 28)) _ _ _ at bx
  clear C D K U LC EC B hI hM hEE hLT
  go_enter Tryz.func8, Tryz.ntmps8
  go_upto_region 1 with fail
  generalize w.alloc (.cells #[vCh, vUn, .int .i16 x.first, vLo, vJs] 28) = W at *
  have HX := Lib.hid bx
  have HB := Lib.hid hb
  clear bx hb
  go_upto_region 3 with (go_at_call 9; refine (KA.out _ HB.out).mono ?_; rintro e w4 ⟨rfl, h4⟩; have HX4 := Lib.hid (HX.out.stay h4); have HB4 := Lib.hid (HB.out.trans (h4.mono HB.out.size)); clear h4)
  have x0 := HX4.out.cell (j := 0) rfl
  have x1 := HX4.out.cell (j := 1) rfl
  have x2 := HX4.out.cell (j := 2) rfl
  have x3 := HX4.out.cell (j := 3) rfl
  have x4 := HX4.out.cell (j := 4) rfl
  clear HX HB
  cases LT with
  | false =>
    go_wp2_with (go_at_call 10; refine (KL.out _ HB4.out).mono ?_; rintro e w5 ⟨rfl, h5⟩; have HB5 := Lib.hid (HB4.out.trans (h5.mono HB4.out.size)); clear h5)
    go_ret
    exact ⟨rfl, HB5.out⟩
  | true =>
    go_upto_region 5 with (go_at_call 10; refine (KL.out _ HB4.out).mono ?_; rintro e w5 ⟨rfl, h5⟩; have HX5 := Lib.hid (HX4.out.stay h5); have HB5 := Lib.hid (HB4.out.trans (h5.mono HB4.out.size)); clear h5)
    clear x0 x1 x2 x3 x4
    have x0 := HX5.out.cell (j := 0) rfl
    have x1 := HX5.out.cell (j := 1) rfl
    have x2 := HX5.out.cell (j := 2) rfl
    have x3 := HX5.out.cell (j := 3) rfl
    have x4 := HX5.out.cell (j := 4) rfl
    clear HX4 HB4
    go_upto_region 6 with (go_at_call 12; refine (KM.out HLT.out _ HB5.out).mono ?_; rintro e w6 ⟨vC, vU, vS, vJ, vs, rfl, oC, oU, oS, hJ, hm, h6⟩; obtain ⟨hla, hlb⟩ := made_lens (light_of HLT.out).1 (by have := (light_of HLT.out).2.2.2.2; omega) hm; have hjr := hJ.jrow (by have := (light_of HLT.out).2.2.2.2; omega) (fun p hp => by have := hlb p hp; omega); have HFM := Lib.hid (frM_owns oC oU oS); obtain ⟨r1, c1, rfl⟩ := owns_form oC; obtain ⟨r2, c2, rfl⟩ := owns_form oU; obtain ⟨r3, c3, rfl⟩ := owns_form oS; obtain ⟨r4, c4, rfl⟩ := owns_form hJ.row; have HJ6 := Lib.hid hjr; have HMK := Lib.hid hm; have HLB := Lib.hid hlb; have hvl : vs.length ≤ 12 := Nat.le_trans hla (light_of HLT.out).2.2.2.2; have HB6 := Lib.hid (HB5.out.trans (h6.mono HB5.out.size)); clear oC oU oS hJ hm h6 hla hlb hjr)
    have hbw := (Below.refl w6.heap.size w6).alloc (Nat.le_refl _) (.cells #[.slice r1 (frB x).C.length c1, .slice r2 (frB x).U.length c2, .slice r3 (frB x).S.length c3, .int .i32 EE, .slice r4 vs.length c4] 41)
    have hfb := HBox.new w6 [.slice r1 (frB x).C.length c1, .slice r2 (frB x).U.length c2, .slice r3 (frB x).S.length c3, .int .i32 EE, .slice r4 vs.length c4] 41
    change HBox (w6.alloc (.cells #[.slice r1 (frB x).C.length c1, .slice r2 (frB x).U.length c2, .slice r3 (frB x).S.length c3, .int .i32 EE, .slice r4 vs.length c4] 41)) _ _ _ at hfb
    have HJ7 := Lib.hid (HJ6.out.stay hbw)
    have HF7 := Lib.hid (HFM.out.stay hbw)
    have HB7 := Lib.hid (HB6.out.trans (hbw.mono HB6.out.size))
    have HFB := Lib.hid hfb
    clear hbw x0 x1 x2 x3 x4 HX5 HB5 HB6 HJ6 HFM hfb
    generalize w6.alloc (.cells #[.slice r1 (frB x).C.length c1, .slice r2 (frB x).U.length c2, .slice r3 (frB x).S.length c3, .int .i32 EE, .slice r4 vs.length c4] 41) = V at *
    generalize w6.heap.size = Y at *
    have VJ := jrow_one HJ7.out
    have HVJ := Lib.hid VJ
    clear VJ
    refine wp_region_part2 12 (fun w' => Below V.heap.size V w') (RP V.heap.size Y (.slice r1 (frB x).C.length c1) (.slice r2 (frB x).U.length c2) (.slice r3 (frB x).S.length c3) (.slice r4 vs.length c4) EE vs) P910 hmix (by decide) (by kernel_rfl) (by kernel_rfl) (by kernel_rfl) (Below.refl _ _).drew ?_ ?_
    · intro a w' i hi9 hC hfar hrd
      have K1 := clone_j vs r4 vs.length c4 w' (HJ7.out.stay hC).1 rfl (by omega) HVJ.out
      rcases (by omega : i = 0 ∨ i = 1 ∨ i = 2 ∨ i = 3 ∨ i = 4 ∨ i = 5 ∨ i = 6 ∨ i = 7 ∨ i = 8 ∨ i = 9 ∨ i = 10 ∨ i = 11) with rfl | rfl | rfl | rfl | rfl | rfl | rfl | rfl | rfl | rfl | rfl | rfl
      · refine op_run (.fieldAddr 41 (.tmp 7) 0) (some 20) (by unfold opIs; kernel_rfl) (.pointer (some ⟨Y, 0, none⟩)) (w' := w') (fun o ho => by unfold execOp; rw [ho]; simp only [(hfar 7 (by kernel_rfl)).trans (show _ = Value.pointer (some ⟨Y, 0, none⟩) by kernel_rfl)]; go_simp) ?_
        exact ⟨_, congrArg (fun d => a.put d (.pointer (some ⟨Y, 0, none⟩))) (by kernel_rfl), hC, rfl, fun j u h => h, p910_no (by omega) _ _ _ _⟩
      · refine op_load 38 (.tmp 20) (some 21) (by unfold opIs; kernel_rfl) _ (.agg #[.slice r1 (frB x).C.length c1, .slice r2 (frB x).U.length c2, .slice r3 (frB x).S.length c3, .int .i32 EE]) (hrd 0 20 (by kernel_rfl) (by kernel_rfl)) (by have h := HFB.out.stay hC; have b0 := h.cell (j := 0) rfl; have b1 := h.cell (j := 1) rfl; have b2 := h.cell (j := 2) rfl; have b3 := h.cell (j := 3) rfl; go_simp) ?_
        exact ⟨_, congrArg (fun d => a.put d (.agg #[.slice r1 (frB x).C.length c1, .slice r2 (frB x).U.length c2, .slice r3 (frB x).S.length c3, .int .i32 EE])) (by kernel_rfl), hC, rfl, fun j u h => h, p910_no (by omega) _ _ _ _⟩
      · have e1 := hrd 1 21 (by kernel_rfl) (by kernel_rfl)
        refine op_run (.build 41 #[(0, .tmp 21)]) (some 22) (by unfold opIs; kernel_rfl) (.agg #[.slice r1 (frB x).C.length c1, .slice r2 (frB x).U.length c2, .slice r3 (frB x).S.length c3, .int .i32 EE, .slice none 0 0]) (w' := w') (fun o ho => by
          unfold execOp; rw [ho]
          simp only [List.map_toArray, List.map_cons, List.map_nil, show a.eval (.tmp 21) = _ from e1]
          go_simp) ?_
        exact ⟨_, congrArg (fun d => a.put d (.agg #[.slice r1 (frB x).C.length c1, .slice r2 (frB x).U.length c2, .slice r3 (frB x).S.length c3, .int .i32 EE, .slice none 0 0])) (by kernel_rfl), hC, rfl, fun j u h => h, p910_no (by omega) _ _ _ _⟩
      · refine op_run (.fieldAddr 41 (.tmp 7) 0) (some 23) (by unfold opIs; kernel_rfl) (.pointer (some ⟨Y, 0, none⟩)) (w' := w') (fun o ho => by unfold execOp; rw [ho]; simp only [(hfar 7 (by kernel_rfl)).trans (show _ = Value.pointer (some ⟨Y, 0, none⟩) by kernel_rfl)]; go_simp) ?_
        exact ⟨_, congrArg (fun d => a.put d (.pointer (some ⟨Y, 0, none⟩))) (by kernel_rfl), hC, rfl, fun j u h => h, p910_no (by omega) _ _ _ _⟩
      · refine op_load 38 (.tmp 23) (some 24) (by unfold opIs; kernel_rfl) _ (.agg #[.slice r1 (frB x).C.length c1, .slice r2 (frB x).U.length c2, .slice r3 (frB x).S.length c3, .int .i32 EE]) (hrd 3 23 (by kernel_rfl) (by kernel_rfl)) (by have h := HFB.out.stay hC; have b0 := h.cell (j := 0) rfl; have b1 := h.cell (j := 1) rfl; have b2 := h.cell (j := 2) rfl; have b3 := h.cell (j := 3) rfl; go_simp) ?_
        exact ⟨_, congrArg (fun d => a.put d (.agg #[.slice r1 (frB x).C.length c1, .slice r2 (frB x).U.length c2, .slice r3 (frB x).S.length c3, .int .i32 EE])) (by kernel_rfl), hC, rfl, fun j u h => h, p910_no (by omega) _ _ _ _⟩
      · refine op_run (.fieldAddr 41 (.tmp 7) 1) (some 25) (by unfold opIs; kernel_rfl) (.pointer (some ⟨Y, 4, none⟩)) (w' := w') (fun o ho => by unfold execOp; rw [ho]; simp only [(hfar 7 (by kernel_rfl)).trans (show _ = Value.pointer (some ⟨Y, 0, none⟩) by kernel_rfl)]; go_simp) ?_
        exact ⟨_, congrArg (fun d => a.put d (.pointer (some ⟨Y, 4, none⟩))) (by kernel_rfl), hC, rfl, fun j u h => h, p910_no (by omega) _ _ _ _⟩
      · refine op_load 39 (.tmp 25) (some 26) (by unfold opIs; kernel_rfl) _ (.slice r4 vs.length c4) (hrd 5 25 (by kernel_rfl) (by kernel_rfl)) (by have h := HFB.out.stay hC; have b0 := h.cell (j := 4) rfl; go_simp) ?_
        exact ⟨_, congrArg (fun d => a.put d (.slice r4 vs.length c4)) (by kernel_rfl), hC, rfl, fun j u h => h, p910_no (by omega) _ _ _ _⟩
      · refine op_call (.call { callee := .value (.func 27), args := #[.tmp 26], argTypes := #[39] }) (some 27) (by unfold opIs; kernel_rfl) 27 #[.slice r4 vs.length c4] (fun o ho => by unfold execOp; rw [ho]; simp only [resolve, List.map_toArray, List.map_cons, List.map_nil, show a.eval (.tmp 26) = _ from hrd 6 26 (by kernel_rfl) (by kernel_rfl)]; kernel_rfl) K1 ?_
        rintro e w'' ⟨v', rfl, ho, hb⟩
        exact ⟨_, rfl, _, congrArg (fun d => a.put d _) (by kernel_rfl), hC.trans (hb.mono hC.size), owns_mono ho hC.size, RP.stay hb, p910_no (by omega) _ _ _ _⟩
      · have e1 := hrd 4 24 (by kernel_rfl) (by kernel_rfl)
        have e2 : w'.ownsRow V.heap.size 66 2 (a.eval (.tmp 27)) vs.length (vs.flatMap jc) := hrd 7 27 (by kernel_rfl) (by kernel_rfl)
        obtain ⟨q5, n5, g5⟩ := owns_form e2
        rw [g5] at e2
        refine op_run (.build 41 #[(0, .tmp 24), (1, .tmp 27)]) (some 28) (by unfold opIs; kernel_rfl) (.agg #[.slice r1 (frB x).C.length c1, .slice r2 (frB x).U.length c2, .slice r3 (frB x).S.length c3, .int .i32 EE, .slice q5 vs.length n5]) (w' := w') (fun o ho => by
          unfold execOp; rw [ho]
          simp only [List.map_toArray, List.map_cons, List.map_nil, show a.eval (.tmp 24) = _ from e1, g5]
          go_simp) ?_
        exact ⟨_, congrArg (fun d => a.put d (.agg #[.slice r1 (frB x).C.length c1, .slice r2 (frB x).U.length c2, .slice r3 (frB x).S.length c3, .int .i32 EE, .slice q5 vs.length n5])) (by kernel_rfl), hC, ⟨_, rfl, e2⟩, fun j u h => h, p910_no (by omega) _ _ _ _⟩
      · refine op_run (.alloc 41) (some 8) (by unfold opIs; kernel_rfl) (.pointer (some ⟨w'.heap.size, 0, none⟩)) (w' := w'.alloc (.cells #[.slice none 0 0, .slice none 0 0, .slice none 0 0, .int .i32 0, .slice none 0 0] 41)) (fun o ho => by unfold execOp; rw [ho]; go_simp) ?_
        have hb := (Below.refl w'.heap.size w').alloc (Nat.le_refl _) (.cells #[.slice none 0 0, .slice none 0 0, .slice none 0 0, .int .i32 0, .slice none 0 0] 41)
        refine ⟨_, congrArg (fun d => a.put d (.pointer (some ⟨w'.heap.size, 0, none⟩))) (by kernel_rfl), hC.trans (hb.mono hC.size), ⟨_, _, _, _, _, _, rfl, hC.size, HBox.new w' [.slice none 0 0, .slice none 0 0, .slice none 0 0, .int .i32 0, .slice none 0 0] _⟩, RP.stay hb, fun j u hj hne hnd hR hval => ?_⟩
        by_cases e : j = 10
        · subst e
          obtain ⟨g, _, _, _, _, _, e1, _, e3⟩ := hR
          have hlt := e3.size
          have hn : u ≠ .pointer (some ⟨w'.heap.size, 0, none⟩) := fun h => by rw [e1] at h; injection h with h; injection h with h; injection h with h _ _; omega
          exact ⟨⟨fun _ => hn, fun h => by omega⟩, ⟨fun _ h => hn h.symm, fun h => by omega⟩⟩
        · by_cases e11 : j = 11
          · subst e11
            have hbad : false = true := hnd.symm.trans (by kernel_rfl)
            cases hbad
          · exact ⟨⟨fun h => by omega, fun h => by omega⟩, ⟨fun h => by omega, fun h => by omega⟩⟩
      · refine op_run (.alloc 41) (some 9) (by unfold opIs; kernel_rfl) (.pointer (some ⟨w'.heap.size, 0, none⟩)) (w' := w'.alloc (.cells #[.slice none 0 0, .slice none 0 0, .slice none 0 0, .int .i32 0, .slice none 0 0] 41)) (fun o ho => by unfold execOp; rw [ho]; go_simp) ?_
        have hb := (Below.refl w'.heap.size w').alloc (Nat.le_refl _) (.cells #[.slice none 0 0, .slice none 0 0, .slice none 0 0, .int .i32 0, .slice none 0 0] 41)
        refine ⟨_, congrArg (fun d => a.put d (.pointer (some ⟨w'.heap.size, 0, none⟩))) (by kernel_rfl), hC.trans (hb.mono hC.size), ⟨_, _, _, _, _, _, rfl, hC.size, HBox.new w' [.slice none 0 0, .slice none 0 0, .slice none 0 0, .int .i32 0, .slice none 0 0] _⟩, RP.stay hb, fun j u hj hne hnd hR hval => ?_⟩
        by_cases e : j = 9
        · subst e
          obtain ⟨g, _, _, _, _, _, e1, _, e3⟩ := hR
          have hlt := e3.size
          have hn : u ≠ .pointer (some ⟨w'.heap.size, 0, none⟩) := fun h => by rw [e1] at h; injection h with h; injection h with h; injection h with h _ _; omega
          exact ⟨⟨fun _ => hn, fun h => by omega⟩, ⟨fun _ h => hn h.symm, fun h => by omega⟩⟩
        · exact ⟨⟨fun h => by omega, fun h => by omega⟩, ⟨fun h => by omega, fun h => by omega⟩⟩
      · obtain ⟨g, k0, k1, k2, k3, k4, e9, hgB, hbox⟩ := hrd 9 8 (by kernel_rfl) (by kernel_rfl)
        have e2 := hrd 2 22 (by kernel_rfl) (by kernel_rfl)
        have G := grown_sets5 w' g (.slice r1 (frB x).C.length c1) (.slice r2 (frB x).U.length c2) (.slice r3 (frB x).S.length c3) (.int .i32 EE) (.slice none 0 0)
        have H5 := hbox.set5 (.slice r1 (frB x).C.length c1) (.slice r2 (frB x).U.length c2) (.slice r3 (frB x).S.length c3) (.int .i32 EE) (.slice none 0 0)
        refine op_store (w' := (((((w'.setCell ⟨g, 0, none⟩ (.slice r1 (frB x).C.length c1)).setCell ⟨g, 1, none⟩ (.slice r2 (frB x).U.length c2)).setCell ⟨g, 2, none⟩ (.slice r3 (frB x).S.length c3)).setCell ⟨g, 3, none⟩ (.int .i32 EE)).setCell ⟨g, 4, none⟩ (.slice none 0 0))) 41 (.tmp 8) (.tmp 22) none (by unfold opIs; kernel_rfl) _ _ e9 e2 (by
          have b0 := hbox.cell (j := 0) rfl
          have b1 := hbox.cell (j := 1) rfl
          have b2 := hbox.cell (j := 2) rfl
          have b3 := hbox.cell (j := 3) rfl
          have b4 := hbox.cell (j := 4) rfl
          have z0 := hbox.frozen 0
          have z1 := hbox.frozen 1
          have z2 := hbox.frozen 2
          have z3 := hbox.frozen 3
          have z4 := hbox.frozen 4
          go_simp) ?_
        refine ⟨.pointer (some ⟨g, 0, none⟩), (congrArg (fun d => a.put d (.pointer (some ⟨g, 0, none⟩))) (show none = _ by kernel_rfl)), hC.grown G hC.size (fun k hk => by cases hk; omega), ⟨g, rfl, H5⟩, RP.store G hbox H5, fun j u hj hne hnd hR hval => ?_⟩
        by_cases e : j = 9
        · subst e
          have := hval 8 (by kernel_rfl) (by kernel_rfl)
          rw [e9] at this
          exact ⟨⟨fun h => by omega, fun _ => this.symm⟩, ⟨fun h => by omega, fun _ => this⟩⟩
        · exact ⟨⟨fun h => by omega, fun h => by omega⟩, ⟨fun h => by omega, fun h => by omega⟩⟩
    · intro b w' hC hR hP
      have e2 : b 2 = _ := hR 2 (by omega)
      obtain ⟨vT, e8, oT⟩ := hR 8 (by omega)
      obtain ⟨rT, cT, rfl⟩ := owns_form oT
      obtain ⟨g1, _, _, _, _, _, e9, hg1, _⟩ := hR 9 (by omega)
      obtain ⟨g2, k0, k1, k2, k3, k4, e10, hg2, hz2'⟩ := hR 10 (by omega)
      obtain ⟨g3, e11, hz3⟩ := hR 11 (by omega)
      have hne := (hP 9 10 (by omega) (by omega) (by omega)).1 (.inl ⟨rfl, rfl⟩)
      have heq := (hP 9 11 (by omega) (by omega) (by omega)).2 (.inl ⟨rfl, rfl⟩)
      rw [e9, e10] at hne
      rw [e9, e11] at heq
      have hg3 : g1 = g3 := by injection heq with h; injection h with h; injection h with h _ _
      subst hg3
      have hgg : g1 ≠ g2 := fun h => hne (by rw [h])
      simp only [List.take_succ_cons, List.take_zero, List.drop_succ_cons, List.drop_zero, putL, if_true, Nat.reduceAdd, Act.put, List.getElem_toArray, List.getElem_cons_zero, List.getElem_cons_succ, List.setIfInBounds_toArray, List.set_cons_zero, List.set_cons_succ]
      rw [e2, e8, e9, e10]
      clear e2 e8 e9 e10 e11 heq hne hP hR
      have b0 := hz2'.cell (j := 0) rfl
      have b1 := hz2'.cell (j := 1) rfl
      have b2 := hz2'.cell (j := 2) rfl
      have b3 := hz2'.cell (j := 3) rfl
      have b4 := hz2'.cell (j := 4) rfl
      have z0 := hz2'.frozen 0
      have z1 := hz2'.frozen 1
      have z2 := hz2'.frozen 2
      have z3 := hz2'.frozen 3
      have z4 := hz2'.frozen 4
      have G := grown_sets5 w' g2 (.slice r1 (frB x).C.length c1) (.slice r2 (frB x).U.length c2) (.slice r3 (frB x).S.length c3) (.int .i32 EE) (.slice rT vs.length cT)
      have N1 := Lib.hid (hz3.grown G (fun h => hgg (Option.some.inj h)))
      have N2 := Lib.hid (hz2'.set5 (.slice r1 (frB x).C.length c1) (.slice r2 (frB x).U.length c2) (.slice r3 (frB x).S.length c3) (.int .i32 EE) (.slice rT vs.length cT))
      have N3 := Lib.hid (hC.grown G hC.size (fun k hk => by cases hk; omega))
      have N4 := Lib.hid (oT.kept G (owns_box_far oT hz2' (by decide)))
      have HGG := Lib.hid (And.intro hgg (And.intro hg1 hg2))
      have HG1S : Hid (g1 < w'.heap.size) := Lib.hid hz3.size
      have HVS : Hid (w'.heap.size = (((((w'.setCell ⟨g2, 0, none⟩ (.slice r1 (frB x).C.length c1)).setCell ⟨g2, 1, none⟩ (.slice r2 (frB x).U.length c2)).setCell ⟨g2, 2, none⟩ (.slice r3 (frB x).S.length c3)).setCell ⟨g2, 3, none⟩ (.int .i32 EE)).setCell ⟨g2, 4, none⟩ (.slice rT vs.length cT)).heap.size) := Lib.hid (by simp)
      go_upto_region 7 with fail
      clear b0 b1 b2 b3 b4 z0 z1 z2 z3 z4 G hz2' hz3 hC oT hgg hg1 hg2
      generalize (((((w'.setCell ⟨g2, 0, none⟩ (.slice r1 (frB x).C.length c1)).setCell ⟨g2, 1, none⟩ (.slice r2 (frB x).U.length c2)).setCell ⟨g2, 2, none⟩ (.slice r3 (frB x).S.length c3)).setCell ⟨g2, 3, none⟩ (.int .i32 EE)).setCell ⟨g2, 4, none⟩ (.slice rT vs.length cT)) = V6 at *
      have HT1 := Lib.hid (owns_box_far N4.out N1.out (by decide))
      have PY := Lib.hid (HFB.out.stay N3.out)
      have PJ := Lib.hid (HJ7.out.stay N3.out)
      have PF := Lib.hid (HF7.out.stay N3.out)
      have PB := Lib.hid (HB7.out.trans (N3.out.mono HB7.out.size))
      have HYV := Lib.hid HFB.out.size
      have b4 := PY.out.cell (j := 4) rfl
      obtain ⟨m, hm⟩ : ∃ m, vs.length = m := ⟨_, rfl⟩
      have HMV := Lib.hid hm
      rw [hm] at N2 N4 HT1 PY PJ hvl b4 HFB HJ7 ⊢
      clear hm
      go_wp2_with fail
      clear b4
      go_loopw [32] (fun i wr => ∃ (k : Nat) (sel : List Jm) (n : Nat) (r : Option Addr) (cap : Nat), i = .int .i64 k ∧ k ≤ m ∧ n ≤ k ∧ Hid (n = sel.length) ∧ Hid (sel.Sublist (vs.take k)) ∧ Hid (HBox wr g1 [.slice r1 (frB x).C.length c1, .slice r2 (frB x).U.length c2, .slice r3 (frB x).S.length c3, .int .i32 EE, .slice r n cap] 41) ∧ Hid (wr.ownsRow V6.heap.size 66 2 (.slice r n cap) n (sel.flatMap jc)) ∧ Hid (V6.grownBy wr (some g1))) (fun i _ => m - (intOf i).toNat)
      case atStart => exact ⟨0, [], 0, none, 0, rfl, Nat.zero_le _, Nat.zero_le _, Lib.hid rfl, Lib.hid (List.nil_sublist _), N1, Lib.hid (World.ownsRow_nil _ _ _ _), Lib.hid (World.grownBy.refl _ _)⟩
      case round =>
        clear N1
        obtain ⟨k, sel, n, r, cap, rfl, hk, hn, HNL, HSB, HX1, HO, HG⟩ := hrel
        rename World => wr
        have hvw := N3.out.grown HG.out N3.out.size (fun j hj => by cases hj; exact HGG.out.2.1)
        have HVW := Lib.hid hvw
        have HJr := Lib.hid (HJ7.out.stay hvw)
        clear hvw
        by_cases hlt : k < m
        · obtain ⟨p, hp⟩ : ∃ p, vs[k]? = some p := ⟨vs[k]'(by have := HMV.out; omega), List.getElem?_eq_getElem (by have := HMV.out; omega)⟩
          obtain ⟨g, off, cp, er, hg, hcp, c0, c1', hRl⟩ := HJr.out.at hp
          rw [HMV.out] at er
          cases er
          obtain ⟨rl, cl, hvl2, hml⟩ := hRl.form
          have hjp : jc p = [.int .i32 p.1, .slice rl p.2.2.length cl] := by unfold jc; rw [hvl2]
          rw [hvl2] at c1'
          obtain ⟨dd, hdd⟩ : ∃ d, p.1 = d := ⟨_, rfl⟩
          rw [hdd] at c0 hjp
          obtain ⟨LL, hLL⟩ : ∃ n, p.2.2.length = n := ⟨_, rfl⟩
          rw [hLL] at c1' hjp
          have HJP := Lib.hid hjp
          have HP := Lib.hid hp
          obtain ⟨q, hq⟩ : ∃ q, k % 16 = q := ⟨_, rfl⟩
          have hq16 : q < 16 := by rw [← hq]; exact Nat.mod_lt _ (by omega)
          have t1 : (k : Int).tmod 16 = (q : Int) := by rw [Int.tmod_eq_emod_of_nonneg (by omega)]; omega
          have t2 : (k : Int) % 16 = (q : Int) := by omega
          have t3 : IntKind.i64.wrap (q : Int) = (q : Int) := by rw [IntKind.wrap_i64]; omega
          clear hp hRl hvl2 hjp hdd hLL hq
          go_upto_region 10 with fail
          have hbw := (Below.refl wr.heap.size wr).alloc (Nat.le_refl _) (.cells #[.int .i32 dd, .slice rl LL cl] 66)
          have hjb := HBox.new wr [.int .i32 dd, .slice rl LL cl] 66
          change HBox (wr.alloc (.cells #[.int .i32 dd, .slice rl LL cl] 66)) _ _ _ at hjb
          have HX2 := Lib.hid (HX1.out.stay hbw)
          have HO2 := Lib.hid (owns_below HO.out hbw)
          have HG2 := Lib.hid (grown_below HG.out hbw)
          clear hbw c0 c1' HX1 HO HG HVW HJr hg
          generalize wr.alloc (.cells #[.int .i32 dd, .slice rl LL cl] 66) = W1 at *
          generalize wr.heap.size = JY at *
          have y0 := hjb.cell (j := 0) rfl
          have y1 := hjb.cell (j := 1) rfl
          have x4 := HX2.out.cell (j := 4) rfl
          have f4 := HX2.out.frozen 4
          clear hjb
          go_upto_region 11 with fail
          case roundEnd => exact ⟨⟨k + 1, sel, n, r, cap, by go_num, by omega, by omega, HNL, Lib.hid (sub_next HSB.out), HX2, HO2, HG2⟩, by simp [intOf]; omega⟩
          go_wp2_with (at_builtin; refine wpList_append_own_at _ rfl (.tmp 44) (.tmp 46) 39 rfl V6.heap.size 66 i0 _ 2 32 Tryz.underlying39 hi hz0 hz1 hz2 rfl (by decide) _ n _ rfl (HO2.out.alloc _) ⟨_, 0, none⟩ 1 1 [.int .i32 dd, .slice rl LL cl] rfl rfl (cells_new _ [.int .i32 dd, .slice rl LL cl] _) (fun v hv => by simp at hv; rcases hv with rfl | rfl <;> rfl) (by unfold maxLen; omega) (by omega) (by have := HG2.out.size; simp; omega) ?_; intro v3 w3 hown3 hgrow3 _ hat3
                       have hbw := (Below.refl W1.heap.size W1).alloc (Nat.le_refl _) (.cells #[.int .i32 dd, .slice rl LL cl] 66)
                       have hg1s : g1 < V6.heap.size := by have h1 := HG1S.out; have h2 := HVS.out; omega
                       have hb3 := (HX2.out.stay hbw).grown hgrow3 (fun h => owns_far HO2.out (m := g1) (.inl hg1s) h.symm)
                       have HG3 := Lib.hid (grown_row (grown_below HG2.out hbw) hgrow3 (fun k e => (HO2.out.lt k e).1))
                       have HO3 := Lib.hid hown3
                       obtain ⟨r3', cap3, rfl⟩ := owns_form hown3
                       have u4 := hb3.cell (j := 4) rfl
                       have v4 := hb3.frozen 4
                       have HX3 := Lib.hid hb3
                       clear hgrow3 hown3 hat3 hbw hb3)
          go_roundw
          case rel =>
            have hg1s : g1 < V6.heap.size := by have h1 := HG1S.out; have h2 := HVS.out; omega
            have hg' : w3.grownBy (w3.setCell ⟨g1, 4, none⟩ (.slice r3' (n + 1) cap3)) (some g1) := grownBy_set w3 ⟨g1, 4, none⟩ _
            exact ⟨k + 1, sel ++ [p], n + 1, r3', cap3, by go_num, by omega, by omega, Lib.hid (by rw [List.length_append, ← HNL.out]; rfl), Lib.hid (sub_push HSB.out HP.out), Lib.hid (HX3.out.set 4 _), Lib.hid (by rw [flat_snoc, HJP.out]; exact HO3.out.kept hg' (.inr (owns_far HO3.out (m := g1) (.inl hg1s)))), Lib.hid (HG3.out.trans hg')⟩
          case measure => simp [intOf]; omega
        · obtain rfl : k = m := by omega
          have hsv : sel.Sublist vs := by have h := HSB.out; rwa [List.take_of_length_le (by rw [HMV.out]; exact Nat.le_refl _)] at h
          have hn12 : n ≤ 12 := by omega
          have hjs : JRow wr (.slice r n cap) sel := ⟨recs_of_owns jc_len HO.out HNL.out (by omega), fun p hp => HJr.out.2 p (hsv.subset hp)⟩
          have hbw := HB7.out.trans (HVW.out.mono HB7.out.size)
          have K8 := KB.out (.slice r1 (frB x).C.length c1) (.slice r2 (frB x).U.length c2) (.slice r3 (frB x).S.length c3) (.slice r n cap) sel wr hbw (HF7.out.stay HVW.out) hjs (by have := hsv.length_le; have := HMV.out; omega) (fun p hp => by have := HLB.out p (hsv.subset hp); omega)
          rw [sub_ok (light_of HLT.out).1 (by have := (light_of HLT.out).2.2.2.2; omega) HMK.out hsv] at K8
          have K9 := Lib.hid K8
          have HTR := Lib.hid (N4.out.kept HG.out HT1.out)
          have HG2B := Lib.hid (N2.out.grown HG.out (fun h => HGG.out.1 (Option.some.inj h).symm))
          have HYB := Lib.hid (HFB.out.stay HVW.out)
          have HBW := Lib.hid hbw
          have x0 := HX1.out.cell (j := 0) rfl
          have x1 := HX1.out.cell (j := 1) rfl
          have x2 := HX1.out.cell (j := 2) rfl
          have x3 := HX1.out.cell (j := 3) rfl
          have x4 := HX1.out.cell (j := 4) rfl
          clear hsv hn12 hjs hbw K8 HO HX1 HG HSB HNL
          go_upto_region 15 with (go_at_call 13; refine K9.out.mono ?_; rintro e w8 ⟨rfl, h8⟩; have HT8 := Lib.hid (owns_below HTR.out h8); have HG8 := Lib.hid (HG2B.out.stay h8); have HY8 := Lib.hid (HYB.out.stay h8); have HJ8 := Lib.hid (HJr.out.stay h8); have HV8 := Lib.hid (HVW.out.trans (h8.mono HVW.out.size)); have HB8 := Lib.hid (HBW.out.trans (h8.mono HBW.out.size)); clear h8)
          clear x0 x1 x2 x3 x4 K9 HTR HG2B HYB HBW HVW HJr
          have b4 := HY8.out.cell (j := 4) rfl
          by_cases hm2 : k < 2
          · have e1 : (k : Int) < 2 := by omega
            go_wp2_with fail
            go_ret
            exact ⟨rfl, HB8.out⟩
          · obtain ⟨mm, rfl⟩ : ∃ mm, k = mm + 2 := ⟨k - 2, by omega⟩
            have e1 : ¬ ((mm : Int) + 2 < 2) := by omega
            obtain ⟨kk, hkk⟩ : ∃ kk, at_ % (mm + 1) = kk := ⟨_, rfl⟩
            have hkl : kk < mm + 1 := by rw [← hkk]; exact Nat.mod_lt _ (by omega)
            have e2 : (at_ : Int).tmod ((mm : Int) + 1) = (kk : Int) := by have := (mod_int hkk).1; simpa using this
            have e3 : (at_ : Int) % ((mm : Int) + 1) = (kk : Int) := by have := (mod_int hkk).2; simpa using this
            have e4 : IntKind.i64.wrap (at_ : Int) = (at_ : Int) := by rw [IntKind.wrap_i64]; omega
            have e5 : (mm : Int) + 2 - 1 = (mm : Int) + 1 := by omega
            have e6 : ¬ ((mm : Int) + 1 = 0) := by omega
            clear hkk
            obtain ⟨p, hp⟩ : ∃ p, vs[kk]? = some p := ⟨vs[kk]'(by have := HMV.out; omega), List.getElem?_eq_getElem (by have := HMV.out; omega)⟩
            obtain ⟨q, hq⟩ : ∃ q, vs[kk + 1]? = some q := ⟨vs[kk + 1]'(by have := HMV.out; omega), List.getElem?_eq_getElem (by have := HMV.out; omega)⟩
            obtain ⟨A, B, hvs, hA⟩ := two_at hp hq
            have KS := Lib.hid (swap_chk (light_of HLT.out).1 (by have := (light_of HLT.out).2.2.2.2; omega) HMK.out hvs)
            have HVS2 := Lib.hid hvs
            have HA2 := Lib.hid hA
            obtain ⟨gT, cT', eT⟩ : ∃ g c, (Value.slice rT (mm + 2) cT) = .slice (some ⟨g, 0, none⟩) (mm + 2) c := by
              rcases HT8.out.2 with ⟨_, h0⟩ | ⟨g, c, cur, hv, _⟩
              · omega
              · exact ⟨g, c, hv⟩
            cases eT
            have HT := HT8.out
            obtain ⟨gp, offp, cpp, erp, hgp, hcp, cp0, cp1, hRp⟩ := HJ8.out.at hp
            obtain ⟨gq, offq, cpq, erq, hgq, hcq, cq0, cq1, hRq⟩ := HJ8.out.at hq
            rw [HMV.out] at erp erq
            cases erp
            cases erq
            obtain ⟨rp, cp, hvp, hmp⟩ := hRp.form
            obtain ⟨rq, cq, hvq, hmq⟩ := hRq.form
            have t0 : w8.cell? ⟨gT, kk * 2, none⟩ = some (.int .i32 p.1) := by rw [HT.cellAt _ (by omega)]; exact flat_get jc_len (j := 0) hp rfl
            have t1 : w8.cell? ⟨gT, kk * 2 + 1, none⟩ = some p.2.1 := by rw [HT.cellAt _ (by omega)]; exact flat_get jc_len (j := 1) hp rfl
            have t2 : w8.cell? ⟨gT, (kk + 1) * 2, none⟩ = some (.int .i32 q.1) := by rw [HT.cellAt _ (by omega)]; exact flat_get jc_len (j := 0) hq rfl
            have t3 : w8.cell? ⟨gT, (kk + 1) * 2 + 1, none⟩ = some q.2.1 := by rw [HT.cellAt _ (by omega)]; exact flat_get jc_len (j := 1) hq rfl
            have z0 := HT.frozenAt (kk * 2)
            have z1 := HT.frozenAt (kk * 2 + 1)
            have z2 := HT.frozenAt ((kk + 1) * 2)
            have z3 := HT.frozenAt ((kk + 1) * 2 + 1)
            have hx2 : ¬ gT = g2 := by
              have := owns_type_far HT HG8.out (by decide)
              intro e; subst e; exact this rfl
            have hx2' : ¬ g2 = gT := fun e => hx2 e.symm
            have x4 := HG8.out.cell (j := 4) rfl
            rw [hvp] at t1
            rw [hvq] at t3
            obtain ⟨dp, hdp⟩ : ∃ d, p.1 = d := ⟨_, rfl⟩
            obtain ⟨dq, hdq⟩ : ∃ d, q.1 = d := ⟨_, rfl⟩
            obtain ⟨Lp, hLp⟩ : ∃ d, p.2.2.length = d := ⟨_, rfl⟩
            obtain ⟨Lq, hLq⟩ : ∃ d, q.2.2.length = d := ⟨_, rfl⟩
            rw [hdp] at t0
            rw [hLp] at t1
            rw [hdq] at t2
            rw [hLq] at t3
            have HPP := Lib.hid (And.intro hdp (And.intro hdq (And.intro hvp hvq)))
            have HLL := Lib.hid (And.intro hLp hLq)
            have HP := Lib.hid hp
            have HQ := Lib.hid hq
            have HX2 := Lib.hid hx2
            have k1 : kk < mm + 2 := by omega
            have k2 : kk + 1 < mm + 2 := by omega
            have kw : IntKind.i64.wrap ((kk : Int) + 1) = (kk : Int) + 1 := by rw [IntKind.wrap_i64]; omega
            have kn : ((kk : Int) + 1).toNat = kk + 1 := by omega
            have kr3 : (kk : Int) < (mm : Int) + 2 := by omega
            have kr1 : (0 : Int) ≤ (kk : Int) + 1 := by omega
            have kr2 : (kk : Int) + 1 < (mm : Int) + 2 := by omega
            clear hdp hdq hLp hLq hvp hvq hRp hRq hvs hA HT cp0 cp1 cq0 cq1 hp hq hgp hgq hmp hmq
            go_upto_region 18 with fail
            refine wp_region_new 20 19 [12, 17] undef ((w8.drew.setCell ⟨gT, kk * 2, none⟩ (.int .i32 dq)).setCell ⟨gT, kk * 2 + 1, none⟩ (.slice rq Lq cq)) hmix ?h1 (by omega) ?h3 ?h4 ?h5 ?h6 ?h7
            case h1 => decide
            case h3 => kernel_rfl
            case h4 => kernel_rfl
            case h5 => kernel_rfl
            case h6 => kernel_rfl
            simp only [List.take_succ_cons, List.take_zero, List.drop_succ_cons, List.drop_zero]
            repeat (first | (refine two_skip rfl ?_) | (refine two_ahead rfl rfl (fun K hK => ?_); go_simp; refine hK _ ?_; clear hK K) | (refine two_step rfl rfl (fun K hK => ?_); go_simp; refine hK _ ?_; clear hK K))
            refine two_nil ⟨fun o ho => by cases ho; right; exact ⟨by go_simp, by trivial⟩, ?_⟩
            simp only [dstB, List.getElem?_cons_succ, List.getElem?_cons_zero, Option.bind_some]
            go_upto_region 19 with fail
            clear t0 t1 t2 t3 z0 z1 z2 z3 x4 b4
            have s1 := HT8.out.stored (kk * 2) (.int .i32 dq)
            have s2 := s1.1.stored (kk * 2 + 1) (.slice rq Lq cq)
            have s3 := s2.1.stored ((kk + 1) * 2) (.int .i32 dp)
            have s4 := s3.1.stored ((kk + 1) * 2 + 1) (.slice rp Lp cp)
            have gr := ((s1.2.trans s2.2).trans s3.2).trans s4.2
            have o9 := s4.1
            have e2' : ((((vs.flatMap jc).set (kk * 2) (.int .i32 dq)).set (kk * 2 + 1) (.slice rq Lq cq)).set ((kk + 1) * 2) (.int .i32 dp)).set ((kk + 1) * 2 + 1) (.slice rp Lp cp) = (A ++ q :: p :: B).flatMap jc := by
              rw [show (kk + 1) * 2 + 1 = kk * 2 + 3 from by omega, show (kk + 1) * 2 = kk * 2 + 2 from by omega, ← swap_flat (B := B) HA2.out, ← HVS2.out, HPP.out.2.2.1, HPP.out.2.2.2, HPP.out.1, HPP.out.2.1, HLL.out.1, HLL.out.2]
            rw [e2'] at o9
            have hvw := (HV8.out.grown gr HV8.out.size (fun j hj => by cases hj; exact (HT8.out.lt gT rfl).1)).drew
            have g9 := HG8.out.grown gr (fun h => HX2.out (Option.some.inj h).symm)
            have HO9 := Lib.hid (show World.ownsRow (((((w8.setCell ⟨gT, kk * 2, none⟩ (.int .i32 dq)).setCell ⟨gT, kk * 2 + 1, none⟩ (.slice rq Lq cq)).setCell ⟨gT, (kk + 1) * 2, none⟩ (.int .i32 dp)).setCell ⟨gT, (kk + 1) * 2 + 1, none⟩ (.slice rp Lp cp)).drew) V.heap.size 66 2 (.slice (some ⟨gT, 0, none⟩) (mm + 2) cT) (mm + 2) ((A ++ q :: p :: B).flatMap jc) from o9)
            have HG9 := Lib.hid (show HBox (((((w8.setCell ⟨gT, kk * 2, none⟩ (.int .i32 dq)).setCell ⟨gT, kk * 2 + 1, none⟩ (.slice rq Lq cq)).setCell ⟨gT, (kk + 1) * 2, none⟩ (.int .i32 dp)).setCell ⟨gT, (kk + 1) * 2 + 1, none⟩ (.slice rp Lp cp)).drew) g2 [.slice r1 (frB x).C.length c1, .slice r2 (frB x).U.length c2, .slice r3 (frB x).S.length c3, .int .i32 EE, .slice (some ⟨gT, 0, none⟩) (mm + 2) cT] 41 from g9)
            have HVW := Lib.hid hvw
            clear s1 s2 s3 s4 gr o9 e2' hvw g9
            generalize ((((w8.setCell ⟨gT, kk * 2, none⟩ (.int .i32 dq)).setCell ⟨gT, kk * 2 + 1, none⟩ (.slice rq Lq cq)).setCell ⟨gT, (kk + 1) * 2, none⟩ (.int .i32 dp)).setCell ⟨gT, (kk + 1) * 2 + 1, none⟩ (.slice rp Lp cp)).drew = W9 at *
            have hj9 := HJ7.out.stay HVW.out
            have hsl := swap_len HVS2.out HMV.out
            have hsm := swap_mem HVS2.out
            have KT : Hid (∀ w', Below W9.heap.size W9 w' → Calls Tryz.prog 13 #[.agg #[.slice r1 (frB x).C.length c1, .slice r2 (frB x).U.length c2, .slice r3 (frB x).S.length c3, .int .i32 EE, .slice (some ⟨gT, 0, none⟩) (mm + 2) cT]] w' fun e w'' => e = .returned (.int .i64 (if dp = dq then 0 else 6)) ∧ Below w'.heap.size w' w'') := Lib.hid (fun w' h => by
              have hbw := HVW.out.trans (h.mono HVW.out.size)
              have K := KB.out (.slice r1 (frB x).C.length c1) (.slice r2 (frB x).U.length c2) (.slice r3 (frB x).S.length c3) (.slice (some ⟨gT, 0, none⟩) (mm + 2) cT) (A ++ q :: p :: B) w' (HB7.out.trans (hbw.mono HB7.out.size)) (HF7.out.stay hbw) ⟨recs_of_owns jc_len (owns_below HO9.out h) hsl.symm (by omega), fun j hj => (HJ7.out.stay hbw).2 j (hsm j hj)⟩ (by omega) (fun j hj => by have := HLB.out j (hsm j hj); omega)
              rw [KS.out, HPP.out.1, HPP.out.2.1] at K
              exact K)
            have hj9 := HJ7.out.stay HVW.out
            obtain ⟨gp', offp', cpp', erp, hgp, hcp, cp0, _, _⟩ := hj9.at HP.out
            obtain ⟨gq', offq', cpq', erq, hgq, hcq, cq0, _, _⟩ := hj9.at HQ.out
            rw [HMV.out] at erp erq
            cases erp
            cases erq
            rw [HPP.out.1] at cp0
            rw [HPP.out.2.1] at cq0
            have hy9 := HFB.out.stay HVW.out
            have hbw9 := HB7.out.trans (HVW.out.mono HB7.out.size)
            have HB9 := Lib.hid hbw9
            have d0 := fun d os => cell_regrown cp0 d os
            have d1 := fun d os => cell_regrown cq0 d os
            have d2 := fun d os => cell_regrown (hy9.cell (j := 4) rfl) d os
            have d3 := fun d os => cell_regrown (HG9.out.cell (j := 0) rfl) d os
            have d4 := fun d os => cell_regrown (HG9.out.cell (j := 1) rfl) d os
            have d5 := fun d os => cell_regrown (HG9.out.cell (j := 2) rfl) d os
            have d6 := fun d os => cell_regrown (HG9.out.cell (j := 3) rfl) d os
            have d7 := fun d os => cell_regrown (HG9.out.cell (j := 4) rfl) d os
            clear hsl hsm hj9 hgp hcp cp0 hgq hcq cq0 hy9 hbw9
            by_cases hpq : dp = dq
            · subst hpq
              simp only [if_true] at KT
              refine wp_tail_below 18 hmix (by kernel_rfl) ?_
              simp only [List.take_succ_cons, List.take_zero, List.drop_succ_cons, List.drop_zero]
              repeat (first | go_big_quiet_step ((go_at_call 13; with_reducible exact Calls.regrown_of (KT.out _ (below_regrown _ _ _)))) | quiet_step ((go_at_call 13; with_reducible exact Calls.regrown_of (KT.out _ (below_regrown _ _ _)))))
              refine wpQuiet_nil ?_
              intro w3 hw3
              have hb3 : Below W9.heap.size W9 w3 := by obtain ⟨q, rfl⟩ := hw3; exact below_regrown _ _ _
              have HB3 := Lib.hid hb3
              clear hb3 hw3 d0 d1 d2 d3 d4 d5 d6 d7
              go_wp2_with fail
              go_ret
              exact ⟨rfl, HB9.out.trans (HB3.out.mono HB9.out.size)⟩
            · have hpq' : ¬ dq = dp := fun h => hpq h.symm
              have hpe : (dp != dq) = true := by simp [hpq]
              simp only [if_neg hpq] at KT
              refine wp_tail_below 18 hmix (by kernel_rfl) ?_
              simp only [List.take_succ_cons, List.take_zero, List.drop_succ_cons, List.drop_zero]
              repeat (first | go_big_quiet_step ((go_at_call 13; with_reducible exact Calls.regrown_of (KT.out _ (below_regrown _ _ _)))) | quiet_step ((go_at_call 13; with_reducible exact Calls.regrown_of (KT.out _ (below_regrown _ _ _)))))
              refine wpQuiet_nil ?_
              intro w3 hw3
              have hb3 : Below W9.heap.size W9 w3 := by obtain ⟨q, rfl⟩ := hw3; exact below_regrown _ _ _
              have HB3 := Lib.hid hb3
              clear hb3 hw3 d0 d1 d2 d3 d4 d5 d6 d7
              go_wp2_with fail
              go_ret
              exact ⟨rfl, HB9.out.trans (HB3.out.mono HB9.out.size)⟩
end Go.Proofs.YtljjodahfomljaaGreatDoor

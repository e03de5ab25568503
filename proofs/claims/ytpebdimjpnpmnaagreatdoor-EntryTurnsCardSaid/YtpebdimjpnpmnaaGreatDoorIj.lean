/- The walk of law EntryTurns; written by a program (ijgen.py). -/
import Derived.Test.YtpebdimjpnpmnaaGreatDoorIl
import Derived.Test.YtpebdimjpnpmnaaGreatDoorIm
import Derived.Test.YtpebdimjpnpmnaaGreatDoorJh
namespace Go.Proofs.YtpebdimjpnpmnaaGreatDoor
open Go.RowKit
set_option linter.unusedVariables false
set_option linter.unusedSimpArgs false
theorem op_newJ {ops : Array Oper} {Q : Exit → Act → World → Prop} {i : Nat} {K : Act → World → Prop} {a : Act} {w : World} (dst : Option Tmp) (ho : opIs ops i (.alloc 32) dst)
    (hk : K (a.put dst (.pointer (some ⟨w.heap.size, 0, none⟩))) (w.alloc (.cells #[.int .i32 0, .slice none 0 0] 32))) : wpOp Tryz.prog ops Q i K a w := by
  refine op_any ho (fun o h1 h2 => ?_)
  subst h2
  unfold Oper.wp execOp
  simp only [h1]
  go_simp
  exact hk
theorem op_assignT {ops : Array Oper} {Q : Exit → Act → World → Prop} {i : Nat} {K : Act → World → Prop} {a : Act} {w : World} (t : Tmp) (dst : Option Tmp) (ho : opIs ops i (.assign (.tmp t)) dst)
    (hk : K (a.put dst (a.eval (.tmp t))) w) : wpOp Tryz.prog ops Q i K a w := by
  refine op_any ho (fun o h1 h2 => ?_)
  subst h2
  unfold Oper.wp execOp
  simp only [h1, Sem.run_bind, Sem.run_pure, Result.andThen_ok]
  exact hk
theorem MapV.some {v : Value} {M : List (En × Int)} {w : World} (h : MapV v M w) (hne : M ≠ []) : ∃ b, v = .map (some b) ∧ MapOf ec wv9 b M w := by
  rcases h with ⟨_, h⟩ | h
  · exact absurd h hne
  · exact h
theorem mapA_ne {M : List (En × Int)} {ls : List Ln} {L : Nat} (h : ∀ n, getK M n = sumE ls n) (hL : ls.length = L) (h1 : 0 < L) : M ≠ [] := by
  rintro rfl
  cases ls with
  | nil => simp at hL; omega
  | cons x r =>
    have h2 : (sumE (x :: r) x.ent).isSome = true := by
      unfold sumE
      rw [sumK_some]
      simp [ep]
    rw [← h] at h2
    simp [getK] at h2
theorem store_J {w : World} {b : Nat} {c0 c1 : Value} (h : Box2 w b c0 c1) (d : Int) (r : Option Addr) {n cap : Nat} : (Instr.storeAt 32 (.pointer (some ⟨b, 0, none⟩)) (.agg #[.int .i32 d, .slice r n cap])).run Tryz.prog w = .ok () ((w.setCell ⟨b, 0, none⟩ (.int .i32 d)).setCell ⟨b, 1, none⟩ (.slice r n cap)) := by
  obtain ⟨h0, h1, f0, f1, h4⟩ := h
  go_simp
theorem Box2.sets2 {w : World} {b : Nat} {c0 c1 : Value} (h : Box2 w b c0 c1) (u v : Value) : Box2 ((w.setCell ⟨b, 0, none⟩ u).setCell ⟨b, 1, none⟩ v) b u v := (h.set0 u).set1 v
theorem far_sets {W w : World} {base Y : Nat} {e : TypeId} {size : Nat} {x : Value} {n : Nat} {xs : List Value} (h : w.ownsRow base e size x n xs) (hb : Below W.heap.size W w) (hY : x.ownBlock ≠ some Y) (hW : W.heap.size ≤ Y) (u v : Value) :
    ((w.setCell ⟨Y, 0, none⟩ u).setCell ⟨Y, 1, none⟩ v).ownsRow base e size x n xs ∧ Below W.heap.size W ((w.setCell ⟨Y, 0, none⟩ u).setCell ⟨Y, 1, none⟩ v) :=
  ⟨owns_set_far (owns_set_far h ⟨Y, 0, none⟩ u hY) ⟨Y, 1, none⟩ v hY, (hb.setCell (p := ⟨Y, 0, none⟩) hW u).setCell (p := ⟨Y, 1, none⟩) hW v⟩
theorem far_at {u v : Value} {N Y : Nat} (h : u.ownBlock = v.ownBlock ∨ u.ownBlock = some N) (hv : v.ownBlock ≠ some Y) (hN : Y < N) : u.ownBlock ≠ some Y := by
  rcases h with h | h
  · rw [h]; exact hv
  · rw [h]; intro e; have := Option.some.inj e; omega
theorem wp_append_own_at {P : Program} (w : World) {o : Oper} {a : Act} {K : Act → World → Prop} {Q : Exit → Act → World → Prop} (s x : Operand) (t : TypeId)
    (ho : o.op = .call { callee := .builtin .append, args := #[s, x], argTypes := #[t, t] })
    (base : Nat) (e : TypeId) (i : TypeInfo) (z : Value) (size bytes : Nat) (ht : P.underlying t = some (.slice e)) (hi : P.info? e = some i) (hz : i.zero = some z)
    (hsize : i.size = size) (hby : i.bytes = bytes) (hzs : z.cells.size = size) (hsz : 0 < size)
    (v : Value) (n : Nat) (xs : List Value) (hs : a.eval s = v) (hown : w.ownsRow base e size v n xs)
    (ad : Addr) (m c : Nat) (news : List Value) (hx : a.eval x = .slice (some ad) m c) (hl : news.length = m * size) (hnews : ∀ j u, news[j]? = some u → w.cell? (ad.add j) = some u) (h1 : ∀ u ∈ news, u.oneCell' = true)
    (h63 : n + m ≤ maxLen) (hbytes : (n + m) * bytes ≤ 140737488355328) (hbase : base ≤ w.heap.size)
    (h : ∀ v' w', w'.ownsRow base e size v' (n + m) (xs ++ news) → w.grownBy w' v.ownBlock → (v'.ownBlock = v.ownBlock ∨ v'.ownBlock = some w.heap.size) → K (a.put o.dst v') w') : o.wp P a w K Q := by
  obtain ⟨v', w', hr, h2, h3, h4, h5⟩ := run_append_own_at (P := P) w base t o.type e i z size bytes ht hi hz hsize hby hzs hsz v n xs hown ad m c news hl hnews h1 h63 hbytes hbase
  unfold Oper.wp execOp
  simp only [ho, resolve, invoke, builtin, Sem.run_bind, Sem.run_pure, Result.andThen_ok, List.map_toArray, List.map_cons, List.map_nil, hs, hx, hr]
  exact h v' w' h2 h3 h5
def RS (f : En → Option Int) (v : Value) (w : World) : Prop := ∃ M, MapV v M w ∧ ∀ n, getK M n = f n
theorem RS.stay {f : En → Option Int} {v : Value} {w w' : World} (h : RS f v w) (hb : Below w.heap.size w w') : RS f v w' := by
  obtain ⟨M, h1, h2⟩ := h
  exact ⟨M, h1.stay hb, h2⟩
/-- What holds of the nine operations of 's, t, u := a.Sums(), b.Sums(), c.Sums()'. -/
def RT (f g : En → Option Int) (vA vB vC : Value) : Nat → Value → World → Prop
  | 0, v, _ => v = vA
  | 1, v, w => RS f v w
  | 2, v, _ => v = vB
  | 3, v, w => RS f v w
  | 4, v, _ => v = vC
  | 5, v, w => RS g v w
  | 6, v, w => RS f v w
  | 7, v, w => RS f v w
  | 8, v, w => RS g v w
  | _, _, _ => True
theorem RT.stay {f g : En → Option Int} {vA vB vC : Value} {w w' : World} (hb : Below w.heap.size w w') : ∀ (j : Nat) (u : Value), RT f g vA vB vC j u w → RT f g vA vB vC j u w'
  | 0, _, h => h
  | 1, _, h => RS.stay h hb
  | 2, _, h => h
  | 3, _, h => RS.stay h hb
  | 4, _, h => h
  | 5, _, h => RS.stay h hb
  | 6, _, h => RS.stay h hb
  | 7, _, h => RS.stay h hb
  | 8, _, h => RS.stay h hb
  | _ + 9, _, _ => trivial
theorem load_J (w : World) (b : Nat) (c0 c1 : Value) (h : Box2 w b c0 c1) : (Instr.loadAt 32 (.pointer (some ⟨b, 0, none⟩))).run Tryz.prog w = .ok (.agg #[c0, c1]) w := by
  obtain ⟨h0, h1, f0, f1, h4⟩ := h
  go_simp
theorem rest_l (g off n cap i : Nat) (w : World) (c : List Ln) (hR : Recs lc 4 w (.slice (some ⟨g, off, none⟩) n cap) c) (hn : n = c.length) (hl : n ≤ 1000) (hc : n ≤ cap) (hi : i < n) (hg : g < w.heap.size) :
    (∀ w, (Instr.slice 22 (.slice (some ⟨g, off, none⟩) n cap) (some (.int .i64 (i : Int))) none none).run Tryz.prog w = .ok (.slice (some ⟨g, off + i * 4, none⟩) (n - i) (cap - i)) w) ∧ Recs lc 4 w (.slice (some ⟨g, off + i * 4, none⟩) (n - i) (cap - i)) (c.drop i) := by
  have hu : Tryz.prog.underlying 22 = some (.slice (Tryz.prog.elem 22)) := by kernel_rfl
  have hs : ∀ w, (sizeOf (Tryz.prog.elem 22)).run Tryz.prog w = .ok 4 w := fun w => by kernel_rfl
  refine ⟨fun w => ?_, hR.drop hg hn hc hl i (by omega)⟩
  rw [run_slice_l w 22 _ n cap hu .i64 (i : Int) (by omega) (by omega), hs w]
  have e : (⟨g, off, none⟩ : Addr).add (i * 4) = ⟨g, off + i * 4, none⟩ := by unfold Addr.add; split <;> simp_all
  have hne : ¬ cap = i := by omega
  simp only [Result.andThen_ok, sliced, Int.toNat_natCast, hne, if_false, Option.map_some, e]
theorem first_l (g off n cap i : Nat) (w : World) (c : List Ln) (hc : n ≤ cap) (hi : i < n) :
    (∀ w, (Instr.slice 22 (.slice (some ⟨g, off, none⟩) n cap) none (some (.int .i64 (i : Int))) none).run Tryz.prog w = .ok (.slice (some ⟨g, off, none⟩) i cap) w) := by
  have hu : Tryz.prog.underlying 22 = some (.slice (Tryz.prog.elem 22)) := by kernel_rfl
  have hs : ∀ w, (sizeOf (Tryz.prog.elem 22)).run Tryz.prog w = .ok 4 w := fun w => by kernel_rfl
  intro w
  rw [run_slice_h w 22 _ n cap hu .i64 (i : Int) (by omega) (by omega), hs w]
  have e : (⟨g, off, none⟩ : Addr).add (0 * 4) = ⟨g, off, none⟩ := by unfold Addr.add; split <;> simp_all
  have hne : ¬ cap = 0 := by omega
  simp only [Result.andThen_ok, sliced, Int.toNat_natCast, hne, if_false, Option.map_some, e]
  simp
set_option maxHeartbeats 8000000 in
set_option maxRecDepth 100000 in
theorem entryturns_any {I : World → Prop} (C : AllotC) (D : DayC I) (K : KeyC I) (U : UnitC) (LC : CalC I) (EC : EntryC I) (v : Value) (ls : List Ln) (t : Nat) (w : World) (hI : I w) (hR : Recs lc 4 w v ls) (ht : t < 256) :
    Calls Tryz.prog 6 #[v, .int .u8 (t : Int)] w fun e w' => e = .returned (.bool true) ∧ Below w.heap.size w w' := by
  obtain ⟨i0, hi, hz0, hz1, hz2⟩ := info_parts infoL
  obtain ⟨r0, cap0, rfl, hm⟩ := hR.form
  have HW := Lib.hid (awake9_any C D K U LC EC w hI)
  have HR := Lib.hid hR
  have HEC := Lib.hid EC
  have HI := Lib.hid (fun (w' : World) (h : Below w.heap.size w w') => D.stay hI h)
  have hmix : Tryz.prog.follows .mixedOrders = true := by kernel_rfl
  obtain ⟨L, hL⟩ : ∃ L, ls.length = L := ⟨_, rfl⟩
  have HL := Lib.hid hL
  rw [hL] at HR hm ⊢
  clear hR hL C D K U LC hI EC
  go_enter Tryz.func6, Tryz.ntmps6
  by_cases hbig : 30 < L
  · have e1 : (30 : Int) < (L : Int) := by omega
    go_wp2_with (go_at_call 7; refine HW.out.mono ?_; rintro e w1 ⟨rfl, h1⟩; have HB1 := Lib.hid h1; clear h1)
    go_ret
    exact ⟨rfl, HB1.out⟩
  · have e1 : ¬ (30 : Int) < (L : Int) := by omega
    by_cases hL0 : L = 0
    · subst hL0
      go_wp2_with (go_at_call 7; refine HW.out.mono ?_; rintro e w1 ⟨rfl, h1⟩; have HB1 := Lib.hid h1; clear h1)
      go_ret
      exact ⟨rfl, HB1.out⟩
    · have e2 : ((L : Int) == 0) = false := by simp; omega
      have e2' : ¬ ((L : Int) = 0) := by omega
      have hL1 : 0 < L := by omega
      have hL2 : (0 : Int) < (L : Int) := by omega
      obtain ⟨p, hp⟩ : ∃ p, t % L = p := ⟨_, rfl⟩
      have hpL : p < L := by rw [← hp]; exact Nat.mod_lt _ hL1
      have e5 : (t : Int).tmod (L : Int) = (p : Int) := by rw [Int.tmod_eq_emod_of_nonneg (by omega)]; omega
      have e5' : (t : Int) % (L : Int) = (p : Int) := by rw [← hp]; omega
      clear hp
      go_upto_region 7 with (go_at_call 7; refine HW.out.mono ?_; rintro e w1 ⟨rfl, h1⟩; have HB1 := Lib.hid h1; clear h1)
      have hbx := Box2.new w1 (.int .i32 0) (.slice r0 L cap0) 32
      have hba := (Below.refl w1.heap.size w1).alloc (Nat.le_refl _) (.cells #[.int .i32 0, .slice r0 L cap0] 32)
      have HRW := Lib.hid ((HR.out.stay HB1.out).stay hba)
      have HBW := Lib.hid (HB1.out.trans (hba.mono HB1.out.size))
      clear hba HR
      generalize w1.alloc (.cells #[.int .i32 0, .slice r0 L cap0] 32) = W at hbx HRW HBW ⊢
      generalize w1.heap.size = X at hbx ⊢
      have HBX := Lib.hid hbx
      clear hbx
      obtain ⟨g, off, hr0, hg, hcap⟩ : ∃ g off, r0 = some ⟨g, off, none⟩ ∧ g < W.heap.size ∧ L ≤ cap0 := by
        rcases HRW.out with ⟨r', c', h1, h2⟩ | ⟨g, off, c', h1, h2, _, h4, _⟩
        · rw [h2] at HL; have := HL.out; simp at this; omega
        · rw [HL.out] at h4
          cases h1
          exact ⟨g, off, rfl, h2, h4⟩
      subst hr0
      obtain ⟨hsf, hrd⟩ := rest_l g off L cap0 p W ls HRW.out HL.out.symm (by omega) hcap hpL hg
      have hst := first_l g off L cap0 p W ls hcap hpL
      have HRD := Lib.hid hrd
      have hdl : (ls.drop p).length = L - p := by rw [List.length_drop, HL.out]
      have htl : (ls.take p).length = p := by rw [List.length_take, HL.out]; omega
      have HRT := Lib.hid (show (ls.drop p ++ ls.take p).length = L by rw [List.length_append, hdl, htl]; omega)
      have HTL := Lib.hid (show ((ls.take p).flatMap lc).length = p * 4 by rw [flat_len lc_len, htl])
      obtain ⟨X1, hX1⟩ : ∃ X1 : Option Addr, some (⟨g, off + p * 4, none⟩ : Addr) = X1 := ⟨_, rfl⟩
      obtain ⟨X2, hX2⟩ : ∃ X2 : Addr, (⟨g, off, none⟩ : Addr) = X2 := ⟨_, rfl⟩
      have HKC := Lib.hid (fun (w' : World) (h : Below W.heap.size W w') => clone_l (ls.drop p) _ (L - p) (cap0 - p) w' (HRD.out.stay h) hdl (by omega))
      have HTC := Lib.hid (fun (w' : World) (h : Below W.heap.size W w') => (show ∀ j u, ((ls.take p).flatMap lc)[j]? = some u → w'.cell? (X2.add j) = some u from fun j u hu => by
        have e : (⟨g, off, none⟩ : Addr).add j = ⟨g, off + j, none⟩ := by unfold Addr.add; split <;> simp_all
        rw [← hX2, e]
        refine recs_flat lc_len (by omega) ((HRW.out.take hg HL.out.symm hcap (by omega) p (by omega)).stay h) j u hu))
      rw [hX1] at hsf HKC
      rw [hX2] at hst hsf
      have HX2 := Lib.hid hX2
      rw [hX2] at HRW HBX ⊢
      clear hrd hdl htl hX1 hX2 HRD
      go_cut [7] (fun s7 wx => ∃ (Y : Nat) (r9 : Option Addr) (cap9 : Nat), s7 = .pointer (some ⟨Y, 0, none⟩) ∧ Hid (Box2 wx Y (.int .i32 0) (.slice r9 L cap9)) ∧ Hid (Recs lc 4 wx (.slice r9 L cap9) (ls.drop p ++ ls.take p)) ∧ Hid (Below W.heap.size W wx))
      case first =>
        refine wp_region_any (by kernel_rfl) ?_
        change wpAny _ _ _ _ _ _ _ (World.drew _)
        have bl0 : Below W.heap.size W W.drew := (Below.refl _ _).drew
        refine wpAny_take (i := 0) (v := .slice (some X2) L cap0) rfl (by kernel_rfl) (by kernel_rfl) (by kernel_rfl) (fun _ _ _ h => h) (Or.inl ⟨by rfl, ?_⟩) ?_
        · intro w'; go_simp
        refine wpAny_take (i := 1) (v := .int .i64 (p : Int)) rfl (by kernel_rfl) (by kernel_rfl) (by kernel_rfl) (fun _ _ _ h => h) (Or.inl ⟨by rfl, ?_⟩) ?_
        · intro w'; go_simp
        refine wpAny_take (i := 2) (v := .slice X1 (L - p) (cap0 - p)) rfl (by kernel_rfl) (by kernel_rfl) (by kernel_rfl) (fun _ _ _ h => h) (Or.inl ⟨by rfl, ?_⟩) ?_
        · intro w'; go_simp
        refine wpAny_take (i := 4) (v := .slice (some X2) L cap0) rfl (by kernel_rfl) (by kernel_rfl) (by kernel_rfl) (fun _ _ _ h => h) (Or.inl ⟨by rfl, ?_⟩) ?_
        · intro w'; go_simp
        refine wpAny_take (i := 5) (v := .int .i64 (p : Int)) rfl (by kernel_rfl) (by kernel_rfl) (by kernel_rfl) (fun _ _ _ h => h) (Or.inl ⟨by rfl, ?_⟩) ?_
        · intro w'; go_simp
        refine wpAny_take (i := 6) (v := .slice (some X2) p cap0) rfl (by kernel_rfl) (by kernel_rfl) (by kernel_rfl) (fun _ _ _ h => h) (Or.inl ⟨by rfl, ?_⟩) ?_
        · intro w'; go_simp
        simp only [Act.put, List.getElem_toArray, List.getElem_cons_zero, List.getElem_cons_succ, List.setIfInBounds_toArray, List.set_cons_zero, List.set_cons_succ]
        refine any2 3 9 (by kernel_rfl) ?_ ?_
        · skip
          refine op_call (.call { callee := .value (.func 8), args := #[.tmp 35], argTypes := #[22] }) (some 36) (by unfold opIs; kernel_rfl) 8 #[.slice X1 (L - p) (cap0 - p)] (fun o ho => by unfold execOp; rw [ho]; kernel_rfl) (HKC.out _ bl0) ?_
          rintro e x1 ⟨vc, rfl, hoc, hbc⟩
          refine ⟨_, rfl, ?_⟩
          have bl1 := bel_call bl0 hbc
          have owc := owns_down hoc bl0.size
          simp only [Act.put, List.getElem_toArray, List.getElem_cons_zero, List.getElem_cons_succ, List.setIfInBounds_toArray, List.set_cons_zero, List.set_cons_succ]
          refine any2 7 9 (by kernel_rfl) ?_ ?_
          · skip
            refine op_any (op := .call { callee := .builtin .append, args := #[.tmp 36, .tmp 39], argTypes := #[22, 22] }) (dst := some 40) (by unfold opIs; kernel_rfl) (fun o h1 h2 => ?_)
            refine wp_append_own_at _ (.tmp 36) (.tmp 39) 22 h1 W.heap.size 28 i0 (.agg #[.int .u32 0, .int .u16 0, .int .u16 0, .int .i64 0]) 4 16 Tryz.underlying22 hi hz0 hz1 hz2 rfl (by decide) vc (L - p) _ (by kernel_rfl) owc X2 p cap0 ((ls.take p).flatMap lc) (by kernel_rfl) HTL.out (HTC.out _ bl1) (flat_one lc_one _) (by unfold maxLen; omega) (by omega) bl1.size (fun v9 x9 hown9 hgr9 hat9 => ?_)
            rw [h2]
            simp only [Act.put, List.getElem_toArray, List.getElem_cons_zero, List.getElem_cons_succ, List.setIfInBounds_toArray, List.set_cons_zero, List.set_cons_succ]
            have bl9 := bl1.grown hgr9 bl1.size (fun q hq => (owc.lt q hq).1)
            have hL9 : L - p + p = L := by omega
            rw [hL9, ← List.flatMap_append] at hown9
            obtain ⟨r9, cap9, rfl⟩ := owns_form hown9
            refine wpAny_take (i := 8) (v := .agg #[.int .i32 0, .slice r9 L cap9]) rfl (by kernel_rfl) (by kernel_rfl) (by kernel_rfl) (fun _ _ _ h => h) (Or.inl ⟨by rfl, ?_⟩) ?_
            · intro w'; go_simp
            simp only [Act.put, List.getElem_toArray, List.getElem_cons_zero, List.getElem_cons_succ, List.setIfInBounds_toArray, List.set_cons_zero, List.set_cons_succ]
            refine any1 9 (by kernel_rfl) ?_
            refine op_newJ (some 7) (by unfold opIs; kernel_rfl) ?_
            simp only [Act.put, List.getElem_toArray, List.getElem_cons_zero, List.getElem_cons_succ, List.setIfInBounds_toArray, List.set_cons_zero, List.set_cons_succ]
            have bl10 := bel_new bl9 (.cells #[.int .i32 0, .slice none 0 0] 32)
            refine any1 10 (by kernel_rfl) ?_
            refine op_store 32 (.tmp 7) (.tmp 41) none (by unfold opIs; kernel_rfl) (.pointer (some ⟨x9.heap.size, 0, none⟩)) (.agg #[.int .i32 0, .slice r9 L cap9]) (by kernel_rfl) (by kernel_rfl) (store_J (Box2.new x9 (.int .i32 0) (.slice none 0 0) 32) _ _) ?_
            have bx := (Box2.new x9 (.int .i32 0) (.slice none 0 0) 32).sets2 (.int .i32 0) (.slice r9 L cap9)
            have nb := far_sets (hown9.alloc (.cells #[.int .i32 0, .slice none 0 0] 32)) bl10 (Y := x9.heap.size) (fun e => by have := (hown9.lt _ e).2; omega) bl9.size (.int .i32 0) (.slice r9 L cap9)
            try simp only [Act.put, List.getElem_toArray, List.getElem_cons_zero, List.getElem_cons_succ, List.setIfInBounds_toArray, List.set_cons_zero, List.set_cons_succ]
            refine wpAny_done (by kernel_rfl) ?_ _
            go_wp2_with fail
            go_meet
            exact ⟨_, r9, cap9, rfl, Lib.hid bx, Lib.hid (recs_of_owns lc_len nb.1 HRT.out.symm (by omega)), Lib.hid nb.2⟩
          · skip
            refine op_newJ (some 7) (by unfold opIs; kernel_rfl) ?_
            simp only [Act.put, List.getElem_toArray, List.getElem_cons_zero, List.getElem_cons_succ, List.setIfInBounds_toArray, List.set_cons_zero, List.set_cons_succ]
            have bl2 := bel_new bl1 (.cells #[.int .i32 0, .slice none 0 0] 32)
            refine any1 7 (by kernel_rfl) ?_
            refine op_any (op := .call { callee := .builtin .append, args := #[.tmp 36, .tmp 39], argTypes := #[22, 22] }) (dst := some 40) (by unfold opIs; kernel_rfl) (fun o h1 h2 => ?_)
            refine wp_append_own_at _ (.tmp 36) (.tmp 39) 22 h1 W.heap.size 28 i0 (.agg #[.int .u32 0, .int .u16 0, .int .u16 0, .int .i64 0]) 4 16 Tryz.underlying22 hi hz0 hz1 hz2 rfl (by decide) vc (L - p) _ (by kernel_rfl) (owc.alloc _) X2 p cap0 ((ls.take p).flatMap lc) (by kernel_rfl) HTL.out (HTC.out _ bl2) (flat_one lc_one _) (by unfold maxLen; omega) (by omega) bl2.size (fun v9 x9 hown9 hgr9 hat9 => ?_)
            rw [h2]
            simp only [Act.put, List.getElem_toArray, List.getElem_cons_zero, List.getElem_cons_succ, List.setIfInBounds_toArray, List.set_cons_zero, List.set_cons_succ]
            have bl9 := bl2.grown hgr9 bl2.size (fun q hq => (owc.lt q hq).1)
            have hL9 : L - p + p = L := by omega
            rw [hL9, ← List.flatMap_append] at hown9
            obtain ⟨r9, cap9, rfl⟩ := owns_form hown9
            refine wpAny_take (i := 8) (v := .agg #[.int .i32 0, .slice r9 L cap9]) rfl (by kernel_rfl) (by kernel_rfl) (by kernel_rfl) (fun _ _ _ h => h) (Or.inl ⟨by rfl, ?_⟩) ?_
            · intro w'; go_simp
            simp only [Act.put, List.getElem_toArray, List.getElem_cons_zero, List.getElem_cons_succ, List.setIfInBounds_toArray, List.set_cons_zero, List.set_cons_succ]
            refine any1 10 (by kernel_rfl) ?_
            refine op_store 32 (.tmp 7) (.tmp 41) none (by unfold opIs; kernel_rfl) (.pointer (some ⟨x1.heap.size, 0, none⟩)) (.agg #[.int .i32 0, .slice r9 L cap9]) (by kernel_rfl) (by kernel_rfl) (store_J (((Box2.new x1 (.int .i32 0) (.slice none 0 0) 32)).grown hgr9 (fun e => by have := (owc.lt _ e.symm).2; omega)) _ _) ?_
            have bx := (((Box2.new x1 (.int .i32 0) (.slice none 0 0) 32)).grown hgr9 (fun e => by have := (owc.lt _ e.symm).2; omega)).sets2 (.int .i32 0) (.slice r9 L cap9)
            have nb := far_sets hown9 bl9 (Y := x1.heap.size) (far_at hat9 (fun e => by have := (owc.lt _ e).2; omega) (by simp)) bl1.size (.int .i32 0) (.slice r9 L cap9)
            try simp only [Act.put, List.getElem_toArray, List.getElem_cons_zero, List.getElem_cons_succ, List.setIfInBounds_toArray, List.set_cons_zero, List.set_cons_succ]
            refine wpAny_done (by kernel_rfl) ?_ _
            go_wp2_with fail
            go_meet
            exact ⟨_, r9, cap9, rfl, Lib.hid bx, Lib.hid (recs_of_owns lc_len nb.1 HRT.out.symm (by omega)), Lib.hid nb.2⟩
        · skip
          refine op_newJ (some 7) (by unfold opIs; kernel_rfl) ?_
          simp only [Act.put, List.getElem_toArray, List.getElem_cons_zero, List.getElem_cons_succ, List.setIfInBounds_toArray, List.set_cons_zero, List.set_cons_succ]
          have bl1 := bel_new bl0 (.cells #[.int .i32 0, .slice none 0 0] 32)
          refine any1 3 (by kernel_rfl) ?_
          refine op_call (.call { callee := .value (.func 8), args := #[.tmp 35], argTypes := #[22] }) (some 36) (by unfold opIs; kernel_rfl) 8 #[.slice X1 (L - p) (cap0 - p)] (fun o ho => by unfold execOp; rw [ho]; kernel_rfl) (HKC.out _ bl1) ?_
          rintro e x2 ⟨vc, rfl, hoc, hbc⟩
          refine ⟨_, rfl, ?_⟩
          have bl2 := bel_call bl1 hbc
          have owc := owns_down hoc bl1.size
          simp only [Act.put, List.getElem_toArray, List.getElem_cons_zero, List.getElem_cons_succ, List.setIfInBounds_toArray, List.set_cons_zero, List.set_cons_succ]
          refine any1 7 (by kernel_rfl) ?_
          refine op_any (op := .call { callee := .builtin .append, args := #[.tmp 36, .tmp 39], argTypes := #[22, 22] }) (dst := some 40) (by unfold opIs; kernel_rfl) (fun o h1 h2 => ?_)
          refine wp_append_own_at _ (.tmp 36) (.tmp 39) 22 h1 W.heap.size 28 i0 (.agg #[.int .u32 0, .int .u16 0, .int .u16 0, .int .i64 0]) 4 16 Tryz.underlying22 hi hz0 hz1 hz2 rfl (by decide) vc (L - p) _ (by kernel_rfl) owc X2 p cap0 ((ls.take p).flatMap lc) (by kernel_rfl) HTL.out (HTC.out _ bl2) (flat_one lc_one _) (by unfold maxLen; omega) (by omega) bl2.size (fun v9 x9 hown9 hgr9 hat9 => ?_)
          rw [h2]
          simp only [Act.put, List.getElem_toArray, List.getElem_cons_zero, List.getElem_cons_succ, List.setIfInBounds_toArray, List.set_cons_zero, List.set_cons_succ]
          have bl9 := bl2.grown hgr9 bl2.size (fun q hq => (owc.lt q hq).1)
          have hL9 : L - p + p = L := by omega
          rw [hL9, ← List.flatMap_append] at hown9
          obtain ⟨r9, cap9, rfl⟩ := owns_form hown9
          refine wpAny_take (i := 8) (v := .agg #[.int .i32 0, .slice r9 L cap9]) rfl (by kernel_rfl) (by kernel_rfl) (by kernel_rfl) (fun _ _ _ h => h) (Or.inl ⟨by rfl, ?_⟩) ?_
          · intro w'; go_simp
          simp only [Act.put, List.getElem_toArray, List.getElem_cons_zero, List.getElem_cons_succ, List.setIfInBounds_toArray, List.set_cons_zero, List.set_cons_succ]
          refine any1 10 (by kernel_rfl) ?_
          refine op_store 32 (.tmp 7) (.tmp 41) none (by unfold opIs; kernel_rfl) (.pointer (some ⟨W.drew.heap.size, 0, none⟩)) (.agg #[.int .i32 0, .slice r9 L cap9]) (by kernel_rfl) (by kernel_rfl) (store_J (((Box2.new W.drew (.int .i32 0) (.slice none 0 0) 32).stay hbc).grown hgr9 (fun e => by have := (hoc.lt _ e.symm).1; rw [World.size_alloc] at this; omega)) _ _) ?_
          have bx := (((Box2.new W.drew (.int .i32 0) (.slice none 0 0) 32).stay hbc).grown hgr9 (fun e => by have := (hoc.lt _ e.symm).1; rw [World.size_alloc] at this; omega)).sets2 (.int .i32 0) (.slice r9 L cap9)
          have nb := far_sets hown9 bl9 (Y := W.drew.heap.size) (far_at hat9 (fun e => by have := (hoc.lt _ e).1; rw [World.size_alloc] at this; omega) (by have := hbc.size; rw [World.size_alloc] at this; omega)) (Nat.le_refl _) (.int .i32 0) (.slice r9 L cap9)
          try simp only [Act.put, List.getElem_toArray, List.getElem_cons_zero, List.getElem_cons_succ, List.setIfInBounds_toArray, List.set_cons_zero, List.set_cons_succ]
          refine wpAny_done (by kernel_rfl) ?_ _
          go_wp2_with fail
          go_meet
          exact ⟨_, r9, cap9, rfl, Lib.hid bx, Lib.hid (recs_of_owns lc_len nb.1 HRT.out.symm (by omega)), Lib.hid nb.2⟩
      case rest =>
        obtain ⟨Y, r9, cap9, rfl, HBY, HRY, HB9⟩ := hcut
        clear hsf hst HKC HTC HTL
        have HRW9 := Lib.hid (HRW.out.stay HB9.out)
        have HBX9 := Lib.hid (HBX.out.stay HB9.out)
        have HBW9 := Lib.hid (HBW.out.trans (HB9.out.mono HBW.out.size))
        clear HRW HBX HBW HB9
        go_upto_region 9 with fail
        have hby := Box2.new wc (.int .i32 0) (.slice none 0 0) 32
        have hba := (Below.refl wc.heap.size wc).alloc (Nat.le_refl _) (.cells #[.int .i32 0, .slice none 0 0] 32)
        have HBZ := Lib.hid hby
        have HBV := Lib.hid hba
        clear hby hba
        generalize wc.alloc (.cells #[.int .i32 0, .slice none 0 0] 32) = V at HBZ HBV ⊢
        go_wp2_with fail
        go_loopw [45] (fun i wr => ∃ (k : Nat) (r : Option Addr) (cap : Nat), i = .int .i64 k ∧ k ≤ L ∧ Hid (wr.ownsRow wc.heap.size 28 4 (.slice r k cap) k (((ls.take k).map negA).flatMap lc)) ∧ Hid ((Value.slice r k cap).ownBlock ≠ some wc.heap.size) ∧ Hid (Box2 wr wc.heap.size (.int .i32 0) (.slice r k cap)) ∧ Hid (noMin (ls.take k)) ∧ Hid (Below wc.heap.size wc wr)) (fun i _ => L - (intOf i).toNat)
        case atStart => exact ⟨0, none, 0, rfl, Nat.zero_le _, Lib.hid (World.ownsRow_nil _ _ _ _), Lib.hid (fun e => by cases e), HBZ, Lib.hid (fun x hx => by simp at hx), HBV⟩
        case round =>
          clear HBZ HBV
          obtain ⟨k, r, cap, rfl, hk, HO, HN, HY, HNM, HBk⟩ := hrel
          rename World => wr
          have hbs := HBk.out.size
          obtain ⟨y0, y1, y2, y3, hYs⟩ := HY.out
          by_cases hlt : k < L
          · obtain ⟨x, hx⟩ : ∃ x, ls[k]? = some x := ⟨ls[k]'(by have := HL.out; omega), List.getElem?_eq_getElem (by have := HL.out; omega)⟩
            obtain ⟨g', off', hX, hg', hc⟩ := (HRW9.out.stay HBk.out).at hx
            cases hX
            obtain ⟨c0, c1, c2, c3⟩ := Recs.cellsL hc
            have HX := Lib.hid hx
            have HBq := Lib.hid (HBk.out.alloc hbs (.cells #[.int .u32 (x.acc : Int), .int .u16 (x.ent.n : Int), .int .u16 (x.ctr : Int), .int .i64 x.amt] 28))
            clear hc hx
            by_cases hmin : x.amt = -9223372036854775808
            · have a1 : (x.amt == -9223372036854775808) = true := by simp [hmin]
              clear hmin
              go_wp2_with fail
              go_ret
              exact ⟨rfl, HBW9.out.trans (HBq.out.mono HBW9.out.size)⟩
            · have a1 : (x.amt == -9223372036854775808) = false := by simp [hmin]
              have hxm := x.hm
              obtain ⟨n, hn⟩ : ∃ n, -x.amt = n := ⟨_, rfl⟩
              have hnr : -9223372036854775808 ≤ n ∧ n ≤ 9223372036854775807 := by omega
              have hnw : IntKind.i64.wrap n = n := by rw [IntKind.wrap_i64]; omega
              have HMIN := Lib.hid (And.intro hmin hn)
              have HOL := Lib.hid HO.out.lt
              have HNE := Lib.hid (show negA x = x.amtTo n hnr by rw [negA_eq hmin]; unfold Ln.amtTo; congr)
              clear hmin
              go_wp2_with (at_builtin; refine wpList_append_own_at _ rfl (.tmp 57) (.tmp 59) 22 rfl wc.heap.size 28 i0 (.agg #[.int .u32 0, .int .u16 0, .int .u16 0, .int .i64 0]) 4 16 Tryz.underlying22 hi hz0 hz1 hz2 rfl (by decide) _ k _ rfl ((HO.out.alloc _).alloc _) ⟨wr.heap.size + 1, 0, none⟩ 1 1 (lc (x.amtTo n hnr)) rfl rfl (cells_new2 _ _ (lc (x.amtTo n hnr)) _) (lc_one _) (by unfold maxLen; omega) (by omega) (by simp; omega) ?_; intro v5 w5 hown5 hgrow5 _ hat5; have HB5 := Lib.hid (((HBk.out.alloc hbs _).alloc (by simp; omega) _).grown hgrow5 (by simp; omega) (fun j hj => (HOL.out j hj).1)); have HO5 := Lib.hid hown5; have HY5 := Lib.hid (((HY.out.alloc _).alloc _).grown hgrow5 (fun e => HN.out e.symm)); obtain ⟨q0, q1, q2, q3, q4⟩ := HY5.out; have HAT := Lib.hid hat5; obtain ⟨r5, cap5, rfl⟩ := owns_form hown5; clear hgrow5 hown5 hat5)
              go_roundw
              case rel =>
                have hl := (List.getElem?_eq_some_iff.1 HX.out).1
                have ne1 : (Value.slice r5 (k + 1) cap5).ownBlock ≠ some wc.heap.size := fun e => by
                  rcases HAT.out with h | h
                  · exact HN.out (h.symm.trans e)
                  · rw [h] at e
                    have := Option.some.inj e
                    simp at this
                    omega
                have et := List.take_succ_eq_append_getElem hl
                have ex := HX.out
                rw [List.getElem?_eq_getElem hl] at ex
                have ex := Option.some.inj ex
                refine ⟨k + 1, r5, cap5, by go_num, by omega, Lib.hid (owns_set_far ?_ _ _ ne1), Lib.hid ne1, Lib.hid (HY5.out.set1 _), Lib.hid ?_, Lib.hid (HB5.out.setCell (Nat.le_refl _) _)⟩
                · rw [et, ex, List.map_append, List.flatMap_append]
                  have h9 := HO5.out
                  rw [List.map_cons, HNE.out]
                  simpa using h9
                · rw [et, ex]
                  intro z hz
                  rcases List.mem_append.1 hz with h | h
                  · exact HNM.out z h
                  · simp at h; subst h; exact HMIN.out.1
              case measure => simp [intOf]; omega
          · obtain rfl : k = L := by omega
            have hfull : ls.take k = ls := List.take_of_length_le (by rw [HL.out]; exact Nat.le_refl _)
            rw [hfull] at HO HNM
            have hnl : (ls.map negA).length = k := by rw [List.length_map, HL.out]
            have HRA := Lib.hid (HRW9.out.stay HBk.out)
            have HRB := Lib.hid (HRY.out.stay HBk.out)
            have HRC := Lib.hid (recs_of_owns lc_len HO.out hnl.symm (by omega))
            have HXA := Lib.hid (HBX9.out.stay HBk.out)
            have HXB := Lib.hid (HBY.out.stay HBk.out)
            have HXC := Lib.hid HY.out
            have HBW := Lib.hid (HBW9.out.trans (HBk.out.mono HBW9.out.size))
            have HIw := Lib.hid (HI.out _ HBW.out)
            have HNM2 := Lib.hid HNM.out
            clear HO HN HY HNM HBk HRW9 HRY HBX9 HBY HBW9 hfull hnl y0 y1 y2 y3 hYs
            generalize wc.heap.size = Zb at HXC ⊢
            go_upto_region 17 with fail
            refine wp_region_say 9 (fun w' => Below wr.heap.size wr w') (RT (sumE ls) (fun n => (sumE ls n).map fun s => -s) (.agg #[.int .i32 0, .slice (some X2) k cap0]) (.agg #[.int .i32 0, .slice r9 k cap9]) (.agg #[.int .i32 0, .slice r k cap])) hmix (by kernel_rfl) (by kernel_rfl) (by kernel_rfl) (by kernel_rfl) (Below.refl _ _).drew ?_ ?_
            · intro s a w' i hi9 hC hdep hfar hrd
              have KA := (HEC.out.sums _ 0 ls w' (HRA.out.stay hC) (by rw [HL.out]; omega))
              have KB := (HEC.out.sums _ 0 _ w' (HRB.out.stay hC) (by rw [HRT.out]; omega))
              have KC := (HEC.out.sums _ 0 _ w' (HRC.out.stay hC) (by rw [List.length_map, HL.out]; omega))
              rcases (by omega : i = 0 ∨ i = 1 ∨ i = 2 ∨ i = 3 ∨ i = 4 ∨ i = 5 ∨ i = 6 ∨ i = 7 ∨ i = 8) with rfl | rfl | rfl | rfl | rfl | rfl | rfl | rfl | rfl
              · refine op_load 32 (.tmp 6) (some 63) (by unfold opIs; kernel_rfl) _ _ ((hfar 6 (by kernel_rfl)).trans (by kernel_rfl)) (load_J _ _ _ _ (HXA.out.stay hC)) ?_
                exact ⟨_, congrArg (fun d => a.put d _) (by kernel_rfl), hC, rfl, fun j u h => h⟩
              · have hA := hrd 0 63 (hdep 0 (by kernel_rfl)) (by kernel_rfl)
                refine op_call (.call { callee := .value (.func 9), args := #[.tmp 63], argTypes := #[32] }) (some 64) (by unfold opIs; kernel_rfl) 9 #[.agg #[.int .i32 0, .slice (some X2) k cap0]] (fun o ho => by unfold execOp; rw [ho]; simp only [resolve, List.map_toArray, List.map_cons, List.map_nil, show a.eval (.tmp 63) = _ from hA]; kernel_rfl) KA ?_
                rintro e w'' ⟨m, M, rfl, hM, hs, hb⟩
                exact ⟨_, rfl, m, congrArg (fun d => a.put d m) (by kernel_rfl), hC.trans (hb.mono hC.size), ⟨M, hM, hs⟩, RT.stay hb⟩
              · refine op_load 32 (.tmp 7) (some 65) (by unfold opIs; kernel_rfl) _ _ ((hfar 7 (by kernel_rfl)).trans (by kernel_rfl)) (load_J _ _ _ _ (HXB.out.stay hC)) ?_
                exact ⟨_, congrArg (fun d => a.put d _) (by kernel_rfl), hC, rfl, fun j u h => h⟩
              · have hA := hrd 2 65 (hdep 2 (by kernel_rfl)) (by kernel_rfl)
                refine op_call (.call { callee := .value (.func 9), args := #[.tmp 65], argTypes := #[32] }) (some 66) (by unfold opIs; kernel_rfl) 9 #[.agg #[.int .i32 0, .slice r9 k cap9]] (fun o ho => by unfold execOp; rw [ho]; simp only [resolve, List.map_toArray, List.map_cons, List.map_nil, show a.eval (.tmp 65) = _ from hA]; kernel_rfl) KB ?_
                rintro e w'' ⟨m, M, rfl, hM, hs, hb⟩
                exact ⟨_, rfl, m, congrArg (fun d => a.put d m) (by kernel_rfl), hC.trans (hb.mono hC.size), ⟨M, hM, (fun n => (hs n).trans (sumE_perm (rot_perm ls p) n))⟩, RT.stay hb⟩
              · refine op_load 32 (.tmp 8) (some 67) (by unfold opIs; kernel_rfl) _ _ ((hfar 8 (by kernel_rfl)).trans (by kernel_rfl)) (load_J _ _ _ _ (HXC.out.stay hC)) ?_
                exact ⟨_, congrArg (fun d => a.put d _) (by kernel_rfl), hC, rfl, fun j u h => h⟩
              · have hA := hrd 4 67 (hdep 4 (by kernel_rfl)) (by kernel_rfl)
                refine op_call (.call { callee := .value (.func 9), args := #[.tmp 67], argTypes := #[32] }) (some 68) (by unfold opIs; kernel_rfl) 9 #[.agg #[.int .i32 0, .slice r k cap]] (fun o ho => by unfold execOp; rw [ho]; simp only [resolve, List.map_toArray, List.map_cons, List.map_nil, show a.eval (.tmp 67) = _ from hA]; kernel_rfl) KC ?_
                rintro e w'' ⟨m, M, rfl, hM, hs, hb⟩
                exact ⟨_, rfl, m, congrArg (fun d => a.put d m) (by kernel_rfl), hC.trans (hb.mono hC.size), ⟨M, hM, (fun n => (hs n).trans (sumE_neg HNM2.out n))⟩, RT.stay hb⟩
              · have hA := hrd 1 64 (hdep 1 (by kernel_rfl)) (by kernel_rfl)
                refine op_assignT 64 (some 11) (by unfold opIs; kernel_rfl) ?_
                exact ⟨_, congrArg (fun d => a.put d _) (by kernel_rfl), hC, hA, fun j u h => h⟩
              · have hA := hrd 3 66 (hdep 3 (by kernel_rfl)) (by kernel_rfl)
                refine op_assignT 66 (some 12) (by unfold opIs; kernel_rfl) ?_
                exact ⟨_, congrArg (fun d => a.put d _) (by kernel_rfl), hC, hA, fun j u h => h⟩
              · have hA := hrd 5 68 (hdep 5 (by kernel_rfl)) (by kernel_rfl)
                refine op_assignT 68 (some 13) (by unfold opIs; kernel_rfl) ?_
                exact ⟨_, congrArg (fun d => a.put d _) (by kernel_rfl), hC, hA, fun j u h => h⟩
            · intro b w' hC hRR
              have h6 : RS (sumE ls) (b 6) w' := hRR 6 (by omega)
              have h7 : RS (sumE ls) (b 7) w' := hRR 7 (by omega)
              have h8 : RS (fun n => (sumE ls n).map fun s => -s) (b 8) w' := hRR 8 (by omega)
              simp only [putL, if_true, Nat.reduceAdd, Act.put, List.getElem_toArray, List.getElem_cons_zero, List.getElem_cons_succ, List.setIfInBounds_toArray, List.set_cons_zero, List.set_cons_succ]
              generalize b 6 = m6 at h6 ⊢
              generalize b 7 = m7 at h7 ⊢
              generalize b 8 = m8 at h8 ⊢
              clear hRR
              obtain ⟨MA, hMA, hsA⟩ := h6
              obtain ⟨MB, hMB, hsB⟩ := h7
              obtain ⟨MC, hMC, hsC⟩ := h8
              have HMB := Lib.hid hMB
              have HMC := Lib.hid hMC
              have HSA := Lib.hid hsA
              have HSB := Lib.hid hsB
              have HSC : Hid (∀ n, getK MC n = (sumE ls n).map fun s => -s) := Lib.hid hsC
              have HBw := Lib.hid hC
              clear hMB hMC hsA hsB hsC hC
              have hne : MA ≠ [] := mapA_ne HSA.out HL.out hL1
              obtain ⟨b6, rfl, hM6⟩ := MapV.some hMA hne
              have HM6 := Lib.hid hM6
              have HS := Lib.hid (fun (p : En × Int) (hp : p ∈ MA) => (show (getK MB p.1).getD 0 = p.2 ∧ (getK MC p.1).getD 0 = -p.2 by
                have h1 := (HSA.out p.1).symm.trans (getK_of_mem hMA.nodup hp)
                rw [HSB.out, HSC.out, h1]
                exact ⟨rfl, rfl⟩))
              have HLAB := Lib.hid (same_len hMA.nodup HMB.out.nodup (fun n => by rw [HSA.out, HSB.out]))
              have HLAC := Lib.hid (same_len hMA.nodup HMC.out.nodup (fun n => by rw [HSA.out, HSC.out]; cases sumE ls n <;> rfl))
              clear hM6 hMA hne HSA HSB HSC
              go_wp2_with (at_range; refine wpList_range_of _ map_w rfl _ rfl b6 MA rfl HM6.out ?_; intro w6 hR6 hb6 hs6; have HB6 := Lib.hid hb6)
              have HR6 := Lib.hid hR6
              have hs5 : w'.heap.size < w6.heap.size := by omega
              clear hR6 hb6 hs6
              obtain ⟨rr, hr⟩ : ∃ rr, w'.heap.size = rr := ⟨_, rfl⟩
              have HRE := Lib.hid hr
              rw [hr] at HR6 hs5 ⊢
              clear hr
              simp only [Act.put, List.getElem_toArray, List.getElem_cons_zero, List.getElem_cons_succ, List.setIfInBounds_toArray, List.set_cons_zero, List.set_cons_succ]
              go_loopw [14] (fun _ wr => ∃ left : List (En × Int), Hid (RangeOf ec wv9 b6 rr MA left wr) ∧ Hid (∀ q ∈ left, q ∈ MA) ∧ Hid (Below w'.heap.size w' wr)) (fun _ wr => wr.rangeLeft b6 rr)
              case atStart => exact ⟨MA, HR6, Lib.hid (fun q h => h), HB6⟩
              case round =>
                clear HR6 HB6
                obtain ⟨left, HRO, HLM, HBr⟩ := hrel
                rename World => wq
                go_wp2_with (at_next; refine wpList_next_of _ map_w rfl _ rfl b6 rr MA left rfl HRO.out ?_ ?_)
                · intro hleft
                  clear hleft
                  have hbq := HBw.out.trans (HBr.out.mono HBw.out.size)
                  have hbg := fun d os => hbq.trans ((below_regrown wq d os).mono hbq.size)
                  have hbr := fun d os => HBr.out.trans ((below_regrown wq d os).mono HBr.out.size)
                  have HBQ := Lib.hid (HBW.out.trans (hbq.mono HBW.out.size))
                  have lA := fun d os => (MapV.stay (w := wq) (.inr ⟨b6, rfl, HRO.out.owns⟩) (below_regrown wq d os)).len
                  have lB := fun d os => (HMB.out.stay (hbr d os)).len
                  have lC := fun d os => (HMC.out.stay (hbr d os)).len
                  simp only [← HLAB.out] at lB
                  simp only [← HLAC.out] at lC
                  have x0 := fun d os => (HXA.out.stay (hbg d os)).a0
                  have x1 := fun d os => (HXA.out.stay (hbg d os)).a1
                  have y0 := fun d os => (HXB.out.stay (hbg d os)).a0
                  have y1 := fun d os => (HXB.out.stay (hbg d os)).a1
                  have z0 := fun d os => (HXC.out.stay (hbg d os)).a0
                  have z1 := fun d os => (HXC.out.stay (hbg d os)).a1
                  have hIg := fun d os => HI.out _ (HBQ.out.trans ((below_regrown wq d os).mono HBQ.out.size))
                  have kA := fun d os => HEC.out.check _ 0 ls _ (hIg d os) (HRA.out.stay (hbg d os)) (by rw [HL.out]; omega) (by unfold I32; omega)
                  have kB := fun d os => HEC.out.check _ 0 _ _ (hIg d os) (HRB.out.stay (hbg d os)) (by rw [HRT.out]; omega) (by unfold I32; omega)
                  have kC := fun d os => HEC.out.check _ 0 _ _ (hIg d os) (HRC.out.stay (hbg d os)) (by rw [List.length_map, HL.out]; omega) (by unfold I32; omega)
                  rw [chkJ_perm (rot_perm ls p)] at kB
                  rw [chkJ_neg HNM2.out] at kC
                  generalize chkJ 0 ls = cc at kA kB kC
                  have KA := Lib.hid kA
                  have KB := Lib.hid kB
                  have KC := Lib.hid kC
                  clear kA kB kC hIg hbg hbr hbq
                  go_upto_region 23 with fail
                  refine wp_region_quiet_below hmix (by kernel_rfl) ?_
                  repeat (first | go_big_quiet_step ((first | (go_at_call 12; with_reducible exact Calls.regrown_of (KA.out _ _)) | (go_at_call 12; with_reducible exact Calls.regrown_of (KB.out _ _)) | (go_at_call 12; with_reducible exact Calls.regrown_of (KC.out _ _)))) | quiet_step ((first | (go_at_call 12; with_reducible exact Calls.regrown_of (KA.out _ _)) | (go_at_call 12; with_reducible exact Calls.regrown_of (KB.out _ _)) | (go_at_call 12; with_reducible exact Calls.regrown_of (KC.out _ _)))))
                  refine wpQuiet_nil ?_
                  intro w8 hw8
                  have hb8 : Below wq.heap.size wq w8 := by obtain ⟨q, rfl⟩ := hw8; exact below_regrown _ _ _
                  have HB8 := Lib.hid (HBQ.out.trans (hb8.mono HBQ.out.size))
                  clear hw8 hb8 x0 x1 y0 y1 z0 z1 lA lB lC
                  go_wp2
                  go_ret
                  exact ⟨by simp, HB8.out⟩
                · intro A qe qs B w7 hleft hR7 hg7 hs7 hen
                  have hqM := HLM.out (qe, qs) (by rw [hleft]; simp)
                  obtain ⟨hq1, hq2⟩ := HS.out _ hqM
                  have hB7 : Below w'.heap.size w' w7 := HBr.out.grown hg7 HBr.out.size (fun j hj => by cases hj; have := HRE.out; omega)
                  have HB7 := Lib.hid hB7
                  have HR7 := Lib.hid hR7
                  have HLQ := Lib.hid hleft
                  unfold wv9 ec at hen ⊢
                  have hz7 : w7.heap.size = wq.heap.size := by omega
                  have c0 : (w7.alloc (.cells #[.int .i64 (hiW qs), .int .u64 (loW qs)] 41)).cell? ⟨w7.heap.size, 0, none⟩ = some (.int .i64 (hiW qs)) := by simp
                  have c1 : (w7.alloc (.cells #[.int .i64 (hiW qs), .int .u64 (loW qs)] 41)).cell? ⟨w7.heap.size, 1, none⟩ = some (.int .u64 (loW qs)) := by simp
                  have hbv := (Below.refl w7.heap.size w7).alloc (Nat.le_refl _) (.cells #[.int .i64 (hiW qs), .int .u64 (loW qs)] 41)
                  have hbv2 := hB7.trans (hbv.mono hB7.size)
                  have HBV := Lib.hid hbv
                  have HBV2 := Lib.hid hbv2
                  rw [hz7] at c0 c1
                  clear hbv hbv2 hB7 hqM hleft hg7 hs7 hR7
                  go_upto_region 21 with fail
                  generalize w7.alloc (.cells #[.int .i64 (hiW qs), .int .u64 (loW qs)] 41) = VV at c0 c1 HBV HBV2 ⊢
                  have d0 := fun d os => cell_regrown c0 d os
                  have d1 := fun d os => cell_regrown c1 d os
                  have lB := fun d os => (HMB.out.stay (HBV2.out.trans ((below_regrown VV d os).mono HBV2.out.size))).look qe
                  have lC := fun d os => (HMC.out.stay (HBV2.out.trans ((below_regrown VV d os).mono HBV2.out.size))).look qe
                  simp only [hq1, hq2] at lB lC
                  unfold wv9 ec at lB lC
                  have KN := Lib.hid (fun d os => neg_any qs (Sort.grow (redrawn VV d) os))
                  refine wp_region_quiet_below hmix (by kernel_rfl) ?_
                  repeat (first | go_big_quiet_step ((go_at_call 15; with_reducible exact Calls.regrown_of (KN.out _ _))) | quiet_step ((go_at_call 15; with_reducible exact Calls.regrown_of (KN.out _ _))))
                  refine wpQuiet_nil ?_
                  intro w8 hw8
                  have hb8 : Below VV.heap.size VV w8 := by obtain ⟨q, rfl⟩ := hw8; exact below_regrown _ _ _
                  have HB8 := Lib.hid hb8
                  clear hw8 hb8 d0 d1 lB lC c0 c1
                  go_wp2
                  have HD8 := Lib.hid (HBV.out.trans (HB8.out.mono HBV.out.size))
                  have HC8 := Lib.hid (HB7.out.trans (HD8.out.mono HB7.out.size))
                  go_roundw
                  case rel =>
                    exact ⟨A ++ B, Lib.hid (HR7.out.same (HD8.out.block b6 HR7.out.owns.lt) (HD8.out.block rr HR7.out.lt)), Lib.hid (fun q hq => HLM.out q (by rw [HLQ.out]; rcases List.mem_append.1 hq with h | h <;> simp [h])), HC8⟩
                  case measure =>
                    have h9 := HR7.out.same (HD8.out.block b6 HR7.out.owns.lt) (HD8.out.block rr HR7.out.lt)
                    rw [h9.left_eq, HRO.out.left_eq, HLQ.out]
                    simp
end Go.Proofs.YtpebdimjpnpmnaaGreatDoor

/- The walk of law CodecGrows. -/
import Derived.Test.YtmpefjnfelfnfaaGreatDoorChall
import Derived.Test.YtmpefjnfelfnfaaGreatDoorChb
import Derived.Test.YtmpefjnfelfnfaaGreatDoorTo
namespace Go.Proofs.YtmpefjnfelfnfaaGreatDoor
open Go.RowKit
set_option linter.unusedVariables false
set_option linter.unusedSimpArgs false
theorem JRow.take {w : World} {r : Option Addr} {n cap : Nat} {vs : List Jm} (h : JRow w (.slice r n cap) vs) (hn : vs.length = n) (i : Nat) (hi : i ≤ n) : JRow w (.slice r i cap) (vs.take i) := by
  refine ⟨?_, fun p hp => h.2 p (List.mem_of_mem_take hp)⟩
  rcases Nat.eq_zero_or_pos i with h0 | h0
  · subst h0; exact .inl ⟨_, _, rfl, rfl⟩
  · rcases h.1 with ⟨r', cap', e1, e2⟩ | ⟨g', off', cap', e1, h2, h3, h4, h5⟩
    · rw [e2] at hn; simp at hn; omega
    · cases e1
      have hl2 : (vs.take i).length = i := by rw [List.length_take]; omega
      refine .inr ⟨g', off', cap, by rw [hl2], h2, by rw [hl2]; omega, by rw [hl2]; omega, fun j x hx m u hu => ?_⟩
      rw [List.getElem?_take] at hx
      split at hx
      · exact h5 j x hx m u hu
      · cases hx
theorem if_addrG (c : Prop) [Decidable c] (b off s : Nat) : ∃ off', (if c then some (⟨b, off, none⟩ : Addr) else some ⟨b, off + s, none⟩) = some ⟨b, off', none⟩ := by
  split
  · exact ⟨_, rfl⟩
  · exact ⟨_, rfl⟩
/-- Bytes of a known number. -/
def RLg (w : World) (v : Value) (L : Nat) (l : List Nat) : Prop := ∃ b off c, v = .slice (some ⟨b, off, none⟩) L c ∧ L ≤ c ∧ Recs byc 1 w v l
theorem RLg.stay {w w' : World} {v : Value} {L : Nat} {l : List Nat} (h : RLg w v L l) (hb : Below w.heap.size w w') : RLg w' v L l := by
  obtain ⟨b, off, c, h1, h2, h3⟩ := h
  exact ⟨b, off, c, h1, h2, h3.stay hb⟩
/-- What holds of the values by which law CodecGrows gathers bytes. -/
def R8g (p0 fa bn p4 sj sj1 bl : Value) (nJ m : Int) (EN EL : List Nat) (LN LL : Nat) : Nat → Value → World → Prop
  | 0, v, _ => v = p0
  | 1, v, _ => v = fa
  | 2, v, _ => v = bn
  | 3, v, w => RLg w v LN EN
  | 4, v, _ => v = p0
  | 5, v, _ => v = fa
  | 6, v, _ => v = p4
  | 7, v, _ => v = sj
  | 8, v, _ => v = p4
  | 9, v, _ => v = sj
  | 10, v, _ => v = .int .i64 nJ
  | 11, v, _ => v = .int .i64 m
  | 12, v, _ => v = sj1
  | 13, v, _ => v = bl
  | 14, v, w => RLg w v LL EL
  | 15, v, w => RLg w v LN EN
  | _, v, w => RLg w v LL EL
theorem R8g.stay {p0 fa bn p4 sj sj1 bl : Value} {nJ m : Int} {EN EL : List Nat} {LN LL : Nat} {w w' : World} (hb : Below w.heap.size w w') : ∀ j u, R8g p0 fa bn p4 sj sj1 bl nJ m EN EL LN LL j u w → R8g p0 fa bn p4 sj sj1 bl nJ m EN EL LN LL j u w'
  | 0, _, h => h
  | 1, _, h => h
  | 2, _, h => h
  | 3, _, h => RLg.stay h hb
  | 4, _, h => h
  | 5, _, h => h
  | 6, _, h => h
  | 7, _, h => h
  | 8, _, h => h
  | 9, _, h => h
  | 10, _, h => h
  | 11, _, h => h
  | 12, _, h => h
  | 13, _, h => h
  | 14, _, h => RLg.stay h hb
  | 15, _, h => RLg.stay h hb
  | _ + 16, _, h => RLg.stay h hb
/-- What holds of the values by which law CodecGrows answers. -/
def R11g (v4 v5 v6 v7 t4 t5 t6 d6 d5 n1 iL iA : Value) : Nat → Value → World → Prop
  | 0, v, _ => v = v7
  | 1, v, _ => v = (.bool true)
  | 2, v, _ => v = (.bool true)
  | 3, v, _ => v = v5
  | 4, v, _ => v = iL
  | 5, v, _ => v = v6
  | 6, v, _ => v = iA
  | 7, v, _ => v = (.bool true)
  | 8, v, _ => v = (.bool true)
  | 9, v, _ => v = (.bool true)
  | 10, v, _ => v = v5
  | 11, v, _ => v = iL
  | 12, v, _ => v = v7
  | 13, v, _ => v = (.bool true)
  | 14, v, _ => v = (.bool true)
  | 15, v, _ => v = (.bool true)
  | 16, v, _ => v = v6
  | 17, v, _ => v = iA
  | 18, v, _ => v = v7
  | 19, v, _ => v = (.bool true)
  | 20, v, _ => v = (.bool true)
  | 21, v, _ => v = (.bool true)
  | 22, v, _ => v = v6
  | 23, v, _ => v = v7
  | 24, v, _ => v = t6
  | 25, v, _ => v = v4
  | 26, v, _ => v = v7
  | 27, v, _ => v = t4
  | 28, v, _ => v = (.bool true)
  | 29, v, _ => v = (.bool true)
  | 30, v, _ => v = (.bool true)
  | 31, v, _ => v = v5
  | 32, v, _ => v = v7
  | 33, v, _ => v = t5
  | 34, v, _ => v = v4
  | 35, v, _ => v = v7
  | 36, v, _ => v = t4
  | 37, v, _ => v = (.bool true)
  | 38, v, _ => v = (.bool true)
  | 39, v, _ => v = (.bool true)
  | 40, v, _ => v = v6
  | 41, v, _ => v = v7
  | 42, v, _ => v = n1
  | 43, v, _ => v = v5
  | 44, v, _ => v = iL
  | 45, v, _ => v = d6
  | 46, v, _ => v = v5
  | 47, v, _ => v = v7
  | 48, v, _ => v = n1
  | 49, v, _ => v = d5
  | 50, v, _ => v = (.bool true)
  | 51, v, _ => v = (.bool true)
  | _, v, _ => v = .bool true
theorem R11g.stay {v4 v5 v6 v7 t4 t5 t6 d6 d5 n1 iL iA : Value} {w w' : World} (hb : Below w.heap.size w w') : ∀ j u, R11g v4 v5 v6 v7 t4 t5 t6 d6 d5 n1 iL iA j u w → R11g v4 v5 v6 v7 t4 t5 t6 d6 d5 n1 iL iA j u w' := by
  intro j u h
  rcases Nat.lt_or_ge j 52 with h1 | h1
  · rcases (by omega : j = 0 ∨ j = 1 ∨ j = 2 ∨ j = 3 ∨ j = 4 ∨ j = 5 ∨ j = 6 ∨ j = 7 ∨ j = 8 ∨ j = 9 ∨ j = 10 ∨ j = 11 ∨ j = 12 ∨ j = 13 ∨ j = 14 ∨ j = 15 ∨ j = 16 ∨ j = 17 ∨ j = 18 ∨ j = 19 ∨ j = 20 ∨ j = 21 ∨ j = 22 ∨ j = 23 ∨ j = 24 ∨ j = 25 ∨ j = 26 ∨ j = 27 ∨ j = 28 ∨ j = 29 ∨ j = 30 ∨ j = 31 ∨ j = 32 ∨ j = 33 ∨ j = 34 ∨ j = 35 ∨ j = 36 ∨ j = 37 ∨ j = 38 ∨ j = 39 ∨ j = 40 ∨ j = 41 ∨ j = 42 ∨ j = 43 ∨ j = 44 ∨ j = 45 ∨ j = 46 ∨ j = 47 ∨ j = 48 ∨ j = 49 ∨ j = 50 ∨ j = 51) with rfl | rfl | rfl | rfl | rfl | rfl | rfl | rfl | rfl | rfl | rfl | rfl | rfl | rfl | rfl | rfl | rfl | rfl | rfl | rfl | rfl | rfl | rfl | rfl | rfl | rfl | rfl | rfl | rfl | rfl | rfl | rfl | rfl | rfl | rfl | rfl | rfl | rfl | rfl | rfl | rfl | rfl | rfl | rfl | rfl | rfl | rfl | rfl | rfl | rfl | rfl | rfl <;> exact h
  · obtain ⟨k, rfl⟩ : ∃ k, j = k + 52 := ⟨j - 52, by omega⟩
    exact h
theorem load_frG {w : World} {b : Nat} {v0 v1 v2 v4 : Value} {E : Int} (h : HBox w b [v0, v1, v2, .int .i32 E, v4] 41) : (Instr.loadAt 38 (.pointer (some ⟨b, 0, none⟩))).run Tryz.prog w = .ok (.agg #[v0, v1, v2, .int .i32 E]) w := by
  have x0 := h.cell (j := 0) rfl
  have x1 := h.cell (j := 1) rfl
  have x2 := h.cell (j := 2) rfl
  have x3 := h.cell (j := 3) rfl
  go_simp
theorem load_jG {w : World} {b : Nat} {v0 v1 v2 v4 : Value} {E : Int} (h : HBox w b [v0, v1, v2, .int .i32 E, v4] 41) : (Instr.loadAt 39 (.pointer (some ⟨b, 4, none⟩))).run Tryz.prog w = .ok v4 w := by
  have x4 := h.cell (j := 4) rfl
  go_simp
set_option maxHeartbeats 4000000 in
set_option maxRecDepth 100000 in
theorem codecgrows_any {I : World → Prop} (C : AllotC) (D : DayC I) (K : KeyC I) (U : UnitC) (LC : CalC I) (EC : EntryC I) (B : BookC I) (CO : CodecC I) (x : Bk) (vCh vUn vLo vJs : Value) (js : List Jp) (w : World) (hI : I w) (hM : BkM x vCh vUn vLo vJs js w) :
    Calls Tryz.prog 8 #[bV vCh vUn x.first vLo vJs] w fun e w' => e = .returned (.bool true) ∧ Below w.heap.size w w' := by
  have hmix : Tryz.prog.follows .mixedOrders = true := by kernel_rfl
  obtain ⟨q1, d1, rfl, _⟩ := hM.ch.form
  obtain ⟨q2, d2, rfl, _⟩ := hM.un.form
  obtain ⟨q3, d3, rfl, _⟩ := hM.lo.form
  obtain ⟨q4, d4, rfl, _⟩ := hM.jr.form
  obtain ⟨vCh, hvCh⟩ : ∃ v, Value.slice q1 x.chart.length d1 = v := ⟨_, rfl⟩
  obtain ⟨vUn, hvUn⟩ : ∃ v, Value.slice q2 x.units.length d2 = v := ⟨_, rfl⟩
  obtain ⟨vLo, hvLo⟩ : ∃ v, Value.slice q3 x.long.length d3 = v := ⟨_, rfl⟩
  obtain ⟨vJs, hvJs⟩ : ∃ v, Value.slice q4 js.length d4 = v := ⟨_, rfl⟩
  rw [hvCh, hvUn, hvLo, hvJs] at hM ⊢
  clear hvCh hvUn hvLo hvJs
  have HI := Lib.hid hI
  have HDY := Lib.hid D
  have HBC := Lib.hid B
  have HCO := Lib.hid CO
  have KA := Lib.hid (fun (w' : World) (h : Below w.heap.size w w') => awake11_any C D K U LC EC B CO w' (D.stay hI h))
  have KL := Lib.hid (fun (w' : World) (h : Below w.heap.size w w') => light_c x vCh vUn vLo vJs js w' (hM.stay h))
  have KM0 := Lib.hid (fun (hT : lightB x = true) (w' : World) (h : Below w.heap.size w w') => mk_c x vCh vUn vLo vJs js w' (hM.stay h) hT)
  have KE0 := Lib.hid (fun (hT : lightB x = true) (w' : World) (v : Value) (h : MkB x w' v) => enc_mk CO hT h)
  obtain ⟨LT, hLT⟩ : ∃ b, lightB x = b := ⟨_, rfl⟩
  have HLT := Lib.hid hLT
  rw [hLT] at KL
  unfold bV at KL KM0 ⊢
  have hb := (Below.refl w.heap.size w).alloc (Nat.le_refl _) (.cells #[vCh, vUn, .int .i16 x.first, vLo, vJs] 28)
  have bx := HBox.new w [vCh, vUn, .int .i16 x.first, vLo, vJs] 28
  change HBox (w.alloc (.cells #[vCh, vUn, .int .i16 x.first, vLo, vJs] 28)) _ _ _ at bx
  clear C D K U LC EC B CO hI hM hLT
  go_enter Tryz.func8, Tryz.ntmps8
  go_upto_region 1 with fail
  generalize w.alloc (.cells #[vCh, vUn, .int .i16 x.first, vLo, vJs] 28) = W at *
  generalize w.heap.size = X at bx ⊢
  have HX := Lib.hid bx
  have HB := Lib.hid hb
  clear bx hb
  go_upto_region 3 with (go_at_call 9; refine (KA.out _ HB.out).mono ?_; rintro e w4 ⟨rfl, h4⟩; have HX4 := Lib.hid (HX.out.stay h4); have HB4 := Lib.hid (HB.out.trans (h4.mono HB.out.size)); clear h4)
  have x0 := HX4.out.cell (j := 0) rfl
  have x1 := HX4.out.cell (j := 1) rfl
  have x2 := HX4.out.cell (j := 2) rfl
  have x3 := HX4.out.cell (j := 3) rfl
  have x4 := HX4.out.cell (j := 4) rfl
  clear HX HB
  cases LT with
  | false =>
    go_wp2_with (go_at_call 10; refine (KL.out _ HB4.out).mono ?_; rintro e w5 ⟨rfl, h5⟩; have HB5 := Lib.hid (HB4.out.trans (h5.mono HB4.out.size)); clear h5)
    go_ret
    exact ⟨rfl, HB5.out⟩
  | true =>
    have KM := Lib.hid (KM0.out HLT.out)
    have KE := Lib.hid (KE0.out HLT.out)
    clear KM0 KE0
    go_upto_region 5 with (go_at_call 10; refine (KL.out _ HB4.out).mono ?_; rintro e w5 ⟨rfl, h5⟩; have HX5 := Lib.hid (HX4.out.stay h5); have HB5 := Lib.hid (HB4.out.trans (h5.mono HB4.out.size)); clear h5)
    clear x0 x1 x2 x3 x4 HX4 HB4
    have x0 := HX5.out.cell (j := 0) rfl
    have x1 := HX5.out.cell (j := 1) rfl
    have x2 := HX5.out.cell (j := 2) rfl
    have x3 := HX5.out.cell (j := 3) rfl
    have x4 := HX5.out.cell (j := 4) rfl
    go_upto_region 6 with (go_at_call 11; refine (KM.out _ HB5.out).mono ?_; rintro e w6 ⟨v6, rfl, hK, h6⟩; obtain ⟨vC, vU, vS, vJ, vs, rfl, hMM⟩ := hK; obtain ⟨b1, bk1, rfl, _⟩ := hMM.fr.c.form; obtain ⟨b2, bk2, rfl, _⟩ := hMM.fr.u.form; obtain ⟨b3, bk3, rfl, _⟩ := hMM.fr.s.form; obtain ⟨b4, bk4, rfl, _⟩ := hMM.jr.1.form; have HK6 := Lib.hid hMM; have HB6 := Lib.hid (HB5.out.trans (h6.mono HB5.out.size)); unfold bkV; clear hMM h6)
    obtain ⟨bn1, hn1⟩ : ∃ n, (frB x).C.length = n := ⟨_, rfl⟩
    obtain ⟨bn2, hn2⟩ : ∃ n, (frB x).U.length = n := ⟨_, rfl⟩
    obtain ⟨bn3, hn3⟩ : ∃ n, (frB x).S.length = n := ⟨_, rfl⟩
    obtain ⟨bn4, hn4⟩ : ∃ n, vs.length = n := ⟨_, rfl⟩
    obtain ⟨bE, hnE⟩ : ∃ n, (frB x).E = n := ⟨_, rfl⟩
    have HNE := Lib.hid hnE
    have HN4 := Lib.hid hn4
    rw [hn1, hn2, hn3, hn4] at HK6
    rw [hn1, hn2, hn3, hn4, hnE]
    clear hn1 hn2 hn3 hn4 hnE
    have hbw := (Below.refl w6.heap.size w6).alloc (Nat.le_refl _) (.cells #[.slice b1 bn1 bk1, .slice b2 bn2 bk2, .slice b3 bn3 bk3, .int .i32 bE, .slice b4 bn4 bk4] 41)
    have hfb : HBox (w6.alloc (.cells #[.slice b1 bn1 bk1, .slice b2 bn2 bk2, .slice b3 bn3 bk3, .int .i32 bE, .slice b4 bn4 bk4] 41)) w6.heap.size [.slice b1 bn1 bk1, .slice b2 bn2 bk2, .slice b3 bn3 bk3, .int .i32 bE, .slice b4 bn4 bk4] 41 := HBox.new w6 [.slice b1 bn1 bk1, .slice b2 bn2 bk2, .slice b3 bn3 bk3, .int .i32 bE, .slice b4 bn4 bk4] 41
    have HK7 := Lib.hid (HK6.out.stay hbw)
    have HB7 := Lib.hid (HB6.out.trans (hbw.mono HB6.out.size))
    have HY := Lib.hid hfb
    clear hbw hfb x0 x1 x2 x3 x4 HX5 HB5 HK6 HB6
    generalize w6.alloc (.cells #[.slice b1 bn1 bk1, .slice b2 bn2 bk2, .slice b3 bn3 bk3, .int .i32 bE, .slice b4 bn4 bk4] 41) = V at HK7 HB7 HY ⊢
    generalize w6.heap.size = Y at HY ⊢
    have y4 := HY.out.cell (j := 4) rfl
    by_cases h0 : bn4 = 0
    · subst h0
      go_wp2_with fail
      go_ret
      exact ⟨rfl, HB7.out⟩
    have t0 : ((bn4 : Int) == 0) = false := by rw [beq_eq_false_iff_ne]; omega
    go_upto_region 8 with fail
    clear y4
    have hmd := made_bd HLT.out
    obtain ⟨m, hm⟩ : ∃ m, bn4 = m + 1 := ⟨bn4 - 1, by omega⟩
    have hcap : bn4 ≤ bk4 := by
      rcases HK7.out.jr.1 with ⟨_, _, h, h'⟩ | ⟨_, _, _, h, _, _, h', _⟩
      · have := HN4.out; rw [h'] at this; simp at this; omega
      · cases h; have := HN4.out; omega
    have hmk : m ≤ bk4 := by omega
    have hlen : (makeJ x).length = m + 1 := by rw [← HK7.out.js, List.length_map, HN4.out, hm]
    have hjs : makeJ x = (makeJ x).take m ++ [(makeJ x)[m]'(by omega)] := by
      have h9 := (List.take_append_drop m (makeJ x)).symm
      rw [List.drop_eq_getElem_cons (by omega : m < (makeJ x).length), List.drop_eq_nil_of_le (by omega : (makeJ x).length ≤ m + 1)] at h9
      exact h9
    have hjt : (vs.take m).map jOf = (makeJ x).take m := by rw [List.map_take, HK7.out.js]
    have hg := grows11 (f := frB x) (js := (makeJ x).take m) (j := (makeJ x)[m]'(by omega)) (by rw [List.length_take]; have := hmd.2.2.1; omega)
    rw [← hjs] at hg
    have hfl := encFr_len (frB x)
    have hwn : OkBw (bdOf (frB x) []) := by
      have h9 := hmd.1.wide
      exact ⟨h9.1, h9.2.1, h9.2.2.1, h9.2.2.2.1, ⟨by show 0 ≤ 2000; omega, fun x hx => by cases hx⟩⟩
    have hwl : OkBw (bdOf (frB x) ((vs.take m).map jOf)) := by
      rw [hjt]
      have h9 := hmd.1.wide
      exact ⟨h9.1, h9.2.1, h9.2.2.1, h9.2.2.2.1, ⟨by show ((makeJ x).take m).length ≤ 2000; rw [List.length_take]; have := hmd.2.2.1; omega, fun y hy => h9.2.2.2.2.2 y (List.mem_of_mem_take hy)⟩⟩
    have hrl : ∀ (w' : World) (v : Value) (l : List Nat), Recs byc 1 w' v l → 0 < l.length → RLg w' v l.length l := fun w' v l hR h0 => by
      obtain ⟨r, c, rfl, _⟩ := hR.form
      obtain ⟨b, off, rfl, _, hc⟩ := rec_some hR rfl h0
      exact ⟨b, off, c, rfl, hc, hR⟩
    have KEN := Lib.hid (fun (w' : World) (h : Below V.heap.size V w') => show Calls Tryz.prog 13 #[.agg #[.slice b1 bn1 bk1, .slice b2 bn2 bk2, .slice b3 bn3 bk3, .int .i32 bE, .slice none 0 0]] w' fun e w'' => ∃ u, e = .returned u ∧ RLg w'' u (encB (frB x) []).length (encB (frB x) []) ∧ Below w'.heap.size w' w'' from HNE.out ▸ (HCO.out.enc _ _ _ (.slice none 0 0) (frB x) [] w' (HK7.out.fr.stay h) (JRow.nil _ _ _) hwn).mono (by rintro e w'' ⟨u, rfl, o, hb⟩; exact ⟨_, rfl, hrl _ _ _ o (by show 0 < (encB (frB x) []).length; rw [hg.1]; omega), hb⟩))
    have KEL := Lib.hid (fun (w' : World) (h : Below V.heap.size V w') => show Calls Tryz.prog 13 #[.agg #[.slice b1 bn1 bk1, .slice b2 bn2 bk2, .slice b3 bn3 bk3, .int .i32 bE, .slice b4 m bk4]] w' fun e w'' => ∃ u, e = .returned u ∧ RLg w'' u (encB (frB x) ((makeJ x).take m)).length (encB (frB x) ((makeJ x).take m)) ∧ Below w'.heap.size w' w'' from HNE.out ▸ (HCO.out.enc _ _ _ (.slice b4 m bk4) (frB x) (vs.take m) w' (HK7.out.fr.stay h) ((HK7.out.jr.stay h).take HN4.out m (by omega)) hwl).mono (by rintro e w'' ⟨u, rfl, o, hb⟩; rw [hjt] at o; exact ⟨_, rfl, hrl _ _ _ o (by omega), hb⟩))
    have KEA := Lib.hid (fun (w' : World) (h : Below V.heap.size V w') => show Calls Tryz.prog 13 #[.agg #[.slice b1 bn1 bk1, .slice b2 bn2 bk2, .slice b3 bn3 bk3, .int .i32 bE, .slice b4 bn4 bk4]] w' fun e w'' => ∃ u, e = .returned u ∧ RLg w'' u (encB (frB x) (makeJ x)).length (encB (frB x) (makeJ x)) ∧ Below w'.heap.size w' w'' from HNE.out ▸ (HCO.out.enc _ _ _ (.slice b4 bn4 bk4) (frB x) vs w' (HK7.out.fr.stay h) (HK7.out.jr.stay h) (by rw [HK7.out.js]; exact hmd.1.wide)).mono (by rintro e w'' ⟨u, rfl, o, hb⟩; rw [HK7.out.js] at o; exact ⟨_, rfl, hrl _ _ _ o (by omega), hb⟩))
    have HG := Lib.hid hg
    have HFL := Lib.hid hfl
    have hm12 : m ≤ 12 := by have := hmd.2.2.1; omega
    have HAL : Hid ((encB (frB x) (makeJ x)).length ≤ 300000) := Lib.hid hmd.2.2.2
    clear hjs hjt hg hfl hwn hwl hrl hlen hmd HK7 KE KM KL KA HN4 HNE
    generalize encB (frB x) [] = EN at KEN HG
    generalize encB (frB x) ((makeJ x).take m) = EL at KEL HG
    generalize encB (frB x) (makeJ x) = EA at KEA HG HAL
    generalize (encFr (frB x)).length = n at HG HFL
    obtain ⟨LN, hLN⟩ : ∃ k, EN.length = k := ⟨_, rfl⟩
    obtain ⟨LL, hLL⟩ : ∃ k, EL.length = k := ⟨_, rfl⟩
    obtain ⟨LA, hLA⟩ : ∃ k, EA.length = k := ⟨_, rfl⟩
    have HLN := Lib.hid hLN
    have HLL := Lib.hid hLL
    have HLA := Lib.hid hLA
    rw [hLN] at KEN
    rw [hLL] at KEL
    rw [hLA] at KEA HAL
    rw [hLN, hLL, hLA] at HG
    clear hLN hLL hLA
    have tm : (bn4 : Int) - 1 = (m : Int) := by omega
    have tm2 : IntKind.i64.wrap (m : Int) = (m : Int) := by rw [IntKind.wrap_i64]; omega
    clear hm hcap hm12
    refine wp_region_say 17 (fun w' => Below V.heap.size V w') (R8g (.pointer (some ⟨Y, 0, none⟩)) (.agg #[.slice b1 bn1 bk1, .slice b2 bn2 bk2, .slice b3 bn3 bk3, .int .i32 bE]) (.agg #[.slice b1 bn1 bk1, .slice b2 bn2 bk2, .slice b3 bn3 bk3, .int .i32 bE, .slice none 0 0]) (.pointer (some ⟨Y, 4, none⟩)) (.slice b4 bn4 bk4) (.slice b4 m bk4) (.agg #[.slice b1 bn1 bk1, .slice b2 bn2 bk2, .slice b3 bn3 bk3, .int .i32 bE, .slice b4 m bk4]) bn4 m EN EL LN LL) hmix rfl (by kernel_rfl) (by kernel_rfl) (by kernel_rfl) (Below.refl _ _).drew ?_ ?_
    · intro s a w' i hi hC hdep hfar hrd
      have hBw : Below w.heap.size w w' := HB7.out.trans (hC.mono HB7.out.size)
      rcases (by omega : i = 0 ∨ i = 1 ∨ i = 2 ∨ i = 3 ∨ i = 4 ∨ i = 5 ∨ i = 6 ∨ i = 7 ∨ i = 8 ∨ i = 9 ∨ i = 10 ∨ i = 11 ∨ i = 12 ∨ i = 13 ∨ i = 14 ∨ i = 15 ∨ i = 16) with rfl | rfl | rfl | rfl | rfl | rfl | rfl | rfl | rfl | rfl | rfl | rfl | rfl | rfl | rfl | rfl | rfl
      · refine runG (.fieldAddr 41 (.tmp 3) 0) (some 19) (gd := none) (by unfold opG; kernel_rfl) trivial (.pointer (some ⟨Y, 0, none⟩)) (w' := w') (fun o ho => by unfold execOp; rw [ho]; simp only [show a.eval (.tmp 3) = Value.pointer (some ⟨Y, 0, none⟩) from (hfar 3 (by kernel_rfl)).trans (by kernel_rfl)]; go_simp) ?_
        exact ⟨_, congrArg (fun d => a.put d (.pointer (some ⟨Y, 0, none⟩))) (by kernel_rfl), hC, rfl, fun j u h => h⟩
      · refine loadG 38 (.tmp 19) (some 20) (gd := none) (by unfold opG; kernel_rfl) trivial _ (.agg #[.slice b1 bn1 bk1, .slice b2 bn2 bk2, .slice b3 bn3 bk3, .int .i32 bE]) (show a.eval (.tmp 19) = Value.pointer (some ⟨Y, 0, none⟩) from hrd 0 19 (hdep 0 (by kernel_rfl)) (by kernel_rfl)) (load_frG (HY.out.stay hC)) ?_
        exact ⟨_, congrArg (fun d => a.put d (.agg #[.slice b1 bn1 bk1, .slice b2 bn2 bk2, .slice b3 bn3 bk3, .int .i32 bE])) (by kernel_rfl), hC, rfl, fun j u h => h⟩
      · refine runG (.build 41 #[(0, .tmp 20)]) (some 21) (gd := none) (by unfold opG; kernel_rfl) trivial (.agg #[.slice b1 bn1 bk1, .slice b2 bn2 bk2, .slice b3 bn3 bk3, .int .i32 bE, .slice none 0 0]) (w' := w') (fun o ho => by unfold execOp; rw [ho]; simp only [List.map_toArray, List.map_cons, List.map_nil, show a.eval (.tmp 20) = (.agg #[.slice b1 bn1 bk1, .slice b2 bn2 bk2, .slice b3 bn3 bk3, .int .i32 bE]) from hrd 1 20 (hdep 1 (by kernel_rfl)) (by kernel_rfl)]; go_simp) ?_
        exact ⟨_, congrArg (fun d => a.put d (.agg #[.slice b1 bn1 bk1, .slice b2 bn2 bk2, .slice b3 bn3 bk3, .int .i32 bE, .slice none 0 0])) (by kernel_rfl), hC, rfl, fun j u h => h⟩
      · refine callG (.call { callee := .value (.func 13), args := #[.tmp 21], argTypes := #[41] }) (some 22) (gd := none) (by unfold opG; kernel_rfl) trivial 13 #[.agg #[.slice b1 bn1 bk1, .slice b2 bn2 bk2, .slice b3 bn3 bk3, .int .i32 bE, .slice none 0 0]] (fun o ho => by unfold execOp; rw [ho]; simp only [resolve, List.map_toArray, List.map_cons, List.map_nil, show a.eval (.tmp 21) = (.agg #[.slice b1 bn1 bk1, .slice b2 bn2 bk2, .slice b3 bn3 bk3, .int .i32 bE, .slice none 0 0]) from hrd 2 21 (hdep 2 (by kernel_rfl)) (by kernel_rfl)]; go_simp) (KEN.out w' hC) ?_
        rintro e w'' ⟨v', rfl, hm, hb⟩
        exact ⟨_, rfl, _, congrArg (fun d => a.put d _) (by kernel_rfl), hC.trans (hb.mono hC.size), hm, R8g.stay hb⟩
      · refine runG (.fieldAddr 41 (.tmp 3) 0) (some 23) (gd := none) (by unfold opG; kernel_rfl) trivial (.pointer (some ⟨Y, 0, none⟩)) (w' := w') (fun o ho => by unfold execOp; rw [ho]; simp only [show a.eval (.tmp 3) = Value.pointer (some ⟨Y, 0, none⟩) from (hfar 3 (by kernel_rfl)).trans (by kernel_rfl)]; go_simp) ?_
        exact ⟨_, congrArg (fun d => a.put d (.pointer (some ⟨Y, 0, none⟩))) (by kernel_rfl), hC, rfl, fun j u h => h⟩
      · refine loadG 38 (.tmp 23) (some 24) (gd := none) (by unfold opG; kernel_rfl) trivial _ (.agg #[.slice b1 bn1 bk1, .slice b2 bn2 bk2, .slice b3 bn3 bk3, .int .i32 bE]) (show a.eval (.tmp 23) = Value.pointer (some ⟨Y, 0, none⟩) from hrd 4 23 (hdep 4 (by kernel_rfl)) (by kernel_rfl)) (load_frG (HY.out.stay hC)) ?_
        exact ⟨_, congrArg (fun d => a.put d (.agg #[.slice b1 bn1 bk1, .slice b2 bn2 bk2, .slice b3 bn3 bk3, .int .i32 bE])) (by kernel_rfl), hC, rfl, fun j u h => h⟩
      · refine runG (.fieldAddr 41 (.tmp 3) 1) (some 25) (gd := none) (by unfold opG; kernel_rfl) trivial (.pointer (some ⟨Y, 4, none⟩)) (w' := w') (fun o ho => by unfold execOp; rw [ho]; simp only [show a.eval (.tmp 3) = Value.pointer (some ⟨Y, 0, none⟩) from (hfar 3 (by kernel_rfl)).trans (by kernel_rfl)]; go_simp) ?_
        exact ⟨_, congrArg (fun d => a.put d (.pointer (some ⟨Y, 4, none⟩))) (by kernel_rfl), hC, rfl, fun j u h => h⟩
      · refine loadG 39 (.tmp 25) (some 26) (gd := none) (by unfold opG; kernel_rfl) trivial _ (.slice b4 bn4 bk4) (show a.eval (.tmp 25) = Value.pointer (some ⟨Y, 4, none⟩) from hrd 6 25 (hdep 6 (by kernel_rfl)) (by kernel_rfl)) (load_jG (HY.out.stay hC)) ?_
        exact ⟨_, congrArg (fun d => a.put d (.slice b4 bn4 bk4)) (by kernel_rfl), hC, rfl, fun j u h => h⟩
      · refine runG (.fieldAddr 41 (.tmp 3) 1) (some 27) (gd := none) (by unfold opG; kernel_rfl) trivial (.pointer (some ⟨Y, 4, none⟩)) (w' := w') (fun o ho => by unfold execOp; rw [ho]; simp only [show a.eval (.tmp 3) = Value.pointer (some ⟨Y, 0, none⟩) from (hfar 3 (by kernel_rfl)).trans (by kernel_rfl)]; go_simp) ?_
        exact ⟨_, congrArg (fun d => a.put d (.pointer (some ⟨Y, 4, none⟩))) (by kernel_rfl), hC, rfl, fun j u h => h⟩
      · refine loadG 39 (.tmp 27) (some 28) (gd := none) (by unfold opG; kernel_rfl) trivial _ (.slice b4 bn4 bk4) (show a.eval (.tmp 27) = Value.pointer (some ⟨Y, 4, none⟩) from hrd 8 27 (hdep 8 (by kernel_rfl)) (by kernel_rfl)) (load_jG (HY.out.stay hC)) ?_
        exact ⟨_, congrArg (fun d => a.put d (.slice b4 bn4 bk4)) (by kernel_rfl), hC, rfl, fun j u h => h⟩
      · refine runG (.call { callee := .builtin .len, args := #[.tmp 28], argTypes := #[39] }) (some 29) (gd := none) (by unfold opG; kernel_rfl) trivial (.int .i64 (bn4 : Int)) (w' := w') (fun o ho => by unfold execOp; rw [ho]; simp only [resolve, List.map_toArray, List.map_cons, List.map_nil, show a.eval (.tmp 28) = (.slice b4 bn4 bk4) from hrd 9 28 (hdep 9 (by kernel_rfl)) (by kernel_rfl)]; go_simp) ?_
        exact ⟨_, congrArg (fun d => a.put d (.int .i64 (bn4 : Int))) (by kernel_rfl), hC, rfl, fun j u h => h⟩
      · refine runG (.binOp .sub 3 (.tmp 29) (.const (.int .i64 1)) 3) (some 30) (gd := none) (by unfold opG; kernel_rfl) trivial (.int .i64 (m : Int)) (w' := w') (fun o ho => by unfold execOp; rw [ho]; simp only [show a.eval (.tmp 29) = (.int .i64 (bn4 : Int)) from hrd 10 29 (hdep 10 (by kernel_rfl)) (by kernel_rfl)]; go_simp) ?_
        exact ⟨_, congrArg (fun d => a.put d (.int .i64 (m : Int))) (by kernel_rfl), hC, rfl, fun j u h => h⟩
      · refine runG (.slice 39 (.tmp 26) none (some (.tmp 30)) none) (some 31) (gd := none) (by unfold opG; kernel_rfl) trivial (.slice b4 m bk4) (w' := w') (fun o ho => by unfold execOp; rw [ho]; simp only [Option.map_some, Option.map_none, show a.eval (.tmp 26) = (.slice b4 bn4 bk4) from hrd 7 26 (hdep 7 (by kernel_rfl)) (by kernel_rfl), show a.eval (.tmp 30) = (.int .i64 (m : Int)) from hrd 11 30 (hdep 11 (by kernel_rfl)) (by kernel_rfl)]; go_simp) ?_
        exact ⟨_, congrArg (fun d => a.put d (.slice b4 m bk4)) (by kernel_rfl), hC, rfl, fun j u h => h⟩
      · refine runG (.build 41 #[(0, .tmp 24), (1, .tmp 31)]) (some 32) (gd := none) (by unfold opG; kernel_rfl) trivial (.agg #[.slice b1 bn1 bk1, .slice b2 bn2 bk2, .slice b3 bn3 bk3, .int .i32 bE, .slice b4 m bk4]) (w' := w') (fun o ho => by unfold execOp; rw [ho]; simp only [List.map_toArray, List.map_cons, List.map_nil, show a.eval (.tmp 24) = (.agg #[.slice b1 bn1 bk1, .slice b2 bn2 bk2, .slice b3 bn3 bk3, .int .i32 bE]) from hrd 5 24 (hdep 5 (by kernel_rfl)) (by kernel_rfl), show a.eval (.tmp 31) = (.slice b4 m bk4) from hrd 12 31 (hdep 12 (by kernel_rfl)) (by kernel_rfl)]; go_simp) ?_
        exact ⟨_, congrArg (fun d => a.put d (.agg #[.slice b1 bn1 bk1, .slice b2 bn2 bk2, .slice b3 bn3 bk3, .int .i32 bE, .slice b4 m bk4])) (by kernel_rfl), hC, rfl, fun j u h => h⟩
      · refine callG (.call { callee := .value (.func 13), args := #[.tmp 32], argTypes := #[41] }) (some 33) (gd := none) (by unfold opG; kernel_rfl) trivial 13 #[.agg #[.slice b1 bn1 bk1, .slice b2 bn2 bk2, .slice b3 bn3 bk3, .int .i32 bE, .slice b4 m bk4]] (fun o ho => by unfold execOp; rw [ho]; simp only [resolve, List.map_toArray, List.map_cons, List.map_nil, show a.eval (.tmp 32) = (.agg #[.slice b1 bn1 bk1, .slice b2 bn2 bk2, .slice b3 bn3 bk3, .int .i32 bE, .slice b4 m bk4]) from hrd 13 32 (hdep 13 (by kernel_rfl)) (by kernel_rfl)]; go_simp) (KEL.out w' hC) ?_
        rintro e w'' ⟨v', rfl, hm, hb⟩
        exact ⟨_, rfl, _, congrArg (fun d => a.put d _) (by kernel_rfl), hC.trans (hb.mono hC.size), hm, R8g.stay hb⟩
      · have hu : RLg w' (a.eval (.tmp 22)) LN EN := hrd 3 22 (hdep 3 (by kernel_rfl)) (by kernel_rfl)
        obtain ⟨u, eu⟩ : ∃ u, a.eval (.tmp 22) = u := ⟨_, rfl⟩
        rw [eu] at hu
        refine runG (.assign (.tmp 22)) (some 4) (gd := none) (by unfold opG; kernel_rfl) trivial u (w' := w') (fun o ho => by unfold execOp; rw [ho]; simp only [eu]; go_simp) ?_
        exact ⟨_, congrArg (fun d => a.put d u) (by kernel_rfl), hC, hu, fun j u h => h⟩
      · have hu : RLg w' (a.eval (.tmp 33)) LL EL := hrd 14 33 (hdep 14 (by kernel_rfl)) (by kernel_rfl)
        obtain ⟨u, eu⟩ : ∃ u, a.eval (.tmp 33) = u := ⟨_, rfl⟩
        rw [eu] at hu
        refine runG (.assign (.tmp 33)) (some 5) (gd := none) (by unfold opG; kernel_rfl) trivial u (w' := w') (fun o ho => by unfold execOp; rw [ho]; simp only [eu]; go_simp) ?_
        exact ⟨_, congrArg (fun d => a.put d u) (by kernel_rfl), hC, hu, fun j u h => h⟩
    · intro b w8 hC hR
      obtain ⟨p1, o1, c1, e15, hc1, hr1⟩ : RLg w8 (b 15) LN EN := hR 15 (by omega)
      obtain ⟨p2, o2, c2, e16, hc2, hr2⟩ : RLg w8 (b 16) LL EL := hR 16 (by omega)
      simp only [putL, if_true, Nat.reduceAdd, Act.put, List.getElem_toArray, List.getElem_cons_zero, List.getElem_cons_succ, List.setIfInBounds_toArray, List.set_cons_zero, List.set_cons_succ]
      rw [e15] at hr1
      rw [e16] at hr2
      rw [e15, e16]
      have H8 := Lib.hid hC
      have HR1 := Lib.hid hr1
      have HR2 := Lib.hid hr2
      have hy8 := HY.out.stay hC
      have y0 := hy8.cell (j := 0) rfl
      have y1 := hy8.cell (j := 1) rfl
      have y2 := hy8.cell (j := 2) rfl
      have y3 := hy8.cell (j := 3) rfl
      have y4 := hy8.cell (j := 4) rfl
      clear hR e15 e16 hr1 hr2 hC hy8
      go_upto_region 10 with (go_at_call 13; refine (KEA.out _ H8.out).mono ?_; rintro e w9 ⟨u, rfl, ⟨p3, o3, c3, rfl, hc3, hr3⟩, h9⟩; have HR3 := Lib.hid hr3; have H9 := Lib.hid h9; clear hr3 h9)
      have HB9 := Lib.hid ((HB7.out.trans (H8.out.mono HB7.out.size)).trans (H9.out.mono (HB7.out.trans (H8.out.mono HB7.out.size)).size))
      have HR1 := Lib.hid (HR1.out.stay H9.out)
      have HR2 := Lib.hid (HR2.out.stay H9.out)
      clear y0 y1 y2 y3 y4 H8 H9 KEN KEL KEA HY HB7
      obtain ⟨g1, g2, g3, g4, g5, g6, g7⟩ := HG.out
      have u1 : (LN : Int) - 1 = (n : Int) := by omega
      have u2 : IntKind.i64.wrap (n : Int) = (n : Int) := by have := HAL.out; rw [IntKind.wrap_i64]; omega
      have hn3 := HFL.out
      have HG5 := Lib.hid g5
      have HG6 := Lib.hid g6
      have HG7 := Lib.hid g7
      have hLA := HAL.out
      clear g5 g6 g7 HG HFL HAL
      go_upto_region 11 with fail
      obtain ⟨n1, hn1⟩ : ∃ k, n + 1 = k := ⟨_, rfl⟩
      rw [hn1] at g1 HG7
      have u3 : (n : Int) + 1 = (n1 : Int) := by omega
      have u4 : IntKind.i64.wrap (n1 : Int) = (n1 : Int) := by rw [IntKind.wrap_i64]; omega
      have d1 : decide ((3 : Int) < (n : Int)) = true := decide_eq_true (by omega)
      have d2 : decide ((LL : Int) < (LA : Int)) = true := decide_eq_true (by omega)
      have d3 : decide ((n : Int) < (LL : Int)) = true := decide_eq_true (by omega)
      have d4 : decide ((n : Int) < (LA : Int)) = true := decide_eq_true (by omega)
      have b1 : n ≤ c3 := by omega
      have b2 : n ≤ c1 := by omega
      have b3 : n ≤ c2 := by omega
      have b4 : n1 ≤ LL := by omega
      have b5 : LL ≤ c3 := by omega
      obtain ⟨o3e, a3⟩ := if_addrG (c3 = n1) p3 o3 n1
      obtain ⟨o2e, a2⟩ := if_addrG (c2 = n1) p2 o2 n1
      have q3 := byc_drop (byc_take HR3.out HLA.out LL (by omega)) (by rw [List.length_take, HLA.out]; omega) n1 b4
      have q2 := byc_drop HR2.out HLL.out n1 b4
      rw [a3] at q3
      rw [a2] at q2
      have KQ1 := Lib.hid (fun (w' : World) (h : Below w9.heap.size w9 w') => show Calls Tryz.prog 14 #[.slice (some ⟨p3, o3, none⟩) n c3, .slice (some ⟨p1, o1, none⟩) n c1] w' fun e w'' => e = .returned (.bool true) ∧ Below w'.heap.size w' w'' from (equal_8 _ _ _ _ w' ((byc_take HR3.out HLA.out n (by omega)).stay h) ((byc_take HR1.out HLN.out n (by omega)).stay h)).mono (by rintro e w'' ⟨rfl, hb⟩; exact ⟨by rw [HG5.out]; simp, hb⟩))
      have KQ2 := Lib.hid (fun (w' : World) (h : Below w9.heap.size w9 w') => show Calls Tryz.prog 14 #[.slice (some ⟨p2, o2, none⟩) n c2, .slice (some ⟨p1, o1, none⟩) n c1] w' fun e w'' => e = .returned (.bool true) ∧ Below w'.heap.size w' w'' from (equal_8 _ _ _ _ w' ((byc_take HR2.out HLL.out n (by omega)).stay h) ((byc_take HR1.out HLN.out n (by omega)).stay h)).mono (by rintro e w'' ⟨rfl, hb⟩; exact ⟨by rw [HG6.out]; simp, hb⟩))
      have KQ3 := Lib.hid (fun (w' : World) (h : Below w9.heap.size w9 w') => show Calls Tryz.prog 14 #[.slice (some ⟨p3, o3e, none⟩) (LL - n1) (c3 - n1), .slice (some ⟨p2, o2e, none⟩) (LL - n1) (c2 - n1)] w' fun e w'' => e = .returned (.bool true) ∧ Below w'.heap.size w' w'' from (equal_8 _ _ _ _ w' (q3.stay h) (q2.stay h)).mono (by rintro e w'' ⟨rfl, hb⟩; exact ⟨by rw [HG7.out]; simp, hb⟩))
      clear q3 q2 HR1 HR2 HR3 HG5 HG6 HG7
      refine wp_region_say 53 (fun w' => Below w9.heap.size w9 w') (R11g (.slice (some ⟨p1, o1, none⟩) LN c1) (.slice (some ⟨p2, o2, none⟩) LL c2) (.slice (some ⟨p3, o3, none⟩) LA c3) (.int .i64 (n : Int)) (.slice (some ⟨p1, o1, none⟩) n c1) (.slice (some ⟨p2, o2, none⟩) n c2) (.slice (some ⟨p3, o3, none⟩) n c3) (.slice (some ⟨p3, o3e, none⟩) (LL - n1) (c3 - n1)) (.slice (some ⟨p2, o2e, none⟩) (LL - n1) (c2 - n1)) (.int .i64 (n1 : Int)) (.int .i64 (LL : Int)) (.int .i64 (LA : Int))) hmix rfl (by kernel_rfl) (by kernel_rfl) (by kernel_rfl) (Below.refl _ _).drew ?_ ?_
      · intro s a w' i hi hC hdep hfar hrd
        have hBw : Below w.heap.size w w' := HB9.out.trans (hC.mono HB9.out.size)
        rcases (by omega : i = 0 ∨ i = 1 ∨ i = 2 ∨ i = 3 ∨ i = 4 ∨ i = 5 ∨ i = 6 ∨ i = 7 ∨ i = 8 ∨ i = 9 ∨ i = 10 ∨ i = 11 ∨ i = 12 ∨ i = 13 ∨ i = 14 ∨ i = 15 ∨ i = 16 ∨ i = 17 ∨ i = 18 ∨ i = 19 ∨ i = 20 ∨ i = 21 ∨ i = 22 ∨ i = 23 ∨ i = 24 ∨ i = 25 ∨ i = 26 ∨ i = 27 ∨ i = 28 ∨ i = 29 ∨ i = 30 ∨ i = 31 ∨ i = 32 ∨ i = 33 ∨ i = 34 ∨ i = 35 ∨ i = 36 ∨ i = 37 ∨ i = 38 ∨ i = 39 ∨ i = 40 ∨ i = 41 ∨ i = 42 ∨ i = 43 ∨ i = 44 ∨ i = 45 ∨ i = 46 ∨ i = 47 ∨ i = 48 ∨ i = 49 ∨ i = 50 ∨ i = 51 ∨ i = 52) with rfl | rfl | rfl | rfl | rfl | rfl | rfl | rfl | rfl | rfl | rfl | rfl | rfl | rfl | rfl | rfl | rfl | rfl | rfl | rfl | rfl | rfl | rfl | rfl | rfl | rfl | rfl | rfl | rfl | rfl | rfl | rfl | rfl | rfl | rfl | rfl | rfl | rfl | rfl | rfl | rfl | rfl | rfl | rfl | rfl | rfl | rfl | rfl | rfl | rfl | rfl | rfl | rfl
        · refine runG (.move (.tmp 7)) (some 39) (gd := none) (by unfold opG; kernel_rfl) trivial (.int .i64 (n : Int)) (w' := w') (fun o ho => by unfold execOp; rw [ho]; simp only [show a.eval (.tmp 7) = (.int .i64 (n : Int)) from (hfar 7 (by kernel_rfl)).trans (by kernel_rfl)]; go_simp) ?_
          exact ⟨_, congrArg (fun d => a.put d (.int .i64 (n : Int))) (by kernel_rfl), hC, rfl, fun j u h => h⟩
        · refine runG (.binOp .gtr 3 (.tmp 39) (.const (.int .i64 3)) 3) (some 40) (gd := none) (by unfold opG; kernel_rfl) trivial (.bool true) (w' := w') (fun o ho => by unfold execOp; rw [ho]; simp only [show a.eval (.tmp 39) = (.int .i64 (n : Int)) from hrd 0 39 (hdep 0 (by kernel_rfl)) (by kernel_rfl)]; go_simp) ?_
          exact ⟨_, congrArg (fun d => a.put d (.bool true)) (by kernel_rfl), hC, rfl, fun j u h => h⟩
        · refine runG (.move (.tmp 40)) (some 41) (gd := none) (by unfold opG; kernel_rfl) trivial (.bool true) (w' := w') (fun o ho => by unfold execOp; rw [ho]; simp only [show a.eval (.tmp 40) = Value.bool true from hrd 1 40 (hdep 1 (by kernel_rfl)) (by kernel_rfl)]; go_simp) ?_
          exact ⟨_, congrArg (fun d => a.put d (.bool true)) (by kernel_rfl), hC, rfl, fun j u h => h⟩
        · refine runG (.move (.tmp 5)) (some 42) (gd := (some (2, true))) (by unfold opG; kernel_rfl) (yields (by kernel_rfl) (hrd 2 41 (hdep 2 (by kernel_rfl)) (by kernel_rfl))) (.slice (some ⟨p2, o2, none⟩) LL c2) (w' := w') (fun o ho => by unfold execOp; rw [ho]; simp only [show a.eval (.tmp 5) = (.slice (some ⟨p2, o2, none⟩) LL c2) from (hfar 5 (by kernel_rfl)).trans (by kernel_rfl)]; go_simp) ?_
          exact ⟨_, congrArg (fun d => a.put d (.slice (some ⟨p2, o2, none⟩) LL c2)) (by kernel_rfl), hC, rfl, fun j u h => h⟩
        · refine runG (.call { callee := .builtin .len, args := #[.tmp 42], argTypes := #[25] }) (some 43) (gd := (some (2, true))) (by unfold opG; kernel_rfl) (yields (by kernel_rfl) (hrd 2 41 (hdep 2 (by kernel_rfl)) (by kernel_rfl))) (.int .i64 (LL : Int)) (w' := w') (fun o ho => by unfold execOp; rw [ho]; simp only [resolve, List.map_toArray, List.map_cons, List.map_nil, show a.eval (.tmp 42) = (.slice (some ⟨p2, o2, none⟩) LL c2) from hrd 3 42 (hdep 3 (by kernel_rfl)) (by kernel_rfl)]; go_simp) ?_
          exact ⟨_, congrArg (fun d => a.put d (.int .i64 (LL : Int))) (by kernel_rfl), hC, rfl, fun j u h => h⟩
        · refine runG (.move (.tmp 6)) (some 44) (gd := (some (2, true))) (by unfold opG; kernel_rfl) (yields (by kernel_rfl) (hrd 2 41 (hdep 2 (by kernel_rfl)) (by kernel_rfl))) (.slice (some ⟨p3, o3, none⟩) LA c3) (w' := w') (fun o ho => by unfold execOp; rw [ho]; simp only [show a.eval (.tmp 6) = (.slice (some ⟨p3, o3, none⟩) LA c3) from (hfar 6 (by kernel_rfl)).trans (by kernel_rfl)]; go_simp) ?_
          exact ⟨_, congrArg (fun d => a.put d (.slice (some ⟨p3, o3, none⟩) LA c3)) (by kernel_rfl), hC, rfl, fun j u h => h⟩
        · refine runG (.call { callee := .builtin .len, args := #[.tmp 44], argTypes := #[25] }) (some 45) (gd := (some (2, true))) (by unfold opG; kernel_rfl) (yields (by kernel_rfl) (hrd 2 41 (hdep 2 (by kernel_rfl)) (by kernel_rfl))) (.int .i64 (LA : Int)) (w' := w') (fun o ho => by unfold execOp; rw [ho]; simp only [resolve, List.map_toArray, List.map_cons, List.map_nil, show a.eval (.tmp 44) = (.slice (some ⟨p3, o3, none⟩) LA c3) from hrd 5 44 (hdep 5 (by kernel_rfl)) (by kernel_rfl)]; go_simp) ?_
          exact ⟨_, congrArg (fun d => a.put d (.int .i64 (LA : Int))) (by kernel_rfl), hC, rfl, fun j u h => h⟩
        · refine runG (.binOp .lss 3 (.tmp 43) (.tmp 45) 3) (some 46) (gd := (some (2, true))) (by unfold opG; kernel_rfl) (yields (by kernel_rfl) (hrd 2 41 (hdep 2 (by kernel_rfl)) (by kernel_rfl))) (.bool true) (w' := w') (fun o ho => by unfold execOp; rw [ho]; simp only [show a.eval (.tmp 43) = (.int .i64 (LL : Int)) from hrd 4 43 (hdep 4 (by kernel_rfl)) (by kernel_rfl), show a.eval (.tmp 45) = (.int .i64 (LA : Int)) from hrd 6 45 (hdep 6 (by kernel_rfl)) (by kernel_rfl)]; go_simp) ?_
          exact ⟨_, congrArg (fun d => a.put d (.bool true)) (by kernel_rfl), hC, rfl, fun j u h => h⟩
        · refine runG (.pick (.tmp 41) (.tmp 46) (.const (.bool false))) (some 47) (gd := none) (by unfold opG; kernel_rfl) trivial (.bool true) (w' := w') (fun o ho => by unfold execOp; rw [ho]; simp only [show a.eval (.tmp 41) = Value.bool true from hrd 2 41 (hdep 2 (by kernel_rfl)) (by kernel_rfl), show a.eval (.tmp 46) = Value.bool true from hrd 7 46 (hdep 7 (by kernel_rfl)) (by kernel_rfl)]; go_simp) ?_
          exact ⟨_, congrArg (fun d => a.put d (.bool true)) (by kernel_rfl), hC, rfl, fun j u h => h⟩
        · refine runG (.move (.tmp 47)) (some 48) (gd := none) (by unfold opG; kernel_rfl) trivial (.bool true) (w' := w') (fun o ho => by unfold execOp; rw [ho]; simp only [show a.eval (.tmp 47) = Value.bool true from hrd 8 47 (hdep 8 (by kernel_rfl)) (by kernel_rfl)]; go_simp) ?_
          exact ⟨_, congrArg (fun d => a.put d (.bool true)) (by kernel_rfl), hC, rfl, fun j u h => h⟩
        · refine runG (.move (.tmp 5)) (some 49) (gd := (some (9, true))) (by unfold opG; kernel_rfl) (yields (by kernel_rfl) (hrd 9 48 (hdep 9 (by kernel_rfl)) (by kernel_rfl))) (.slice (some ⟨p2, o2, none⟩) LL c2) (w' := w') (fun o ho => by unfold execOp; rw [ho]; simp only [show a.eval (.tmp 5) = (.slice (some ⟨p2, o2, none⟩) LL c2) from (hfar 5 (by kernel_rfl)).trans (by kernel_rfl)]; go_simp) ?_
          exact ⟨_, congrArg (fun d => a.put d (.slice (some ⟨p2, o2, none⟩) LL c2)) (by kernel_rfl), hC, rfl, fun j u h => h⟩
        · refine runG (.call { callee := .builtin .len, args := #[.tmp 49], argTypes := #[25] }) (some 50) (gd := (some (9, true))) (by unfold opG; kernel_rfl) (yields (by kernel_rfl) (hrd 9 48 (hdep 9 (by kernel_rfl)) (by kernel_rfl))) (.int .i64 (LL : Int)) (w' := w') (fun o ho => by unfold execOp; rw [ho]; simp only [resolve, List.map_toArray, List.map_cons, List.map_nil, show a.eval (.tmp 49) = (.slice (some ⟨p2, o2, none⟩) LL c2) from hrd 10 49 (hdep 10 (by kernel_rfl)) (by kernel_rfl)]; go_simp) ?_
          exact ⟨_, congrArg (fun d => a.put d (.int .i64 (LL : Int))) (by kernel_rfl), hC, rfl, fun j u h => h⟩
        · refine runG (.move (.tmp 7)) (some 51) (gd := (some (9, true))) (by unfold opG; kernel_rfl) (yields (by kernel_rfl) (hrd 9 48 (hdep 9 (by kernel_rfl)) (by kernel_rfl))) (.int .i64 (n : Int)) (w' := w') (fun o ho => by unfold execOp; rw [ho]; simp only [show a.eval (.tmp 7) = (.int .i64 (n : Int)) from (hfar 7 (by kernel_rfl)).trans (by kernel_rfl)]; go_simp) ?_
          exact ⟨_, congrArg (fun d => a.put d (.int .i64 (n : Int))) (by kernel_rfl), hC, rfl, fun j u h => h⟩
        · refine runG (.binOp .gtr 3 (.tmp 50) (.tmp 51) 3) (some 52) (gd := (some (9, true))) (by unfold opG; kernel_rfl) (yields (by kernel_rfl) (hrd 9 48 (hdep 9 (by kernel_rfl)) (by kernel_rfl))) (.bool true) (w' := w') (fun o ho => by unfold execOp; rw [ho]; simp only [show a.eval (.tmp 50) = (.int .i64 (LL : Int)) from hrd 11 50 (hdep 11 (by kernel_rfl)) (by kernel_rfl), show a.eval (.tmp 51) = (.int .i64 (n : Int)) from hrd 12 51 (hdep 12 (by kernel_rfl)) (by kernel_rfl)]; go_simp) ?_
          exact ⟨_, congrArg (fun d => a.put d (.bool true)) (by kernel_rfl), hC, rfl, fun j u h => h⟩
        · refine runG (.pick (.tmp 48) (.tmp 52) (.const (.bool false))) (some 53) (gd := none) (by unfold opG; kernel_rfl) trivial (.bool true) (w' := w') (fun o ho => by unfold execOp; rw [ho]; simp only [show a.eval (.tmp 48) = Value.bool true from hrd 9 48 (hdep 9 (by kernel_rfl)) (by kernel_rfl), show a.eval (.tmp 52) = Value.bool true from hrd 13 52 (hdep 13 (by kernel_rfl)) (by kernel_rfl)]; go_simp) ?_
          exact ⟨_, congrArg (fun d => a.put d (.bool true)) (by kernel_rfl), hC, rfl, fun j u h => h⟩
        · refine runG (.move (.tmp 53)) (some 54) (gd := none) (by unfold opG; kernel_rfl) trivial (.bool true) (w' := w') (fun o ho => by unfold execOp; rw [ho]; simp only [show a.eval (.tmp 53) = Value.bool true from hrd 14 53 (hdep 14 (by kernel_rfl)) (by kernel_rfl)]; go_simp) ?_
          exact ⟨_, congrArg (fun d => a.put d (.bool true)) (by kernel_rfl), hC, rfl, fun j u h => h⟩
        · refine runG (.move (.tmp 6)) (some 55) (gd := (some (15, true))) (by unfold opG; kernel_rfl) (yields (by kernel_rfl) (hrd 15 54 (hdep 15 (by kernel_rfl)) (by kernel_rfl))) (.slice (some ⟨p3, o3, none⟩) LA c3) (w' := w') (fun o ho => by unfold execOp; rw [ho]; simp only [show a.eval (.tmp 6) = (.slice (some ⟨p3, o3, none⟩) LA c3) from (hfar 6 (by kernel_rfl)).trans (by kernel_rfl)]; go_simp) ?_
          exact ⟨_, congrArg (fun d => a.put d (.slice (some ⟨p3, o3, none⟩) LA c3)) (by kernel_rfl), hC, rfl, fun j u h => h⟩
        · refine runG (.call { callee := .builtin .len, args := #[.tmp 55], argTypes := #[25] }) (some 56) (gd := (some (15, true))) (by unfold opG; kernel_rfl) (yields (by kernel_rfl) (hrd 15 54 (hdep 15 (by kernel_rfl)) (by kernel_rfl))) (.int .i64 (LA : Int)) (w' := w') (fun o ho => by unfold execOp; rw [ho]; simp only [resolve, List.map_toArray, List.map_cons, List.map_nil, show a.eval (.tmp 55) = (.slice (some ⟨p3, o3, none⟩) LA c3) from hrd 16 55 (hdep 16 (by kernel_rfl)) (by kernel_rfl)]; go_simp) ?_
          exact ⟨_, congrArg (fun d => a.put d (.int .i64 (LA : Int))) (by kernel_rfl), hC, rfl, fun j u h => h⟩
        · refine runG (.move (.tmp 7)) (some 57) (gd := (some (15, true))) (by unfold opG; kernel_rfl) (yields (by kernel_rfl) (hrd 15 54 (hdep 15 (by kernel_rfl)) (by kernel_rfl))) (.int .i64 (n : Int)) (w' := w') (fun o ho => by unfold execOp; rw [ho]; simp only [show a.eval (.tmp 7) = (.int .i64 (n : Int)) from (hfar 7 (by kernel_rfl)).trans (by kernel_rfl)]; go_simp) ?_
          exact ⟨_, congrArg (fun d => a.put d (.int .i64 (n : Int))) (by kernel_rfl), hC, rfl, fun j u h => h⟩
        · refine runG (.binOp .gtr 3 (.tmp 56) (.tmp 57) 3) (some 58) (gd := (some (15, true))) (by unfold opG; kernel_rfl) (yields (by kernel_rfl) (hrd 15 54 (hdep 15 (by kernel_rfl)) (by kernel_rfl))) (.bool true) (w' := w') (fun o ho => by unfold execOp; rw [ho]; simp only [show a.eval (.tmp 56) = (.int .i64 (LA : Int)) from hrd 17 56 (hdep 17 (by kernel_rfl)) (by kernel_rfl), show a.eval (.tmp 57) = (.int .i64 (n : Int)) from hrd 18 57 (hdep 18 (by kernel_rfl)) (by kernel_rfl)]; go_simp) ?_
          exact ⟨_, congrArg (fun d => a.put d (.bool true)) (by kernel_rfl), hC, rfl, fun j u h => h⟩
        · refine runG (.pick (.tmp 54) (.tmp 58) (.const (.bool false))) (some 59) (gd := none) (by unfold opG; kernel_rfl) trivial (.bool true) (w' := w') (fun o ho => by unfold execOp; rw [ho]; simp only [show a.eval (.tmp 54) = Value.bool true from hrd 15 54 (hdep 15 (by kernel_rfl)) (by kernel_rfl), show a.eval (.tmp 58) = Value.bool true from hrd 19 58 (hdep 19 (by kernel_rfl)) (by kernel_rfl)]; go_simp) ?_
          exact ⟨_, congrArg (fun d => a.put d (.bool true)) (by kernel_rfl), hC, rfl, fun j u h => h⟩
        · refine runG (.move (.tmp 59)) (some 60) (gd := none) (by unfold opG; kernel_rfl) trivial (.bool true) (w' := w') (fun o ho => by unfold execOp; rw [ho]; simp only [show a.eval (.tmp 59) = Value.bool true from hrd 20 59 (hdep 20 (by kernel_rfl)) (by kernel_rfl)]; go_simp) ?_
          exact ⟨_, congrArg (fun d => a.put d (.bool true)) (by kernel_rfl), hC, rfl, fun j u h => h⟩
        · refine runG (.move (.tmp 6)) (some 61) (gd := (some (21, true))) (by unfold opG; kernel_rfl) (yields (by kernel_rfl) (hrd 21 60 (hdep 21 (by kernel_rfl)) (by kernel_rfl))) (.slice (some ⟨p3, o3, none⟩) LA c3) (w' := w') (fun o ho => by unfold execOp; rw [ho]; simp only [show a.eval (.tmp 6) = (.slice (some ⟨p3, o3, none⟩) LA c3) from (hfar 6 (by kernel_rfl)).trans (by kernel_rfl)]; go_simp) ?_
          exact ⟨_, congrArg (fun d => a.put d (.slice (some ⟨p3, o3, none⟩) LA c3)) (by kernel_rfl), hC, rfl, fun j u h => h⟩
        · refine runG (.move (.tmp 7)) (some 62) (gd := (some (21, true))) (by unfold opG; kernel_rfl) (yields (by kernel_rfl) (hrd 21 60 (hdep 21 (by kernel_rfl)) (by kernel_rfl))) (.int .i64 (n : Int)) (w' := w') (fun o ho => by unfold execOp; rw [ho]; simp only [show a.eval (.tmp 7) = (.int .i64 (n : Int)) from (hfar 7 (by kernel_rfl)).trans (by kernel_rfl)]; go_simp) ?_
          exact ⟨_, congrArg (fun d => a.put d (.int .i64 (n : Int))) (by kernel_rfl), hC, rfl, fun j u h => h⟩
        · refine runG (.slice 25 (.tmp 61) none (some (.tmp 62)) none) (some 63) (gd := (some (21, true))) (by unfold opG; kernel_rfl) (yields (by kernel_rfl) (hrd 21 60 (hdep 21 (by kernel_rfl)) (by kernel_rfl))) (.slice (some ⟨p3, o3, none⟩) n c3) (w' := w') (fun o ho => by unfold execOp; rw [ho]; simp only [Option.map_some, Option.map_none, show a.eval (.tmp 61) = (.slice (some ⟨p3, o3, none⟩) LA c3) from hrd 22 61 (hdep 22 (by kernel_rfl)) (by kernel_rfl), show a.eval (.tmp 62) = (.int .i64 (n : Int)) from hrd 23 62 (hdep 23 (by kernel_rfl)) (by kernel_rfl)]; go_simp) ?_
          exact ⟨_, congrArg (fun d => a.put d (.slice (some ⟨p3, o3, none⟩) n c3)) (by kernel_rfl), hC, rfl, fun j u h => h⟩
        · refine runG (.move (.tmp 4)) (some 64) (gd := (some (21, true))) (by unfold opG; kernel_rfl) (yields (by kernel_rfl) (hrd 21 60 (hdep 21 (by kernel_rfl)) (by kernel_rfl))) (.slice (some ⟨p1, o1, none⟩) LN c1) (w' := w') (fun o ho => by unfold execOp; rw [ho]; simp only [show a.eval (.tmp 4) = (.slice (some ⟨p1, o1, none⟩) LN c1) from (hfar 4 (by kernel_rfl)).trans (by kernel_rfl)]; go_simp) ?_
          exact ⟨_, congrArg (fun d => a.put d (.slice (some ⟨p1, o1, none⟩) LN c1)) (by kernel_rfl), hC, rfl, fun j u h => h⟩
        · refine runG (.move (.tmp 7)) (some 65) (gd := (some (21, true))) (by unfold opG; kernel_rfl) (yields (by kernel_rfl) (hrd 21 60 (hdep 21 (by kernel_rfl)) (by kernel_rfl))) (.int .i64 (n : Int)) (w' := w') (fun o ho => by unfold execOp; rw [ho]; simp only [show a.eval (.tmp 7) = (.int .i64 (n : Int)) from (hfar 7 (by kernel_rfl)).trans (by kernel_rfl)]; go_simp) ?_
          exact ⟨_, congrArg (fun d => a.put d (.int .i64 (n : Int))) (by kernel_rfl), hC, rfl, fun j u h => h⟩
        · refine runG (.slice 25 (.tmp 64) none (some (.tmp 65)) none) (some 66) (gd := (some (21, true))) (by unfold opG; kernel_rfl) (yields (by kernel_rfl) (hrd 21 60 (hdep 21 (by kernel_rfl)) (by kernel_rfl))) (.slice (some ⟨p1, o1, none⟩) n c1) (w' := w') (fun o ho => by unfold execOp; rw [ho]; simp only [Option.map_some, Option.map_none, show a.eval (.tmp 64) = (.slice (some ⟨p1, o1, none⟩) LN c1) from hrd 25 64 (hdep 25 (by kernel_rfl)) (by kernel_rfl), show a.eval (.tmp 65) = (.int .i64 (n : Int)) from hrd 26 65 (hdep 26 (by kernel_rfl)) (by kernel_rfl)]; go_simp) ?_
          exact ⟨_, congrArg (fun d => a.put d (.slice (some ⟨p1, o1, none⟩) n c1)) (by kernel_rfl), hC, rfl, fun j u h => h⟩
        · refine callG (.call { callee := .value (.func 14), args := #[.tmp 63, .tmp 66], argTypes := #[25, 25] }) (some 67) (gd := (some (21, true))) (by unfold opG; kernel_rfl) (yields (by kernel_rfl) (hrd 21 60 (hdep 21 (by kernel_rfl)) (by kernel_rfl))) 14 #[.slice (some ⟨p3, o3, none⟩) n c3, .slice (some ⟨p1, o1, none⟩) n c1] (fun o ho => by unfold execOp; rw [ho]; simp only [resolve, List.map_toArray, List.map_cons, List.map_nil, show a.eval (.tmp 63) = (.slice (some ⟨p3, o3, none⟩) n c3) from hrd 24 63 (hdep 24 (by kernel_rfl)) (by kernel_rfl), show a.eval (.tmp 66) = (.slice (some ⟨p1, o1, none⟩) n c1) from hrd 27 66 (hdep 27 (by kernel_rfl)) (by kernel_rfl)]; go_simp) (KQ1.out w' hC) ?_
          rintro e w'' ⟨rfl, hb⟩
          exact ⟨_, rfl, _, congrArg (fun d => a.put d _) (by kernel_rfl), hC.trans (hb.mono hC.size), rfl, R11g.stay hb⟩
        · refine runG (.pick (.tmp 60) (.tmp 67) (.const (.bool false))) (some 68) (gd := none) (by unfold opG; kernel_rfl) trivial (.bool true) (w' := w') (fun o ho => by unfold execOp; rw [ho]; simp only [show a.eval (.tmp 60) = Value.bool true from hrd 21 60 (hdep 21 (by kernel_rfl)) (by kernel_rfl), show a.eval (.tmp 67) = Value.bool true from hrd 28 67 (hdep 28 (by kernel_rfl)) (by kernel_rfl)]; go_simp) ?_
          exact ⟨_, congrArg (fun d => a.put d (.bool true)) (by kernel_rfl), hC, rfl, fun j u h => h⟩
        · refine runG (.move (.tmp 68)) (some 69) (gd := none) (by unfold opG; kernel_rfl) trivial (.bool true) (w' := w') (fun o ho => by unfold execOp; rw [ho]; simp only [show a.eval (.tmp 68) = Value.bool true from hrd 29 68 (hdep 29 (by kernel_rfl)) (by kernel_rfl)]; go_simp) ?_
          exact ⟨_, congrArg (fun d => a.put d (.bool true)) (by kernel_rfl), hC, rfl, fun j u h => h⟩
        · refine runG (.move (.tmp 5)) (some 70) (gd := (some (30, true))) (by unfold opG; kernel_rfl) (yields (by kernel_rfl) (hrd 30 69 (hdep 30 (by kernel_rfl)) (by kernel_rfl))) (.slice (some ⟨p2, o2, none⟩) LL c2) (w' := w') (fun o ho => by unfold execOp; rw [ho]; simp only [show a.eval (.tmp 5) = (.slice (some ⟨p2, o2, none⟩) LL c2) from (hfar 5 (by kernel_rfl)).trans (by kernel_rfl)]; go_simp) ?_
          exact ⟨_, congrArg (fun d => a.put d (.slice (some ⟨p2, o2, none⟩) LL c2)) (by kernel_rfl), hC, rfl, fun j u h => h⟩
        · refine runG (.move (.tmp 7)) (some 71) (gd := (some (30, true))) (by unfold opG; kernel_rfl) (yields (by kernel_rfl) (hrd 30 69 (hdep 30 (by kernel_rfl)) (by kernel_rfl))) (.int .i64 (n : Int)) (w' := w') (fun o ho => by unfold execOp; rw [ho]; simp only [show a.eval (.tmp 7) = (.int .i64 (n : Int)) from (hfar 7 (by kernel_rfl)).trans (by kernel_rfl)]; go_simp) ?_
          exact ⟨_, congrArg (fun d => a.put d (.int .i64 (n : Int))) (by kernel_rfl), hC, rfl, fun j u h => h⟩
        · refine runG (.slice 25 (.tmp 70) none (some (.tmp 71)) none) (some 72) (gd := (some (30, true))) (by unfold opG; kernel_rfl) (yields (by kernel_rfl) (hrd 30 69 (hdep 30 (by kernel_rfl)) (by kernel_rfl))) (.slice (some ⟨p2, o2, none⟩) n c2) (w' := w') (fun o ho => by unfold execOp; rw [ho]; simp only [Option.map_some, Option.map_none, show a.eval (.tmp 70) = (.slice (some ⟨p2, o2, none⟩) LL c2) from hrd 31 70 (hdep 31 (by kernel_rfl)) (by kernel_rfl), show a.eval (.tmp 71) = (.int .i64 (n : Int)) from hrd 32 71 (hdep 32 (by kernel_rfl)) (by kernel_rfl)]; go_simp) ?_
          exact ⟨_, congrArg (fun d => a.put d (.slice (some ⟨p2, o2, none⟩) n c2)) (by kernel_rfl), hC, rfl, fun j u h => h⟩
        · refine runG (.move (.tmp 4)) (some 73) (gd := (some (30, true))) (by unfold opG; kernel_rfl) (yields (by kernel_rfl) (hrd 30 69 (hdep 30 (by kernel_rfl)) (by kernel_rfl))) (.slice (some ⟨p1, o1, none⟩) LN c1) (w' := w') (fun o ho => by unfold execOp; rw [ho]; simp only [show a.eval (.tmp 4) = (.slice (some ⟨p1, o1, none⟩) LN c1) from (hfar 4 (by kernel_rfl)).trans (by kernel_rfl)]; go_simp) ?_
          exact ⟨_, congrArg (fun d => a.put d (.slice (some ⟨p1, o1, none⟩) LN c1)) (by kernel_rfl), hC, rfl, fun j u h => h⟩
        · refine runG (.move (.tmp 7)) (some 74) (gd := (some (30, true))) (by unfold opG; kernel_rfl) (yields (by kernel_rfl) (hrd 30 69 (hdep 30 (by kernel_rfl)) (by kernel_rfl))) (.int .i64 (n : Int)) (w' := w') (fun o ho => by unfold execOp; rw [ho]; simp only [show a.eval (.tmp 7) = (.int .i64 (n : Int)) from (hfar 7 (by kernel_rfl)).trans (by kernel_rfl)]; go_simp) ?_
          exact ⟨_, congrArg (fun d => a.put d (.int .i64 (n : Int))) (by kernel_rfl), hC, rfl, fun j u h => h⟩
        · refine runG (.slice 25 (.tmp 73) none (some (.tmp 74)) none) (some 75) (gd := (some (30, true))) (by unfold opG; kernel_rfl) (yields (by kernel_rfl) (hrd 30 69 (hdep 30 (by kernel_rfl)) (by kernel_rfl))) (.slice (some ⟨p1, o1, none⟩) n c1) (w' := w') (fun o ho => by unfold execOp; rw [ho]; simp only [Option.map_some, Option.map_none, show a.eval (.tmp 73) = (.slice (some ⟨p1, o1, none⟩) LN c1) from hrd 34 73 (hdep 34 (by kernel_rfl)) (by kernel_rfl), show a.eval (.tmp 74) = (.int .i64 (n : Int)) from hrd 35 74 (hdep 35 (by kernel_rfl)) (by kernel_rfl)]; go_simp) ?_
          exact ⟨_, congrArg (fun d => a.put d (.slice (some ⟨p1, o1, none⟩) n c1)) (by kernel_rfl), hC, rfl, fun j u h => h⟩
        · refine callG (.call { callee := .value (.func 14), args := #[.tmp 72, .tmp 75], argTypes := #[25, 25] }) (some 76) (gd := (some (30, true))) (by unfold opG; kernel_rfl) (yields (by kernel_rfl) (hrd 30 69 (hdep 30 (by kernel_rfl)) (by kernel_rfl))) 14 #[.slice (some ⟨p2, o2, none⟩) n c2, .slice (some ⟨p1, o1, none⟩) n c1] (fun o ho => by unfold execOp; rw [ho]; simp only [resolve, List.map_toArray, List.map_cons, List.map_nil, show a.eval (.tmp 72) = (.slice (some ⟨p2, o2, none⟩) n c2) from hrd 33 72 (hdep 33 (by kernel_rfl)) (by kernel_rfl), show a.eval (.tmp 75) = (.slice (some ⟨p1, o1, none⟩) n c1) from hrd 36 75 (hdep 36 (by kernel_rfl)) (by kernel_rfl)]; go_simp) (KQ2.out w' hC) ?_
          rintro e w'' ⟨rfl, hb⟩
          exact ⟨_, rfl, _, congrArg (fun d => a.put d _) (by kernel_rfl), hC.trans (hb.mono hC.size), rfl, R11g.stay hb⟩
        · refine runG (.pick (.tmp 69) (.tmp 76) (.const (.bool false))) (some 77) (gd := none) (by unfold opG; kernel_rfl) trivial (.bool true) (w' := w') (fun o ho => by unfold execOp; rw [ho]; simp only [show a.eval (.tmp 69) = Value.bool true from hrd 30 69 (hdep 30 (by kernel_rfl)) (by kernel_rfl), show a.eval (.tmp 76) = Value.bool true from hrd 37 76 (hdep 37 (by kernel_rfl)) (by kernel_rfl)]; go_simp) ?_
          exact ⟨_, congrArg (fun d => a.put d (.bool true)) (by kernel_rfl), hC, rfl, fun j u h => h⟩
        · refine runG (.move (.tmp 77)) (some 78) (gd := none) (by unfold opG; kernel_rfl) trivial (.bool true) (w' := w') (fun o ho => by unfold execOp; rw [ho]; simp only [show a.eval (.tmp 77) = Value.bool true from hrd 38 77 (hdep 38 (by kernel_rfl)) (by kernel_rfl)]; go_simp) ?_
          exact ⟨_, congrArg (fun d => a.put d (.bool true)) (by kernel_rfl), hC, rfl, fun j u h => h⟩
        · refine runG (.move (.tmp 6)) (some 79) (gd := (some (39, true))) (by unfold opG; kernel_rfl) (yields (by kernel_rfl) (hrd 39 78 (hdep 39 (by kernel_rfl)) (by kernel_rfl))) (.slice (some ⟨p3, o3, none⟩) LA c3) (w' := w') (fun o ho => by unfold execOp; rw [ho]; simp only [show a.eval (.tmp 6) = (.slice (some ⟨p3, o3, none⟩) LA c3) from (hfar 6 (by kernel_rfl)).trans (by kernel_rfl)]; go_simp) ?_
          exact ⟨_, congrArg (fun d => a.put d (.slice (some ⟨p3, o3, none⟩) LA c3)) (by kernel_rfl), hC, rfl, fun j u h => h⟩
        · refine runG (.move (.tmp 7)) (some 80) (gd := (some (39, true))) (by unfold opG; kernel_rfl) (yields (by kernel_rfl) (hrd 39 78 (hdep 39 (by kernel_rfl)) (by kernel_rfl))) (.int .i64 (n : Int)) (w' := w') (fun o ho => by unfold execOp; rw [ho]; simp only [show a.eval (.tmp 7) = (.int .i64 (n : Int)) from (hfar 7 (by kernel_rfl)).trans (by kernel_rfl)]; go_simp) ?_
          exact ⟨_, congrArg (fun d => a.put d (.int .i64 (n : Int))) (by kernel_rfl), hC, rfl, fun j u h => h⟩
        · refine runG (.binOp .add 3 (.tmp 80) (.const (.int .i64 1)) 3) (some 81) (gd := (some (39, true))) (by unfold opG; kernel_rfl) (yields (by kernel_rfl) (hrd 39 78 (hdep 39 (by kernel_rfl)) (by kernel_rfl))) (.int .i64 (n1 : Int)) (w' := w') (fun o ho => by unfold execOp; rw [ho]; simp only [show a.eval (.tmp 80) = (.int .i64 (n : Int)) from hrd 41 80 (hdep 41 (by kernel_rfl)) (by kernel_rfl)]; go_simp) ?_
          exact ⟨_, congrArg (fun d => a.put d (.int .i64 (n1 : Int))) (by kernel_rfl), hC, rfl, fun j u h => h⟩
        · refine runG (.move (.tmp 5)) (some 82) (gd := (some (39, true))) (by unfold opG; kernel_rfl) (yields (by kernel_rfl) (hrd 39 78 (hdep 39 (by kernel_rfl)) (by kernel_rfl))) (.slice (some ⟨p2, o2, none⟩) LL c2) (w' := w') (fun o ho => by unfold execOp; rw [ho]; simp only [show a.eval (.tmp 5) = (.slice (some ⟨p2, o2, none⟩) LL c2) from (hfar 5 (by kernel_rfl)).trans (by kernel_rfl)]; go_simp) ?_
          exact ⟨_, congrArg (fun d => a.put d (.slice (some ⟨p2, o2, none⟩) LL c2)) (by kernel_rfl), hC, rfl, fun j u h => h⟩
        · refine runG (.call { callee := .builtin .len, args := #[.tmp 82], argTypes := #[25] }) (some 83) (gd := (some (39, true))) (by unfold opG; kernel_rfl) (yields (by kernel_rfl) (hrd 39 78 (hdep 39 (by kernel_rfl)) (by kernel_rfl))) (.int .i64 (LL : Int)) (w' := w') (fun o ho => by unfold execOp; rw [ho]; simp only [resolve, List.map_toArray, List.map_cons, List.map_nil, show a.eval (.tmp 82) = (.slice (some ⟨p2, o2, none⟩) LL c2) from hrd 43 82 (hdep 43 (by kernel_rfl)) (by kernel_rfl)]; go_simp) ?_
          exact ⟨_, congrArg (fun d => a.put d (.int .i64 (LL : Int))) (by kernel_rfl), hC, rfl, fun j u h => h⟩
        · refine runG (.slice 25 (.tmp 79) (some (.tmp 81)) (some (.tmp 83)) none) (some 84) (gd := (some (39, true))) (by unfold opG; kernel_rfl) (yields (by kernel_rfl) (hrd 39 78 (hdep 39 (by kernel_rfl)) (by kernel_rfl))) (.slice (some ⟨p3, o3e, none⟩) (LL - n1) (c3 - n1)) (w' := w') (fun o ho => by unfold execOp; rw [ho]; simp only [Option.map_some, Option.map_none, show a.eval (.tmp 79) = (.slice (some ⟨p3, o3, none⟩) LA c3) from hrd 40 79 (hdep 40 (by kernel_rfl)) (by kernel_rfl), show a.eval (.tmp 81) = (.int .i64 (n1 : Int)) from hrd 42 81 (hdep 42 (by kernel_rfl)) (by kernel_rfl), show a.eval (.tmp 83) = (.int .i64 (LL : Int)) from hrd 44 83 (hdep 44 (by kernel_rfl)) (by kernel_rfl)]; go_simp) ?_
          exact ⟨_, congrArg (fun d => a.put d (.slice (some ⟨p3, o3e, none⟩) (LL - n1) (c3 - n1))) (by kernel_rfl), hC, rfl, fun j u h => h⟩
        · refine runG (.move (.tmp 5)) (some 85) (gd := (some (39, true))) (by unfold opG; kernel_rfl) (yields (by kernel_rfl) (hrd 39 78 (hdep 39 (by kernel_rfl)) (by kernel_rfl))) (.slice (some ⟨p2, o2, none⟩) LL c2) (w' := w') (fun o ho => by unfold execOp; rw [ho]; simp only [show a.eval (.tmp 5) = (.slice (some ⟨p2, o2, none⟩) LL c2) from (hfar 5 (by kernel_rfl)).trans (by kernel_rfl)]; go_simp) ?_
          exact ⟨_, congrArg (fun d => a.put d (.slice (some ⟨p2, o2, none⟩) LL c2)) (by kernel_rfl), hC, rfl, fun j u h => h⟩
        · refine runG (.move (.tmp 7)) (some 86) (gd := (some (39, true))) (by unfold opG; kernel_rfl) (yields (by kernel_rfl) (hrd 39 78 (hdep 39 (by kernel_rfl)) (by kernel_rfl))) (.int .i64 (n : Int)) (w' := w') (fun o ho => by unfold execOp; rw [ho]; simp only [show a.eval (.tmp 7) = (.int .i64 (n : Int)) from (hfar 7 (by kernel_rfl)).trans (by kernel_rfl)]; go_simp) ?_
          exact ⟨_, congrArg (fun d => a.put d (.int .i64 (n : Int))) (by kernel_rfl), hC, rfl, fun j u h => h⟩
        · refine runG (.binOp .add 3 (.tmp 86) (.const (.int .i64 1)) 3) (some 87) (gd := (some (39, true))) (by unfold opG; kernel_rfl) (yields (by kernel_rfl) (hrd 39 78 (hdep 39 (by kernel_rfl)) (by kernel_rfl))) (.int .i64 (n1 : Int)) (w' := w') (fun o ho => by unfold execOp; rw [ho]; simp only [show a.eval (.tmp 86) = (.int .i64 (n : Int)) from hrd 47 86 (hdep 47 (by kernel_rfl)) (by kernel_rfl)]; go_simp) ?_
          exact ⟨_, congrArg (fun d => a.put d (.int .i64 (n1 : Int))) (by kernel_rfl), hC, rfl, fun j u h => h⟩
        · refine runG (.slice 25 (.tmp 85) (some (.tmp 87)) none none) (some 88) (gd := (some (39, true))) (by unfold opG; kernel_rfl) (yields (by kernel_rfl) (hrd 39 78 (hdep 39 (by kernel_rfl)) (by kernel_rfl))) (.slice (some ⟨p2, o2e, none⟩) (LL - n1) (c2 - n1)) (w' := w') (fun o ho => by unfold execOp; rw [ho]; simp only [Option.map_some, Option.map_none, show a.eval (.tmp 85) = (.slice (some ⟨p2, o2, none⟩) LL c2) from hrd 46 85 (hdep 46 (by kernel_rfl)) (by kernel_rfl), show a.eval (.tmp 87) = (.int .i64 (n1 : Int)) from hrd 48 87 (hdep 48 (by kernel_rfl)) (by kernel_rfl)]; go_simp) ?_
          exact ⟨_, congrArg (fun d => a.put d (.slice (some ⟨p2, o2e, none⟩) (LL - n1) (c2 - n1))) (by kernel_rfl), hC, rfl, fun j u h => h⟩
        · refine callG (.call { callee := .value (.func 14), args := #[.tmp 84, .tmp 88], argTypes := #[25, 25] }) (some 89) (gd := (some (39, true))) (by unfold opG; kernel_rfl) (yields (by kernel_rfl) (hrd 39 78 (hdep 39 (by kernel_rfl)) (by kernel_rfl))) 14 #[.slice (some ⟨p3, o3e, none⟩) (LL - n1) (c3 - n1), .slice (some ⟨p2, o2e, none⟩) (LL - n1) (c2 - n1)] (fun o ho => by unfold execOp; rw [ho]; simp only [resolve, List.map_toArray, List.map_cons, List.map_nil, show a.eval (.tmp 84) = (.slice (some ⟨p3, o3e, none⟩) (LL - n1) (c3 - n1)) from hrd 45 84 (hdep 45 (by kernel_rfl)) (by kernel_rfl), show a.eval (.tmp 88) = (.slice (some ⟨p2, o2e, none⟩) (LL - n1) (c2 - n1)) from hrd 49 88 (hdep 49 (by kernel_rfl)) (by kernel_rfl)]; go_simp) (KQ3.out w' hC) ?_
          rintro e w'' ⟨rfl, hb⟩
          exact ⟨_, rfl, _, congrArg (fun d => a.put d _) (by kernel_rfl), hC.trans (hb.mono hC.size), rfl, R11g.stay hb⟩
        · refine runG (.pick (.tmp 78) (.tmp 89) (.const (.bool false))) (some 90) (gd := none) (by unfold opG; kernel_rfl) trivial (.bool true) (w' := w') (fun o ho => by unfold execOp; rw [ho]; simp only [show a.eval (.tmp 78) = Value.bool true from hrd 39 78 (hdep 39 (by kernel_rfl)) (by kernel_rfl), show a.eval (.tmp 89) = Value.bool true from hrd 50 89 (hdep 50 (by kernel_rfl)) (by kernel_rfl)]; go_simp) ?_
          exact ⟨_, congrArg (fun d => a.put d (.bool true)) (by kernel_rfl), hC, rfl, fun j u h => h⟩
        · refine runG (.assign (.tmp 90)) (some 2) (gd := none) (by unfold opG; kernel_rfl) trivial (.bool true) (w' := w') (fun o ho => by unfold execOp; rw [ho]; simp only [show a.eval (.tmp 90) = Value.bool true from hrd 51 90 (hdep 51 (by kernel_rfl)) (by kernel_rfl)]; go_simp) ?_
          exact ⟨_, congrArg (fun d => a.put d (.bool true)) (by kernel_rfl), hC, rfl, fun j u h => h⟩
      · intro b w' hC hR
        have e52 := hR 52 (by omega)
        simp only [putL, if_true, Nat.reduceAdd, Act.put, List.getElem_toArray, List.getElem_cons_zero, List.getElem_cons_succ, List.setIfInBounds_toArray, List.set_cons_zero, List.set_cons_succ]
        rw [show b 52 = Value.bool true from e52]
        clear hR e52
        go_wp2_with fail
        go_ret
        exact ⟨rfl, HB9.out.trans (hC.mono HB9.out.size)⟩
end Go.Proofs.YtmpefjnfelfnfaaGreatDoor

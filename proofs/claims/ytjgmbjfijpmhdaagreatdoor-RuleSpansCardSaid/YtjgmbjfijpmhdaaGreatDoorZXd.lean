/- Contract of law 10's line. -/
import Derived.Test.YtjgmbjfijpmhdaaGreatDoorZXall
import Derived.Test.YtjgmbjfijpmhdaaGreatDoorZTall
import Derived.Test.YtjgmbjfijpmhdaaGreatDoorZCk
import Derived.StillTailTactics
namespace Go.Proofs.YtjgmbjfijpmhdaaGreatDoor
open Go.RowKit
set_option linter.unusedVariables false
set_option linter.unusedSimpArgs false
theorem Box4.alloc {w : World} {b : Nat} {c0 c1 c2 c3 : Value} (h : Box4 w b c0 c1 c2 c3) (o : Obj) : Box4 (w.alloc o) b c0 c1 c2 c3 := h.stay ((Below.refl _ _).alloc (Nat.le_refl _) o)
theorem Box4.other {w : World} {b : Nat} {c0 c1 c2 c3 : Value} (h : Box4 w b c0 c1 c2 c3) (a : Addr) (hne : b ≠ a.block) (u : Value) : Box4 (w.setCell a u) b c0 c1 c2 c3 := by
  have e := Below.heap_setCell w a u b hne
  exact ⟨(World.cell?_of_block (a := ⟨b, 0, none⟩) e).trans h.a0, (World.cell?_of_block (a := ⟨b, 1, none⟩) e).trans h.a1, (World.cell?_of_block (a := ⟨b, 2, none⟩) e).trans h.a2, (World.cell?_of_block (a := ⟨b, 3, none⟩) e).trans h.a3,
    (World.frozen?_of_block (a := ⟨b, 0, none⟩) e).trans h.f0, (World.frozen?_of_block (a := ⟨b, 1, none⟩) e).trans h.f1, (World.frozen?_of_block (a := ⟨b, 2, none⟩) e).trans h.f2, (World.frozen?_of_block (a := ⟨b, 3, none⟩) e).trans h.f3, by simpa using h.size⟩
def smV (x : Sm) : Value := .agg #[.int .u8 (x.acc : Int), .int .u8 (x.ent : Int), .int .u8 (x.ctr : Int), .int .i64 x.amt]
theorem accAt_get {C : List Ac} {i : Nat} {a : Ac} (h : C[i % C.length]? = some a) : accAt C i = a := by
  unfold accAt
  rw [List.getD_eq_getElem?_getD, h]; rfl
theorem entAt_get {U : List Nat} {i n : Nat} (h : U[i % U.length]? = some n) (h6 : ∀ x ∈ U, x < 65536) : (entAt U i).n = n := by
  show U.getD (i % U.length) 0 % 65536 = n
  rw [List.getD_eq_getElem?_getD, h]
  exact Nat.mod_eq_of_lt (h6 n (List.mem_of_getElem? h))
theorem mod_int {i L p : Nat} (h : i % L = p) : (i : Int).tmod (L : Int) = (p : Int) ∧ (i : Int) % (L : Int) = (p : Int) := by
  rw [Int.tmod_eq_emod_of_nonneg (by omega), ← h]
  exact ⟨by omega, by omega⟩
set_option maxHeartbeats 4000000 in
set_option maxRecDepth 100000 in
theorem line_c (f : Fr) (vC vU vS : Value) (x : Sm) (w : World) (hF : FrM f vC vU vS w) (hC : f.C ≠ []) (hU : f.U ≠ []) (h6 : ∀ x ∈ f.U, x < 65536) (hlC : f.C.length ≤ 1000) (hlU : f.U.length ≤ 1000) :
    Calls Tryz.prog 54 #[smV x, frV vC vU vS f.E] w fun e w' => e = .returned (lnV (lnF f.C f.U x)) ∧ Below w.heap.size w w' := by
  obtain ⟨hRC, hRU, _⟩ := hF
  have hC0 : 0 < f.C.length := List.length_pos_iff.2 hC
  have hU0 : 0 < f.U.length := List.length_pos_iff.2 hU
  obtain ⟨p, hp⟩ : ∃ p, x.acc % f.C.length = p := ⟨_, rfl⟩
  obtain ⟨q, hq⟩ : ∃ q, x.ent % f.U.length = q := ⟨_, rfl⟩
  obtain ⟨r, hr⟩ : ∃ r, x.ctr / 2 % f.U.length = r := ⟨_, rfl⟩
  have hpl : p < f.C.length := hp ▸ Nat.mod_lt _ hC0
  have hql : q < f.U.length := hq ▸ Nat.mod_lt _ hU0
  have hrl : r < f.U.length := hr ▸ Nat.mod_lt _ hU0
  obtain ⟨a, ha⟩ : ∃ a, f.C[p]? = some a := ⟨_, List.getElem?_eq_getElem hpl⟩
  obtain ⟨n, hn⟩ : ∃ n, f.U[q]? = some n := ⟨_, List.getElem?_eq_getElem hql⟩
  obtain ⟨m, hm⟩ : ∃ m, f.U[r]? = some m := ⟨_, List.getElem?_eq_getElem hrl⟩
  have hln : lnV (lnF f.C f.U x) = .agg #[.int .u32 (a.code : Int), .int .u16 (n : Int), .int .u16 ((if x.ctr % 2 = 1 then m else 0 : Nat) : Int), .int .i64 x.amt] := by
    have e1 := accAt_get (i := x.acc) (hp.symm ▸ ha)
    have e2 := entAt_get (i := x.ent) (hq.symm ▸ hn) h6
    have e3 := entAt_get (i := x.ctr / 2) (hr.symm ▸ hm) h6
    unfold lnV lnF
    simp only [e1, e2, e3]
  have HLN := Lib.hid hln
  clear hln
  obtain ⟨xa, xe, xc, am, ba, be, bc, bm⟩ := x
  simp only at hp hq hr HLN ⊢
  obtain ⟨p1, p2⟩ := mod_int hp
  obtain ⟨q1, q2⟩ := mod_int hq
  obtain ⟨r1, r2⟩ := mod_int hr
  obtain ⟨rC, capC, rfl, hmC⟩ := hRC.form
  obtain ⟨rU, capU, rfl, hmU⟩ := hRU.form
  obtain ⟨gC, oC, rfl, hgC, hcC⟩ := hRC.at ha
  obtain ⟨gU, oU, rfl, hgU, hcU⟩ := hRU.at hn
  have hcm : w.cell? ⟨gU, oU + r, none⟩ = some (.int .u16 (m : Int)) := by
    obtain ⟨g', o', e, _, h⟩ := hRU.at hm
    cases e
    simpa using h 0 _ rfl
  have c0 : w.cell? ⟨gC, oC + p * 4, none⟩ = some (.int .u32 (a.code : Int)) := hcC 0 _ rfl
  have u0 : w.cell? ⟨gU, oU + q, none⟩ = some (.int .u16 (n : Int)) := by
    have h := hcU 0 (.int .u16 (n : Int)) rfl
    simpa using h
  clear hcC hcU ha hn hm hp hq hr hRC hRU hC hU h6
  obtain ⟨LC, hLC⟩ : ∃ LC, f.C.length = LC := ⟨_, rfl⟩
  obtain ⟨LU, hLU⟩ : ∃ LU, f.U.length = LU := ⟨_, rfl⟩
  obtain ⟨EE, hEE⟩ : ∃ EE, f.E = EE := ⟨_, rfl⟩
  rw [hLC] at hC0 hpl p1 p2 hlC hmC ⊢
  rw [hLU] at hU0 hql hrl q1 q2 r1 r2 hlU hmU ⊢
  obtain ⟨c2, hc2⟩ : ∃ c2, (if xc % 2 = 1 then m else 0 : Nat) = c2 := ⟨_, rfl⟩
  rw [HLN.out, hEE, hc2]
  have HC2 := Lib.hid hc2
  clear HLN hLC hLU hEE hc2
  unfold smV frV
  go_enter Tryz.func54, Tryz.ntmps54
  go_upto_region 1 with fail
  have hb := (((Below.refl w.heap.size w).alloc (Nat.le_refl _) (.cells #[.int .u8 (xa : Int), .int .u8 (xe : Int), .int .u8 (xc : Int), .int .i64 am] 123)).alloc (by simp) (.cells #[.slice (some ⟨gC, oC, none⟩) LC capC, .slice (some ⟨gU, oU, none⟩) LU capU, vS, .int .i32 EE] 41)).alloc (by simp; omega) (.cells #[.int .u32 0, .int .u16 0, .int .u16 0, .int .i64 0] 125)
  have bx := ((Box4.new w (.int .u8 (xa : Int)) (.int .u8 (xe : Int)) (.int .u8 (xc : Int)) (.int .i64 am) 123).alloc (.cells #[.slice (some ⟨gC, oC, none⟩) LC capC, .slice (some ⟨gU, oU, none⟩) LU capU, vS, .int .i32 EE] 41)).alloc (.cells #[.int .u32 0, .int .u16 0, .int .u16 0, .int .i64 0] 125)
  have s1 : (w.alloc (.cells #[.int .u8 (xa : Int), .int .u8 (xe : Int), .int .u8 (xc : Int), .int .i64 am] 123)).heap.size = w.heap.size + 1 := by simp
  generalize w.alloc (.cells #[.int .u8 (xa : Int), .int .u8 (xe : Int), .int .u8 (xc : Int), .int .i64 am] 123) = w1 at hb bx s1 ⊢
  have bf := (Box4.new w1 (.slice (some ⟨gC, oC, none⟩) LC capC) (.slice (some ⟨gU, oU, none⟩) LU capU) vS (.int .i32 EE) 41).alloc (.cells #[.int .u32 0, .int .u16 0, .int .u16 0, .int .i64 0] 125)
  have s2 : (w1.alloc (.cells #[.slice (some ⟨gC, oC, none⟩) LC capC, .slice (some ⟨gU, oU, none⟩) LU capU, vS, .int .i32 EE] 41)).heap.size = w.heap.size + 1 + 1 := by simp; omega
  rw [s1] at bf
  generalize w1.alloc (.cells #[.slice (some ⟨gC, oC, none⟩) LC capC, .slice (some ⟨gU, oU, none⟩) LU capU, vS, .int .i32 EE] 41) = w2 at hb bx bf s2 ⊢
  have br := Box4.new w2 (.int .u32 0) (.int .u16 0) (.int .u16 0) (.int .i64 0) 125
  have s3 : (w2.alloc (.cells #[.int .u32 0, .int .u16 0, .int .u16 0, .int .i64 0] 125)).heap.size = w.heap.size + 3 := by simp; omega
  rw [s2] at br
  generalize w2.alloc (.cells #[.int .u32 0, .int .u16 0, .int .u16 0, .int .i64 0] 125) = W at hb bx bf br s3 ⊢
  have c0' : W.cell? ⟨gC, oC + p * 4, none⟩ = some (.int .u32 (a.code : Int)) := (hb.cell (p := ⟨gC, oC + p * 4, none⟩) hgC).trans c0
  have u0' : W.cell? ⟨gU, oU + q, none⟩ = some (.int .u16 (n : Int)) := (hb.cell (p := ⟨gU, oU + q, none⟩) hgU).trans u0
  have cm' : W.cell? ⟨gU, oU + r, none⟩ = some (.int .u16 (m : Int)) := (hb.cell (p := ⟨gU, oU + r, none⟩) hgU).trans hcm
  clear c0 u0 hcm s1 s2
  have hgC' : gC < W.heap.size := by omega
  have hgU' : gU < W.heap.size := by omega
  have hw1 : w.heap.size < W.heap.size := by omega
  have hw2 : w.heap.size + 1 < W.heap.size := by omega
  have hw3 : w.heap.size + 1 + 1 < W.heap.size := by omega
  have HZ := Lib.hid s3
  have HB := Lib.hid hb
  have BX := Lib.hid bx
  have BF := Lib.hid bf
  have BR := Lib.hid br
  clear s3 hb br
  have z1 : ¬ LC = 0 := by omega
  have z2 : ¬ LU = 0 := by omega
  have y1 : IntKind.i64.wrap (xa : Int) = (xa : Int) := by rw [IntKind.wrap_i64]; omega
  have y2 : IntKind.i64.wrap (xe : Int) = (xe : Int) := by rw [IntKind.wrap_i64]; omega
  have y3 : IntKind.i64.wrap (p : Int) = (p : Int) := by rw [IntKind.wrap_i64]; omega
  have y4 : IntKind.i64.wrap (q : Int) = (q : Int) := by rw [IntKind.wrap_i64]; omega
  have hmix : Tryz.prog.follows .mixedOrders = true := by kernel_rfl
  obtain ⟨l0, l1, l2, l3, _, _, _, _, _⟩ := bx
  obtain ⟨k0, k1, k2, k3, _, _, _, _, _⟩ := bf
  refine wp_region_new 27 26 [] (.pointer (some ⟨W.heap.size, 0, none⟩)) (W.drew.alloc (.cells #[.int .u32 0, .int .u16 0, .int .u16 0, .int .i64 0] 125)) hmix (by decide) (by omega) (by kernel_rfl) (by kernel_rfl) (by kernel_rfl) (by kernel_rfl) ?_
  · simp only [List.take_succ_cons, List.take_zero, List.drop_succ_cons, List.drop_zero]
    repeat (first | (refine two_skip rfl ?_) | (refine two_step rfl rfl (fun K hK => ?_); go_simp; refine hK _ ?_; clear hK K))
    refine two_nil ⟨fun o ho => by cases ho; left; go_simp, ?_⟩
    simp only [dstB, List.getElem?_cons_succ, List.getElem?_cons_zero, Option.bind_some]
    go_upto_region 2 with fail
    have by4 := (Box4.new W (.int .u32 (a.code : Int)) (.int .u16 (n : Int)) (.int .u16 0) (.int .i64 am) 125).drew
    have BX4 := Lib.hid (BX.out.alloc (.cells #[.int .u32 (a.code : Int), .int .u16 (n : Int), .int .u16 0, .int .i64 am] 125)).drew
    have BF4 := Lib.hid (BF.out.alloc (.cells #[.int .u32 (a.code : Int), .int .u16 (n : Int), .int .u16 0, .int .i64 am] 125)).drew
    have BR4 := Lib.hid (BR.out.alloc (.cells #[.int .u32 (a.code : Int), .int .u16 (n : Int), .int .u16 0, .int .i64 am] 125)).drew
    have b4 := (HB.out.alloc (by have := HZ.out; omega) (.cells #[.int .u32 (a.code : Int), .int .u16 (n : Int), .int .u16 0, .int .i64 am] 125)).drew
    have m4 : (W.alloc (.cells #[.int .u32 (a.code : Int), .int .u16 (n : Int), .int .u16 0, .int .i64 am] 125)).drew.cell? ⟨gU, oU + r, none⟩ = some (.int .u16 (m : Int)) := by go_simp
    clear c0' u0' cm' l0 l1 l2 l3 k0 k1 k2 k3 BX BF BR HB
    have hbw : w.heap.size + 1 + 1 ≠ W.heap.size := by omega
    have hbw2 : w.heap.size ≤ W.heap.size := by omega
    generalize (W.alloc (.cells #[.int .u32 (a.code : Int), .int .u16 (n : Int), .int .u16 0, .int .i64 am] 125)).drew = V at *
    generalize W.heap.size = Y at *
    obtain ⟨i0, i1, i2, i3, g0, g1, g2, g3, gs⟩ := by4
    have B4 := Lib.hid b4
    obtain ⟨e0, e1, e2, e3, _, _, _, _, _⟩ := BX4.out
    obtain ⟨o0, o1, o2, o3, o4, o5, o6, o7, _⟩ := BF4.out
    have BY := Lib.hid (show Box4 V Y (.int .u32 (a.code : Int)) (.int .u16 (n : Int)) (.int .u16 0) (.int .i64 am) from ⟨i0, i1, i2, i3, g0, g1, g2, g3, gs⟩)
    by_cases hxc : xc % 2 = 1
    · have d0 : (xc : Int).tmod 2 = 1 := by rw [Int.tmod_eq_emod_of_nonneg (by omega)]; omega
      have d1 : (xc : Int) % 2 = 1 := by omega
      have d2 : (xc : Int).tdiv 2 = ((xc / 2 : Nat) : Int) := by rw [Int.tdiv_eq_ediv_of_nonneg (by omega)]; omega
      obtain ⟨xh, hxh⟩ : ∃ xh, xc / 2 = xh := ⟨_, rfl⟩
      rw [hxh] at d2 r1 r2
      have w1 : IntKind.u8.wrap (xh : Int) = (xh : Int) := by rw [IntKind.wrap_u8]; omega
      have w2 : IntKind.i64.wrap (xh : Int) = (xh : Int) := by rw [IntKind.wrap_i64]; omega
      have w3 : IntKind.i64.wrap (r : Int) = (r : Int) := by rw [IntKind.wrap_i64]; omega
      have hc2 : c2 = m := by rw [← HC2.out, if_pos hxc]
      subst hc2
      have HX := Lib.hid (And.intro hxc hxh)
      clear hxc hxh
      obtain ⟨t0, t1, t2, t3, t4, t5, t6, t7, _⟩ := BR4.out
      go_upto_region 3 with fail
      go_still_tail 13, hmix
      go_wp2_with fail
      have hr := ((BR4.out.other ⟨Y, 2, none⟩ hbw (.int .u16 (c2 : Int))).sets (.int .u32 (a.code : Int)) (.int .u16 (n : Int)) (.int .u16 (c2 : Int)) (.int .i64 am)).drew
      have hbf := (below_sets (B4.out.setCell (p := ⟨Y, 2, none⟩) hbw2 (.int .u16 (c2 : Int))) (b := w.heap.size + 1 + 1) (by omega) (.int .u32 (a.code : Int)) (.int .u16 (n : Int)) (.int .u16 (c2 : Int)) (.int .i64 am)).drew
      obtain ⟨x0, x1, x2, x3, _, _, _, _, _⟩ := hr
      refine bodyPost_ret (v := .agg #[.int .u32 (a.code : Int), .int .u16 (n : Int), .int .u16 (c2 : Int), .int .i64 am]) (by simp [results, Tryz.results54, go_sem, x0, x1, x2, x3]) rfl ?_
      exact ⟨rfl, hbf⟩
    · have d0 : (xc : Int).tmod 2 = 0 := by rw [Int.tmod_eq_emod_of_nonneg (by omega)]; omega
      have d1 : (xc : Int) % 2 = 0 := by omega
      have hc2 : c2 = 0 := by rw [← HC2.out, if_neg hxc]
      subst hc2
      obtain ⟨t0, t1, t2, t3, t4, t5, t6, t7, _⟩ := BR4.out
      clear hxc
      go_wp2_with fail
      have hr := BR4.out.sets (.int .u32 (a.code : Int)) (.int .u16 (n : Int)) (.int .u16 0) (.int .i64 am)
      have hbf := below_sets B4.out (b := w.heap.size + 1 + 1) (by omega) (.int .u32 (a.code : Int)) (.int .u16 (n : Int)) (.int .u16 0) (.int .i64 am)
      obtain ⟨x0, x1, x2, x3, _, _, _, _, _⟩ := hr
      refine bodyPost_ret (v := .agg #[.int .u32 (a.code : Int), .int .u16 (n : Int), .int .u16 0, .int .i64 am]) (by simp [results, Tryz.results54, go_sem, x0, x1, x2, x3]) rfl ?_
      exact ⟨rfl, hbf⟩
end Go.Proofs.YtjgmbjfijpmhdaaGreatDoor

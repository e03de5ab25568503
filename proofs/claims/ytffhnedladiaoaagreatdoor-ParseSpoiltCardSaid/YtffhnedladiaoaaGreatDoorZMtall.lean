/- Package script: ops' texts, a line each. -/
import Derived.Test.YtffhnedladiaoaaGreatDoorZMdall
import Derived.LoopTactic
namespace Go.Proofs.YtffhnedladiaoaaGreatDoor
open Go.RowKit Go.Lib
set_option linter.unusedVariables false
set_option linter.unusedSimpArgs false
end Go.Proofs.YtffhnedladiaoaaGreatDoor
/- Contract of law 13's Text. -/
namespace Go.Proofs.YtffhnedladiaoaaGreatDoor
open Go.RowKit Go.Lib Go.Sort
set_option linter.unusedVariables false
set_option linter.unusedSimpArgs false
theorem lnum_s (n : Nat) (hn : n < 4294967296) (w : World) (hP : Pow w) : Calls Tryz.prog 24 #[.int .u32 (n : Int)] w fun e w' => e = .returned (strV (decDigits n)) ∧ Below w.heap.size w w' := by
  have K := Lib.hid (itoa_s n (by omega) w hP)
  have e1 : IntKind.i64.wrap (n : Int) = (n : Int) := by rw [IntKind.wrap_i64]; omega
  clear hP
  go_enter Tryz.func24, Tryz.ntmps24
  go_wp2_with (go_at_call 17; refine K.out.mono ?_; rintro e w1 ⟨rfl, hb⟩; have HB := Lib.hid hb; clear hb)
  go_ret
  exact ⟨rfl, HB.out⟩
theorem textO_two {o : Opp} (h1 : o.kind ≠ 1) (h4 : o.kind ≠ 4) (h7 : o.kind ≠ 7) : textO o = wordK o.kind ++ 32 :: (decDigits o.frm ++ 32 :: (linkK o.kind ++ 32 :: (decDigits o.to ++ [59]))) := by
  unfold textO restO; rw [if_neg h1, if_neg h4, if_neg h7]
set_option maxHeartbeats 4000000 in
set_option maxRecDepth 100000 in
theorem ltext_0 (p : Om) (w : World) (hI : InS w) (hM : OpM w p) (ho : OpIn p.o) (hk : p.o.kind = 0) : Calls Tryz.prog 11 #[opV p] w fun e w' => e = .returned (strV (textO p.o)) ∧ Below w.heap.size w w' := by
  have hmix : Tryz.prog.follows .mixedOrders = true := by kernel_rfl
  have hfr := ho.frm
  have hto := ho.tgt
  have hnm := ho.name
  have hps := ho.parts
  have hss := ho.starts
  have hok := ho.ok
  have d1 := dec_len 9 p.o.frm (by omega)
  have d2 := dec_len 9 p.o.to (by omega)
  have et := textO_two (o := p.o) (by omega) (by omega) (by omega)
  rw [hk] at et
  have b1 := bytes_app [114, 101, 110, 117, 109, 98, 101, 114, 32] (decDigits p.o.frm)
  have b2 := bytes_app ([114, 101, 110, 117, 109, 98, 101, 114, 32] ++ decDigits p.o.frm) [32, 116, 111, 32]
  have b3 := bytes_app ([114, 101, 110, 117, 109, 98, 101, 114, 32] ++ decDigits p.o.frm ++ [32, 116, 111, 32]) (decDigits p.o.to)
  have b4 := bytes_app ([114, 101, 110, 117, 109, 98, 101, 114, 32] ++ decDigits p.o.frm ++ [32, 116, 111, 32] ++ decDigits p.o.to) [59]
  rw [show [114, 101, 110, 117, 109, 98, 101, 114, 32] ++ decDigits p.o.frm ++ [32, 116, 111, 32] ++ decDigits p.o.to ++ [59] = textO p.o by rw [et]; simp [wordK, linkK]] at b4
  have l1 : ([114, 101, 110, 117, 109, 98, 101, 114, 32] ++ decDigits p.o.frm).length = 9 + (decDigits p.o.frm).length := by simp; omega
  have l2 : ([114, 101, 110, 117, 109, 98, 101, 114, 32] ++ decDigits p.o.frm ++ [32, 116, 111, 32]).length = 13 + (decDigits p.o.frm).length := by simp; omega
  have l3 : ([114, 101, 110, 117, 109, 98, 101, 114, 32] ++ decDigits p.o.frm ++ [32, 116, 111, 32] ++ decDigits p.o.to).length = 13 + (decDigits p.o.frm).length + (decDigits p.o.to).length := by simp; omega
  clear et
  generalize textO p.o = T at *
  generalize [114, 101, 110, 117, 109, 98, 101, 114, 32] ++ decDigits p.o.frm ++ [32, 116, 111, 32] ++ decDigits p.o.to = L3 at *
  generalize [114, 101, 110, 117, 109, 98, 101, 114, 32] ++ decDigits p.o.frm ++ [32, 116, 111, 32] = L2 at *
  generalize [114, 101, 110, 117, 109, 98, 101, 114, 32] ++ decDigits p.o.frm = L1 at *
  have s1 : ¬ 9223372036854775807 < 9 + (decDigits p.o.frm).length := by omega
  have s2 : ¬ 9223372036854775807 < L1.length + 4 := by omega
  have s3 : ¬ 9223372036854775807 < L2.length + (decDigits p.o.to).length := by omega
  have s4 : ¬ 9223372036854775807 < L3.length + 1 := by omega
  clear l1 l2 l3 d1 d2
  unfold opV
  obtain ⟨⟨k, fr, tg, nm, ps, ss, en⟩, pos, vP, vS⟩ := p
  simp only at *
  subst hk
  have KF := Lib.hid (fun (w' : World) (h : InS w') => lnum_s fr hfr w' h.1.1)
  have KT := Lib.hid (fun (w' : World) (h : InS w') => lnum_s tg hto w' h.1.1)
  have HI := Lib.hid hI
  clear hfr hto hnm hps hss hok ho hM
  unfold strV at *
  generalize decDigits fr = FR at *
  generalize decDigits tg = TO at *
  go_enter Tryz.func11, Tryz.ntmps11
  go_upto_region 1 with fail
  have hb1 := (Below.refl w.heap.size w).alloc (Nat.le_refl _) (.cells #[.int .i64 0, .int .u32 (fr : Int), .int .u32 (tg : Int), .string ⟨nm.toArray⟩, vP, vS, .int .i32 en, .int .i64 pos] 38)
  have bx := RBox.new w [.int .i64 0, .int .u32 (fr : Int), .int .u32 (tg : Int), .string ⟨nm.toArray⟩, vP, vS, .int .i32 en, .int .i64 pos] 38
  change RBox (w.alloc (.cells #[.int .i64 0, .int .u32 (fr : Int), .int .u32 (tg : Int), .string ⟨nm.toArray⟩, vP, vS, .int .i32 en, .int .i64 pos] 38)) _ _ at bx
  generalize w.alloc (.cells #[.int .i64 0, .int .u32 (fr : Int), .int .u32 (tg : Int), .string ⟨nm.toArray⟩, vP, vS, .int .i32 en, .int .i64 pos] 38) = w1 at *
  have HX1 := Lib.hid bx
  have HB1 := Lib.hid hb1
  have HI1 : Hid (InS w1) := Lib.hid (HI.out.stay hb1)
  have HR1 := Lib.hid (fun d os => HI1.out.stay (below_regrown w1 d os))
  have z0 := bx.at_ 0 _ rfl
  obtain ⟨X, hXX⟩ : ∃ X, w.heap.size = X := ⟨_, rfl⟩
  rw [hXX] at z0 HX1 bx ⊢
  clear hb1 hXX bx hI
  have y1 := fun d os => cell_regrown (HX1.out.at_ 1 _ rfl) d os
  have y2 := fun d os => cell_regrown (HX1.out.at_ 2 _ rfl) d os
  go_wp2_with fail
  clear z0
  refine wp_region_quiet_below hmix (by kernel_rfl) ?_
  repeat (first | go_big_quiet_step ((first | (go_at_call 24; with_reducible exact Calls.regrown_of (KF.out _ (HR1.out _ _))) | (go_at_call 24; with_reducible exact Calls.regrown_of (KT.out _ (HR1.out _ _))))) | quiet_step ((first | (go_at_call 24; with_reducible exact Calls.regrown_of (KF.out _ (HR1.out _ _))) | (go_at_call 24; with_reducible exact Calls.regrown_of (KT.out _ (HR1.out _ _))))))
  refine wpQuiet_nil ?_
  intro w2 hw2
  have hb3 : Below w1.heap.size w1 w2 := by obtain ⟨q, rfl⟩ := hw2; exact below_regrown _ _ _
  have HB2 := Lib.hid (HB1.out.trans (hb3.mono HB1.out.size))
  clear hw2 hb3
  go_wp2
  go_ret
  exact ⟨rfl, HB2.out⟩
set_option maxHeartbeats 4000000 in
set_option maxRecDepth 100000 in
theorem ltext_2 (p : Om) (w : World) (hI : InS w) (hM : OpM w p) (ho : OpIn p.o) (hk : p.o.kind = 2) : Calls Tryz.prog 11 #[opV p] w fun e w' => e = .returned (strV (textO p.o)) ∧ Below w.heap.size w w' := by
  have hmix : Tryz.prog.follows .mixedOrders = true := by kernel_rfl
  have hfr := ho.frm
  have hto := ho.tgt
  have hnm := ho.name
  have hps := ho.parts
  have hss := ho.starts
  have hok := ho.ok
  have d1 := dec_len 9 p.o.frm (by omega)
  have d2 := dec_len 9 p.o.to (by omega)
  have et := textO_two (o := p.o) (by omega) (by omega) (by omega)
  rw [hk] at et
  have b1 := bytes_app [114, 101, 112, 97, 114, 101, 110, 116, 32] (decDigits p.o.frm)
  have b2 := bytes_app ([114, 101, 112, 97, 114, 101, 110, 116, 32] ++ decDigits p.o.frm) [32, 117, 110, 100, 101, 114, 32]
  have b3 := bytes_app ([114, 101, 112, 97, 114, 101, 110, 116, 32] ++ decDigits p.o.frm ++ [32, 117, 110, 100, 101, 114, 32]) (decDigits p.o.to)
  have b4 := bytes_app ([114, 101, 112, 97, 114, 101, 110, 116, 32] ++ decDigits p.o.frm ++ [32, 117, 110, 100, 101, 114, 32] ++ decDigits p.o.to) [59]
  rw [show [114, 101, 112, 97, 114, 101, 110, 116, 32] ++ decDigits p.o.frm ++ [32, 117, 110, 100, 101, 114, 32] ++ decDigits p.o.to ++ [59] = textO p.o by rw [et]; simp [wordK, linkK]] at b4
  have l1 : ([114, 101, 112, 97, 114, 101, 110, 116, 32] ++ decDigits p.o.frm).length = 9 + (decDigits p.o.frm).length := by simp; omega
  have l2 : ([114, 101, 112, 97, 114, 101, 110, 116, 32] ++ decDigits p.o.frm ++ [32, 117, 110, 100, 101, 114, 32]).length = 16 + (decDigits p.o.frm).length := by simp; omega
  have l3 : ([114, 101, 112, 97, 114, 101, 110, 116, 32] ++ decDigits p.o.frm ++ [32, 117, 110, 100, 101, 114, 32] ++ decDigits p.o.to).length = 16 + (decDigits p.o.frm).length + (decDigits p.o.to).length := by simp; omega
  clear et
  generalize textO p.o = T at *
  generalize [114, 101, 112, 97, 114, 101, 110, 116, 32] ++ decDigits p.o.frm ++ [32, 117, 110, 100, 101, 114, 32] ++ decDigits p.o.to = L3 at *
  generalize [114, 101, 112, 97, 114, 101, 110, 116, 32] ++ decDigits p.o.frm ++ [32, 117, 110, 100, 101, 114, 32] = L2 at *
  generalize [114, 101, 112, 97, 114, 101, 110, 116, 32] ++ decDigits p.o.frm = L1 at *
  have s1 : ¬ 9223372036854775807 < 9 + (decDigits p.o.frm).length := by omega
  have s2 : ¬ 9223372036854775807 < L1.length + 7 := by omega
  have s3 : ¬ 9223372036854775807 < L2.length + (decDigits p.o.to).length := by omega
  have s4 : ¬ 9223372036854775807 < L3.length + 1 := by omega
  clear l1 l2 l3 d1 d2
  unfold opV
  obtain ⟨⟨k, fr, tg, nm, ps, ss, en⟩, pos, vP, vS⟩ := p
  simp only at *
  subst hk
  have KF := Lib.hid (fun (w' : World) (h : InS w') => lnum_s fr hfr w' h.1.1)
  have KT := Lib.hid (fun (w' : World) (h : InS w') => lnum_s tg hto w' h.1.1)
  have HI := Lib.hid hI
  clear hfr hto hnm hps hss hok ho hM
  unfold strV at *
  generalize decDigits fr = FR at *
  generalize decDigits tg = TO at *
  go_enter Tryz.func11, Tryz.ntmps11
  go_upto_region 1 with fail
  have hb1 := (Below.refl w.heap.size w).alloc (Nat.le_refl _) (.cells #[.int .i64 2, .int .u32 (fr : Int), .int .u32 (tg : Int), .string ⟨nm.toArray⟩, vP, vS, .int .i32 en, .int .i64 pos] 38)
  have bx := RBox.new w [.int .i64 2, .int .u32 (fr : Int), .int .u32 (tg : Int), .string ⟨nm.toArray⟩, vP, vS, .int .i32 en, .int .i64 pos] 38
  change RBox (w.alloc (.cells #[.int .i64 2, .int .u32 (fr : Int), .int .u32 (tg : Int), .string ⟨nm.toArray⟩, vP, vS, .int .i32 en, .int .i64 pos] 38)) _ _ at bx
  generalize w.alloc (.cells #[.int .i64 2, .int .u32 (fr : Int), .int .u32 (tg : Int), .string ⟨nm.toArray⟩, vP, vS, .int .i32 en, .int .i64 pos] 38) = w1 at *
  have HX1 := Lib.hid bx
  have HB1 := Lib.hid hb1
  have HI1 : Hid (InS w1) := Lib.hid (HI.out.stay hb1)
  have HR1 := Lib.hid (fun d os => HI1.out.stay (below_regrown w1 d os))
  have z0 := bx.at_ 0 _ rfl
  obtain ⟨X, hXX⟩ : ∃ X, w.heap.size = X := ⟨_, rfl⟩
  rw [hXX] at z0 HX1 bx ⊢
  clear hb1 hXX bx hI
  have y1 := fun d os => cell_regrown (HX1.out.at_ 1 _ rfl) d os
  have y2 := fun d os => cell_regrown (HX1.out.at_ 2 _ rfl) d os
  go_wp2_with fail
  clear z0
  refine wp_region_quiet_below hmix (by kernel_rfl) ?_
  repeat (first | go_big_quiet_step ((first | (go_at_call 24; with_reducible exact Calls.regrown_of (KF.out _ (HR1.out _ _))) | (go_at_call 24; with_reducible exact Calls.regrown_of (KT.out _ (HR1.out _ _))))) | quiet_step ((first | (go_at_call 24; with_reducible exact Calls.regrown_of (KF.out _ (HR1.out _ _))) | (go_at_call 24; with_reducible exact Calls.regrown_of (KT.out _ (HR1.out _ _))))))
  refine wpQuiet_nil ?_
  intro w2 hw2
  have hb3 : Below w1.heap.size w1 w2 := by obtain ⟨q, rfl⟩ := hw2; exact below_regrown _ _ _
  have HB2 := Lib.hid (HB1.out.trans (hb3.mono HB1.out.size))
  clear hw2 hb3
  go_wp2
  go_ret
  exact ⟨rfl, HB2.out⟩
set_option maxHeartbeats 4000000 in
set_option maxRecDepth 100000 in
theorem ltext_3 (p : Om) (w : World) (hI : InS w) (hM : OpM w p) (ho : OpIn p.o) (hk : p.o.kind = 3) : Calls Tryz.prog 11 #[opV p] w fun e w' => e = .returned (strV (textO p.o)) ∧ Below w.heap.size w w' := by
  have hmix : Tryz.prog.follows .mixedOrders = true := by kernel_rfl
  have hfr := ho.frm
  have hto := ho.tgt
  have hnm := ho.name
  have hps := ho.parts
  have hss := ho.starts
  have hok := ho.ok
  have d1 := dec_len 9 p.o.frm (by omega)
  have d2 := dec_len 9 p.o.to (by omega)
  have et := textO_two (o := p.o) (by omega) (by omega) (by omega)
  rw [hk] at et
  have b1 := bytes_app [109, 101, 114, 103, 101, 32] (decDigits p.o.frm)
  have b2 := bytes_app ([109, 101, 114, 103, 101, 32] ++ decDigits p.o.frm) [32, 105, 110, 116, 111, 32]
  have b3 := bytes_app ([109, 101, 114, 103, 101, 32] ++ decDigits p.o.frm ++ [32, 105, 110, 116, 111, 32]) (decDigits p.o.to)
  have b4 := bytes_app ([109, 101, 114, 103, 101, 32] ++ decDigits p.o.frm ++ [32, 105, 110, 116, 111, 32] ++ decDigits p.o.to) [59]
  rw [show [109, 101, 114, 103, 101, 32] ++ decDigits p.o.frm ++ [32, 105, 110, 116, 111, 32] ++ decDigits p.o.to ++ [59] = textO p.o by rw [et]; simp [wordK, linkK]] at b4
  have l1 : ([109, 101, 114, 103, 101, 32] ++ decDigits p.o.frm).length = 6 + (decDigits p.o.frm).length := by simp; omega
  have l2 : ([109, 101, 114, 103, 101, 32] ++ decDigits p.o.frm ++ [32, 105, 110, 116, 111, 32]).length = 12 + (decDigits p.o.frm).length := by simp; omega
  have l3 : ([109, 101, 114, 103, 101, 32] ++ decDigits p.o.frm ++ [32, 105, 110, 116, 111, 32] ++ decDigits p.o.to).length = 12 + (decDigits p.o.frm).length + (decDigits p.o.to).length := by simp; omega
  clear et
  generalize textO p.o = T at *
  generalize [109, 101, 114, 103, 101, 32] ++ decDigits p.o.frm ++ [32, 105, 110, 116, 111, 32] ++ decDigits p.o.to = L3 at *
  generalize [109, 101, 114, 103, 101, 32] ++ decDigits p.o.frm ++ [32, 105, 110, 116, 111, 32] = L2 at *
  generalize [109, 101, 114, 103, 101, 32] ++ decDigits p.o.frm = L1 at *
  have s1 : ¬ 9223372036854775807 < 6 + (decDigits p.o.frm).length := by omega
  have s2 : ¬ 9223372036854775807 < L1.length + 6 := by omega
  have s3 : ¬ 9223372036854775807 < L2.length + (decDigits p.o.to).length := by omega
  have s4 : ¬ 9223372036854775807 < L3.length + 1 := by omega
  clear l1 l2 l3 d1 d2
  unfold opV
  obtain ⟨⟨k, fr, tg, nm, ps, ss, en⟩, pos, vP, vS⟩ := p
  simp only at *
  subst hk
  have KF := Lib.hid (fun (w' : World) (h : InS w') => lnum_s fr hfr w' h.1.1)
  have KT := Lib.hid (fun (w' : World) (h : InS w') => lnum_s tg hto w' h.1.1)
  have HI := Lib.hid hI
  clear hfr hto hnm hps hss hok ho hM
  unfold strV at *
  generalize decDigits fr = FR at *
  generalize decDigits tg = TO at *
  go_enter Tryz.func11, Tryz.ntmps11
  go_upto_region 1 with fail
  have hb1 := (Below.refl w.heap.size w).alloc (Nat.le_refl _) (.cells #[.int .i64 3, .int .u32 (fr : Int), .int .u32 (tg : Int), .string ⟨nm.toArray⟩, vP, vS, .int .i32 en, .int .i64 pos] 38)
  have bx := RBox.new w [.int .i64 3, .int .u32 (fr : Int), .int .u32 (tg : Int), .string ⟨nm.toArray⟩, vP, vS, .int .i32 en, .int .i64 pos] 38
  change RBox (w.alloc (.cells #[.int .i64 3, .int .u32 (fr : Int), .int .u32 (tg : Int), .string ⟨nm.toArray⟩, vP, vS, .int .i32 en, .int .i64 pos] 38)) _ _ at bx
  generalize w.alloc (.cells #[.int .i64 3, .int .u32 (fr : Int), .int .u32 (tg : Int), .string ⟨nm.toArray⟩, vP, vS, .int .i32 en, .int .i64 pos] 38) = w1 at *
  have HX1 := Lib.hid bx
  have HB1 := Lib.hid hb1
  have HI1 : Hid (InS w1) := Lib.hid (HI.out.stay hb1)
  have HR1 := Lib.hid (fun d os => HI1.out.stay (below_regrown w1 d os))
  have z0 := bx.at_ 0 _ rfl
  obtain ⟨X, hXX⟩ : ∃ X, w.heap.size = X := ⟨_, rfl⟩
  rw [hXX] at z0 HX1 bx ⊢
  clear hb1 hXX bx hI
  have y1 := fun d os => cell_regrown (HX1.out.at_ 1 _ rfl) d os
  have y2 := fun d os => cell_regrown (HX1.out.at_ 2 _ rfl) d os
  go_wp2_with fail
  clear z0
  refine wp_region_quiet_below hmix (by kernel_rfl) ?_
  repeat (first | go_big_quiet_step ((first | (go_at_call 24; with_reducible exact Calls.regrown_of (KF.out _ (HR1.out _ _))) | (go_at_call 24; with_reducible exact Calls.regrown_of (KT.out _ (HR1.out _ _))))) | quiet_step ((first | (go_at_call 24; with_reducible exact Calls.regrown_of (KF.out _ (HR1.out _ _))) | (go_at_call 24; with_reducible exact Calls.regrown_of (KT.out _ (HR1.out _ _))))))
  refine wpQuiet_nil ?_
  intro w2 hw2
  have hb3 : Below w1.heap.size w1 w2 := by obtain ⟨q, rfl⟩ := hw2; exact below_regrown _ _ _
  have HB2 := Lib.hid (HB1.out.trans (hb3.mono HB1.out.size))
  clear hw2 hb3
  go_wp2
  go_ret
  exact ⟨rfl, HB2.out⟩
set_option maxHeartbeats 4000000 in
set_option maxRecDepth 100000 in
theorem ltext_5 (p : Om) (w : World) (hI : InS w) (hM : OpM w p) (ho : OpIn p.o) (hk : p.o.kind = 5) : Calls Tryz.prog 11 #[opV p] w fun e w' => e = .returned (strV (textO p.o)) ∧ Below w.heap.size w w' := by
  have hmix : Tryz.prog.follows .mixedOrders = true := by kernel_rfl
  have hfr := ho.frm
  have hto := ho.tgt
  have hnm := ho.name
  have hps := ho.parts
  have hss := ho.starts
  have hok := ho.ok
  have d1 := dec_len 9 p.o.frm (by omega)
  have d2 := dec_len 9 p.o.to (by omega)
  have et := textO_two (o := p.o) (by omega) (by omega) (by omega)
  rw [hk] at et
  have b1 := bytes_app [114, 101, 99, 111, 100, 101, 32] (decDigits p.o.frm)
  have b2 := bytes_app ([114, 101, 99, 111, 100, 101, 32] ++ decDigits p.o.frm) [32, 116, 111, 32]
  have b3 := bytes_app ([114, 101, 99, 111, 100, 101, 32] ++ decDigits p.o.frm ++ [32, 116, 111, 32]) (decDigits p.o.to)
  have b4 := bytes_app ([114, 101, 99, 111, 100, 101, 32] ++ decDigits p.o.frm ++ [32, 116, 111, 32] ++ decDigits p.o.to) [59]
  rw [show [114, 101, 99, 111, 100, 101, 32] ++ decDigits p.o.frm ++ [32, 116, 111, 32] ++ decDigits p.o.to ++ [59] = textO p.o by rw [et]; simp [wordK, linkK]] at b4
  have l1 : ([114, 101, 99, 111, 100, 101, 32] ++ decDigits p.o.frm).length = 7 + (decDigits p.o.frm).length := by simp; omega
  have l2 : ([114, 101, 99, 111, 100, 101, 32] ++ decDigits p.o.frm ++ [32, 116, 111, 32]).length = 11 + (decDigits p.o.frm).length := by simp; omega
  have l3 : ([114, 101, 99, 111, 100, 101, 32] ++ decDigits p.o.frm ++ [32, 116, 111, 32] ++ decDigits p.o.to).length = 11 + (decDigits p.o.frm).length + (decDigits p.o.to).length := by simp; omega
  clear et
  generalize textO p.o = T at *
  generalize [114, 101, 99, 111, 100, 101, 32] ++ decDigits p.o.frm ++ [32, 116, 111, 32] ++ decDigits p.o.to = L3 at *
  generalize [114, 101, 99, 111, 100, 101, 32] ++ decDigits p.o.frm ++ [32, 116, 111, 32] = L2 at *
  generalize [114, 101, 99, 111, 100, 101, 32] ++ decDigits p.o.frm = L1 at *
  have s1 : ¬ 9223372036854775807 < 7 + (decDigits p.o.frm).length := by omega
  have s2 : ¬ 9223372036854775807 < L1.length + 4 := by omega
  have s3 : ¬ 9223372036854775807 < L2.length + (decDigits p.o.to).length := by omega
  have s4 : ¬ 9223372036854775807 < L3.length + 1 := by omega
  clear l1 l2 l3 d1 d2
  unfold opV
  obtain ⟨⟨k, fr, tg, nm, ps, ss, en⟩, pos, vP, vS⟩ := p
  simp only at *
  subst hk
  have KF := Lib.hid (fun (w' : World) (h : InS w') => lnum_s fr hfr w' h.1.1)
  have KT := Lib.hid (fun (w' : World) (h : InS w') => lnum_s tg hto w' h.1.1)
  have HI := Lib.hid hI
  clear hfr hto hnm hps hss hok ho hM
  unfold strV at *
  generalize decDigits fr = FR at *
  generalize decDigits tg = TO at *
  go_enter Tryz.func11, Tryz.ntmps11
  go_upto_region 1 with fail
  have hb1 := (Below.refl w.heap.size w).alloc (Nat.le_refl _) (.cells #[.int .i64 5, .int .u32 (fr : Int), .int .u32 (tg : Int), .string ⟨nm.toArray⟩, vP, vS, .int .i32 en, .int .i64 pos] 38)
  have bx := RBox.new w [.int .i64 5, .int .u32 (fr : Int), .int .u32 (tg : Int), .string ⟨nm.toArray⟩, vP, vS, .int .i32 en, .int .i64 pos] 38
  change RBox (w.alloc (.cells #[.int .i64 5, .int .u32 (fr : Int), .int .u32 (tg : Int), .string ⟨nm.toArray⟩, vP, vS, .int .i32 en, .int .i64 pos] 38)) _ _ at bx
  generalize w.alloc (.cells #[.int .i64 5, .int .u32 (fr : Int), .int .u32 (tg : Int), .string ⟨nm.toArray⟩, vP, vS, .int .i32 en, .int .i64 pos] 38) = w1 at *
  have HX1 := Lib.hid bx
  have HB1 := Lib.hid hb1
  have HI1 : Hid (InS w1) := Lib.hid (HI.out.stay hb1)
  have HR1 := Lib.hid (fun d os => HI1.out.stay (below_regrown w1 d os))
  have z0 := bx.at_ 0 _ rfl
  obtain ⟨X, hXX⟩ : ∃ X, w.heap.size = X := ⟨_, rfl⟩
  rw [hXX] at z0 HX1 bx ⊢
  clear hb1 hXX bx hI
  have y1 := fun d os => cell_regrown (HX1.out.at_ 1 _ rfl) d os
  have y2 := fun d os => cell_regrown (HX1.out.at_ 2 _ rfl) d os
  go_wp2_with fail
  clear z0
  refine wp_region_quiet_below hmix (by kernel_rfl) ?_
  repeat (first | go_big_quiet_step ((first | (go_at_call 24; with_reducible exact Calls.regrown_of (KF.out _ (HR1.out _ _))) | (go_at_call 24; with_reducible exact Calls.regrown_of (KT.out _ (HR1.out _ _))))) | quiet_step ((first | (go_at_call 24; with_reducible exact Calls.regrown_of (KF.out _ (HR1.out _ _))) | (go_at_call 24; with_reducible exact Calls.regrown_of (KT.out _ (HR1.out _ _))))))
  refine wpQuiet_nil ?_
  intro w2 hw2
  have hb3 : Below w1.heap.size w1 w2 := by obtain ⟨q, rfl⟩ := hw2; exact below_regrown _ _ _
  have HB2 := Lib.hid (HB1.out.trans (hb3.mono HB1.out.size))
  clear hw2 hb3
  go_wp2
  go_ret
  exact ⟨rfl, HB2.out⟩
set_option maxHeartbeats 4000000 in
set_option maxRecDepth 100000 in
theorem ltext_6 (p : Om) (w : World) (hI : InS w) (hM : OpM w p) (ho : OpIn p.o) (hk : p.o.kind = 6) : Calls Tryz.prog 11 #[opV p] w fun e w' => e = .returned (strV (textO p.o)) ∧ Below w.heap.size w w' := by
  have hmix : Tryz.prog.follows .mixedOrders = true := by kernel_rfl
  have hfr := ho.frm
  have hto := ho.tgt
  have hnm := ho.name
  have hps := ho.parts
  have hss := ho.starts
  have hok := ho.ok
  have d1 := dec_len 9 p.o.frm (by omega)
  have d2 := dec_len 9 p.o.to (by omega)
  have et := textO_two (o := p.o) (by omega) (by omega) (by omega)
  rw [hk] at et
  have b1 := bytes_app [106, 111, 105, 110, 32] (decDigits p.o.frm)
  have b2 := bytes_app ([106, 111, 105, 110, 32] ++ decDigits p.o.frm) [32, 105, 110, 116, 111, 32]
  have b3 := bytes_app ([106, 111, 105, 110, 32] ++ decDigits p.o.frm ++ [32, 105, 110, 116, 111, 32]) (decDigits p.o.to)
  have b4 := bytes_app ([106, 111, 105, 110, 32] ++ decDigits p.o.frm ++ [32, 105, 110, 116, 111, 32] ++ decDigits p.o.to) [59]
  rw [show [106, 111, 105, 110, 32] ++ decDigits p.o.frm ++ [32, 105, 110, 116, 111, 32] ++ decDigits p.o.to ++ [59] = textO p.o by rw [et]; simp [wordK, linkK]] at b4
  have l1 : ([106, 111, 105, 110, 32] ++ decDigits p.o.frm).length = 5 + (decDigits p.o.frm).length := by simp; omega
  have l2 : ([106, 111, 105, 110, 32] ++ decDigits p.o.frm ++ [32, 105, 110, 116, 111, 32]).length = 11 + (decDigits p.o.frm).length := by simp; omega
  have l3 : ([106, 111, 105, 110, 32] ++ decDigits p.o.frm ++ [32, 105, 110, 116, 111, 32] ++ decDigits p.o.to).length = 11 + (decDigits p.o.frm).length + (decDigits p.o.to).length := by simp; omega
  clear et
  generalize textO p.o = T at *
  generalize [106, 111, 105, 110, 32] ++ decDigits p.o.frm ++ [32, 105, 110, 116, 111, 32] ++ decDigits p.o.to = L3 at *
  generalize [106, 111, 105, 110, 32] ++ decDigits p.o.frm ++ [32, 105, 110, 116, 111, 32] = L2 at *
  generalize [106, 111, 105, 110, 32] ++ decDigits p.o.frm = L1 at *
  have s1 : ¬ 9223372036854775807 < 5 + (decDigits p.o.frm).length := by omega
  have s2 : ¬ 9223372036854775807 < L1.length + 6 := by omega
  have s3 : ¬ 9223372036854775807 < L2.length + (decDigits p.o.to).length := by omega
  have s4 : ¬ 9223372036854775807 < L3.length + 1 := by omega
  clear l1 l2 l3 d1 d2
  unfold opV
  obtain ⟨⟨k, fr, tg, nm, ps, ss, en⟩, pos, vP, vS⟩ := p
  simp only at *
  subst hk
  have KF := Lib.hid (fun (w' : World) (h : InS w') => lnum_s fr hfr w' h.1.1)
  have KT := Lib.hid (fun (w' : World) (h : InS w') => lnum_s tg hto w' h.1.1)
  have HI := Lib.hid hI
  clear hfr hto hnm hps hss hok ho hM
  unfold strV at *
  generalize decDigits fr = FR at *
  generalize decDigits tg = TO at *
  go_enter Tryz.func11, Tryz.ntmps11
  go_upto_region 1 with fail
  have hb1 := (Below.refl w.heap.size w).alloc (Nat.le_refl _) (.cells #[.int .i64 6, .int .u32 (fr : Int), .int .u32 (tg : Int), .string ⟨nm.toArray⟩, vP, vS, .int .i32 en, .int .i64 pos] 38)
  have bx := RBox.new w [.int .i64 6, .int .u32 (fr : Int), .int .u32 (tg : Int), .string ⟨nm.toArray⟩, vP, vS, .int .i32 en, .int .i64 pos] 38
  change RBox (w.alloc (.cells #[.int .i64 6, .int .u32 (fr : Int), .int .u32 (tg : Int), .string ⟨nm.toArray⟩, vP, vS, .int .i32 en, .int .i64 pos] 38)) _ _ at bx
  generalize w.alloc (.cells #[.int .i64 6, .int .u32 (fr : Int), .int .u32 (tg : Int), .string ⟨nm.toArray⟩, vP, vS, .int .i32 en, .int .i64 pos] 38) = w1 at *
  have HX1 := Lib.hid bx
  have HB1 := Lib.hid hb1
  have HI1 : Hid (InS w1) := Lib.hid (HI.out.stay hb1)
  have HR1 := Lib.hid (fun d os => HI1.out.stay (below_regrown w1 d os))
  have z0 := bx.at_ 0 _ rfl
  obtain ⟨X, hXX⟩ : ∃ X, w.heap.size = X := ⟨_, rfl⟩
  rw [hXX] at z0 HX1 bx ⊢
  clear hb1 hXX bx hI
  have y1 := fun d os => cell_regrown (HX1.out.at_ 1 _ rfl) d os
  have y2 := fun d os => cell_regrown (HX1.out.at_ 2 _ rfl) d os
  go_wp2_with fail
  clear z0
  refine wp_region_quiet_below hmix (by kernel_rfl) ?_
  repeat (first | go_big_quiet_step ((first | (go_at_call 24; with_reducible exact Calls.regrown_of (KF.out _ (HR1.out _ _))) | (go_at_call 24; with_reducible exact Calls.regrown_of (KT.out _ (HR1.out _ _))))) | quiet_step ((first | (go_at_call 24; with_reducible exact Calls.regrown_of (KF.out _ (HR1.out _ _))) | (go_at_call 24; with_reducible exact Calls.regrown_of (KT.out _ (HR1.out _ _))))))
  refine wpQuiet_nil ?_
  intro w2 hw2
  have hb3 : Below w1.heap.size w1 w2 := by obtain ⟨q, rfl⟩ := hw2; exact below_regrown _ _ _
  have HB2 := Lib.hid (HB1.out.trans (hb3.mono HB1.out.size))
  clear hw2 hb3
  go_wp2
  go_ret
  exact ⟨rfl, HB2.out⟩
set_option maxHeartbeats 4000000 in
set_option maxRecDepth 100000 in
theorem ltext_1 (p : Om) (w : World) (hI : InS w) (hM : OpM w p) (ho : OpIn p.o) (hk : p.o.kind = 1) : Calls Tryz.prog 11 #[opV p] w fun e w' => e = .returned (strV (textO p.o)) ∧ Below w.heap.size w w' := by
  have hmix : Tryz.prog.follows .mixedOrders = true := by kernel_rfl
  have hfr := ho.frm
  have hto := ho.tgt
  have hnm := ho.name
  have hps := ho.parts
  have hss := ho.starts
  have hok := ho.ok
  have d1 := dec_len 9 p.o.frm (by omega)
  have d2 := dec_len 9 p.o.to (by omega)
  have et : textO p.o = wordK 1 ++ 32 :: (decDigits p.o.frm ++ 32 :: 34 :: (p.o.name ++ [34, 59])) := by unfold textO restO; rw [if_pos hk, hk]
  have b1 := bytes_app [114, 101, 110, 97, 109, 101, 32] (decDigits p.o.frm)
  have b2 := bytes_app ([114, 101, 110, 97, 109, 101, 32] ++ decDigits p.o.frm) [32, 34]
  have b3 := bytes_app ([114, 101, 110, 97, 109, 101, 32] ++ decDigits p.o.frm ++ [32, 34]) p.o.name
  have b4 := bytes_app ([114, 101, 110, 97, 109, 101, 32] ++ decDigits p.o.frm ++ [32, 34] ++ p.o.name) [34, 59]
  rw [show [114, 101, 110, 97, 109, 101, 32] ++ decDigits p.o.frm ++ [32, 34] ++ p.o.name ++ [34, 59] = textO p.o by rw [et]; simp [wordK, linkK]] at b4
  have l1 : ([114, 101, 110, 97, 109, 101, 32] ++ decDigits p.o.frm).length = 7 + (decDigits p.o.frm).length := by simp; omega
  have l2 : ([114, 101, 110, 97, 109, 101, 32] ++ decDigits p.o.frm ++ [32, 34]).length = 9 + (decDigits p.o.frm).length := by simp; omega
  have l3 : ([114, 101, 110, 97, 109, 101, 32] ++ decDigits p.o.frm ++ [32, 34] ++ p.o.name).length = 9 + (decDigits p.o.frm).length + p.o.name.length := by simp; omega
  clear et
  generalize textO p.o = T at *
  generalize [114, 101, 110, 97, 109, 101, 32] ++ decDigits p.o.frm ++ [32, 34] ++ p.o.name = L3 at *
  generalize [114, 101, 110, 97, 109, 101, 32] ++ decDigits p.o.frm ++ [32, 34] = L2 at *
  generalize [114, 101, 110, 97, 109, 101, 32] ++ decDigits p.o.frm = L1 at *
  have s1 : ¬ 9223372036854775807 < 7 + (decDigits p.o.frm).length := by omega
  have s2 : ¬ 9223372036854775807 < L1.length + 2 := by omega
  have s3 : ¬ 9223372036854775807 < L2.length + p.o.name.length := by omega
  have s4 : ¬ 9223372036854775807 < L3.length + 2 := by omega
  clear l1 l2 l3 d1 d2
  unfold opV
  obtain ⟨⟨k, fr, tg, nm, ps, ss, en⟩, pos, vP, vS⟩ := p
  simp only at *
  subst hk
  have KF := Lib.hid (fun (w' : World) (h : InS w') => lnum_s fr hfr w' h.1.1)
  have KT := Lib.hid (fun (w' : World) (h : InS w') => lnum_s tg hto w' h.1.1)
  have HI := Lib.hid hI
  clear hfr hto hnm hps hss hok ho hM KT
  unfold strV at *
  generalize decDigits fr = FR at *
  go_enter Tryz.func11, Tryz.ntmps11
  go_upto_region 1 with fail
  have hb1 := (Below.refl w.heap.size w).alloc (Nat.le_refl _) (.cells #[.int .i64 1, .int .u32 (fr : Int), .int .u32 (tg : Int), .string ⟨nm.toArray⟩, vP, vS, .int .i32 en, .int .i64 pos] 38)
  have bx := RBox.new w [.int .i64 1, .int .u32 (fr : Int), .int .u32 (tg : Int), .string ⟨nm.toArray⟩, vP, vS, .int .i32 en, .int .i64 pos] 38
  change RBox (w.alloc (.cells #[.int .i64 1, .int .u32 (fr : Int), .int .u32 (tg : Int), .string ⟨nm.toArray⟩, vP, vS, .int .i32 en, .int .i64 pos] 38)) _ _ at bx
  generalize w.alloc (.cells #[.int .i64 1, .int .u32 (fr : Int), .int .u32 (tg : Int), .string ⟨nm.toArray⟩, vP, vS, .int .i32 en, .int .i64 pos] 38) = w1 at *
  have HX1 := Lib.hid bx
  have HB1 := Lib.hid hb1
  have HI1 : Hid (InS w1) := Lib.hid (HI.out.stay hb1)
  have HR1 := Lib.hid (fun d os => HI1.out.stay (below_regrown w1 d os))
  have z0 := bx.at_ 0 _ rfl
  obtain ⟨X, hXX⟩ : ∃ X, w.heap.size = X := ⟨_, rfl⟩
  rw [hXX] at z0 HX1 bx ⊢
  clear hb1 hXX bx hI
  have y1 := fun d os => cell_regrown (HX1.out.at_ 1 _ rfl) d os
  have y3 := fun d os => cell_regrown (HX1.out.at_ 3 _ rfl) d os
  go_wp2_with fail
  clear z0
  refine wp_region_quiet_below hmix (by kernel_rfl) ?_
  repeat (first | go_big_quiet_step ((go_at_call 24; with_reducible exact Calls.regrown_of (KF.out _ (HR1.out _ _)))) | quiet_step ((go_at_call 24; with_reducible exact Calls.regrown_of (KF.out _ (HR1.out _ _)))))
  refine wpQuiet_nil ?_
  intro w2 hw2
  have hb3 : Below w1.heap.size w1 w2 := by obtain ⟨q, rfl⟩ := hw2; exact below_regrown _ _ _
  have HB2 := Lib.hid (HB1.out.trans (hb3.mono HB1.out.size))
  clear hw2 hb3
  go_wp2
  go_ret
  exact ⟨rfl, HB2.out⟩
end Go.Proofs.YtffhnedladiaoaaGreatDoor
/- Contract of law 13's Text: splits. -/
namespace Go.Proofs.YtffhnedladiaoaaGreatDoor
open Go.RowKit Go.Lib Go.Sort
set_option linter.unusedVariables false
set_option linter.unusedSimpArgs false
set_option maxHeartbeats 4000000 in
set_option maxRecDepth 100000 in
theorem ltext_4 (p : Om) (w : World) (hI : InS w) (hM : OpM w p) (ho : OpIn p.o) (hk : p.o.kind = 4) : Calls Tryz.prog 11 #[opV p] w fun e w' => e = .returned (strV (textO p.o)) ∧ Below w.heap.size w w' := by
  have hmix : Tryz.prog.follows .mixedOrders = true := by kernel_rfl
  have hfr := ho.frm
  have hto := ho.tgt
  have hnm := ho.name
  have hps := ho.parts
  have hss := ho.starts
  have hok := ho.ok
  have d1 := dec_len 9 p.o.frm (by omega)
  have d2 := dec_len 9 p.o.to (by omega)
  have et : textO p.o = wordK 4 ++ 32 :: (decDigits p.o.frm ++ 32 :: (linkK 4 ++ (partsT p.o.parts ++ [59]))) := by unfold textO restO; rw [if_neg (by omega), if_pos hk, hk]
  have HT : Hid (textO p.o = [115, 112, 108, 105, 116, 32] ++ decDigits p.o.frm ++ [32, 105, 110, 116, 111] ++ partsT p.o.parts ++ [59]) := Lib.hid (by rw [et]; simp [wordK, linkK])
  have b1 := bytes_app [115, 112, 108, 105, 116, 32] (decDigits p.o.frm)
  have b2 := bytes_app ([115, 112, 108, 105, 116, 32] ++ decDigits p.o.frm) [32, 105, 110, 116, 111]
  have l1 : ([115, 112, 108, 105, 116, 32] ++ decDigits p.o.frm).length = 6 + (decDigits p.o.frm).length := by simp; omega
  have l2 : ([115, 112, 108, 105, 116, 32] ++ decDigits p.o.frm ++ [32, 105, 110, 116, 111]).length = 11 + (decDigits p.o.frm).length := by simp; omega
  clear et
  generalize textO p.o = T at *
  generalize [115, 112, 108, 105, 116, 32] ++ decDigits p.o.frm ++ [32, 105, 110, 116, 111] = L2 at *
  generalize [115, 112, 108, 105, 116, 32] ++ decDigits p.o.frm = L1 at *
  have s1 : ¬ 9223372036854775807 < 6 + (decDigits p.o.frm).length := by omega
  have s2 : ¬ 9223372036854775807 < L1.length + 5 := by omega
  have HL2 : Hid (L2.length ≤ 30) := Lib.hid (by omega)
  clear l1 l2 d1 d2
  unfold opV
  obtain ⟨⟨k, fr, tg, nm, ps, ss, en⟩, pos, vP, vS⟩ := p
  simp only at *
  subst hk
  have KF := Lib.hid (fun (w' : World) (h : InS w') => lnum_s fr hfr w' h.1.1)
  have KT := Lib.hid (fun (w' : World) (h : InS w') => lnum_s tg hto w' h.1.1)
  have HI := Lib.hid hI
  obtain ⟨rP, cP, eP, _⟩ := hM.parts.form
  have hrp := hM.parts
  simp only at eP hrp
  subst eP
  have HPS := Lib.hid hrp
  have HPB := Lib.hid hps
  obtain ⟨LP, hLP⟩ : ∃ n, ps.length = n := ⟨_, rfl⟩
  have HLP := Lib.hid hLP
  have HLM : Hid (LP ≤ 1000) := Lib.hid (by rw [← hLP]; exact hps.1)
  have hLM := HLM.out
  rw [hLP] at HPS ⊢
  clear hLP hrp
  clear hfr hto hnm hps hss hok ho hM KT
  unfold strV at *
  generalize decDigits fr = FR at *
  go_enter Tryz.func11, Tryz.ntmps11
  go_upto_region 1 with fail
  have hb1 := (Below.refl w.heap.size w).alloc (Nat.le_refl _) (.cells #[.int .i64 4, .int .u32 (fr : Int), .int .u32 (tg : Int), .string ⟨nm.toArray⟩, .slice rP LP cP, vS, .int .i32 en, .int .i64 pos] 38)
  have bx := RBox.new w [.int .i64 4, .int .u32 (fr : Int), .int .u32 (tg : Int), .string ⟨nm.toArray⟩, .slice rP LP cP, vS, .int .i32 en, .int .i64 pos] 38
  change RBox (w.alloc (.cells #[.int .i64 4, .int .u32 (fr : Int), .int .u32 (tg : Int), .string ⟨nm.toArray⟩, .slice rP LP cP, vS, .int .i32 en, .int .i64 pos] 38)) _ _ at bx
  generalize w.alloc (.cells #[.int .i64 4, .int .u32 (fr : Int), .int .u32 (tg : Int), .string ⟨nm.toArray⟩, .slice rP LP cP, vS, .int .i32 en, .int .i64 pos] 38) = w1 at *
  have HX1 := Lib.hid bx
  have HB1 := Lib.hid hb1
  have HI1 : Hid (InS w1) := Lib.hid (HI.out.stay hb1)
  have HR1 := Lib.hid (fun d os => HI1.out.stay (below_regrown w1 d os))
  have z0 := bx.at_ 0 _ rfl
  obtain ⟨X, hXX⟩ : ∃ X, w.heap.size = X := ⟨_, rfl⟩
  rw [hXX] at z0 HX1 bx ⊢
  clear hb1 hXX bx hI
  have y1 := HX1.out.at_ 1 _ rfl
  go_upto_region 17 with (go_at_call 24; refine (KF.out _ HI1.out).mono ?_; rintro e w2 ⟨rfl, h2⟩; have HX2 := Lib.hid (HX1.out.stay h2); have HB2 := Lib.hid (HB1.out.trans (h2.mono HB1.out.size)); have HI2 := Lib.hid (HI1.out.stay h2); have z4 := HX2.out.at_ 4 _ rfl; clear h2)
  clear HX1 HI1 HR1 z0 y1 KF
  go_wp2
  clear z4 s1 s2 b1 b2
  have HO0 : Hid (L2 = L2 ++ partsT (ps.take 0)) := Lib.hid (by simp [partsT])
  go_loopw [4, 105] (fun s i wr => ∃ (k : Nat) (O : List UInt8), s = .string ⟨O.toArray⟩ ∧ i = .int .i64 k ∧ k ≤ LP ∧ O.length ≤ 30 + 60 * k ∧ Hid (O = L2 ++ partsT (ps.take k)) ∧ Hid (Below w.heap.size w wr) ∧ Hid (InS wr)) (fun _ i _ => LP - (RowKit.intOf i).toNat)
  case atStart => exact ⟨0, L2, rfl, rfl, Nat.zero_le _, by have := HL2.out; omega, HO0, HB2, HI2⟩
  case round =>
    obtain ⟨k, O, rfl, rfl, hk, hOl, HO, HB, HIR⟩ := hrel
    rename World => wr
    clear HB2 HI2 HX2 HO0
    by_cases hlt : k < LP
    · obtain ⟨p, hp⟩ : ∃ p, ps[k]? = some p := ⟨ps[k]'(by have := HLP.out; omega), List.getElem?_eq_getElem (by have := HLP.out; omega)⟩
      obtain ⟨g, off, rfl, _, d1⟩ := (HPS.out.stay HB.out).at hp
      have a0 := d1 0 _ rfl
      have a1 := d1 1 _ rfl
      rw [Nat.add_zero] at a0
      have hpb := HPB.out.2 p (List.mem_of_getElem? hp)
      have HNX : Hid (partsT (ps.take (k + 1)) = partsT (ps.take k) ++ ((if k = 0 then [] else [44]) ++ 32 :: pT p)) := Lib.hid (partsT_next hp)
      have q1 := dec_len 9 p.1 (by omega)
      have q2 := dec_len 19 p.2 (by omega)
      have KC := Lib.hid (fun (w' : World) (h : InS w') => lnum_s p.1 hpb.1 w' h.1.1)
      have KW := Lib.hid (fun (w' : World) (h : InS w') => itoa_s p.2 hpb.2 w' h.1.1)
      have e1 := bytes_app [32] (decDigits p.1)
      have e2 := bytes_app ([32] ++ decDigits p.1) [32]
      have e3 := bytes_app ([32] ++ decDigits p.1 ++ [32]) (decDigits p.2)
      have m1 : ([32] ++ decDigits p.1).length = 1 + (decDigits p.1).length := by simp; omega
      have m2 : ([32] ++ decDigits p.1 ++ [32]).length = 2 + (decDigits p.1).length := by simp; omega
      have m3 : ([32] ++ decDigits p.1 ++ [32] ++ decDigits p.2).length = 2 + (decDigits p.1).length + (decDigits p.2).length := by simp; omega
      have HE : Hid ([32] ++ decDigits p.1 ++ [32] ++ decDigits p.2 = 32 :: pT p) := Lib.hid (by simp [pT])
      clear d1 hp
      obtain ⟨P1, P2⟩ := p
      simp only at *
      unfold strV at *
      generalize [32] ++ decDigits P1 ++ [32] ++ decDigits P2 = E3 at *
      generalize [32] ++ decDigits P1 ++ [32] = E2 at *
      generalize [32] ++ decDigits P1 = E1 at *
      generalize decDigits P1 = D1 at *
      generalize decDigits P2 = D2 at *
      have t1 : ¬ 9223372036854775807 < 1 + D1.length := by omega
      have t2 : ¬ 9223372036854775807 < E1.length + 1 := by omega
      have t3 : ¬ 9223372036854775807 < E2.length + D2.length := by omega
      by_cases hk0 : k = 0
      · subst hk0
        simp only [Nat.zero_mul, Nat.add_zero] at a0 a1
        have b5 := bytes_app O E3
        have t4 : ¬ 9223372036854775807 < O.length + E3.length := by omega
        have HN2 : Hid (O ++ E3 = L2 ++ partsT (ps.take (0 + 1))) := Lib.hid (by rw [HNX.out, HO.out, HE.out]; simp)
        have HL3 : Hid ((O ++ E3).length ≤ 30 + 60 * (0 + 1)) := Lib.hid (by rw [List.length_append]; omega)
        clear m1 m2 m3 q1 q2 HE
        generalize O ++ E3 = O2 at *
        go_upto_region 22 with fail
        have u0 := RBox.new wr [.int .u32 (P1 : Int), .int .i64 (P2 : Int)] 60
        have u1 := HB.out.alloc HB.out.size (.cells #[.int .u32 (P1 : Int), .int .i64 (P2 : Int)] 60)
        have u2 := HIR.out.stay ((Below.refl wr.heap.size wr).alloc (Nat.le_refl _) (.cells #[.int .u32 (P1 : Int), .int .i64 (P2 : Int)] 60))
        change RBox (wr.alloc (.cells #[.int .u32 (P1 : Int), .int .i64 (P2 : Int)] 60)) _ _ at u0
        generalize wr.alloc (.cells #[.int .u32 (P1 : Int), .int .i64 (P2 : Int)] 60) = U at *
        generalize wr.heap.size = Y at *
        have v0 := fun d os => cell_regrown (u0.at_ 0 _ rfl) d os
        have v1 := fun d os => cell_regrown (u0.at_ 1 _ rfl) d os
        have HUB := Lib.hid u1
        have HUI := Lib.hid u2
        have HUR := Lib.hid (fun d os => HUI.out.stay (below_regrown U d os))
        clear u0 u1 u2 a0 a1 HB HIR
        refine wp_region_quiet_below hmix (by kernel_rfl) ?_
        repeat (first | go_big_quiet_step ((first | (go_at_call 24; with_reducible exact Calls.regrown_of (KC.out _ (HUR.out _ _))) | (go_at_call 17; with_reducible exact Calls.regrown_of (KW.out _ (HUR.out _ _))))) | quiet_step ((first | (go_at_call 24; with_reducible exact Calls.regrown_of (KC.out _ (HUR.out _ _))) | (go_at_call 17; with_reducible exact Calls.regrown_of (KW.out _ (HUR.out _ _))))))
        refine wpQuiet_nil ?_
        intro w2 hw2
        have hb3 : Below U.heap.size U w2 := by obtain ⟨q, rfl⟩ := hw2; exact below_regrown _ _ _
        have HB2 := Lib.hid (HUB.out.trans (hb3.mono HUB.out.size))
        have HI2 := Lib.hid (HUI.out.stay hb3)
        clear hw2 hb3
        go_wp2
        go_roundw
        case rel => exact ⟨0 + 1, O2, rfl, by go_num, by omega, HL3.out, HN2, HB2, HI2⟩
        case measure => simp [RowKit.intOf]; omega
      · have hk1 : (0 : Int) < (k : Int) := by omega
        have b6 := bytes_app O [44]
        have b5 := bytes_app (O ++ [44]) E3
        have ol : (O ++ [44]).length = O.length + 1 := by simp
        have t6 : ¬ 9223372036854775807 < O.length + 1 := by omega
        have t4 : ¬ 9223372036854775807 < (O ++ [44]).length + E3.length := by omega
        have HN2 : Hid (O ++ [44] ++ E3 = L2 ++ partsT (ps.take (k + 1))) := Lib.hid (by rw [HNX.out, HO.out, HE.out, if_neg hk0]; simp)
        have HL3 : Hid ((O ++ [44] ++ E3).length ≤ 30 + 60 * (k + 1)) := Lib.hid (by rw [List.length_append]; omega)
        clear m1 m2 m3 q1 q2 HE ol
        generalize O ++ [44] ++ E3 = O2 at *
        generalize O ++ [44] = O1 at *
        go_upto_region 22 with fail
        have u0 := RBox.new wr [.int .u32 (P1 : Int), .int .i64 (P2 : Int)] 60
        have u1 := HB.out.alloc HB.out.size (.cells #[.int .u32 (P1 : Int), .int .i64 (P2 : Int)] 60)
        have u2 := HIR.out.stay ((Below.refl wr.heap.size wr).alloc (Nat.le_refl _) (.cells #[.int .u32 (P1 : Int), .int .i64 (P2 : Int)] 60))
        change RBox (wr.alloc (.cells #[.int .u32 (P1 : Int), .int .i64 (P2 : Int)] 60)) _ _ at u0
        generalize wr.alloc (.cells #[.int .u32 (P1 : Int), .int .i64 (P2 : Int)] 60) = U at *
        generalize wr.heap.size = Y at *
        have v0 := fun d os => cell_regrown (u0.at_ 0 _ rfl) d os
        have v1 := fun d os => cell_regrown (u0.at_ 1 _ rfl) d os
        have HUB := Lib.hid u1
        have HUI := Lib.hid u2
        have HUR := Lib.hid (fun d os => HUI.out.stay (below_regrown U d os))
        clear u0 u1 u2 a0 a1 HB HIR
        refine wp_region_quiet_below hmix (by kernel_rfl) ?_
        repeat (first | go_big_quiet_step ((first | (go_at_call 24; with_reducible exact Calls.regrown_of (KC.out _ (HUR.out _ _))) | (go_at_call 17; with_reducible exact Calls.regrown_of (KW.out _ (HUR.out _ _))))) | quiet_step ((first | (go_at_call 24; with_reducible exact Calls.regrown_of (KC.out _ (HUR.out _ _))) | (go_at_call 17; with_reducible exact Calls.regrown_of (KW.out _ (HUR.out _ _))))))
        refine wpQuiet_nil ?_
        intro w2 hw2
        have hb3 : Below U.heap.size U w2 := by obtain ⟨q, rfl⟩ := hw2; exact below_regrown _ _ _
        have HB2 := Lib.hid (HUB.out.trans (hb3.mono HUB.out.size))
        have HI2 := Lib.hid (HUI.out.stay hb3)
        clear hw2 hb3
        go_wp2
        go_roundw
        case rel => exact ⟨k + 1, O2, rfl, by go_num, by omega, HL3.out, HN2, HB2, HI2⟩
        case measure => simp [RowKit.intOf]; omega
    · obtain rfl : k = LP := by omega
      have b5 := bytes_app O [59]
      have t5 : ¬ 9223372036854775807 < O.length + 1 := by omega
      have HT2 : Hid (O ++ [59] = T) := Lib.hid (by rw [HT.out, HO.out, List.take_of_length_le (by have := HLP.out; omega)])
      generalize O ++ [59] = O2 at *
      go_wp2
      go_ret
      exact ⟨by rw [← HT2.out]; rfl, HB.out⟩
end Go.Proofs.YtffhnedladiaoaaGreatDoor
/- Contract of law 13's Text: calendars; all kinds. -/
namespace Go.Proofs.YtffhnedladiaoaaGreatDoor
open Go.RowKit Go.Lib Go.Sort
set_option linter.unusedVariables false
set_option linter.unusedSimpArgs false
set_option maxHeartbeats 4000000 in
set_option maxRecDepth 100000 in
theorem ltext_7 (p : Om) (w : World) (hI : InS w) (hM : OpM w p) (ho : OpIn p.o) (hk : p.o.kind = 7) : Calls Tryz.prog 11 #[opV p] w fun e w' => e = .returned (strV (textO p.o)) ∧ Below w.heap.size w w' := by
  have hmix : Tryz.prog.follows .mixedOrders = true := by kernel_rfl
  have hfr := ho.frm
  have hto := ho.tgt
  have hnm := ho.name
  have hps := ho.parts
  have hss := ho.starts
  have hok := ho.ok
  have d1 := dec_len 9 p.o.frm (by omega)
  have d2 := dec_len 9 p.o.to (by omega)
  have et : textO p.o = wordK 7 ++ 32 :: (startsT p.o.starts ++ (linkK 7 ++ 32 :: (dayT p.o.en ++ [59]))) := by unfold textO restO; rw [if_neg (by omega), if_neg (by omega), if_pos hk, hk]
  have HT : Hid (textO p.o = [99, 97, 108, 101, 110, 100, 97, 114] ++ blankT p.o.starts ++ [32, 117, 110, 116, 105, 108, 32] ++ dayT p.o.en ++ [59]) := Lib.hid (by
    have e := blankT_rest p.o.starts (linkK 7 ++ 32 :: (dayT p.o.en ++ [59]))
    rw [et, ← e]; simp [wordK, linkK])
  clear et d1 d2
  generalize textO p.o = T at *
  unfold opV
  obtain ⟨⟨k, fr, tg, nm, ps, ss, en⟩, pos, vP, vS⟩ := p
  simp only at *
  subst hk
  have KF := Lib.hid (fun (w' : World) (h : InS w') => lnum_s fr hfr w' h.1.1)
  have KT := Lib.hid (fun (w' : World) (h : InS w') => lnum_s tg hto w' h.1.1)
  have HI := Lib.hid hI
  obtain ⟨rS, cS, eS, _⟩ := hM.starts.form
  have hrs := hM.starts
  have hd := hok.days.1 rfl
  simp only at eS hrs hd
  subst eS
  have HSS := Lib.hid hrs
  have HDD := Lib.hid hd
  have KD := Lib.hid (fun (d : Int) (h : IsDay d) (w' : World) (hI' : InS w') => day_s d h w' hI'.1)
  obtain ⟨LS, hLS⟩ : ∃ n, ss.length = n := ⟨_, rfl⟩
  have HLS := Lib.hid hLS
  have hLM : LS ≤ 900 := by rw [← hLS]; exact hss
  rw [hLS] at HSS ⊢
  clear hLS hrs hd
  clear hfr hto hnm hps hss hok ho hM KT KF
  unfold strV at *
  go_enter Tryz.func11, Tryz.ntmps11
  go_upto_region 1 with fail
  have hb1 := (Below.refl w.heap.size w).alloc (Nat.le_refl _) (.cells #[.int .i64 7, .int .u32 (fr : Int), .int .u32 (tg : Int), .string ⟨nm.toArray⟩, vP, .slice rS LS cS, .int .i32 en, .int .i64 pos] 38)
  have bx := RBox.new w [.int .i64 7, .int .u32 (fr : Int), .int .u32 (tg : Int), .string ⟨nm.toArray⟩, vP, .slice rS LS cS, .int .i32 en, .int .i64 pos] 38
  change RBox (w.alloc (.cells #[.int .i64 7, .int .u32 (fr : Int), .int .u32 (tg : Int), .string ⟨nm.toArray⟩, vP, .slice rS LS cS, .int .i32 en, .int .i64 pos] 38)) _ _ at bx
  generalize w.alloc (.cells #[.int .i64 7, .int .u32 (fr : Int), .int .u32 (tg : Int), .string ⟨nm.toArray⟩, vP, .slice rS LS cS, .int .i32 en, .int .i64 pos] 38) = w1 at *
  have HX1 := Lib.hid bx
  have HB1 := Lib.hid hb1
  have HI1 : Hid (InS w1) := Lib.hid (HI.out.stay hb1)
  have HR1 := Lib.hid (fun d os => HI1.out.stay (below_regrown w1 d os))
  have z0 := bx.at_ 0 _ rfl
  obtain ⟨X, hXX⟩ : ∃ X, w.heap.size = X := ⟨_, rfl⟩
  rw [hXX] at z0 HX1 bx ⊢
  clear hb1 hXX bx hI
  have z5 := HX1.out.at_ 5 _ rfl
  have z6 := HX1.out.at_ 6 _ rfl
  clear HR1
  go_wp2
  clear z0 z5 z6
  have HO0 : Hid ([99, 97, 108, 101, 110, 100, 97, 114] = [99, 97, 108, 101, 110, 100, 97, 114] ++ blankT (ss.take 0)) := Lib.hid (by simp [blankT])
  go_loopw [7, 133] (fun s i wr => ∃ (k : Nat) (O : List UInt8), s = .string ⟨O.toArray⟩ ∧ i = .int .i64 k ∧ k ≤ LS ∧ O.length ≤ 30 + 60 * k ∧ Hid (O = [99, 97, 108, 101, 110, 100, 97, 114] ++ blankT (ss.take k)) ∧ Hid (Below w.heap.size w wr) ∧ Hid (Below w1.heap.size w1 wr)) (fun _ i _ => LS - (RowKit.intOf i).toNat)
  case atStart => exact ⟨0, [99, 97, 108, 101, 110, 100, 97, 114], rfl, rfl, Nat.zero_le _, by simp, HO0, HB1, Lib.hid (Below.refl _ _)⟩
  case round =>
    obtain ⟨k, O, rfl, rfl, hk, hOl, HO, HB, HC⟩ := hrel
    rename World => wr
    have HIR := Lib.hid (HI1.out.stay HC.out)
    by_cases hlt : k < LS
    · obtain ⟨d, hd⟩ : ∃ d, ss[k]? = some d := ⟨ss[k]'(by have := HLS.out; omega), List.getElem?_eq_getElem (by have := HLS.out; omega)⟩
      obtain ⟨g, off, rfl, _, c1⟩ := (HSS.out.stay HB.out).at hd
      have a0 := c1 0 _ rfl
      rw [Nat.add_zero, Nat.mul_one] at a0
      have HD := Lib.hid (HDD.out.1 d (List.mem_of_getElem? hd))
      have HNX : Hid (blankT (ss.take (k + 1)) = blankT (ss.take k) ++ 32 :: dayT d) := Lib.hid (blankT_next hd)
      have dl := dayT_len HD.out
      have b1 := bytes_app [32] (dayT d)
      have b2 := bytes_app O ([32] ++ dayT d)
      have l1 : ([32] ++ dayT d).length = 11 := by simp; omega
      have t1 : ¬ 9223372036854775807 < 1 + (dayT d).length := by omega
      have t2 : ¬ 9223372036854775807 < O.length + ([32] ++ dayT d).length := by omega
      have HN2 : Hid (O ++ ([32] ++ dayT d) = [99, 97, 108, 101, 110, 100, 97, 114] ++ blankT (ss.take (k + 1))) := Lib.hid (by rw [HNX.out, HO.out]; simp)
      have HL3 : Hid ((O ++ ([32] ++ dayT d)).length ≤ 30 + 60 * (k + 1)) := Lib.hid (by rw [List.length_append]; omega)
      clear c1 hd dl l1
      generalize O ++ ([32] ++ dayT d) = O2 at *
      generalize [32] ++ dayT d = E1 at *
      go_wp2_with (go_at_call 25; refine (KD.out _ HD.out _ HIR.out).mono ?_; rintro e w4 ⟨rfl, h4⟩; have HB4 := Lib.hid (HB.out.trans (h4.mono HB.out.size)); have HC4 := Lib.hid (HC.out.trans (h4.mono HC.out.size)); clear h4)
      go_roundw
      case rel => exact ⟨k + 1, O2, rfl, by go_num, by omega, HL3.out, HN2, HB4, HC4⟩
      case measure => simp [RowKit.intOf]; omega
    · obtain rfl : k = LS := by omega
      have HD := Lib.hid HDD.out.2
      have dl := dayT_len HD.out
      have z6 := (HX1.out.stay HC.out).at_ 6 _ rfl
      have b1 := bytes_app O [32, 117, 110, 116, 105, 108, 32]
      have b2 := bytes_app (O ++ [32, 117, 110, 116, 105, 108, 32]) (dayT en)
      have b3 := bytes_app (O ++ [32, 117, 110, 116, 105, 108, 32] ++ dayT en) [59]
      have l1 : (O ++ [32, 117, 110, 116, 105, 108, 32]).length = O.length + 7 := by simp
      have l2 : (O ++ [32, 117, 110, 116, 105, 108, 32] ++ dayT en).length = O.length + 17 := by simp; omega
      have t1 : ¬ 9223372036854775807 < O.length + 7 := by omega
      have t2 : ¬ 9223372036854775807 < (O ++ [32, 117, 110, 116, 105, 108, 32]).length + (dayT en).length := by omega
      have t3 : ¬ 9223372036854775807 < (O ++ [32, 117, 110, 116, 105, 108, 32] ++ dayT en).length + 1 := by omega
      have HT2 : Hid (O ++ [32, 117, 110, 116, 105, 108, 32] ++ dayT en ++ [59] = T) := Lib.hid (by rw [HT.out, HO.out, List.take_of_length_le (by have := HLS.out; omega)])
      clear l1 l2 dl
      generalize O ++ [32, 117, 110, 116, 105, 108, 32] ++ dayT en ++ [59] = O4 at *
      generalize O ++ [32, 117, 110, 116, 105, 108, 32] ++ dayT en = O3 at *
      generalize O ++ [32, 117, 110, 116, 105, 108, 32] = O2 at *
      go_wp2_with (go_at_call 25; refine (KD.out _ HD.out _ HIR.out).mono ?_; rintro e w4 ⟨rfl, h4⟩; have HB4 := Lib.hid (HB.out.trans (h4.mono HB.out.size)); have HC4 := Lib.hid (HC.out.trans (h4.mono HC.out.size)); clear h4)
      go_ret
      exact ⟨by rw [← HT2.out]; rfl, HB4.out⟩
theorem ltext_s (p : Om) (w : World) (hI : InS w) (hM : OpM w p) (ho : OpIn p.o) : Calls Tryz.prog 11 #[opV p] w fun e w' => e = .returned (strV (textO p.o)) ∧ Below w.heap.size w w' := by
  have hk := ho.ok.kind
  rcases (by omega : p.o.kind = 0 ∨ p.o.kind = 1 ∨ p.o.kind = 2 ∨ p.o.kind = 3 ∨ p.o.kind = 4 ∨ p.o.kind = 5 ∨ p.o.kind = 6 ∨ p.o.kind = 7) with h | h | h | h | h | h | h | h
  · exact ltext_0 p w hI hM ho h
  · exact ltext_1 p w hI hM ho h
  · exact ltext_2 p w hI hM ho h
  · exact ltext_3 p w hI hM ho h
  · exact ltext_4 p w hI hM ho h
  · exact ltext_5 p w hI hM ho h
  · exact ltext_6 p w hI hM ho h
  · exact ltext_7 p w hI hM ho h
end Go.Proofs.YtffhnedladiaoaaGreatDoor

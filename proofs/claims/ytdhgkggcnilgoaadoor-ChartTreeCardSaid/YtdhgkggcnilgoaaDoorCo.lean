/- The walk of law ChartTree. -/
import Derived.Test.YtdhgkggcnilgoaaDoorCl
import Derived.Test.YtdhgkggcnilgoaaDoorCm
import Derived.Lib.QuietBelow
import Derived.BigQuiet
namespace Go.Proofs.YtdhgkggcnilgoaaDoor
open Go.RowKit Go.Sort
set_option linter.unusedVariables false
set_option linter.unusedSimpArgs false
/-- A chart, a box with an account: what law ChartTree keeps. -/
structure Tre (w : World) (v : Value) (c : List Ac) (x : Nat) (a : Ac) : Prop where
  recs : Recs cc 4 w v c
  bx : Box4 w x (.int .u32 (a.code : Int)) (.string a.name) (.int .u8 (a.kind : Int)) (.int .u32 (a.par : Int))
theorem Tre.stay {w w' : World} {v : Value} {c : List Ac} {x : Nat} {a : Ac} (h : Tre w v c x a) (hb : Below w.heap.size w w') : Tre w' v c x a := ⟨h.recs.stay hb, h.bx.stay hb⟩
/-- What law ChartTree asks of two accounts of a chart, decided. -/
structure TwoA (c : List Ac) (a b : Ac) : Prop where
  kind : inB c a.code b.code = true → a.kind = b.kind
  both : inB c a.code b.code = true → inB c b.code a.code = true → a.code = b.code
  step : a.code ≠ b.code → inB c a.code b.code = (decide (a.par ≠ 0) && inB c a.par b.code)
theorem Made.two {c : List Ac} {n : Nat} (h : Made c n) {a b : Ac} (ha : a ∈ c) (hb : b ∈ c) : TwoA c a b :=
  ⟨fun h1 => (h.in_kind ha hb h1).1, fun h1 h2 => h.in_both ha hb h1 h2, fun h1 => h.in_step ha hb h1⟩
set_option maxHeartbeats 8000000 in
set_option maxRecDepth 100000 in
theorem charttree_any {I : World → Prop} (C : AllotC) (D : DayC I) (K : KeyC I) (v : Value) (l : List Qt) (w : World) (hI : I w) (hR : Recs qc 4 w v l) :
    Calls Tryd.prog 6 #[v] w fun e w' => e = .returned (.bool true) ∧ Below w.heap.size w w' := by
  obtain ⟨hmade, hml⟩ := mkC_made l
  have hpos : ∀ a ∈ mkC l, 0 < a.code := fun a ha => (hmade.pos a ha).1
  have K1 := Lib.hid (awake6_any C D K w hI)
  have K2 := Lib.hid (fun (w' : World) (h : Below w.heap.size w w') => make_c v l w' (hR.stay h))
  generalize mkC l = c at *
  obtain ⟨L, hL⟩ : ∃ L, c.length = L := ⟨_, rfl⟩
  have HL := Lib.hid hL
  have KW := Lib.hid (fun (w' : World) (v : Value) (n o : Nat) (h : Recs cc 4 w' v c) => within_c v c n o w' h hmade.rise (by omega) hpos)
  have HS1 := Lib.hid (fun (a : Ac) (ha : a ∈ c) => hmade.in_self ha)
  have HS2 := Lib.hid (fun (a : Ac) (ha : a ∈ c) => hmade.in_par ha)
  have HS3 := Lib.hid (fun (a b : Ac) (ha : a ∈ c) (hb : b ∈ c) => hmade.two ha hb)
  have hmix : Tryd.prog.follows .mixedOrders = true := by kernel_rfl
  have hL40 : L ≤ 40 := by omega
  rw [hL] at K2
  clear hR hL hmade hpos hml
  go_enter Tryd.func6, Tryd.ntmps6
  go_wp2_with (first
    | (go_at_call 14; refine (K2.out _ HB1.out).mono ?_; rintro e w2 ⟨v2, rfl, ho2, hb2⟩; have HR2 := Lib.hid (recs_of_owns cc_len ho2 HL.out.symm (by omega)); have HB2 := Lib.hid (HB1.out.trans (hb2.mono HB1.out.size)); obtain ⟨r, cap, rfl⟩ := owns_form ho2; clear hb2 ho2)
    | (go_at_call 8; refine K1.out.mono ?_; rintro e w1 ⟨rfl, hb1⟩; have HB1 := Lib.hid hb1; clear hb1))
  clear HB1 K1 K2
  go_loopw [14] (fun i wr => ∃ k : Nat, k ≤ L ∧ i = .int .i64 k ∧ Below w2.heap.size w2 wr) (fun i _ => L - (intOf i).toNat)
  case atStart => exact ⟨0, Nat.zero_le _, rfl, Below.refl _ _⟩
  case round =>
    obtain ⟨k, hk, rfl, hb⟩ := hrel
    rename World => wo
    by_cases hlt : k < L
    · obtain ⟨a, ha⟩ : ∃ a, c[k]? = some a := ⟨c[k]'(by have := HL.out; omega), List.getElem?_eq_getElem (by have := HL.out; omega)⟩
      have ham := List.mem_of_getElem? ha
      have s1 := HS1.out a ham
      have HAM := Lib.hid ham
      obtain ⟨g, off, rfl, hg, hc⟩ := (HR2.out.stay hb).at ha
      obtain ⟨c0, c1, c2, c3⟩ := Recs.cells4 (c := c) hc
      have hA := (Below.refl wo.heap.size wo).alloc (Nat.le_refl _) (.cells #[.int .u32 (a.code : Int), .string a.name, .int .u8 (a.kind : Int), .int .u32 (a.par : Int)] 35)
      have HT := Lib.hid (Tre.mk ((HR2.out.stay hb).stay hA) (Box4.new wo (.int .u32 (a.code : Int)) (.string a.name) (.int .u8 (a.kind : Int)) (.int .u32 (a.par : Int)) 35))
      have HB := Lib.hid (hb.trans (hA.mono hb.size))
      clear hb ha ham hc hA
      have S2 : Hid (a.par ≠ 0 → inB c a.code a.par = true ∧ inB c a.par a.code = false) := Lib.hid (HS2.out a HAM.out)
      go_upto_region 7 with fail
      go_cut [46] (fun s46 wx => s46 = .bool false ∧ Tre wx (.slice (some ⟨g, off, none⟩) L cap) c wo.heap.size a ∧ Below w2.heap.size w2 wx)
      case first =>
        have KA : Hid (∀ (w' : World) (v : Value), Recs cc 4 w' v c → Calls Tryd.prog 21 #[v, .int .u32 (a.code : Int), .int .u32 (a.code : Int)] w' fun e w'' => e = .returned (.bool true) ∧ Below w'.heap.size w' w'') := Lib.hid (fun w' v h => by have := KW.out w' v a.code a.code h; rwa [s1] at this)
        clear s1
        by_cases h0 : a.par = 0
        · have hd0 : ((a.par : Int) != 0) = false := by simp; omega
          clear h0
          go_wp2_with (go_at_call 21; refine (KA.out _ _ HT.out.recs).mono ?_; rintro e w3 ⟨rfl, hb3⟩; have HT3 := Lib.hid (HT.out.stay hb3); have HB3 := Lib.hid (HB.out.trans (hb3.mono HB.out.size)); obtain ⟨q0, q1, q2, q3, _, _, _, _, _⟩ := HT3.out.bx; clear hb3)
          go_meet
          exact ⟨rfl, HT3.out, HB3.out⟩
        · have hd0 : ((a.par : Int) != 0) = true := by simp; omega
          have KP : Hid (∀ (w' : World) (v : Value), Recs cc 4 w' v c → Calls Tryd.prog 21 #[v, .int .u32 (a.code : Int), .int .u32 (a.par : Int)] w' fun e w'' => e = .returned (.bool true) ∧ Below w'.heap.size w' w'') := Lib.hid (fun w' v h => by have := KW.out w' v a.code a.par h; rwa [(S2.out h0).1] at this)
          have KQ : Hid (∀ (w' : World) (v : Value), Recs cc 4 w' v c → Calls Tryd.prog 21 #[v, .int .u32 (a.par : Int), .int .u32 (a.code : Int)] w' fun e w'' => e = .returned (.bool false) ∧ Below w'.heap.size w' w'') := Lib.hid (fun w' v h => by have := KW.out w' v a.par a.code h; rwa [(S2.out h0).2] at this)
          clear h0
          go_wp2_with (first
            | (go_at_call 21; refine (KQ.out _ _ HT4.out.recs).mono ?_; rintro e w5 ⟨rfl, hb5⟩; have HT5 := Lib.hid (HT4.out.stay hb5); have HB5 := Lib.hid (HB4.out.trans (hb5.mono HB4.out.size)); clear hb5)
            | (go_at_call 21; refine (KP.out _ _ HT3.out.recs).mono ?_; rintro e w4 ⟨rfl, hb4⟩; have HT4 := Lib.hid (HT3.out.stay hb4); have HB4 := Lib.hid (HB3.out.trans (hb4.mono HB3.out.size)); obtain ⟨r0, r1, r2, r3, _, _, _, _, _⟩ := HT4.out.bx; clear hb4)
            | (go_at_call 21; refine (KA.out _ _ HT.out.recs).mono ?_; rintro e w3 ⟨rfl, hb3⟩; have HT3 := Lib.hid (HT.out.stay hb3); have HB3 := Lib.hid (HB.out.trans (hb3.mono HB.out.size)); obtain ⟨q0, q1, q2, q3, _, _, _, _, _⟩ := HT3.out.bx; clear hb3))
          go_meet
          exact ⟨rfl, HT5.out, HB5.out⟩
      case rest =>
        obtain ⟨rfl, ht, hbx⟩ := hcut
        rename World => wx
        have HTX := Lib.hid ht
        have HBX := Lib.hid hbx
        clear ht hbx HT HB s1
        generalize wo.heap.size = X at *
        go_wp2
        go_loopw [49] (fun i wr => ∃ j : Nat, j ≤ L ∧ i = .int .i64 j ∧ Below wx.heap.size wx wr) (fun i _ => L - (intOf i).toNat)
        case atStart => exact ⟨0, Nat.zero_le _, rfl, Below.refl _ _⟩
        case round =>
          obtain ⟨j, hj, rfl, hb⟩ := hrel
          rename World => wi
          by_cases hlj : j < L
          · obtain ⟨b, hbj⟩ : ∃ b, c[j]? = some b := ⟨c[j]'(by have := HL.out; omega), List.getElem?_eq_getElem (by have := HL.out; omega)⟩
            have T2 := Lib.hid (HS3.out a b HAM.out (List.mem_of_getElem? hbj))
            obtain ⟨g2, off2, e2, hg2, hc2⟩ := (HTX.out.recs.stay hb).at hbj
            cases e2
            obtain ⟨d0, d1, d2, d3⟩ := Recs.cells4 (c := c) hc2
            have hA := (Below.refl wi.heap.size wi).alloc (Nat.le_refl _) (.cells #[.int .u32 (b.code : Int), .string b.name, .int .u8 (b.kind : Int), .int .u32 (b.par : Int)] 35)
            have HTI := Lib.hid ((HTX.out.stay hb).stay hA)
            have HTB := Lib.hid (Box4.new wi (.int .u32 (b.code : Int)) (.string b.name) (.int .u8 (b.kind : Int)) (.int .u32 (b.par : Int)) 35)
            have HBI := Lib.hid (hb.trans (hA.mono hb.size))
            have hXi : X < wi.heap.size := Nat.lt_of_lt_of_le HTX.out.bx.size hb.size
            obtain ⟨x0, x1, x2, x3, _, _, _, _, _⟩ := (HTX.out.stay hb).bx
            clear hb hbj hc2 hA
            go_upto_region 12 with fail
            obtain ⟨z0, z1, z2, z3, _, _, _, _, _⟩ := HTI.out.bx
            obtain ⟨y0, y1, y2, y3, _, _, _, _, _⟩ := HTB.out
            generalize wi.alloc (.cells #[.int .u32 (b.code : Int), .string b.name, .int .u8 (b.kind : Int), .int .u32 (b.par : Int)] 35) = wj at *
            generalize wi.heap.size = Y at *
            go_cut [88] (fun s88 wy => s88 = .bool false ∧ Tre wy (.slice (some ⟨g, off, none⟩) L cap) c X a ∧ Box4 wy Y (.int .u32 (b.code : Int)) (.string b.name) (.int .u8 (b.kind : Int)) (.int .u32 (b.par : Int)) ∧ Below wx.heap.size wx wy)
            case first =>
              cases hab : inB c a.code b.code with
              | false =>
                have KA : Hid (∀ (w' : World) (v : Value), Recs cc 4 w' v c → Calls Tryd.prog 21 #[v, .int .u32 (a.code : Int), .int .u32 (b.code : Int)] w' fun e w'' => e = .returned (.bool false) ∧ Below w'.heap.size w' w'') := Lib.hid (fun w' v h => by have := KW.out w' v a.code b.code h; rwa [hab] at this)
                clear hab
                go_wp2_with (first
                  | (go_at_call 21; refine (KA.out _ _ HT3.out.recs).mono ?_; rintro e w4 ⟨rfl, hb4⟩; have HT4 := Lib.hid (HT3.out.stay hb4); have HY4 := Lib.hid (HY3.out.stay hb4); have HB4 := Lib.hid (HB3.out.trans (hb4.mono HB3.out.size)); clear hb4)
                  | (go_at_call 21; refine (KA.out _ _ HTI.out.recs).mono ?_; rintro e w3 ⟨rfl, hb3⟩; have HT3 := Lib.hid (HTI.out.stay hb3); have HY3 := Lib.hid (HTB.out.stay hb3); have HB3 := Lib.hid (HBI.out.trans (hb3.mono HBI.out.size)); obtain ⟨q0, q1, q2, q3, _, _, _, _, _⟩ := HT3.out.bx; obtain ⟨r0, r1, r2, r3, _, _, _, _, _⟩ := HY3.out; clear hb3))
                go_meet
                exact ⟨rfl, HT4.out, HY4.out, HB4.out⟩
              | true =>
                have KA : Hid (∀ (w' : World) (v : Value), Recs cc 4 w' v c → Calls Tryd.prog 21 #[v, .int .u32 (a.code : Int), .int .u32 (b.code : Int)] w' fun e w'' => e = .returned (.bool true) ∧ Below w'.heap.size w' w'') := Lib.hid (fun w' v h => by have := KW.out w' v a.code b.code h; rwa [hab] at this)
                have hkd : ((a.kind : Int) != (b.kind : Int)) = false := by have := T2.out.kind hab; simp [this]
                have HAB := Lib.hid hab
                clear hab
                cases hba : inB c b.code a.code with
                | false =>
                  have KB : Hid (∀ (w' : World) (v : Value), Recs cc 4 w' v c → Calls Tryd.prog 21 #[v, .int .u32 (b.code : Int), .int .u32 (a.code : Int)] w' fun e w'' => e = .returned (.bool false) ∧ Below w'.heap.size w' w'') := Lib.hid (fun w' v h => by have := KW.out w' v b.code a.code h; rwa [hba] at this)
                  clear hba
                  go_wp2_with (first
                    | (go_at_call 21; refine (KB.out _ _ HT4.out.recs).mono ?_; rintro e w5 ⟨rfl, hb5⟩; have HT5 := Lib.hid (HT4.out.stay hb5); have HY5 := Lib.hid (HY4.out.stay hb5); have HB5 := Lib.hid (HB4.out.trans (hb5.mono HB4.out.size)); obtain ⟨q0, q1, q2, q3, _, _, _, _, _⟩ := HT5.out.bx; obtain ⟨r0, r1, r2, r3, _, _, _, _, _⟩ := HY5.out; clear hb5)
                    | (go_at_call 21; refine (KA.out _ _ HT3.out.recs).mono ?_; rintro e w4 ⟨rfl, hb4⟩; have HT4 := Lib.hid (HT3.out.stay hb4); have HY4 := Lib.hid (HY3.out.stay hb4); have HB4 := Lib.hid (HB3.out.trans (hb4.mono HB3.out.size)); obtain ⟨q0, q1, q2, q3, _, _, _, _, _⟩ := HT4.out.bx; obtain ⟨r0, r1, r2, r3, _, _, _, _, _⟩ := HY4.out; clear hb4)
                    | (go_at_call 21; refine (KA.out _ _ HTI.out.recs).mono ?_; rintro e w3 ⟨rfl, hb3⟩; have HT3 := Lib.hid (HTI.out.stay hb3); have HY3 := Lib.hid (HTB.out.stay hb3); have HB3 := Lib.hid (HBI.out.trans (hb3.mono HBI.out.size)); obtain ⟨q0, q1, q2, q3, _, _, _, _, _⟩ := HT3.out.bx; obtain ⟨r0, r1, r2, r3, _, _, _, _, _⟩ := HY3.out; clear hb3))
                  go_meet
                  exact ⟨rfl, HT5.out, HY5.out, HB5.out⟩
                | true =>
                  have KB : Hid (∀ (w' : World) (v : Value), Recs cc 4 w' v c → Calls Tryd.prog 21 #[v, .int .u32 (b.code : Int), .int .u32 (a.code : Int)] w' fun e w'' => e = .returned (.bool true) ∧ Below w'.heap.size w' w'') := Lib.hid (fun w' v h => by have := KW.out w' v b.code a.code h; rwa [hba] at this)
                  have hcd : ((a.code : Int) != (b.code : Int)) = false := by have := T2.out.both HAB.out hba; simp [this]
                  clear hba
                  go_wp2_with (first
                    | (go_at_call 21; refine (KB.out _ _ HT4.out.recs).mono ?_; rintro e w5 ⟨rfl, hb5⟩; have HT5 := Lib.hid (HT4.out.stay hb5); have HY5 := Lib.hid (HY4.out.stay hb5); have HB5 := Lib.hid (HB4.out.trans (hb5.mono HB4.out.size)); obtain ⟨q0, q1, q2, q3, _, _, _, _, _⟩ := HT5.out.bx; obtain ⟨r0, r1, r2, r3, _, _, _, _, _⟩ := HY5.out; clear hb5)
                    | (go_at_call 21; refine (KA.out _ _ HT3.out.recs).mono ?_; rintro e w4 ⟨rfl, hb4⟩; have HT4 := Lib.hid (HT3.out.stay hb4); have HY4 := Lib.hid (HY3.out.stay hb4); have HB4 := Lib.hid (HB3.out.trans (hb4.mono HB3.out.size)); obtain ⟨q0, q1, q2, q3, _, _, _, _, _⟩ := HT4.out.bx; obtain ⟨r0, r1, r2, r3, _, _, _, _, _⟩ := HY4.out; clear hb4)
                    | (go_at_call 21; refine (KA.out _ _ HTI.out.recs).mono ?_; rintro e w3 ⟨rfl, hb3⟩; have HT3 := Lib.hid (HTI.out.stay hb3); have HY3 := Lib.hid (HTB.out.stay hb3); have HB3 := Lib.hid (HBI.out.trans (hb3.mono HBI.out.size)); obtain ⟨q0, q1, q2, q3, _, _, _, _, _⟩ := HT3.out.bx; obtain ⟨r0, r1, r2, r3, _, _, _, _, _⟩ := HY3.out; clear hb3))
                  go_meet
                  exact ⟨rfl, HT5.out, HY5.out, HB5.out⟩
            case rest =>
              obtain ⟨rfl, ht, hy, hby⟩ := hcut
              rename World => wy
              have HTY := Lib.hid ht
              have HYY := Lib.hid hy
              have HBY := Lib.hid hby
              clear HTI HTB HBI x0 x1 x2 x3 y0 y1 y2 y3 z0 z1 z2 z3 d0 d1 d2 d3
              obtain ⟨z0, z1, z2, z3, _, _, _, _, _⟩ := ht.bx
              obtain ⟨y0, y1, y2, y3, _, _, _, _, _⟩ := hy
              clear ht hby
              have t0 := fun d os => cell_regrown z0 d os
              have t2 := fun d os => cell_regrown z2 d os
              have t3 := fun d os => cell_regrown z3 d os
              have u0 := fun d os => cell_regrown y0 d os
              have u2 := fun d os => cell_regrown y2 d os
              have HRW := Lib.hid (fun d os => HTY.out.recs.stay (below_regrown wy d os))
              by_cases hne : a.code = b.code
              · have hd : ((a.code : Int) != (b.code : Int)) = false := by simp [hne]
                clear hne
                go_wp2_with fail
                refine wp_region_quiet_below hmix (by kernel_rfl) ?_
                repeat (first | go_big_quiet_step (fail) | quiet_step (fail))
                refine wpQuiet_nil ?_
                intro w3 hw3
                have hb3 : Below wy.heap.size wy w3 := by obtain ⟨q, rfl⟩ := hw3; exact below_regrown _ _ _
                have HB3 := Lib.hid (HBY.out.trans (hb3.mono HBY.out.size))
                clear hw3 hb3
                go_wp2
                go_roundw
                case rel => exact ⟨j + 1, by omega, by go_num, HB3.out⟩
                case measure => simp [intOf]; omega
              · have hd : ((a.code : Int) != (b.code : Int)) = true := by simp; omega
                have hst := T2.out.step hne
                clear hne
                by_cases h0 : a.par = 0
                · have hd0 : ((a.par : Int) != 0) = false := by simp; omega
                  have KA : Hid (∀ d os, Calls Tryd.prog 21 #[.slice (some ⟨g, off, none⟩) L cap, .int .u32 (a.code : Int), .int .u32 (b.code : Int)] (grow (redrawn wy d) os) fun e w'' => e = .returned (.bool false) ∧ Below (grow (redrawn wy d) os).heap.size (grow (redrawn wy d) os) w'') := Lib.hid (fun d os => by have := KW.out _ _ a.code b.code (HRW.out d os); rwa [hst, show decide (a.par ≠ 0) = false by simp [h0], Bool.false_and] at this)
                  clear h0 hst
                  go_wp2_with fail
                  refine wp_region_quiet_below hmix (by kernel_rfl) ?_
                  repeat (first | go_big_quiet_step ((go_at_call 21; with_reducible exact Calls.regrown_of (KA.out _ _))) | quiet_step ((go_at_call 21; with_reducible exact Calls.regrown_of (KA.out _ _))))
                  refine wpQuiet_nil ?_
                  intro w3 hw3
                  have hb3 : Below wy.heap.size wy w3 := by obtain ⟨q, rfl⟩ := hw3; exact below_regrown _ _ _
                  have HB3 := Lib.hid (HBY.out.trans (hb3.mono HBY.out.size))
                  clear hw3 hb3
                  go_wp2
                  go_roundw
                  case rel => exact ⟨j + 1, by omega, by go_num, HB3.out⟩
                  case measure => simp [intOf]; omega
                · have hd0 : ((a.par : Int) != 0) = true := by simp; omega
                  rw [show decide (a.par ≠ 0) = true by simp [h0], Bool.true_and] at hst
                  have KA : Hid (∀ d os, Calls Tryd.prog 21 #[.slice (some ⟨g, off, none⟩) L cap, .int .u32 (a.code : Int), .int .u32 (b.code : Int)] (grow (redrawn wy d) os) fun e w'' => e = .returned (.bool (inB c a.par b.code)) ∧ Below (grow (redrawn wy d) os).heap.size (grow (redrawn wy d) os) w'') := Lib.hid (fun d os => by have := KW.out _ _ a.code b.code (HRW.out d os); rwa [hst] at this)
                  have KP : Hid (∀ d os, Calls Tryd.prog 21 #[.slice (some ⟨g, off, none⟩) L cap, .int .u32 (a.par : Int), .int .u32 (b.code : Int)] (grow (redrawn wy d) os) fun e w'' => e = .returned (.bool (inB c a.par b.code)) ∧ Below (grow (redrawn wy d) os).heap.size (grow (redrawn wy d) os) w'') := Lib.hid (fun d os => KW.out _ _ a.par b.code (HRW.out d os))
                  clear h0 hst
                  generalize inB c a.par b.code = x at *
                  have hx : (x != x) = false := by simp
                  go_wp2_with fail
                  refine wp_region_quiet_below hmix (by kernel_rfl) ?_
                  repeat (first | go_big_quiet_step ((first | (go_at_call 21; with_reducible exact Calls.regrown_of (KA.out _ _)) | (go_at_call 21; with_reducible exact Calls.regrown_of (KP.out _ _)))) | quiet_step ((first | (go_at_call 21; with_reducible exact Calls.regrown_of (KA.out _ _)) | (go_at_call 21; with_reducible exact Calls.regrown_of (KP.out _ _)))))
                  refine wpQuiet_nil ?_
                  intro w3 hw3
                  have hb3 : Below wy.heap.size wy w3 := by obtain ⟨q, rfl⟩ := hw3; exact below_regrown _ _ _
                  have HB3 := Lib.hid (HBY.out.trans (hb3.mono HBY.out.size))
                  clear hw3 hb3
                  go_wp2
                  go_roundw
                  case rel => exact ⟨j + 1, by omega, by go_num, HB3.out⟩
                  case measure => simp [intOf]; omega
          · obtain rfl : j = L := by omega
            have HB := Lib.hid (HBX.out.trans (hb.mono HBX.out.size))
            clear hb
            go_wp2
            go_roundw
            case rel => exact ⟨k + 1, by omega, by go_num, HB.out⟩
            case measure => simp [intOf]; omega
    · obtain rfl : k = L := by omega
      have HB := Lib.hid (HB2.out.trans (hb.mono HB2.out.size))
      clear hb
      go_wp2
      go_ret
      exact ⟨rfl, HB.out⟩
end Go.Proofs.YtdhgkggcnilgoaaDoor

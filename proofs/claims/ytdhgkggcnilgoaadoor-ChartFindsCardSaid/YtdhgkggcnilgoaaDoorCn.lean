/- The walk of law ChartFinds. -/
import Derived.Test.YtdhgkggcnilgoaaDoorCl
import Derived.Test.YtdhgkggcnilgoaaDoorCm
namespace Go.Proofs.YtdhgkggcnilgoaaDoor
open Go.RowKit
set_option linter.unusedVariables false
set_option linter.unusedSimpArgs false
theorem get_any (v : Value) (c : List Ac) (n : Nat) (w : World) (hR : Recs cc 4 w v c) (hr : RiseA c) (hl : c.length ≤ 1000) :
    Calls Tryd.prog 16 #[v, .int .u32 (n : Int)] w fun e w' => e = .returned (.tuple #[gv (getA c n), .bool (getA c n).isSome]) ∧ Below w.heap.size w w' := by
  cases h : getA c n with
  | none => exact get_none v c n w hR hr hl h
  | some a => exact get_some v c n a w hR hr hl h
theorem gv_form (o : Option Ac) : ∃ (cd : Int) (nm : ByteArray) (kd pr : Int), gv o = .agg #[.int .u32 cd, .string nm, .int .u8 kd, .int .u32 pr] := by
  cases o with
  | none => exact ⟨_, _, _, _, rfl⟩
  | some a => exact ⟨_, _, _, _, rfl⟩
set_option maxRecDepth 100000 in
theorem eql_same4 (a b d : Int) (s : ByteArray) (w : World) : (binOp .eql 35 (.agg #[.int .u32 a, .string s, .int .u8 b, .int .u32 d]) (.agg #[.int .u32 a, .string s, .int .u8 b, .int .u32 d])).run Tryd.prog w = .ok (.bool true) w := by
  have hp : Tryd.prog.stoodInHeld 35 = false := by kernel_rfl
  have ht := Tryd.underlying35
  have hf : Tryd.prog.underlying 35 = some (.struct (Tryd.prog.fieldsOf 35)) := by kernel_rfl
  rw [run_eql_struct, show (10000 : Nat) = 9999 + 1 from rfl, run_equalIn_agg w 9999 _ _ _ hf hp]
  have he : (Tryd.prog.fieldsOf 35) = (match Tryd.prog.underlying 35 with | some (.struct fs) => fs | _ => #[]) := rfl
  rw [he, ht]
  simp [Op.eqFields, go_sem, Tryd.underlying22, Tryd.underlying9, Tryd.underlying24]
theorem below_step (c : List Ac) (n k : Nat) {a : Ac} (h : c[k]? = some a) : belowA (c.take (k + 1)) n = if a.code < n then belowA (c.take k) n + 1 else belowA (c.take k) n := by
  obtain ⟨hk, e⟩ := List.getElem?_eq_some_iff.1 h
  unfold belowA
  rw [List.take_succ_eq_append_getElem hk, List.countP_append, e]
  by_cases hp : a.code < n
  · rw [if_pos hp]; simp [hp]
  · rw [if_neg hp]; simp [hp]
/-- A chart, two boxes with one account: what law ChartFinds keeps. -/
structure Fnd (w : World) (v : Value) (c : List Ac) (x y : Nat) (d0 d1 d2 d3 : Value) : Prop where
  recs : Recs cc 4 w v c
  bx : Box4 w x d0 d1 d2 d3
  by' : Box4 w y d0 d1 d2 d3
theorem Fnd.stay {w w' : World} {v : Value} {c : List Ac} {x y : Nat} {d0 d1 d2 d3 : Value} (h : Fnd w v c x y d0 d1 d2 d3) (hb : Below w.heap.size w w') : Fnd w' v c x y d0 d1 d2 d3 := ⟨h.recs.stay hb, h.bx.stay hb, h.by'.stay hb⟩
set_option maxHeartbeats 4000000 in
set_option maxRecDepth 100000 in
theorem chartfinds_any {I : World → Prop} (C : AllotC) (D : DayC I) (K : KeyC I) (v : Value) (l : List Qt) (n o : Nat) (w : World) (hI : I w) (hR : Recs qc 4 w v l) (hn : n < 256) (ho : o < 256) :
    Calls Tryd.prog 4 #[v, .int .u8 (n : Int), .int .u8 (o : Int)] w fun e w' => e = .returned (.bool true) ∧ Below w.heap.size w w' := by
  obtain ⟨i0, hi, hz0, hz1, hz2⟩ := info_parts info32n
  obtain ⟨hmade, hml⟩ := mkC_made l
  have hpos : ∀ a ∈ mkC l, 0 < a.code := fun a ha => (hmade.pos a ha).1
  have K1 := Lib.hid (awake6_any C D K w hI)
  have K2 := Lib.hid (fun (w' : World) (h : Below w.heap.size w w') => make_c v l w' (hR.stay h))
  generalize mkC l = c at *
  obtain ⟨L, hL⟩ : ∃ L, c.length = L := ⟨_, rfl⟩
  have HL := Lib.hid hL
  obtain ⟨cd, nm, kd, pr, hgv⟩ := gv_form (getA c n)
  have K3 := Lib.hid (fun (w' : World) (v : Value) (h : Recs cc 4 w' v c) => find_c v c n w' h hmade.rise (by omega))
  have K4 := Lib.hid (fun (w' : World) (v : Value) (h : Recs cc 4 w' v c) => hgv ▸ get_any v c n w' h hmade.rise (by omega))
  have K5 := Lib.hid (fun (w' : World) (v : Value) (h : Recs cc 4 w' v c) => hgv ▸ getl_c v c n w' h)
  have K6 := Lib.hid (fun (w' : World) (v : Value) (h : Recs cc 4 w' v c) => wayl_c v c n w' h)
  have K7 := Lib.hid (fun (w' : World) (v : Value) (h : Recs cc 4 w' v c) => way_c v c n w' h hmade.rise (by omega) hpos)
  have K8 := Lib.hid (fun (w' : World) (v v' : Value) (h : Recs nc 1 w' v (wayF 13 c n)) (h' : Recs nc 1 w' v' (wayF 13 c n)) => equal_n v v' _ w' h h')
  have K9 := Lib.hid (fun (w' : World) (v : Value) (h : Recs cc 4 w' v c) => within_c v c n o w' h hmade.rise (by omega) hpos)
  have K10 : Hid (∀ (w' : World) (v : Value), Recs nc 1 w' v (wayF 13 c n) → Calls Tryd.prog 22 #[v, .int .u32 (o : Int)] w' fun e w'' => e = .returned (.bool (inB c n o)) ∧ w'' = w') := Lib.hid (fun (w' : World) (v : Value) (h : Recs nc 1 w' v (wayF 13 c n)) => contains_n v _ o w' h)
  have K11 := Lib.hid (fun (w' : World) (v : Value) (h : Recs cc 4 w' v c) => kids_c v c n w' h (by omega))
  have K12 := Lib.hid (fun (w' : World) (v v' : Value) (h : Recs nc 1 w' v (kidsA c n)) (h' : Recs nc 1 w' v' (kidsA c n)) => equal_n v v' _ w' h h')
  have heq := eql_same4 cd kd pr nm
  have HBE : Hid (belowA c n = belowA (c.take L) n ∧ kidsA c n = kidsA (c.take L) n) := Lib.hid (by rw [List.take_of_length_le (by omega)]; exact ⟨rfl, rfl⟩)
  have hL40 : L ≤ 40 := by omega
  rw [hL] at K2
  clear hR hL hgv hmade hpos hml
  generalize (getA c n).isSome = T at *
  generalize inB c n o = bo at *
  generalize wayF 13 c n = ways at *
  obtain ⟨B, hB⟩ : ∃ B, belowA c n = B := ⟨_, rfl⟩
  have HBB := Lib.hid hB
  rw [hB] at K3
  clear hB
  go_enter Tryd.func4, Tryd.ntmps4
  go_wp2_with (first
    | (go_at_call 17; refine (K5.out _ _ HR5.out).mono ?_; rintro e w5 ⟨rfl, hb5⟩; have HX5 := Lib.hid (HX4.out.stay hb5); have HR6 := Lib.hid (HR5.out.stay hb5); have HB5 := Lib.hid (HB4.out.trans (hb5.mono HB4.out.size)); clear hb5)
    | (go_at_call 16; refine (K4.out _ _ HR3.out).mono ?_; rintro e w4 ⟨rfl, hb4⟩; have HX4 := Lib.hid (Box4.new w4 (.int .u32 cd) (.string nm) (.int .u8 kd) (.int .u32 pr) 35); have HB4 := Lib.hid ((HB3.out.trans (hb4.mono HB3.out.size)).alloc (HB3.out.trans (hb4.mono HB3.out.size)).size (.cells #[.int .u32 cd, .string nm, .int .u8 kd, .int .u32 pr] 35)); have HR5 := Lib.hid ((HR3.out.stay hb4).stay ((Below.refl w4.heap.size w4).alloc (Nat.le_refl _) (.cells #[.int .u32 cd, .string nm, .int .u8 kd, .int .u32 pr] 35))); clear hb4)
    | (go_at_call 15; refine (K3.out _ _ HR2.out).mono ?_; rintro e w3 ⟨rfl, hb3⟩; have HR3 := Lib.hid (HR2.out.stay hb3); have HB3 := Lib.hid (HB2.out.trans (hb3.mono HB2.out.size)); clear hb3)
    | (go_at_call 14; refine (K2.out _ HB1.out).mono ?_; rintro e w2 ⟨v2, rfl, ho2, hb2⟩; have HR2 := Lib.hid (recs_of_owns cc_len ho2 HL.out.symm (by omega)); have HB2 := Lib.hid (HB1.out.trans (hb2.mono HB1.out.size)); obtain ⟨r, cap, rfl⟩ := owns_form ho2; clear hb2 ho2)
    | (go_at_call 8; refine K1.out.mono ?_; rintro e w1 ⟨rfl, hb1⟩; have HB1 := Lib.hid hb1; clear hb1))
  have hA5 := (Below.refl w5.heap.size w5).alloc (Nat.le_refl _) (.cells #[.int .u32 cd, .string nm, .int .u8 kd, .int .u32 pr] 35)
  have HF := Lib.hid (Fnd.mk (HR6.out.stay hA5) (HX5.out.stay hA5) (Box4.new w5 (.int .u32 cd) (.string nm) (.int .u8 kd) (.int .u32 pr) 35))
  have HW := Lib.hid (HB5.out.alloc HB5.out.size (.cells #[.int .u32 cd, .string nm, .int .u8 kd, .int .u32 pr] 35))
  clear hA5 HB1 HB2 HB3 HB4 HB5 HR2 HR3 HR5 HR6 HX4 HX5
  generalize w5.alloc (.cells #[.int .u32 cd, .string nm, .int .u8 kd, .int .u32 pr] 35) = W at *
  generalize w4.heap.size = X4 at *
  generalize w5.heap.size = X5 at *
  go_loopw [16, 17, 49] (fun s16 s17 i wr => ∃ (k b m : Nat) (r2 : Option Addr) (cap2 : Nat), s16 = .int .i64 (b : Int) ∧ s17 = .slice r2 m cap2 ∧ i = .int .i64 k ∧ k ≤ L ∧ m ≤ k ∧ b ≤ k ∧ wr.ownsRow W.heap.size 22 1 (.slice r2 m cap2) m ((kidsA (c.take k) n).flatMap nc) ∧ Hid ((kidsA (c.take k) n).length = m ∧ belowA (c.take k) n = b) ∧ Below W.heap.size W wr) (fun _ _ i _ => L - (intOf i).toNat)
  case atStart => exact ⟨0, 0, 0, none, 0, rfl, rfl, rfl, Nat.zero_le _, Nat.le_refl _, Nat.le_refl _, World.ownsRow_nil _ _ _ _, Lib.hid ⟨rfl, rfl⟩, Below.refl _ _⟩
  case round =>
    obtain ⟨k, b, m, r2, cap2, rfl, rfl, rfl, hk, hm, hbk, hown, HM, hb⟩ := hrel
    rename World => wr
    have hbs := hb.size
    by_cases hlt : k < L
    · obtain ⟨a, ha⟩ : ∃ a, c[k]? = some a := ⟨c[k]'(by have := HL.out; omega), List.getElem?_eq_getElem (by have := HL.out; omega)⟩
      have HS := Lib.hid (And.intro (kids_step c n k ha) (below_step c n k ha))
      obtain ⟨g, off, rfl, hg, hc⟩ := (HF.out.recs.stay hb).at ha
      obtain ⟨c0, c1, c2, c3⟩ := Recs.cells4 (c := c) hc
      have HB := Lib.hid hb
      have HO := Lib.hid hown
      have HOL := Lib.hid hown.lt
      generalize kidsA (c.take k) n = ks at *
      clear ha hc hb hown K1 K2 K3 K4 K5 K6 K7 K8 K9 K10 K11 K12
      by_cases hlow : a.code < n
      · have e1 : (a.code : Int) < (n : Int) := by omega
        by_cases hp : a.par = n
        · have hd : ((a.par : Int) == (n : Int)) = true := by simp [hp]
          have HS1 : Hid (kidsA (c.take (k + 1)) n = ks ++ [a.code] ∧ belowA (c.take (k + 1)) n = b + 1) := Lib.hid ⟨by have := HS.out.1; rwa [if_pos hp] at this, by have := HS.out.2; rwa [if_pos hlow, HM.out.2] at this⟩
          clear hp HS hlow
          go_wp2_with (at_builtin; refine wpList_append_own _ rfl (.tmp 63) (.tmp 66) 39 rfl W.heap.size 22 i0 (.int .u32 0) 1 4 Tryd.underlying39 hi hz0 hz1 hz2 rfl (by decide) _ m _ rfl ((HO.out.alloc _).alloc _) ⟨wr.heap.size + 1, 0, none⟩ 1 1 (nc a.code) rfl rfl (cells_new2 _ _ (nc a.code) _) (nc_one a.code) (by unfold maxLen; omega) (by omega) (by simp; omega) ?_; intro v3 w3' hown3 hgrow3 _; have HB3 := Lib.hid (((HB.out.alloc (by omega) _).alloc (by simp; omega) _).grown hgrow3 (by simp; omega) (fun j hj => (HOL.out j hj).1)); have HO3 := Lib.hid hown3; obtain ⟨r3, cap3, rfl⟩ := owns_form hown3; clear hgrow3 hown3)
          go_roundw
          case rel => exact ⟨k + 1, b + 1, m + 1, r3, cap3, by go_num, rfl, by go_num, by omega, by omega, by omega, by rw [HS1.out.1, flat_snoc]; exact HO3.out, Lib.hid ⟨by rw [HS1.out.1]; simp; exact HM.out.1, HS1.out.2⟩, HB3.out⟩
          case measure => simp [intOf]; omega
        · have hd : ((a.par : Int) == (n : Int)) = false := by simp; omega
          have HS1 : Hid (kidsA (c.take (k + 1)) n = ks ∧ belowA (c.take (k + 1)) n = b + 1) := Lib.hid ⟨by have := HS.out.1; rwa [if_neg hp] at this, by have := HS.out.2; rwa [if_pos hlow, HM.out.2] at this⟩
          clear hp HS hlow
          go_wp2
          go_roundw
          case rel => exact ⟨k + 1, b + 1, m, r2, cap2, by go_num, rfl, by go_num, by omega, by omega, by omega, by rw [HS1.out.1]; exact HO.out.alloc _, Lib.hid ⟨by rw [HS1.out.1]; exact HM.out.1, HS1.out.2⟩, HB.out.alloc (by omega) _⟩
          case measure => simp [intOf]; omega
      · have e1 : ¬ (a.code : Int) < (n : Int) := by omega
        by_cases hp : a.par = n
        · have hd : ((a.par : Int) == (n : Int)) = true := by simp [hp]
          have HS1 : Hid (kidsA (c.take (k + 1)) n = ks ++ [a.code] ∧ belowA (c.take (k + 1)) n = b) := Lib.hid ⟨by have := HS.out.1; rwa [if_pos hp] at this, by have := HS.out.2; rwa [if_neg hlow, HM.out.2] at this⟩
          clear hp HS hlow
          go_wp2_with (at_builtin; refine wpList_append_own _ rfl (.tmp 63) (.tmp 66) 39 rfl W.heap.size 22 i0 (.int .u32 0) 1 4 Tryd.underlying39 hi hz0 hz1 hz2 rfl (by decide) _ m _ rfl ((HO.out.alloc _).alloc _) ⟨wr.heap.size + 1, 0, none⟩ 1 1 (nc a.code) rfl rfl (cells_new2 _ _ (nc a.code) _) (nc_one a.code) (by unfold maxLen; omega) (by omega) (by simp; omega) ?_; intro v3 w3' hown3 hgrow3 _; have HB3 := Lib.hid (((HB.out.alloc (by omega) _).alloc (by simp; omega) _).grown hgrow3 (by simp; omega) (fun j hj => (HOL.out j hj).1)); have HO3 := Lib.hid hown3; obtain ⟨r3, cap3, rfl⟩ := owns_form hown3; clear hgrow3 hown3)
          go_roundw
          case rel => exact ⟨k + 1, b, m + 1, r3, cap3, rfl, rfl, by go_num, by omega, by omega, by omega, by rw [HS1.out.1, flat_snoc]; exact HO3.out, Lib.hid ⟨by rw [HS1.out.1]; simp; exact HM.out.1, HS1.out.2⟩, HB3.out⟩
          case measure => simp [intOf]; omega
        · have hd : ((a.par : Int) == (n : Int)) = false := by simp; omega
          have HS1 : Hid (kidsA (c.take (k + 1)) n = ks ∧ belowA (c.take (k + 1)) n = b) := Lib.hid ⟨by have := HS.out.1; rwa [if_neg hp] at this, by have := HS.out.2; rwa [if_neg hlow, HM.out.2] at this⟩
          clear hp HS hlow
          go_wp2
          go_roundw
          case rel => exact ⟨k + 1, b, m, r2, cap2, rfl, rfl, by go_num, by omega, by omega, by omega, by rw [HS1.out.1]; exact HO.out.alloc _, Lib.hid ⟨by rw [HS1.out.1]; exact HM.out.1, HS1.out.2⟩, HB.out.alloc (by omega) _⟩
          case measure => simp [intOf]; omega
    · obtain rfl : k = L := by omega
      obtain rfl : b = B := by rw [← HBB.out, HBE.out.1, HM.out.2]
      have HKD := Lib.hid (show Recs nc 1 wr (.slice r2 m cap2) (kidsA c n) by rw [HBE.out.2]; exact recs_of_owns nc_len hown HM.out.1.symm (by omega))
      have HF1 := Lib.hid (HF.out.stay hb)
      have HB := Lib.hid (HW.out.trans (hb.mono HW.out.size))
      clear hown hb HM
      go_wp2_with (first
        | (go_at_call 19; refine (K12.out _ _ _ HK11.out.1 HK11.out.2).mono ?_; rintro e w12 ⟨rfl, hb12⟩; have HB12 := Lib.hid (HB11.out.trans (hb12.mono HB11.out.size)); clear hb12)
        | (go_at_call 23; refine (K11.out _ _ HF9.out.recs).mono ?_; rintro e w11 ⟨v11, rfl, h11, hb11⟩; have HK11 := Lib.hid (And.intro h11 (HKD9.out.stay hb11)); have HB11 := Lib.hid (HB9.out.trans (hb11.mono HB9.out.size)); clear h11 hb11)
        | (go_at_call 22; refine (K10.out _ _ HV9.out).mono ?_; rintro e w10 ⟨rfl, rfl⟩)
        | (go_at_call 21; refine (K9.out _ _ HF8.out.recs).mono ?_; rintro e w9 ⟨rfl, hb9⟩; have HF9 := Lib.hid (HF8.out.stay hb9); have HV9 := Lib.hid (HV8.out.stay hb9); have HKD9 := Lib.hid (HKD8.out.stay hb9); have HB9 := Lib.hid (HB8.out.trans (hb9.mono HB8.out.size)); clear hb9)
        | (go_at_call 19; refine (K8.out _ _ _ HK7.out HV7.out).mono ?_; rintro e w8 ⟨rfl, hb8⟩; have HF8 := Lib.hid (HF7.out.stay hb8); have HV8 := Lib.hid (HV7.out.stay hb8); have HKD8 := Lib.hid (HKD7.out.stay hb8); have HB8 := Lib.hid (HB7.out.trans (hb8.mono HB7.out.size)); clear hb8)
        | (go_at_call 20; refine (K7.out _ _ HF6.out.recs).mono ?_; rintro e w7 ⟨v7, rfl, h7, hb7⟩; have HK7 := Lib.hid h7; have HF7 := Lib.hid (HF6.out.stay hb7); have HV7 := Lib.hid (HV6.out.stay hb7); have HKD7 := Lib.hid (HKD6.out.stay hb7); have HB7 := Lib.hid (HB6.out.trans (hb7.mono HB6.out.size)); clear h7 hb7)
        | (go_at_call 18; refine (K6.out _ _ HF1.out.recs).mono ?_; rintro e w6 ⟨v6, rfl, h6, hb6⟩; have HV6 := Lib.hid h6; have HF6 := Lib.hid (HF1.out.stay hb6); have HKD6 := Lib.hid (HKD.out.stay hb6); have HB6 := Lib.hid (HB.out.trans (hb6.mono HB.out.size)); obtain ⟨⟨x0, x1, x2, x3, _, _, _, _, _⟩, y0, y1, y2, y3, _, _, _, _, _⟩ := (And.intro HF6.out.bx HF6.out.by'); clear h6 hb6))
      go_ret
      exact ⟨by simp, HB12.out⟩
end Go.Proofs.YtdhgkggcnilgoaaDoor

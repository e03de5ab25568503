/- Package unit is as the laws ask: with one more, in its place. -/
import Derived.Test.YtmbfnbbgphpcgaaGreatDoorNq
import Derived.Test.YtmbfnbbgphpcgaaGreatDoorNg
namespace Go.Proofs.YtmbfnbbgphpcgaaGreatDoor
open Go.RowKit
set_option linter.unusedVariables false
set_option linter.unusedSimpArgs false
theorem owns_stayU {w w' : World} {base B : Nat} {e : TypeId} {v : Value} {n : Nat} {xs : List Value} (h : w.ownsRow base e 1 v n xs) (hb : Below B w w') (hB : w.heap.size ≤ B) : w'.ownsRow base e 1 v n xs :=
  h.kept (row := none) ⟨hb.os, hb.tape, hb.output, hb.size, fun j hj _ => hb.block j (Nat.lt_of_lt_of_le hj hB)⟩ (by cases hv : v.ownBlock <;> simp)
theorem insert_any (v : Value) (o : List Nat) (M a n V base : Nat) (w : World) (T : TypeId) (ho : w.ownsRow base 54 1 v M (o.flatMap uc)) (hM : o.length = M) (ha : a ≤ M) (hl : M ≤ 1000) (hV : w.heap[V]? = some (.cells #[.int .u16 (n : Int)] T (0, 0))) (hVG : v.ownBlock ≠ some V) (hb : base ≤ w.heap.size) :
    Calls Tryz.prog 34 #[v, .int .i64 (a : Int), .slice (some ⟨V, 0, none⟩) 1 1] w fun e w' =>
      ∃ v', e = .returned v' ∧ w'.ownsRow base 54 1 v' (M + 1) ((o.take a ++ n :: o.drop a).flatMap uc) ∧ w.grownBy w' v.ownBlock := by
  by_cases h : a = M
  · have e : o.take a ++ n :: o.drop a = o ++ [n] := by rw [List.take_of_length_le (by omega), List.drop_eq_nil_of_le (by omega)]
    rw [e, h]
    exact insert_end v o M n V base w T ho hM hl hV hb
  · obtain ⟨G, cap, rfl⟩ : ∃ G cap, v = .slice (some ⟨G, 0, none⟩) M cap := by
      rcases ho.2 with ⟨_, h0⟩ | ⟨g, cap, cur, rfl, _⟩
      · omega
      · exact ⟨g, cap, rfl⟩
    by_cases hc : M < cap
    · exact insert_room G cap o M a n V base w T ho hM (by omega) hc hl hV (fun e => hVG (by rw [e]; rfl))
    · exact insert_grow G cap o M a n V base w T ho hM (by omega) (by omega) hl hV
set_option maxHeartbeats 1000000 in
set_option maxRecDepth 100000 in
theorem with_u (v : Value) (u : List Nat) (n : Nat) (w : World) (hR : Recs uc 1 w v u) (hr : RiseU u) (hl : u.length ≤ 900) :
    Calls Tryz.prog 25 #[v, .int .u16 (n : Int)] w fun e w' => ∃ v', e = .returned v' ∧ Recs uc 1 w' v' (withU u n) ∧ Below w.heap.size w w' := by
  have K1 := Lib.hid (without_u v u n w hR (by omega))
  have hlo := Nat.le_trans (outU_len u n) hl
  have hro := outU_rise hr n
  have hwp := parts_with hr n
  have hwl := withU_len u n
  generalize outU u n = o at *
  have hbo := belowU_le o n
  have HK2 := Lib.hid (fun (v' : Value) (w' : World) (h : Recs uc 1 w' v' o) => bsearch_u v' o n w' h hro (by omega))
  obtain ⟨M, hM⟩ : ∃ M, o.length = M := ⟨_, rfl⟩
  have HM := Lib.hid hM
  rw [hM] at K1 hlo hbo
  generalize decide (n ∈ o) = T at *
  obtain ⟨a, ha⟩ : ∃ a, belowU o n = a := ⟨_, rfl⟩
  rw [ha] at hwp hbo HK2
  have HW : Hid (M + 1 = (withU u n).length ∧ (withU u n).length ≤ 1000) := Lib.hid ⟨by rw [← hwp, List.length_append, List.length_cons, List.length_take, List.length_drop]; omega, by omega⟩
  have HK3 := Lib.hid (fun (v' : Value) (w' : World) (h : w'.ownsRow w.heap.size 54 1 v' M (o.flatMap uc)) (hV : w.heap.size ≤ w'.heap.size) =>
    insert_any v' o M a n w'.heap.size w.heap.size (w'.alloc (.cells #[.int .u16 (n : Int)] 54)) 54 (h.alloc _) hM hbo (by omega) (heap_alloc_new w' _) (fun e => by have := (h.lt _ e).2; omega) (by simp; omega))
  rw [hwp] at HK3
  have HW2 := Lib.hid (fun (v' : Value) (w' : World) (h : w'.ownsRow w.heap.size 54 1 v' (M + 1) ((withU u n).flatMap uc)) => recs_of_owns uc_len h HW.out.1 (by have := HW.out; omega))
  clear hR hr hl hro hwp hwl hM ha
  generalize (withU u n).flatMap uc = Z at *
  generalize withU u n = W at *
  go_enter Tryz.func25, Tryz.ntmps25
  go_wp2_with (first
    | (go_at_call 34; refine (HK3.out _ _ HO2.out HB2.out.size).mono ?_; rintro e w3 ⟨v3, rfl, ho3, hg3⟩; have HO3 := Lib.hid ho3; have HB3 := Lib.hid ((HB2.out.alloc HB2.out.size (.cells #[.int .u16 (n : Int)] 54)).grown hg3 (Nat.le_trans HB2.out.size (by simp)) (fun k hk => (HO2.out.lt k hk).1)); clear ho3 hg3)
    | (go_at_call 33; refine (HK2.out _ _ HR1.out).mono ?_; rintro e w2 ⟨rfl, hb2⟩; have HB2 := Lib.hid (HB1.out.trans (hb2.mono HB1.out.size)); have HO2 := Lib.hid (owns_stayU HO1.out hb2 (Nat.le_refl _)); clear hb2)
    | (go_at_call 32; refine K1.out.mono ?_; rintro e w1 ⟨v1, rfl, ho1, hb1⟩; have HB1 := Lib.hid hb1; have HR1 := Lib.hid (recs_of_owns uc_len ho1 HM.out.symm (by omega)); have HO1 := Lib.hid ho1; clear ho1 hb1))
  go_ret
  exact ⟨_, rfl, HW2.out _ _ HO3.out, HB3.out⟩
theorem unitC : UnitC where
  code := fun n w hn => code_u n w hn
  with' := fun v u n w hR hr hl _ _ => with_u v u n w hR hr (by omega)
  without := fun v u n w hR _ hl _ _ => (without_u v u n w hR (by omega)).mono fun e w' ⟨v', he, ho, hb⟩ => ⟨v', he, recs_of_owns uc_len ho rfl (Nat.le_trans (outU_len u n) (by omega)), hb⟩
end Go.Proofs.YtmbfnbbgphpcgaaGreatDoor

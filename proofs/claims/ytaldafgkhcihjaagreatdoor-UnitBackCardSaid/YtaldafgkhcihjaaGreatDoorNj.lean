/- The walk of law UnitBack; written by a program (njgen.py). -/
import Derived.Test.YtaldafgkhcihjaaGreatDoorNf
import Derived.Test.YtaldafgkhcihjaaGreatDoorNg
namespace Go.Proofs.YtaldafgkhcihjaaGreatDoor
open Go.RowKit
set_option linter.unusedVariables false
set_option linter.unusedSimpArgs false
theorem withU_lt {u : List Nat} {n B : Nat} (hu : ∀ x ∈ u, x < B) (hn : n < B) : ∀ x ∈ withU u n, x < B := fun x hx => by
  rcases withU_mem.1 hx with rfl | h
  · exact hn
  · exact hu x h
set_option maxHeartbeats 4000000 in
set_option maxRecDepth 100000 in
theorem unitback_any {I : World → Prop} (C : AllotC) (D : DayC I) (K : KeyC I) (U : UnitC) (v : Value) (l : List Nat) (n m : Nat) (w : World) (hI : I w) (hR : Recs uc 1 w v l) (hn : n < 65536) (hm : m < 65536) :
    Calls Tryz.prog 5 #[v, .int .u16 (n : Int), .int .u16 (m : Int)] w fun e w' => e = .returned (.bool true) ∧ Below w.heap.size w w' := by
  have HW := Lib.hid (awake7_any C D K U w hI)
  have HM := Lib.hid (fun (w' : World) (h : Below w.heap.size w w') => makeU_c _ l w' (hR.stay h))
  have HU := Lib.hid U
  have hlen := mkU_len l
  have hr := mkU_rise l
  have hsm := fun x (hx : x ∈ mkU l) => mkU_small hx
  generalize mkU l = u at *
  obtain ⟨L, hL⟩ : ∃ L, u.length = L := ⟨_, rfl⟩
  have HL := Lib.hid hL
  rw [hL] at HM
  obtain ⟨N, hN⟩ : ∃ N, 10 + n % 900 = N := ⟨_, rfl⟩
  obtain ⟨M, hM⟩ : ∃ M, 1 + m % 900 = M := ⟨_, rfl⟩
  have hn9 : n % 900 < 900 := Nat.mod_lt _ (by omega)
  have hm9 : m % 900 < 900 := Nat.mod_lt _ (by omega)
  have e1 : 10 + (n : Int).tmod 900 = (N : Int) := by rw [Int.tmod_eq_emod_of_nonneg (by omega)]; omega
  have e2 : 10 + (n : Int) % 900 = (N : Int) := by omega
  have e3 : 1 + (m : Int).tmod 900 = (M : Int) := by rw [Int.tmod_eq_emod_of_nonneg (by omega)]; omega
  have e4 : 1 + (m : Int) % 900 = (M : Int) := by omega
  have e5 : IntKind.u16.wrap (N : Int) = (N : Int) := by rw [IntKind.wrap_u16]; omega
  have e6 : IntKind.u16.wrap (M : Int) = (M : Int) := by rw [IntKind.wrap_u16]; omega
  have hu : ∀ x ∈ u, x < 65536 := fun x hx => by have := hsm x hx; omega
  have hNu : N ∉ u := fun h => by have := hsm N h; omega
  have hlt : N < 65536 ∧ M < 65536 := by omega
  have hlN := withU_len u N
  have hlM := withU_len u M
  have q1 : outU (withU u N) N = u := out_with hr hNu
  have q2 : withU (withU u M) M = withU u M := with_with hr M
  have q3 : withU (withU u M) N = withU (withU u N) M := with_comm hr M N
  have q4 : chkU (withU u M) = 0 := chkU_ok (withU_rise hr M) (fun x hx => by
    rcases withU_mem.1 hx with rfl | h
    · omega
    · have := hsm x h; omega) (by omega)
  have K1 := Lib.hid (fun (w' : World) (V : Value) (h : Recs uc 1 w' V u) => U.with' V u N w' h hr (by omega) hu hlt.1)
  have K4 := Lib.hid (fun (w' : World) (V : Value) (h : Recs uc 1 w' V u) => U.with' V u M w' h hr (by omega) hu hlt.2)
  have K2 : Hid (∀ (V : Value) (w' : World), Recs uc 1 w' V (withU u N) → Calls Tryz.prog 14 #[V, .int .u16 (N : Int)] w' fun e w'' => ∃ v', e = .returned v' ∧ Recs uc 1 w'' v' u ∧ Below w'.heap.size w' w'') := Lib.hid (fun V w' h => by have := U.without V _ N w' h (withU_rise hr N) (by omega) (withU_lt hu hlt.1) hlt.1; rwa [q1] at this)
  have K5 : Hid (∀ (V : Value) (w' : World), Recs uc 1 w' V (withU u M) → Calls Tryz.prog 15 #[V, .int .u16 (M : Int)] w' fun e w'' => ∃ v', e = .returned v' ∧ Recs uc 1 w'' v' (withU u M) ∧ Below w'.heap.size w' w'') := Lib.hid (fun V w' h => by have := U.with' V _ M w' h (withU_rise hr M) (by omega) (withU_lt hu hlt.2) hlt.2; rwa [q2] at this)
  have K9 : Hid (∀ (V : Value) (w' : World), Recs uc 1 w' V (withU u M) → Calls Tryz.prog 8 #[V] w' fun e w'' => e = .returned (.int .i64 0) ∧ Below w'.heap.size w' w'') := Lib.hid (fun V w' h => by have := U.check V _ w' h (by omega) (withU_lt hu hlt.2); rwa [q4] at this)
  have K11 := Lib.hid (fun (V : Value) (w' : World) (h : Recs uc 1 w' V (withU u N)) => U.with' V _ M w' h (withU_rise hr N) (by omega) (withU_lt hu hlt.1) hlt.2)
  have K13 : Hid (∀ (V : Value) (w' : World), Recs uc 1 w' V (withU u M) → Calls Tryz.prog 15 #[V, .int .u16 (N : Int)] w' fun e w'' => ∃ v', e = .returned v' ∧ Recs uc 1 w'' v' (withU (withU u N) M) ∧ Below w'.heap.size w' w'') := Lib.hid (fun V w' h => by have := U.with' V _ N w' h (withU_rise hr M) (by omega) (withU_lt hu hlt.2) hlt.1; rwa [q3] at this)
  generalize withU (withU u N) M = Z at *
  generalize withU u N = A at *
  generalize withU u M = Y at *
  have K7 := Lib.hid (fun (V V' : Value) (w' : World) (h : Recs uc 1 w' V Y) (h' : Recs uc 1 w' V' Y) => equal_u V V' Y w' h h')
  have K14 := Lib.hid (fun (V V' : Value) (w' : World) (h : Recs uc 1 w' V Z) (h' : Recs uc 1 w' V' Z) => equal_u V V' Z w' h h')
  have hL9 : L ≤ 9 := by omega
  clear hR hL hN hM hn hm C D K U hI q1 q2 q3 q4 hlN hlM hNu hu hr hsm
  go_enter Tryz.func5, Tryz.ntmps5
  go_wp2_with (first
    | (go_at_call 7; refine (HM.out _ HB1.out).mono ?_; rintro e w2 ⟨v2, rfl, ho, hb⟩; have HB2 := Lib.hid (HB1.out.trans (hb.mono HB1.out.size)); have HRu := Lib.hid (recs_of_owns uc_len ho HL.out.symm (by omega)); obtain ⟨r2, cap2, rfl⟩ := owns_form ho; have HD0 := Lib.hid (Below.refl w2.heap.size w2); clear ho hb)
    | (go_at_call 6; refine HW.out.mono ?_; rintro e w1 ⟨rfl, h1⟩; have HB1 := Lib.hid h1; clear h1)
    | (go_at_call 13; refine (K14.out _ _ _ HR11c.out HR13.out).mono ?_; rintro e x14 ⟨rfl, hb⟩; have HD14 := Lib.hid (HD13.out.trans (hb.mono HD13.out.size)); clear hb)
    | (go_at_call 15; refine (K13.out _ _ HR12.out).mono ?_; rintro e x13 ⟨v13, rfl, hv, hb⟩; have HD13 := Lib.hid (HD12.out.trans (hb.mono HD12.out.size)); have HR13 := Lib.hid hv; have HR11c := Lib.hid (HR11b.out.stay hb); clear hb hv)
    | (go_at_call 15; refine (K4.out _ _ (HRu.out.stay HD11.out)).mono ?_; rintro e x12 ⟨v12, rfl, hv, hb⟩; have HD12 := Lib.hid (HD11.out.trans (hb.mono HD11.out.size)); have HR12 := Lib.hid hv; have HR11b := Lib.hid (HR11.out.stay hb); clear hb hv)
    | (go_at_call 15; refine (K11.out _ _ HR10.out).mono ?_; rintro e x11 ⟨v11, rfl, hv, hb⟩; have HD11 := Lib.hid (HD10.out.trans (hb.mono HD10.out.size)); have HR11 := Lib.hid hv; clear hb hv)
    | (go_at_call 15; refine (K1.out _ _ (HRu.out.stay HD9.out)).mono ?_; rintro e x10 ⟨v10, rfl, hv, hb⟩; have HD10 := Lib.hid (HD9.out.trans (hb.mono HD9.out.size)); have HR10 := Lib.hid hv; clear hb hv)
    | (go_at_call 8; refine (K9.out _ _ HR8.out).mono ?_; rintro e x9 ⟨rfl, hb⟩; have HD9 := Lib.hid (HD8.out.trans (hb.mono HD8.out.size)); clear hb)
    | (go_at_call 15; refine (K4.out _ _ (HRu.out.stay HD7.out)).mono ?_; rintro e x8 ⟨v8, rfl, hv, hb⟩; have HD8 := Lib.hid (HD7.out.trans (hb.mono HD7.out.size)); have HR8 := Lib.hid hv; clear hb hv)
    | (go_at_call 13; refine (K7.out _ _ _ HR5b.out HR6.out).mono ?_; rintro e x7 ⟨rfl, hb⟩; have HD7 := Lib.hid (HD6.out.trans (hb.mono HD6.out.size)); clear hb)
    | (go_at_call 15; refine (K4.out _ _ (HRu.out.stay HD5.out)).mono ?_; rintro e x6 ⟨v6, rfl, hv, hb⟩; have HD6 := Lib.hid (HD5.out.trans (hb.mono HD5.out.size)); have HR6 := Lib.hid hv; have HR5b := Lib.hid (HR5.out.stay hb); clear hb hv)
    | (go_at_call 15; refine (K5.out _ _ HR4.out).mono ?_; rintro e x5 ⟨v5, rfl, hv, hb⟩; have HD5 := Lib.hid (HD4.out.trans (hb.mono HD4.out.size)); have HR5 := Lib.hid hv; clear hb hv)
    | (go_at_call 15; refine (K4.out _ _ (HRu.out.stay HD3.out)).mono ?_; rintro e x4 ⟨v4, rfl, hv, hb⟩; have HD4 := Lib.hid (HD3.out.trans (hb.mono HD3.out.size)); have HR4 := Lib.hid hv; clear hb hv)
    | (go_at_call 13; refine (equal_u _ _ u _ HR2.out (HRu.out.stay HD2.out)).mono ?_; rintro e x3 ⟨rfl, hb⟩; have HD3 := Lib.hid (HD2.out.trans (hb.mono HD2.out.size)); clear hb)
    | (go_at_call 14; refine (K2.out _ _ HR1.out).mono ?_; rintro e x2 ⟨v2, rfl, hv, hb⟩; have HD2 := Lib.hid (HD1.out.trans (hb.mono HD1.out.size)); have HR2 := Lib.hid hv; clear hb hv)
    | (go_at_call 15; refine (K1.out _ _ (HRu.out.stay HD0.out)).mono ?_; rintro e x1 ⟨v1, rfl, hv, hb⟩; have HD1 := Lib.hid (HD0.out.trans (hb.mono HD0.out.size)); have HR1 := Lib.hid hv; clear hb hv))
  go_ret
  exact ⟨by simp, HB2.out.trans (HD14.out.mono HB2.out.size)⟩
end Go.Proofs.YtaldafgkhcihjaaGreatDoor

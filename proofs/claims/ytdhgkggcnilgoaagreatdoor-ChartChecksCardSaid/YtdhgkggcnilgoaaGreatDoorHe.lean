/- The walk of law ChartChecks. -/
import Derived.Test.YtdhgkggcnilgoaaGreatDoorHd
namespace Go.Proofs.YtdhgkggcnilgoaaGreatDoor
open Go.RowKit
set_option linter.unusedVariables false
set_option linter.unusedSimpArgs false
set_option maxHeartbeats 2000000 in
set_option maxRecDepth 100000 in
theorem chartchecks_any {I : World → Prop} (C : AllotC) (D : DayC I) (K : KeyC I) (v : Value) (cs : List Ac) (x : Value) (zs : List Qt) (mix : Bool) (w : World) (hI : I w) (hR : Recs cc 4 w v cs) (hQ : Recs qc 4 w x zs) :
    Calls Tryz.prog 3 #[v, x, .bool mix] w fun e w' => e = .returned (.bool true) ∧ Below w.heap.size w w' := by
  obtain ⟨hmade, hml⟩ := mkC_made zs
  have hz := mkC_chk zs
  have K1 := Lib.hid (awake6_any C D K w hI)
  have K2 := Lib.hid (fun (w' : World) (h : Below w.heap.size w w') => make_c x zs w' (hQ.stay h))
  have K3 := Lib.hid (fun (w' : World) (v : Value) (d : List Ac) (h : Recs cc 4 w' v d) => check_c v d w' h)
  have K4 := Lib.hid (fun (w' : World) (v : Value) (d : List Ac) (h : Recs cc 4 w' v d) => lcheck_c v d w' h)
  obtain ⟨r0, n, cap0, hv, hn⟩ : ∃ r n cap, v = .slice r n cap ∧ cs.length = n := by obtain ⟨r, cap, h, _⟩ := hR.form; exact ⟨r, _, cap, h, rfl⟩
  obtain ⟨r1, m, cap1, hx, hm⟩ : ∃ r n cap, x = .slice r n cap ∧ zs.length = n := by obtain ⟨r, cap, h, _⟩ := hQ.form; exact ⟨r, _, cap, h, rfl⟩
  have hn0 : n ≤ 9223372036854775807 := by obtain ⟨r, cap, h, h2⟩ := hR.form; omega
  have hm0 : m ≤ 9223372036854775807 := by obtain ⟨r, cap, h, h2⟩ := hQ.form; omega
  subst hv hx
  have HR := Lib.hid hR
  have HN := Lib.hid hn
  clear hR hQ hmade hn hm
  generalize mkC zs = c at *
  have HML := Lib.hid hml
  have K5 := Lib.hid (fun (w' : World) (v : Value) (h : Recs cc 4 w' v c) => hz ▸ check_c v c w' h)
  clear hml hz
  by_cases h210 : 210 < n
  · have e1 : (210 : Int) < (n : Int) := by omega
    go_enter Tryz.func3, Tryz.ntmps3
    go_wp2_with (go_at_call 5; refine K1.out.mono ?_; rintro e w1 ⟨rfl, hb1⟩; have HB1 := Lib.hid hb1; clear hb1)
    go_ret
    exact ⟨rfl, HB1.out⟩
  · have e1 : ¬ (210 : Int) < (n : Int) := by omega
    by_cases h40 : 40 < m
    · have e2 : (40 : Int) < (m : Int) := by omega
      go_enter Tryz.func3, Tryz.ntmps3
      go_wp2_with (go_at_call 5; refine K1.out.mono ?_; rintro e w1 ⟨rfl, hb1⟩; have HB1 := Lib.hid hb1; clear hb1)
      go_ret
      exact ⟨rfl, HB1.out⟩
    · have e2 : ¬ (40 : Int) < (m : Int) := by omega
      cases mix
      · have HZ0 := Lib.hid (fun w' h => K3.out w' (.slice r0 n cap0) cs h)
        have HZ1 := Lib.hid (fun w' h => K4.out w' (.slice r0 n cap0) cs h)
        clear K3 K4
        generalize chkA cs = E at *
        go_enter Tryz.func3, Tryz.ntmps3
        go_wp2_with (first
          | (go_at_call 7; refine (K5.out _ _ HR4.out).mono ?_; rintro e w5 ⟨rfl, hb⟩; have HB5 := Lib.hid (HB4.out.trans (hb.mono HB4.out.size)); clear hb)
          | (go_at_call 6; refine (K2.out _ HB3.out).mono ?_; rintro e w4 ⟨v4, rfl, ho, hb⟩; have HR4 := Lib.hid (recs_of_owns cc_len ho rfl (by have := HML.out; omega)); have HB4 := Lib.hid (HB3.out.trans (hb.mono HB3.out.size)); clear ho hb)
          | (go_at_call 8; refine (HZ1.out _ HR2.out).mono ?_; rintro e w3 ⟨rfl, hb⟩; have HB3 := Lib.hid (HB2.out.trans (hb.mono HB2.out.size)); clear hb)
          | (go_at_call 7; refine (HZ0.out _ HR1.out).mono ?_; rintro e w2 ⟨rfl, hb⟩; have HB2 := Lib.hid (HB1.out.trans (hb.mono HB1.out.size)); have HR2 := Lib.hid (HR1.out.stay hb); clear hb)
          | (go_at_call 5; refine K1.out.mono ?_; rintro e w1 ⟨rfl, hb1⟩; have HB1 := Lib.hid hb1; have HR1 := Lib.hid (HR.out.stay hb1); clear hb1))
        go_ret
        exact ⟨by simp, HB5.out⟩
      · obtain ⟨d, hd⟩ : ∃ d, c ++ cs = d := ⟨_, rfl⟩
        have HD := Lib.hid hd
        have HZ0 := Lib.hid (fun w' v h => K3.out w' v d h)
        have HZ1 := Lib.hid (fun w' v h => K4.out w' v d h)
        have HDL : Hid (d.length ≤ 1000) := Lib.hid (by rw [← hd, List.length_append]; have := HN.out; have := HML.out; omega)
        clear K3 K4 hd
        generalize chkA d = E at *
        go_enter Tryz.func3, Tryz.ntmps3
        go_wp2_with (first
          | (go_at_call 7; refine (K5.out _ _ HR6.out).mono ?_; rintro e w7 ⟨rfl, hb⟩; have HB7 := Lib.hid (HB6.out.trans (hb.mono HB6.out.size)); clear hb)
          | (go_at_call 6; refine (K2.out _ HB5.out).mono ?_; rintro e w6 ⟨v6, rfl, ho, hb⟩; have HR6 := Lib.hid (recs_of_owns cc_len ho rfl (by have := HML.out; omega)); have HB6 := Lib.hid (HB5.out.trans (hb.mono HB5.out.size)); clear ho hb)
          | (go_at_call 8; refine (HZ1.out _ _ HR4.out).mono ?_; rintro e w5 ⟨rfl, hb⟩; have HB5 := Lib.hid (HB4.out.trans (hb.mono HB4.out.size)); clear hb)
          | (go_at_call 7; refine (HZ0.out _ _ HR3.out).mono ?_; rintro e w4 ⟨rfl, hb⟩; have HB4 := Lib.hid (HB3.out.trans (hb.mono HB3.out.size)); have HR4 := Lib.hid (HR3.out.stay hb); clear hb)
          | (at_builtin; refine wpList_append_run rfl (.tmp 21) (.tmp 22) 25 22 rfl _ _ v3 w3 rfl rfl HRUN.out ?_)
          | (go_at_call 6; refine (K2.out _ HB1.out).mono ?_; rintro e w2 ⟨v2, rfl, ho, hb⟩; obtain ⟨v3, w3, hrun, ho3, hb3⟩ := recs_append v2 (.slice r0 n cap0) c cs w1.heap.size w2 ho (HR1.out.stay hb) (by have := HN.out; have := HML.out; omega) hb.size; have HRUN := Lib.hid hrun; rw [HD.out] at ho3; have HR3 := Lib.hid (recs_of_owns cc_len ho3 rfl HDL.out); have HB3 := Lib.hid (HB1.out.trans ((hb.trans hb3).mono HB1.out.size)); clear ho hb hrun ho3 hb3)
          | (go_at_call 5; refine K1.out.mono ?_; rintro e w1 ⟨rfl, hb1⟩; have HB1 := Lib.hid hb1; have HR1 := Lib.hid (HR.out.stay hb1); clear hb1))
        go_ret
        exact ⟨by simp, HB7.out⟩
end Go.Proofs.YtdhgkggcnilgoaaGreatDoor

/- Law ParseTexts. -/
import Derived.Test.YtffhnedladiaoaaGreatDoorPdz
import Derived.Test.YtffhnedladiaoaaGreatDoorPwc
import Derived.Test.YtffhnedladiaoaaGreatDoorPqf
namespace Go.Proofs.YtffhnedladiaoaaGreatDoor
open Go.RowKit Go.Lib
set_option linter.unusedVariables false
set_option linter.unusedSimpArgs false
set_option maxHeartbeats 2000000 in
set_option maxRecDepth 100000 in
theorem texts_c (s : ByteArray) (w : World) (hI : InS w) (hs : s.size ≤ 9223372036854775807) :
    Calls Tryz.prog 4 #[.string s] w fun e w' => e = .returned (.bool true) ∧ Below w.heap.size w w' := by
  have KA := Lib.hid (awake14 parC w hI)
  by_cases hbig : 3000 < s.size
  · have t1 : decide ((3000 : Int) < (s.size : Int)) = true := decide_eq_true (by omega)
    clear hI hbig
    go_enter Tryz.func4, Tryz.ntmps4
    go_wp2_with (go_at_call 9; refine KA.out.mono ?_; rintro e w1 ⟨rfl, h1⟩; have HB1 := Lib.hid h1; clear h1)
    go_ret
    exact ⟨rfl, HB1.out⟩
  · have t1 : decide ((3000 : Int) < (s.size : Int)) = false := decide_eq_false (by omega)
    have K1 := fun (w' : World) (h : Below w.heap.size w w') => parC.parse s w' (hI.stay h) (by omega)
    have K2 := fun (w' : World) (h : Below w.heap.size w w') => lparse_c dayC s w' (hI.stay h).1 (by omega)
    obtain ⟨p, hp⟩ : ∃ p, prsT s.data.toList = p := ⟨_, rfl⟩
    rw [hp] at K1 K2
    obtain ⟨qs, pl, cd⟩ := p
    unfold PrsR at K1 K2
    simp only at K1 K2
    have K1 := Lib.hid K1
    have K2 := Lib.hid K2
    clear hp hI hbig
    go_enter Tryz.func4, Tryz.ntmps4
    go_wp2_with (first
      | (go_at_call 13; refine (same14 _ _ _ _ _ HR2.out HR3.out (HP2.out.trans HP3.out.symm)).mono ?_; rintro e w4 ⟨rfl, h4⟩; have HB4 := Lib.hid (HB3.out.trans (h4.mono HB3.out.size)); clear h4)
      | (go_at_call 15; refine (K2.out _ HB2.out).mono ?_; rintro e w3 ⟨q3, c3, ps3, rfl, hr, hp, h3⟩; have HR2 := Lib.hid (HR1.out.stay h3); have HR3 := Lib.hid hr; have HP3 := Lib.hid hp; have HB3 := Lib.hid (HB2.out.trans (h3.mono HB2.out.size)); clear h3 hr hp)
      | (go_at_call 12; refine (K1.out _ HB1.out).mono ?_; rintro e w2 ⟨q2, c2, ps2, rfl, hr, hp, h2⟩; have HR1 := Lib.hid hr; have HP2 := Lib.hid hp; have HB2 := Lib.hid (HB1.out.trans (h2.mono HB1.out.size)); clear h2 hr hp)
      | (go_at_call 9; refine KA.out.mono ?_; rintro e w1 ⟨rfl, h1⟩; have HB1 := Lib.hid h1; clear h1))
    go_ret
    exact ⟨rfl, HB4.out⟩
end Go.Proofs.YtffhnedladiaoaaGreatDoor

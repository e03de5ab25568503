/- The walk of law KeyUnpacks. -/
import Derived.Test.YtnmnjoleebhhiaaDoorQa
namespace Go.Proofs.YtnmnjoleebhhiaaDoor
open Go.RowKit
set_option linter.unusedVariables false
set_option linter.unusedSimpArgs false
set_option maxRecDepth 100000 in
set_option maxHeartbeats 1000000 in
theorem keyunpacks_any {I : World → Prop} (C : AllotC) (D : DayC I) (K : KeyC I) (n : Int) (w : World) (hI : I w) (hn : (Lit.int .u64 n).wf = true) :
    Calls Tryd.prog 4 #[.int .u64 n] w fun e w' => e = .returned (.bool true) ∧ Below w.heap.size w w' := by
  have bn := wf_bd_u64 hn
  have K1 := Lib.hid (awake5_any C D K w hI)
  obtain ⟨hk, hp⟩ := parts_pack bn
  have K2 := Lib.hid (fun w' (hw : I w') => K.unpack n w' hw bn)
  have K3 := Lib.hid (fun w' (hw : I w') => K.pack _ _ _ w' hw hk)
  rw [hp] at K3
  unfold keyV at K2 K3
  obtain ⟨k1, k2, k3⟩ := hk
  clear hp
  obtain ⟨a, ha⟩ : ∃ a, n / 4294967296 = a := ⟨_, rfl⟩
  obtain ⟨e, he⟩ : ∃ e, n / 65536 % 65536 = e := ⟨_, rfl⟩
  obtain ⟨p, hp⟩ : ∃ p, n % 65536 = p := ⟨_, rfl⟩
  rw [ha, he, hp] at K2 K3
  rw [ha] at k1
  rw [he] at k2
  rw [hp] at k3
  go_enter Tryd.func4, Tryd.ntmps4
  go_wp2_with (first
    | (go_at_call 8; refine (K3.out _ (D.stay hI (hB2.alloc hB2.size _))).mono ?_; rintro r w3 ⟨rfl, hb3⟩; have hB3 := (hB2.alloc hB2.size (.cells #[.int .u32 a, .int .u16 e, .int .u16 p] 25)).trans (hb3.mono (by simp; have := hB2.size; omega)))
    | (go_at_call 10; refine (K2.out _ (D.stay hI hb1)).mono ?_; rintro r w2 ⟨rfl, hb2⟩; have hB2 := hb1.trans (hb2.mono hb1.size))
    | (go_at_call 7; refine K1.out.mono ?_; rintro r w1 ⟨rfl, hb1⟩))
  go_ret
  exact ⟨by simp, hB3⟩
end Go.Proofs.YtnmnjoleebhhiaaDoor

/- Contract of law 3's Weights: each number, made a weight. -/
import Derived.Test.YtkeicflmbhokhaaDoorAb
namespace Go.Proofs.YtkeicflmbhokhaaDoor
open Go.RowKit
set_option linter.unusedVariables false
set_option linter.unusedSimpArgs false
/-- A weight out of a number. -/
def wgt (z : Int) : Int := 1 + z % 1000000
theorem wgt_bd {z : Int} (h : (Lit.int .u32 z).wf = true) : 1 ≤ wgt z ∧ wgt z ≤ 1000000 := by
  unfold wgt; omega
theorem wgt_wf (z : Int) : (Lit.int .i64 (wgt z)).wf = true := WalkArith.wf_i64 (by unfold wgt; omega)
set_option maxHeartbeats 2000000 in
set_option maxRecDepth 100000 in
theorem weights_some (b off cap : Nat) (zs : List Int) (w : World) (hb : b < w.heap.size) (hl : zs.length ≤ 1000)
    (hz : ∀ i, i < zs.length → w.cell? ⟨b, off + i, none⟩ = some (.int .u32 (zs.getD i 0)) ∧ (Lit.int .u32 (zs.getD i 0)).wf = true) :
    Calls Tryd.prog 9 #[.slice (some ⟨b, off, none⟩) zs.length cap] w fun e w' => ∃ v, e = .returned v ∧ w'.ownsRow w.heap.size 2 1 v zs.length (ints (zs.map wgt)) ∧ Below w.heap.size w w' := by
  obtain ⟨i0, hi, hz0, hz1, hz2⟩ := infoI
  have Hz := Lib.hid hz
  clear hz
  go_enter Tryd.func9, Tryd.ntmps9
  go_wp2
  go_loopw [3, 8] (fun v i wr => ∃ j : Nat, j ≤ zs.length ∧ i = .int .i64 j ∧ wr.ownsRow w.heap.size 2 1 v j (ints ((zs.take j).map wgt)) ∧ Below w.heap.size w wr) (fun _ i _ => zs.length - (RowKit.intOf i).toNat)
  case atStart => exact ⟨0, Nat.zero_le _, rfl, World.ownsRow_nil _ _ _ _, Below.refl _ _⟩
  case round =>
    obtain ⟨j, hj, rfl, hown, hB⟩ := hrel
    rename World => wr
    by_cases hlt : j < zs.length
    · obtain ⟨hc, hwf⟩ := Hz.out j hlt
      have hc' : wr.cell? ⟨b, off + j, none⟩ = some (.int .u32 (zs.getD j 0)) := by rw [hB.cell (p := ⟨b, off + j, none⟩) hb]; exact hc
      have e1 := take_map_step wgt zs j hlt
      generalize hx : zs.getD j 0 = x at *
      have hbx : 0 ≤ x ∧ x < 4294967296 := by
        simp [Lit.wf, IntKind.min, IntKind.max, IntKind.signed, IntKind.bits] at hwf; omega
      have k1 : 1 + x % 1000000 = wgt x := rfl
      have E1 := Lib.hid e1
      have hs := hB.size
      clear e1 hx hc
      go_wp2_with (at_builtin; refine wpList_append_own _ rfl (.tmp 12) (.tmp 17) 24 rfl w.heap.size 2 i0 (.int .i64 0) 1 8 Tryd.underlying24 hi hz0 hz1 hz2 rfl (by decide) _ j _ rfl (hown.alloc _) ⟨wr.heap.size, 0, none⟩ 1 1 [.int .i64 (wgt x)] rfl rfl (cell_one_new _ _ _) (fun u hu => by simp at hu; subst hu; rfl) (by unfold maxLen; omega) (by omega) (by simp; omega) ?_; intro v' w3 hown' hgrow3 hnil3)
      go_roundw
      case rel =>
        refine ⟨j + 1, by omega, by go_num, ?_, (hB.alloc hs _).grown hgrow3 (by simp; omega) (fun g hg => (hown.lt g hg).1)⟩
        rw [← E1.out]; exact hown'
      case measure => simp [RowKit.intOf]; omega
    · obtain rfl : j = zs.length := by omega
      rw [List.take_length] at hown
      go_wp2
      go_ret
      exact ⟨_, rfl, hown, hB⟩
end Go.Proofs.YtkeicflmbhokhaaDoor

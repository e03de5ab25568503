/- Package key's keys are as the document says (what the laws ask of them). -/
import Derived.Test.YtnmnjoleebhhiaaDoorVk
namespace Go.Proofs.YtnmnjoleebhhiaaDoor
open Go.RowKit Go.Sort
set_option linter.unusedVariables false
set_option linter.unusedSimpArgs false
theorem keyC {I : World → Prop} : KeyC I where
  pack := fun a e p w _ hk => by
    obtain ⟨x, hx, hn, _⟩ := kt_of hk
    rw [hx, hn]
    exact (pack_k x w).mono fun _ _ ⟨he, hg⟩ => ⟨he, hg.below⟩
  unpack := fun n w _ hn => by
    obtain ⟨m, rfl⟩ := Int.eq_ofNat_of_zero_le hn.1
    have hm : m < 18446744073709551616 := by omega
    have e : keyV ((m : Int) / 4294967296) ((m : Int) / 65536 % 65536) ((m : Int) % 65536) = kv (Kt.of m) := by
      have e1 : (m : Int) / 4294967296 = ((Kt.of m).a : Int) := by unfold Kt.of; simp only; omega
      have e2 : (m : Int) / 65536 % 65536 = ((Kt.of m).e : Int) := by unfold Kt.of; simp only; omega
      have e3 : (m : Int) % 65536 = ((Kt.of m).p : Int) := by unfold Kt.of; simp only; omega
      rw [e1, e2, e3]; rfl
    rw [e]
    exact (unpack_k m w hm).mono fun _ _ ⟨he, hg⟩ => ⟨he, hg.below⟩
  compare := fun a e p a' e' p' w _ hk hk' => by
    obtain ⟨x, hx, hn, _⟩ := kt_of hk
    obtain ⟨y, hy, hm, _⟩ := kt_of hk'
    rw [hx, hy, hn, hm]
    have : cmpZ (x.num : Int) (y.num : Int) = kcmp x y := by
      unfold cmpZ kcmp
      by_cases h1 : x.num < y.num
      · rw [if_pos (by omega), if_pos h1]
      · by_cases h2 : y.num < x.num
        · rw [if_neg (by omega), if_pos (by omega), if_neg h1, if_pos h2]
        · rw [if_neg (by omega), if_neg (by omega), if_neg h1, if_neg h2]
    rw [this]
    exact (compare_k x y w).mono fun _ _ ⟨he, hg⟩ => ⟨he, hg.below⟩
end Go.Proofs.YtnmnjoleebhhiaaDoor

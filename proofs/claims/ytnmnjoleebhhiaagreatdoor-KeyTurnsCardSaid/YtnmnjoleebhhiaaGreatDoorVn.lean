/- Package key's keys are as the document says (what the laws ask of them). -/
import Derived.Test.YtnmnjoleebhhiaaGreatDoorVk
namespace Go.Proofs.YtnmnjoleebhhiaaGreatDoor
open Go.RowKit Go.Sort
set_option linter.unusedVariables false
set_option linter.unusedSimpArgs false
theorem keyC {I : World → Prop} : KeyC I where
  pack := fun a e p w _ hk => by
    obtain ⟨x, hx, hn, _⟩ := kt_of hk
    rw [hx, hn]
    exact (pack_k x w).mono fun _ _ ⟨he, hg⟩ => ⟨he, hg.below⟩
  compare := fun a e p a' e' p' w _ hk hk' => by
    obtain ⟨x, hx, hn, _⟩ := kt_of hk
    obtain ⟨y, hy, hm, _⟩ := kt_of hk'
    rw [hx, hy, hn, hm]
    have : cmpZ (x.num : Int) (y.num : Int) = kcmp x y := by
      unfold cmpZ kcmp
      by_cases h1 : x.num < y.num
      · rw [if_pos (by omega), if_pos h1]
      · by_cases h2 : y.num < x.num
        · rw [if_neg (by omega), if_pos (by omega), if_neg h1, if_pos h2]
        · rw [if_neg (by omega), if_neg (by omega), if_neg h1, if_neg h2]
    rw [this]
    exact (compare_k x y w).mono fun _ _ ⟨he, hg⟩ => ⟨he, hg.below⟩
end Go.Proofs.YtnmnjoleebhhiaaGreatDoor

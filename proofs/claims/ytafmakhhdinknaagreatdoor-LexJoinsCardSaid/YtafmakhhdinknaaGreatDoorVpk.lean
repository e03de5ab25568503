/- Package key's Pack is as the document says (all that law 5's Awake asks of key), where neither Compare nor Unpack is called. -/
import Derived.Test.YtafmakhhdinknaaGreatDoorVc
import Derived.Test.YtafmakhhdinknaaGreatDoorQa
namespace Go.Proofs.YtafmakhhdinknaaGreatDoor
open Go.RowKit Go.Sort
set_option linter.unusedVariables false
set_option linter.unusedSimpArgs false
theorem kt_of_pk {a e p : Int} (h : IsKey a e p) : ∃ x : Kt, keyV a e p = kv x ∧ packN a e p = (x.num : Int) := by
  obtain ⟨h1, h2, h3⟩ := h
  refine ⟨⟨a.toNat, e.toNat, p.toNat, by omega, by omega, by omega⟩, ?_, ?_⟩
  · unfold keyV kv
    simp only [Int.toNat_of_nonneg h1.1, Int.toNat_of_nonneg h2.1, Int.toNat_of_nonneg h3.1]
  · unfold packN Kt.num; simp only; omega
theorem keyC {I : World → Prop} : KeyC I where
  pack := fun a e p w _ hk => by
    obtain ⟨x, hx, hn⟩ := kt_of_pk hk
    rw [hx, hn]
    exact (pack_k x w).mono fun _ _ ⟨he, hg⟩ => ⟨he, hg.below⟩
end Go.Proofs.YtafmakhhdinknaaGreatDoor

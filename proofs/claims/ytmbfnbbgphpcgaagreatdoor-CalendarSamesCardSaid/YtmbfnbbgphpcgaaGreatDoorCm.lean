/- Law 6's Awake. -/
import Derived.Test.YtmbfnbbgphpcgaaGreatDoorCi
import Derived.Test.YtmbfnbbgphpcgaaGreatDoorQa
import Derived.Laws.OwnMore
namespace Go.Proofs.YtmbfnbbgphpcgaaGreatDoor
open Go.RowKit
set_option linter.unusedVariables false
set_option linter.unusedSimpArgs false
/-- A slice written out. -/
theorem recs_lit {α : Type} {enc : α → List Value} {k : Nat} (hk : ∀ x, (enc x).length = k) (xs : List α) (cs : Array Value) (T : TypeId) (n : Nat) (hn : n = xs.length) (hm : n ≤ 1000) (hc : cs.toList = xs.flatMap enc) (w : World) : Recs enc k (w.alloc (.cells cs T)) (.slice (some ⟨w.heap.size, 0, none⟩) n n) xs := by
  have hs : cs.size = n * k := by rw [← Array.length_toList, hc, flat_len hk, hn]
  have h := World.ownsRow_lit (base := w.heap.size) (e := T) (size := k) w cs n (Nat.le_refl _) (by unfold maxLen; omega) hs
  rw [hc] at h
  exact recs_of_owns hk h hn hm
def exA : List Ac := [⟨1, ⟨#[97]⟩, 0, 0, by omega, by omega, by omega, by decide⟩, ⟨2, ⟨#[98]⟩, 0, 1, by omega, by omega, by omega, by decide⟩]
theorem exA_way : wayF 13 exA 2 = [2, 1] := rfl
theorem exA_rise : RiseA exA := List.Pairwise.cons (fun b hb => by simp at hb; subst hb; show 1 < 2; omega) (List.Pairwise.cons (fun b hb => by cases hb) List.Pairwise.nil)
theorem exA_pos : ∀ a ∈ exA, 0 < a.code := fun a ha => by
  rcases List.mem_cons.1 ha with rfl | ha
  · show 0 < 1; omega
  · rcases List.mem_cons.1 ha with rfl | ha
    · show 0 < 2; omega
    · cases ha
set_option maxHeartbeats 1000000 in
set_option maxRecDepth 100000 in
theorem awake6_any {I : World → Prop} (C : AllotC) (D : DayC I) (K : KeyC I) (w : World) (hI : I w) :
    Calls Tryz.prog 27 #[] w fun e w' => e = .returned (.bool true) ∧ Below w.heap.size w w' := by
  have hR := recs_lit cc_len exA #[.int .u32 1, .string ⟨#[97]⟩, .int .u8 0, .int .u32 0, .int .u32 2, .string ⟨#[98]⟩, .int .u8 0, .int .u32 1] 68 2 rfl (by omega) rfl w
  have K1 := way_c _ exA 2 _ hR exA_rise (by show 2 ≤ 1000; omega) exA_pos
  rw [exA_way] at K1
  have HB0 := Lib.hid ((Below.refl w.heap.size w).alloc (Nat.le_refl _) (.cells #[.int .u32 1, .string ⟨#[97]⟩, .int .u8 0, .int .u32 0, .int .u32 2, .string ⟨#[98]⟩, .int .u8 0, .int .u32 1] 68))
  have H1 := Lib.hid K1
  have H2 : Hid (∀ w, Calls Tryz.prog 37 #[.int .u8 3] w fun e w' => e = .returned (.bool true) ∧ w' = w) := Lib.hid (fun w => credit_c 3 w)
  have H3 : Hid (∀ w, Calls Tryz.prog 38 #[.int .u8 0] w fun e w' => e = .returned (.bool false) ∧ w' = w) := Lib.hid (fun w => flow_c 0 w)
  have H4 := Lib.hid (fun (w' : World) (h : Below w.heap.size w w') => awake5_any C D K w' (D.stay hI h))
  have H5 := Lib.hid (fun (w : World) (v : Value) (h : Recs nc 1 w v [2, 1]) => equal_n v _ [2, 1] _ (h.stay ((Below.refl w.heap.size w).alloc (Nat.le_refl _) (.cells #[.int .u32 2, .int .u32 1] 65))) (recs_lit nc_len [2, 1] #[.int .u32 2, .int .u32 1] 65 2 rfl (by omega) rfl w))
  clear hR K1
  go_enter Tryz.func27, Tryz.ntmps27
  go_wp2_with (first
    | (go_at_call 36; refine H1.out.mono ?_; rintro e w1 ⟨v1, rfl, h1, h2⟩; have HR1 := Lib.hid h1; have HB1 := Lib.hid (HB0.out.trans (h2.mono HB0.out.size)); clear h1 h2)
    | (go_at_call 35; refine (H5.out _ _ HR1.out).mono ?_; rintro e w2 ⟨rfl, h2⟩; have HB2 := Lib.hid ((HB1.out.alloc HB1.out.size (.cells #[.int .u32 2, .int .u32 1] 65)).trans (h2.mono (HB1.out.alloc HB1.out.size (.cells #[.int .u32 2, .int .u32 1] 65)).size)); clear h2)
    | (go_at_call 37; refine (H2.out _).mono ?_; rintro e w3 ⟨rfl, rfl⟩)
    | (go_at_call 38; refine (H3.out _).mono ?_; rintro e w3 ⟨rfl, rfl⟩)
    | (go_at_call 39; refine (H4.out _ HB2.out).mono ?_; rintro e w4 ⟨rfl, h4⟩; have HB4 := Lib.hid (HB2.out.trans (h4.mono HB2.out.size)); clear h4))
  go_ret
  exact ⟨by simp, HB4.out⟩
end Go.Proofs.YtmbfnbbgphpcgaaGreatDoor

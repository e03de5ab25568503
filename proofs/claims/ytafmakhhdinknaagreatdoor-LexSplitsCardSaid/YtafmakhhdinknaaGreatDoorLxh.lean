/- The walk of law LexLong. -/
import Derived.Test.YtafmakhhdinknaaGreatDoorLxg
import Derived.Lib.Repeat
namespace Go.Proofs.YtafmakhhdinknaaGreatDoor
open Go.RowKit Go.Lib
set_option linter.unusedVariables false
set_option linter.unusedSimpArgs false
theorem rep_blank : ∀ c : Nat, repeatL [32] c = List.replicate c 32
  | 0 => rfl
  | c + 1 => by
    show [32] ++ repeatL [32] c = _
    rw [rep_blank c]; rfl
theorem spl_blanks : ∀ (n f i : Nat), n < f → spl f i (List.replicate n 32) = .ok [⟨0, [], 0, 0, i + n⟩]
  | 0, 0, _, h => absurd h (by omega)
  | 0, f + 1, i, _ => rfl
  | n + 1, 0, _, h => absurd h (by omega)
  | n + 1, f + 1, i, h => by
    rw [List.replicate_succ, spl_cons, if_pos (Or.inl rfl), spl_blanks n f (i + 1) (by omega), show i + 1 + n = i + (n + 1) by omega]
theorem splT_blanks (n : Nat) : splT (List.replicate n 32) = if 65536 < n then ([], 0, 2) else ([⟨0, [], 0, 0, n⟩], 0, 0) := by
  unfold splT
  rw [List.length_replicate]
  split
  · rfl
  · unfold splitF
    rw [List.length_replicate, spl_blanks n (n + 1) 0 (by omega), Nat.zero_add]
/-- What law LexLong asks of the library. -/
def RepC : Prop := ∀ (c : Nat) (w : World), c ≤ 100000 → Calls Tryz.prog 11 #[.string ⟨#[32]⟩, .int .i64 (c : Int)] w fun e w' => e = .returned (.string ⟨(repeatL [32] c).toArray⟩) ∧ Below w.heap.size w w'
set_option maxHeartbeats 2000000 in
set_option maxRecDepth 100000 in
theorem lexlong_any {I : World → Prop} (D : DayC I) (LX : LexC I) (RP : RepC) (A12 : ∀ w, I w → Calls Tryz.prog 7 #[] w fun e w' => e = .returned (.bool true) ∧ Below w.heap.size w w') (n : Nat) (w : World) (hI : I w) (hn : n < 256) :
    Calls Tryz.prog 5 #[.int .u8 (n : Int)] w fun e w' => e = .returned (.bool true) ∧ Below w.heap.size w w' := by
  have KA := Lib.hid (A12 w hI)
  obtain ⟨q, hq⟩ : ∃ q, n % 7 = q := ⟨_, rfl⟩
  have hq7 : q < 7 := by omega
  have v1 : (n : Int).tmod 7 = (q : Int) := by rw [Int.tmod_eq_emod_of_nonneg (by omega), ← hq]; rfl
  have v2 : (n : Int) % 7 = (q : Int) := by rw [← hq]; rfl
  have v3 : IntKind.u8.wrap (q : Int) = (q : Int) := by rw [IntKind.wrap_u8]; omega
  have v4 : IntKind.i64.wrap (q : Int) = (q : Int) := by rw [IntKind.wrap_i64]; omega
  obtain ⟨N, hN⟩ : ∃ N, 65533 + q = N := ⟨_, rfl⟩
  have v5 : 65533 + (q : Int) = (N : Int) := by omega
  have v6 : IntKind.i64.wrap (N : Int) = (N : Int) := by rw [IntKind.wrap_i64]; omega
  obtain ⟨st, hst⟩ : ∃ st : ByteArray, (⟨(repeatL [32] N).toArray⟩ : ByteArray) = st := ⟨_, rfl⟩
  have hsd : st.data.toList = List.replicate N 32 := by rw [← hst]; exact rep_blank N
  have hss : st.size = N := by
    have : st.data.toList.length = N := by rw [hsd, List.length_replicate]
    simpa using this
  have K1 := fun (W : World) => RP N W (by omega)
  rw [hst] at K1
  have KK1 := Lib.hid K1
  have K2 := fun (w' : World) (h : Below w.heap.size w w') => LX.split st w' (D.stay hI h) (by omega)
  rw [hsd, splT_blanks] at K2
  by_cases h4 : 65536 < N
  · rw [if_pos h4] at K2
    have KK2 := Lib.hid K2
    have t1 : decide ((65536 : Int) < (N : Int)) = true := decide_eq_true (by omega)
    clear hq hN hst hsd K1 K2 D LX A12 hI RP
    go_enter Tryz.func5, Tryz.ntmps5
    go_wp2_with (first
      | (go_at_call 8; refine (KK2.out _ HB5.out).mono ?_; rintro e w6 ⟨r6, c6, rfl, hr6, h6⟩; have HB6 := Lib.hid (HB5.out.trans (h6.mono HB5.out.size)); clear hr6 h6)
      | (go_at_call 11; refine (KK1.out _).mono ?_; rintro e w5 ⟨rfl, h5⟩; have HB5 := Lib.hid (HB4.out.trans (h5.mono HB4.out.size)); clear h5)
      | (go_at_call 7; refine KA.out.mono ?_; rintro e w4 ⟨rfl, h4⟩; have HB4 := Lib.hid h4; clear h4))
    go_ret
    exact ⟨rfl, HB6.out⟩
  · rw [if_neg h4] at K2
    have KK2 : Hid (∀ (w' : World), Below w.heap.size w w' → Calls Tryz.prog 8 #[.string st] w' fun e w'' => ∃ g off c, e = .returned (.tuple #[.slice (some ⟨g, off, none⟩) 1 c, .int .i64 0, .int .i64 0]) ∧ w''.cell? ⟨g, off + 4, none⟩ = some (.int .i64 (N : Int)) ∧ Below w'.heap.size w' w'') := Lib.hid (fun w' h => (K2 w' h).mono (by
      rintro e w'' ⟨r, c, rfl, hr, hb⟩
      obtain ⟨g, off, hr2, _, c1⟩ := hr.at (i := 0) rfl
      subst hr2
      have := c1 4 _ rfl
      simp only [Nat.zero_mul, Nat.add_zero] at this
      exact ⟨g, off, c, rfl, this, hb⟩))
    have t1 : decide ((65536 : Int) < (N : Int)) = false := decide_eq_false (by omega)
    clear hq hN hst hsd K1 K2 D LX A12 hI RP
    go_enter Tryz.func5, Tryz.ntmps5
    go_wp2_with (first
      | (go_at_call 8; refine (KK2.out _ HB5.out).mono ?_; rintro e w6 ⟨g6, o6, c6, rfl, x6, h6⟩; have HB6 := Lib.hid (HB5.out.trans (h6.mono HB5.out.size)); clear h6)
      | (go_at_call 11; refine (KK1.out _).mono ?_; rintro e w5 ⟨rfl, h5⟩; have HB5 := Lib.hid (HB4.out.trans (h5.mono HB4.out.size)); clear h5)
      | (go_at_call 7; refine KA.out.mono ?_; rintro e w4 ⟨rfl, h4⟩; have HB4 := Lib.hid h4; clear h4))
    go_ret
    exact ⟨rfl, HB6.out⟩
end Go.Proofs.YtafmakhhdinknaaGreatDoor

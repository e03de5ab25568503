/- Contract of slices.Sort at a few entities, whole. -/
import Derived.Test.YtjgmbjfijpmhdaaGreatDoorZNall
namespace Go.Proofs.YtjgmbjfijpmhdaaGreatDoor
open Go.RowKit
set_option linter.unusedVariables false
set_option linter.unusedSimpArgs false
set_option maxRecDepth 100000 in
theorem len64_few (n : Nat) (h : n ≤ 12) (w : World) : Calls Tryz.prog 125 #[.int .u64 (n : Int)] w fun e w' => (∃ m : Int, e = .returned (.int .i64 m)) ∧ w' = w := by
  rcases (by omega : n = 0 ∨ n = 1 ∨ n = 2 ∨ n = 3 ∨ n = 4 ∨ n = 5 ∨ n = 6 ∨ n = 7 ∨ n = 8 ∨ n = 9 ∨ n = 10 ∨ n = 11 ∨ n = 12) with rfl | rfl | rfl | rfl | rfl | rfl | rfl | rfl | rfl | rfl | rfl | rfl | rfl
  all_goals
    clear h
    go_enter Tryz.func125, Tryz.ntmps125
    go_wp2
    go_ret
    exact ⟨⟨_, rfl⟩, rfl⟩
theorem len_few (n : Nat) (h : n ≤ 12) (w : World) : Calls Tryz.prog 84 #[.int .u64 (n : Int)] w fun e w' => (∃ m : Int, e = .returned (.int .i64 m)) ∧ w' = w := by
  have K := Lib.hid (fun w => len64_few n h w)
  clear h
  go_enter Tryz.func84, Tryz.ntmps84
  go_wp2_with (go_at_call 125; refine (K.out _).mono ?_; rintro e w1 ⟨⟨m, rfl⟩, rfl⟩)
  go_ret
  exact ⟨⟨_, rfl⟩, rfl⟩
theorem ins16_none (p : Option Addr) (cap : Nat) (w : World) : Calls Tryz.prog 115 #[.slice p 0 cap, .int .i64 0, .int .i64 0] w fun e w' => e = .returned (.tuple #[]) ∧ w' = w := by
  go_enter Tryz.func115, Tryz.ntmps115
  go_wp2
  go_loopw [6] (fun i wr => i = .int .i64 1 ∧ wr = w) (fun _ _ => 0)
  case atStart => exact ⟨rfl, rfl⟩
  case round =>
    obtain ⟨rfl, rfl⟩ := hrel
    go_wp2
    go_end0
    exact ⟨rfl, rfl⟩
/-- What a sort of few numbers does, whatever they are: said of the slice as it is handed over. -/
def Sorts (T : TypeId) (base : Nat) (v : Value) (n : Nat) (xs : List Nat) (w w' : World) : Prop :=
  ∃ ys, ys.Perm xs ∧ Srt ys ∧ w'.ownsRow base T 1 v n (ys.flatMap uc) ∧ w.grownBy w' v.ownBlock
theorem ins_any16 (xs : List Nat) (v : Value) (n base : Nat) (w : World) (ho : w.ownsRow base 77 1 v n (xs.flatMap uc)) (hn : xs.length = n) (h12 : n ≤ 12) :
    Calls Tryz.prog 115 #[v, .int .i64 0, .int .i64 (n : Int)] w fun e w' => e = .returned (.tuple #[]) ∧ Sorts 77 base v n xs w w' := by
  by_cases h0 : n = 0
  · subst h0
    obtain rfl := List.eq_nil_of_length_eq_zero hn
    obtain ⟨r, cap, rfl⟩ : ∃ r cap, v = .slice r 0 cap := by
      rcases ho.2 with ⟨rfl, _⟩ | ⟨g, cap, cur, rfl, _⟩
      · exact ⟨_, _, rfl⟩
      · exact ⟨_, _, rfl⟩
    refine (ins16_none r cap w).mono ?_
    rintro e w' ⟨rfl, rfl⟩
    exact ⟨rfl, [], List.Perm.refl _, List.Pairwise.nil, ho, World.grownBy.refl _ _⟩
  · obtain ⟨g, cap, rfl⟩ : ∃ g cap, v = .slice (some ⟨g, 0, none⟩) n cap := by
      rcases ho.2 with ⟨_, h⟩ | ⟨g, cap, cur, rfl, _⟩
      · exact absurd h h0
      · exact ⟨_, _, rfl⟩
    exact (ins16 xs g n cap base w ho hn (by omega) h12).mono fun e w' ⟨h1, ys, h2, h3, h4, h5⟩ => ⟨h1, ys, h2, h3, h4, h5⟩
set_option maxHeartbeats 1000000 in
set_option maxRecDepth 100000 in
theorem pdq16 (xs : List Nat) (v : Value) (n base : Nat) (m : Int) (w : World) (ho : w.ownsRow base 77 1 v n (xs.flatMap uc)) (hn : xs.length = n) (h12 : n ≤ 12) :
    Calls Tryz.prog 83 #[v, .int .i64 0, .int .i64 (n : Int), .int .i64 m] w fun e w' => e = .returned (.tuple #[]) ∧ Sorts 77 base v n xs w w' := by
  have K := Lib.hid (ins_any16 xs v n base w ho hn h12)
  obtain ⟨r, cap, rfl⟩ : ∃ r cap, v = .slice r n cap := by
    rcases ho.2 with ⟨rfl, h⟩ | ⟨g, cap, cur, rfl, _⟩
    · subst h; exact ⟨_, _, rfl⟩
    · exact ⟨_, _, rfl⟩
  have e1 : (n : Int) ≤ 12 := by omega
  clear ho hn
  go_enter Tryz.func83, Tryz.ntmps83
  go_wp2
  refine wp_loop_rounds 1 ?_
  rw [rounds_succ]
  go_wp2_with (go_at_call 115; refine K.out.mono ?_; rintro e w1 ⟨rfl, hs⟩; have HS := Lib.hid hs; clear hs)
  (try simp only [Exit.inBlock, Exit.then])
  refine bodyPost_ret (results_none rfl _ _ _) rfl ?_
  exact ⟨rfl, HS.out⟩
theorem sort16 (xs : List Nat) (v : Value) (n base : Nat) (w : World) (ho : w.ownsRow base 77 1 v n (xs.flatMap uc)) (hn : xs.length = n) (h12 : n ≤ 12) :
    Calls Tryz.prog 53 #[v] w fun e w' => e = .returned (.tuple #[]) ∧ Sorts 77 base v n xs w w' := by
  have K := Lib.hid (fun m => pdq16 xs v n base m w ho hn h12)
  have KL := Lib.hid (fun w => len_few n h12 w)
  obtain ⟨r, cap, rfl⟩ : ∃ r cap, v = .slice r n cap := by
    rcases ho.2 with ⟨rfl, h⟩ | ⟨g, cap, cur, rfl, _⟩
    · subst h; exact ⟨_, _, rfl⟩
    · exact ⟨_, _, rfl⟩
  have e1 : IntKind.u64.wrap (n : Int) = (n : Int) := by rw [IntKind.wrap_u64]; omega
  clear ho hn
  go_enter Tryz.func53, Tryz.ntmps53
  go_wp2_with (first
    | (go_at_call 84; refine (KL.out _).mono ?_; rintro e w1 ⟨⟨m, rfl⟩, rfl⟩)
    | (go_at_call 83; refine (K.out m).mono ?_; rintro e w1 ⟨rfl, hs⟩; have HS := Lib.hid hs; clear hs))
  go_end0
  exact ⟨rfl, HS.out⟩
end Go.Proofs.YtjgmbjfijpmhdaaGreatDoor

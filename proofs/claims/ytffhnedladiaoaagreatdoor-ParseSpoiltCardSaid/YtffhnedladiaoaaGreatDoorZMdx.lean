/- Package script: parts compared. -/
import Derived.Test.YtffhnedladiaoaaGreatDoorZMt1
import Derived.Laws.StructEq
import Derived.LoopTactic
import Derived.Outline
import Derived.Deep.QuietTactic
import Derived.BigQuiet
import Derived.Test.YtffhnedladiaoaaGreatDoorZMdall
import Derived.Test.YtffhnedladiaoaaGreatDoorZJw
namespace Go.Proofs.YtffhnedladiaoaaGreatDoor
open Go.RowKit Go.Lib
set_option linter.unusedVariables false
set_option linter.unusedSimpArgs false
theorem take_stepP {xs ys : List (Nat × Nat)} {j : Nat} {x y : Nat × Nat} (h : xs.take j = ys.take j) (hx : xs[j]? = some x) (hy : ys[j]? = some y) (e : x = y) : xs.take (j + 1) = ys.take (j + 1) := by
  rw [List.take_add_one, List.take_add_one, h, hx, hy, e]
set_option maxRecDepth 100000 in
theorem neq_p (x y : Nat × Nat) (w : World) : (binOp .neq 60 (.agg #[.int .u32 (x.1 : Int), .int .i64 (x.2 : Int)]) (.agg #[.int .u32 (y.1 : Int), .int .i64 (y.2 : Int)])).run Tryz.prog w = .ok (.bool (!decide (x = y))) w := by
  have hp : Tryz.prog.stoodInHeld 60 = false := by kernel_rfl
  have ht := Tryz.underlying60
  have hf : Tryz.prog.underlying 60 = some (.struct (Tryz.prog.fieldsOf 60)) := by kernel_rfl
  have hd : decide (x = y) = (((x.1 : Int) == (y.1 : Int)) && ((x.2 : Int) == (y.2 : Int))) := by
    rw [Bool.eq_iff_iff]
    simp only [decide_eq_true_eq, Bool.and_eq_true, beq_iff_eq]
    constructor
    · rintro rfl; exact ⟨rfl, rfl⟩
    · rintro ⟨h1, h2⟩; exact Prod.ext (by omega) (by omega)
  rw [hd, run_neq_struct, show (10000 : Nat) = 9999 + 1 from rfl, run_equalIn_agg w 9999 _ _ _ hf hp]
  have he : (Tryz.prog.fieldsOf 60) = (match Tryz.prog.underlying 60 with | some (.struct fs) => fs | _ => #[]) := rfl
  rw [he, ht]
  clear hd he hf hp ht
  generalize (x.1 : Int) = a
  generalize (x.2 : Int) = b
  generalize (y.1 : Int) = c
  generalize (y.2 : Int) = d
  cases h1 : (a == c) <;> cases h2 : (b == d) <;> simp [Op.eqFields, go_sem, Tryz.underlying31, Tryz.underlying2, h1, h2]
/-- What only draws leaves all. -/
theorem below_drewP (B : Nat) (w : World) (q : Nat) : Below B w (w.drewN q) := ⟨rfl, rfl, rfl, Nat.le_refl _, fun _ _ => rfl⟩
theorem equal_plen (r1 r2 : Option Addr) (n1 n2 c1 c2 : Nat) (w : World) (h : n1 ≠ n2) :
    Calls Tryz.prog 31 #[.slice r1 n1 c1, .slice r2 n2 c2] w fun e w' => e = .returned (.bool false) ∧ Below w.heap.size w w' := by
  have h1 : ((n1 : Int) != (n2 : Int)) = true := by simp; omega
  go_enter Tryz.func31, Tryz.ntmps31
  go_wp2
  go_ret
  exact ⟨rfl, Below.refl _ _⟩
set_option maxHeartbeats 2000000 in
set_option maxRecDepth 100000 in
theorem equal_p (v1 v2 : Value) (S S' : List (Nat × Nat)) (w : World) (h1 : Recs ptc 2 w v1 S) (h2 : Recs ptc 2 w v2 S') :
    Calls Tryz.prog 31 #[v1, v2] w fun e w' => e = .returned (.bool (decide (S = S'))) ∧ Below w.heap.size w w' := by
  obtain ⟨r1, cap1, rfl, hm⟩ := h1.form
  obtain ⟨r2, cap2, rfl, _⟩ := h2.form
  by_cases hne : S.length = S'.length
  · obtain ⟨n, hn⟩ : ∃ n, S.length = n := ⟨_, rfl⟩
    have HN := Lib.hid hn
    have HN' := Lib.hid (hne ▸ hn)
    rw [← hne, hn] at h2 ⊢
    rw [hn] at h1 hm
    have H1 := Lib.hid h1
    have H2 := Lib.hid h2
    obtain ⟨T, hT⟩ : ∃ T, decide (S = S') = T := ⟨_, rfl⟩
    have HT := Lib.hid hT
    rw [hT]
    clear h1 h2 hn hne hT
    go_enter Tryz.func31, Tryz.ntmps31
    go_wp2
    go_loopw [13] (fun i wr => ∃ j : Nat, j ≤ n ∧ i = .int .i64 j ∧ Hid (S.take j = S'.take j) ∧ Below w.heap.size w wr) (fun i _ => n - (RowKit.intOf i).toNat)
    case atStart => exact ⟨0, Nat.zero_le _, rfl, rfl, Below.refl _ _⟩
    case round =>
      obtain ⟨j, hj, rfl, hE, hB⟩ := hrel
      rename World => wr
      by_cases hlt : j < n
      · obtain ⟨x, hx⟩ : ∃ x, S[j]? = some x := ⟨S[j]'(by have := HN.out; omega), List.getElem?_eq_getElem (by have := HN.out; omega)⟩
        obtain ⟨y, hy⟩ : ∃ y, S'[j]? = some y := ⟨S'[j]'(by have := HN'.out; omega), List.getElem?_eq_getElem (by have := HN'.out; omega)⟩
        obtain ⟨g1, o1, rfl, _, c1⟩ := (H1.out.stay hB).at hx
        obtain ⟨g2, o2, rfl, _, c2⟩ := (H2.out.stay hB).at hy
        have a0 := c1 0 _ rfl
        have a1 := c1 1 _ rfl
        have b0 := c2 0 _ rfl
        have b1 := c2 1 _ rfl
        rw [Nat.add_zero] at a0 b0
        have HS := Lib.hid (fun e => take_stepP hE.out hx hy e)
        have HF : Hid (x ≠ y → T = false) := Lib.hid (fun e => by
          rw [← HT.out]
          refine decide_eq_false fun h => e ?_
          rw [h, hy] at hx
          exact (Option.some.inj hx).symm)
        have HB := Lib.hid hB
        have hne := fun w => neq_p x y w
        clear hx hy c1 c2 hE hB
        by_cases hxy : x = y
        · rw [decide_eq_true hxy] at hne
          have HS2 := Lib.hid (HS.out hxy)
          clear HS HF hxy
          go_wp2_with fail
          go_quiet (fail)
          go_wp2
          go_roundw
          case rel => exact ⟨j + 1, by omega, by go_num, HS2, HB.out.trans (below_drewP _ _ _)⟩
          case measure => simp [RowKit.intOf]; omega
        · rw [decide_eq_false hxy] at hne
          obtain rfl := HF.out hxy
          clear HS HF hxy
          go_wp2_with fail
          go_quiet (fail)
          go_wp2
          go_ret
          exact ⟨rfl, HB.out.trans (below_drewP _ _ _)⟩
      · obtain rfl : j = n := by omega
        have e : T = true := by
          rw [← HT.out]
          refine decide_eq_true ?_
          have := hE.out
          rwa [List.take_of_length_le (by have := HN.out; omega), List.take_of_length_le (by have := HN'.out; omega)] at this
        subst e
        go_wp2
        go_ret
        exact ⟨rfl, hB⟩
  · rw [decide_eq_false fun h => hne (by rw [h])]
    exact equal_plen _ _ _ _ _ _ _ hne
end Go.Proofs.YtffhnedladiaoaaGreatDoor
/- Package script: ops compared. -/
namespace Go.Proofs.YtffhnedladiaoaaGreatDoor
open Go.RowKit Go.Lib
set_option linter.unusedVariables false
set_option linter.unusedSimpArgs false
end Go.Proofs.YtffhnedladiaoaaGreatDoor
/- Package script: rows of ops compared. -/
namespace Go.Proofs.YtffhnedladiaoaaGreatDoor
open Go.RowKit Go.Lib
set_option linter.unusedVariables false
set_option linter.unusedSimpArgs false
end Go.Proofs.YtffhnedladiaoaaGreatDoor

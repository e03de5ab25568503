/- Ops in memory: one, a row of them, those that are one's own. -/
import Derived.Test.YtffhnedladiaoaaGreatDoorZMsd
import Derived.Test.YtffhnedladiaoaaGreatDoorZCall
import Derived.Test.YtffhnedladiaoaaGreatDoorZJall
import Derived.Test.YtffhnedladiaoaaGreatDoorZKall
import Derived.Test.YtffhnedladiaoaaGreatDoorZLxd
import Derived.Test.YtffhnedladiaoaaGreatDoorZMtl
import Derived.Test.YtffhnedladiaoaaGreatDoorZTwo
import Derived.LoopTactic
import Derived.Outline
import Derived.Deep.QuietTactic
import Derived.BigQuiet
namespace Go.Proofs.YtffhnedladiaoaaGreatDoor
open Go.RowKit Go.Lib
set_option linter.unusedVariables false
set_option linter.unusedSimpArgs false
/-- A part's cells. -/
def ptc (q : Nat × Nat) : List Value := [.int .u32 (q.1 : Int), .int .i64 (q.2 : Int)]
theorem ptc_len (q : Nat × Nat) : (ptc q).length = 2 := rfl
/-- An op in memory: its fields, where it stands, its parts' and its starts' slices. -/
structure Om where
  o : Opp
  pos : Int
  vP : Value
  vS : Value
def oc (p : Om) : List Value := [.int .i64 (p.o.kind : Int), .int .u32 (p.o.frm : Int), .int .u32 (p.o.to : Int), strV p.o.name, p.vP, p.vS, .int .i32 p.o.en, .int .i64 p.pos]
theorem oc_len (p : Om) : (oc p).length = 8 := rfl
def opV (p : Om) : Value := .agg #[.int .i64 (p.o.kind : Int), .int .u32 (p.o.frm : Int), .int .u32 (p.o.to : Int), strV p.o.name, p.vP, p.vS, .int .i32 p.o.en, .int .i64 p.pos]
structure OpM (w : World) (p : Om) : Prop where
  parts : Recs ptc 2 w p.vP p.o.parts
  starts : Recs dcl 1 w p.vS p.o.starts
theorem OpM.stay {w w' : World} {p : Om} (h : OpM w p) (hb : Below w.heap.size w w') : OpM w' p := ⟨h.parts.stay hb, h.starts.stay hb⟩
/-- A slice of ops in memory. -/
def ORow (w : World) (v : Value) (ps : List Om) : Prop := Recs oc 8 w v ps ∧ ∀ p ∈ ps, OpM w p
theorem ORow.stay {w w' : World} {v : Value} {ps : List Om} (h : ORow w v ps) (hb : Below w.heap.size w w') : ORow w' v ps := ⟨h.1.stay hb, fun p hp => (h.2 p hp).stay hb⟩
theorem ORow.at {w : World} {v : Value} {ps : List Om} (h : ORow w v ps) {i : Nat} {p : Om} (hp : ps[i]? = some p) :
    ∃ (g off cap : Nat), v = .slice (some ⟨g, off, none⟩) ps.length cap ∧ g < w.heap.size ∧ ps.length ≤ cap ∧ (∀ j u, (oc p)[j]? = some u → w.cell? ⟨g, off + i * 8 + j, none⟩ = some u) ∧ OpM w p := by
  rcases h.1 with ⟨r, cap, rfl, rfl⟩ | ⟨g, off, cap, rfl, h3, h4, h5, h6⟩
  · simp at hp
  · obtain ⟨hi, e⟩ := List.getElem?_eq_some_iff.1 hp
    exact ⟨g, off, cap, rfl, h3, h5, fun j u hu => h6 i p hp j u hu, h.2 p (by rw [← e]; exact List.getElem_mem hi)⟩
/-- An op whose parts and starts are one's own. -/
structure OpOwn (base : Nat) (w : World) (p : Om) : Prop where
  parts : w.ownsRow base 60 2 p.vP p.o.parts.length (p.o.parts.flatMap ptc)
  starts : w.ownsRow base 34 1 p.vS p.o.starts.length (p.o.starts.flatMap dcl)
  few : p.o.parts.length ≤ 8 ∧ p.o.starts.length ≤ 1000000
theorem OpOwn.opm {base : Nat} {w : World} {p : Om} (h : OpOwn base w p) : OpM w p := by
  have hf := h.few
  exact ⟨recs_of_owns (xs := p.o.parts) ptc_len h.parts rfl (by omega), recs_of_ownsT (xs := p.o.starts) dcl_len h.starts rfl (by omega)⟩
theorem OpOwn.below {base : Nat} {w w' : World} {p : Om} (h : OpOwn base w p) (hb : Below w.heap.size w w') : OpOwn base w' p := ⟨owns_below h.parts hb, owns_below h.starts hb, h.few⟩
theorem OpOwn.mono {base base' : Nat} {w : World} {p : Om} (h : OpOwn base w p) (hb : base' ≤ base) : OpOwn base' w p := ⟨owns_mono h.parts hb, owns_mono h.starts hb, h.few⟩
/-- A row of ops that is one's own, and so are their parts and starts. -/
structure OOwn (base : Nat) (w : World) (v : Value) (ps : List Om) : Prop where
  row : w.ownsRow base 38 8 v ps.length (ps.flatMap oc)
  ops : ∀ p ∈ ps, OpOwn base w p
theorem OOwn.nil (base : Nat) (w : World) : OOwn base w (.slice none 0 0) [] := ⟨⟨rfl, .inl ⟨rfl, rfl⟩⟩, fun p hp => by cases hp⟩
theorem OOwn.below {base : Nat} {w w' : World} {v : Value} {ps : List Om} (h : OOwn base w v ps) (hb : Below w.heap.size w w') : OOwn base w' v ps := ⟨owns_below h.row hb, fun p hp => (h.ops p hp).below hb⟩
theorem OOwn.orow {base : Nat} {w : World} {v : Value} {ps : List Om} (h : OOwn base w v ps) (hl : ps.length ≤ 1000) : ORow w v ps :=
  ⟨recs_of_owns oc_len h.row rfl hl, fun p hp => (h.ops p hp).opm⟩
theorem OOwn.push {base : Nat} {w w' : World} {v v' : Value} {ps : List Om} {p : Om} (h : OOwn base w v ps) (hp : OpOwn base w p) (hg : w.grownBy w' v.ownBlock)
    (ho : w'.ownsRow base 38 8 v' (ps.length + 1) (ps.flatMap oc ++ oc p)) : OOwn base w' v' (ps ++ [p]) := by
  have key : ∀ q, OpOwn base w q → OpOwn base w' q := fun q hq =>
    ⟨hq.parts.kept hg (owns_apart hq.parts h.row (by decide)), hq.starts.kept hg (owns_apart hq.starts h.row (by decide)), hq.few⟩
  refine ⟨?_, fun q hq => ?_⟩
  · rw [List.length_append, flat_snoc]
    exact ho
  · rcases List.mem_append.1 hq with h1 | h1
    · exact key q (h.ops q h1)
    · rw [List.mem_singleton] at h1
      subst h1
      exact key q hp
end Go.Proofs.YtffhnedladiaoaaGreatDoor
/- Package script: kinds' words and links; numbers; weights. -/
namespace Go.Proofs.YtffhnedladiaoaaGreatDoor
open Go.RowKit Go.Lib
set_option linter.unusedVariables false
set_option linter.unusedSimpArgs false
theorem known_s (k : Int) (w : World) : Calls Tryz.prog 119 #[.int .i64 k] w fun e w' => e = .returned (.bool (decide (0 ≤ k ∧ k < 8))) ∧ w' = w := by
  by_cases h1 : 0 ≤ k
  · by_cases h2 : k < 8
    · rw [decide_eq_true ⟨h1, h2⟩]
      go_enter Tryz.func119, Tryz.ntmps119
      go_wp2
      go_ret
      exact ⟨rfl, rfl⟩
    · rw [decide_eq_false (fun h => h2 h.2)]
      go_enter Tryz.func119, Tryz.ntmps119
      go_wp2
      go_ret
      exact ⟨rfl, rfl⟩
  · rw [decide_eq_false (fun h => h1 h.1)]
    go_enter Tryz.func119, Tryz.ntmps119
    go_wp2
    go_ret
    exact ⟨rfl, rfl⟩
theorem word_s (k : Nat) (hk : k < 8) (w : World) (h : WordTab w) : Calls Tryz.prog 95 #[.int .i64 (k : Int)] w fun e w' => e = .returned (strV (wordK k)) ∧ w' = w := by
  have c := h.word ⟨k, hk⟩
  have K := known_s (k : Int) w
  rw [decide_eq_true ⟨by omega, by omega⟩] at K
  have KK := Lib.hid K
  have e1 : (k : Int) < 8 := by omega
  simp only at c
  clear h K
  generalize strV (wordK k) = V at *
  go_enter Tryz.func95, Tryz.ntmps95
  go_wp2_with (go_at_call 119; refine KK.out.mono ?_; rintro e w1 ⟨rfl, rfl⟩)
  go_ret
  exact ⟨rfl, rfl⟩
theorem link_s (k : Nat) (hk : k < 8) (w : World) (h : WordTab w) : Calls Tryz.prog 90 #[.int .i64 (k : Int)] w fun e w' => e = .returned (strV (linkK k)) ∧ w' = w := by
  have c := h.link ⟨k, hk⟩
  have K := known_s (k : Int) w
  rw [decide_eq_true ⟨by omega, by omega⟩] at K
  have KK := Lib.hid K
  have e1 : (k : Int) < 8 := by omega
  simp only at c
  clear h K
  generalize strV (linkK k) = V at *
  go_enter Tryz.func90, Tryz.ntmps90
  go_wp2_with (go_at_call 119; refine KK.out.mono ?_; rintro e w1 ⟨rfl, rfl⟩)
  go_ret
  exact ⟨rfl, rfl⟩
theorem unit_s (k : Int) (w : World) : Calls Tryz.prog 49 #[.int .i64 k] w fun e w' => e = .returned (.bool (decide (k = 5 ∨ k = 6))) ∧ w' = w := by
  by_cases h1 : k = 5
  · subst h1
    go_enter Tryz.func49, Tryz.ntmps49
    go_wp2
    go_ret
    exact ⟨rfl, rfl⟩
  · have n1 : (k == 5) = false := by simpa using h1
    by_cases h2 : k = 6
    · subst h2
      go_enter Tryz.func49, Tryz.ntmps49
      go_wp2
      go_ret
      exact ⟨rfl, rfl⟩
    · have n2 : (k == 6) = false := by simpa using h2
      rw [decide_eq_false (by rintro (h | h); exact h1 h; exact h2 h)]
      go_enter Tryz.func49, Tryz.ntmps49
      go_wp2
      go_ret
      exact ⟨rfl, rfl⟩
theorem itoa_s (n : Nat) (hn : n < 9223372036854775808) (w : World) (hP : Pow w) : Calls Tryz.prog 17 #[.int .i64 (n : Int)] w fun e w' => e = .returned (strV (decDigits n)) ∧ Below w.heap.size w w' :=
  (Tryz.strconv_Itoa (n : Int) (by omega) (by omega) w hP).mono fun e w' ⟨he, hb⟩ => by
    refine ⟨?_, below_grow_any hb⟩
    rw [he, Lib.itoa_nonneg]
    rfl
theorem day_s (n : Int) (hn : IsDay n) (w : World) (hI : InI w) : Calls Tryz.prog 25 #[.int .i32 n] w fun e w' => e = .returned (strV (dayT n)) ∧ Below w.heap.size w w' := by
  obtain ⟨y, m, d, h1, h2, h3⟩ := dayT_of hn
  rw [h2, ← h2, h3, h2]
  exact text_right y m d w hI h1
end Go.Proofs.YtffhnedladiaoaaGreatDoor

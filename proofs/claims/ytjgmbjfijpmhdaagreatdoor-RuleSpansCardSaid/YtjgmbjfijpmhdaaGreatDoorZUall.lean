/- Books in plain words: one journal's error among those of a book. -/
import Derived.Test.YtjgmbjfijpmhdaaGreatDoorZXall
import Derived.Test.YtjgmbjfijpmhdaaGreatDoorZXg
import Derived.Test.YtjgmbjfijpmhdaaGreatDoorZNall
import Derived.Test.YtjgmbjfijpmhdaaGreatDoorZJall
import Derived.Test.YtjgmbjfijpmhdaaGreatDoorZCall
import Derived.Test.YtjgmbjfijpmhdaaGreatDoorZShelf
import Derived.Laws.RangeAny
import Derived.Shelf.Strings.SlTrimAscii
import Derived.Lib.SlTrimSet
import Derived.Lib.ConvBytes
import Derived.Lib.Bytealg
import Derived.Test.YtjgmbjfijpmhdaaGreatDoorZCk
import Derived.Deep.DeepCutAuto
import Derived.Test.YtjgmbjfijpmhdaaGreatDoorZIall
import Derived.BigQuiet
import Derived.Deep.QuietTactic
import Derived.BigRegion
import Derived.Test.YtjgmbjfijpmhdaaGreatDoorZKall
namespace Go.Proofs.YtjgmbjfijpmhdaaGreatDoor
open Go.RowKit
set_option linter.unusedVariables false
set_option linter.unusedSimpArgs false
theorem JRow.cells {w : World} {g off n cap : Nat} {vs : List Jm} (h : JRow w (.slice (some ⟨g, off, none⟩) n cap) vs) {i : Nat} {p : Jm} (hp : vs[i]? = some p) : g < w.heap.size ∧ n ≤ cap ∧ w.cell? ⟨g, off + i * 2, none⟩ = some (.int .i32 p.1) ∧ w.cell? ⟨g, off + i * 2 + 1, none⟩ = some p.2.1 ∧ Recs lc 4 w p.2.1 p.2.2 := by
  obtain ⟨g', off', cp', er, h1, h2, h3, h4, h5⟩ := h.at hp
  injection er with e1 e2 e3
  injection e1 with e1
  injection e1 with e1 e4
  subst e1 e2 e3 e4
  exact ⟨h1, h2, h3, h4, h5⟩
end Go.Proofs.YtjgmbjfijpmhdaaGreatDoor
/- Package book: is there such an account, may a line be in a frame. -/
namespace Go.Proofs.YtjgmbjfijpmhdaaGreatDoor
open Go.RowKit
set_option linter.unusedVariables false
set_option linter.unusedSimpArgs false
end Go.Proofs.YtjgmbjfijpmhdaaGreatDoor
/- Package book: the first error of what is looked at; may a frame, may a book be. -/
namespace Go.Proofs.YtjgmbjfijpmhdaaGreatDoor
open Go.RowKit
set_option linter.unusedVariables false
set_option linter.unusedSimpArgs false
end Go.Proofs.YtjgmbjfijpmhdaaGreatDoor
/- Package book: may a journal be where it is. -/
namespace Go.Proofs.YtjgmbjfijpmhdaaGreatDoor
open Go.RowKit
set_option linter.unusedVariables false
set_option linter.unusedSimpArgs false
end Go.Proofs.YtjgmbjfijpmhdaaGreatDoor
/- Package book: may its journals be, may it be. -/
namespace Go.Proofs.YtjgmbjfijpmhdaaGreatDoor
open Go.RowKit
set_option linter.unusedVariables false
set_option linter.unusedSimpArgs false
end Go.Proofs.YtjgmbjfijpmhdaaGreatDoor
/- == of accounts; slices.Equal at any accounts, at any entities. -/
namespace Go.Proofs.YtjgmbjfijpmhdaaGreatDoor
open Go.RowKit
set_option linter.unusedVariables false
set_option linter.unusedSimpArgs false
end Go.Proofs.YtjgmbjfijpmhdaaGreatDoor
/- Package book: the first and the last day; are two frames, two books the same. -/
namespace Go.Proofs.YtjgmbjfijpmhdaaGreatDoor
open Go.RowKit
set_option linter.unusedVariables false
set_option linter.unusedSimpArgs false
set_option maxHeartbeats 2000000 in
set_option maxRecDepth 100000 in
theorem days_b (vC vU vS vJ : Value) (f : Fr) (vs : List Jm) (w : World) (hJ : JRow w vJ vs) (hl : vs.length ≤ 2000) :
    Calls Tryz.prog 33 #[bkV vC vU vS f.E vJ] w fun e w' => e = .returned (.tuple #[.int .i32 ((vs.head?.map (·.1)).getD 0), .int .i32 ((vs.getLast?.map (·.1)).getD 0), .bool (decide (vs ≠ []))]) ∧ Below w.heap.size w w' := by
  unfold bkV
  generalize f.E = E
  cases vs with
  | nil =>
    obtain ⟨r, cap, rfl, _⟩ := hJ.1.form
    have hb := (Below.refl w.heap.size w).alloc (Nat.le_refl _) (.cells #[vC, vU, vS, .int .i32 E, .slice r 0 cap] 54)
    have hx := HBox.new w [vC, vU, vS, .int .i32 E, .slice r 0 cap] 54
    change HBox (w.alloc (.cells #[vC, vU, vS, .int .i32 E, .slice r 0 cap] 54)) _ _ _ at hx
    change Calls _ _ #[.agg #[vC, vU, vS, .int .i32 E, .slice r 0 cap]] _ _
    clear hJ hl
    go_enter Tryz.func33, Tryz.ntmps33
    go_upto_region 1 with fail
    generalize w.alloc (.cells #[vC, vU, vS, .int .i32 E, .slice r 0 cap] 54) = W at *
    have x4 := hx.cell (j := 4) rfl
    go_wp2_with fail
    exact bodyPost_ret (v := .tuple #[.int .i32 0, .int .i32 0, .bool false]) (by simp [results, Tryz.results33, go_sem]) rfl ⟨by simp, hb⟩
  | cons p0 rest =>
    obtain ⟨n, hn⟩ : ∃ n, rest.length = n := ⟨_, rfl⟩
    have h0 : (p0 :: rest)[0]? = some p0 := rfl
    obtain ⟨pl, hpl⟩ : ∃ q, (p0 :: rest)[n]? = some q := ⟨_, List.getElem?_eq_getElem (by simp; omega)⟩
    have hlast : (p0 :: rest).getLast? = some pl := by rw [List.getLast?_eq_getElem?, ← hpl]; simp [hn]
    obtain ⟨g, off, cp, rfl, hg, hcp, c0, _, _⟩ := hJ.at h0
    obtain ⟨hg', _, d0, _, _⟩ := hJ.cells hpl
    rw [hlast]
    have hne : decide (p0 :: rest ≠ []) = true := by simp
    rw [hne]
    have hlen : (p0 :: rest).length = n + 1 := by simp [hn]
    rw [hlen] at hcp ⊢
    rw [hlen] at hl
    simp only [Nat.zero_mul, Nat.add_zero] at c0
    simp only [List.head?_cons, Option.map_some, Option.getD_some]
    obtain ⟨da, hda⟩ : ∃ d, p0.1 = d := ⟨_, rfl⟩
    obtain ⟨db, hdb⟩ : ∃ d, pl.1 = d := ⟨_, rfl⟩
    rw [hda] at c0 ⊢
    rw [hdb] at d0 ⊢
    have hb := (Below.refl w.heap.size w).alloc (Nat.le_refl _) (.cells #[vC, vU, vS, .int .i32 E, .slice (some ⟨g, off, none⟩) (n + 1) cp] 54)
    have hx := HBox.new w [vC, vU, vS, .int .i32 E, .slice (some ⟨g, off, none⟩) (n + 1) cp] 54
    change HBox (w.alloc (.cells #[vC, vU, vS, .int .i32 E, .slice (some ⟨g, off, none⟩) (n + 1) cp] 54)) _ _ _ at hx
    have c1 := (World.cell?_alloc_lt w (.cells #[vC, vU, vS, .int .i32 E, .slice (some ⟨g, off, none⟩) (n + 1) cp] 54) ⟨g, off, none⟩ hg).trans c0
    have d1 := (World.cell?_alloc_lt w (.cells #[vC, vU, vS, .int .i32 E, .slice (some ⟨g, off, none⟩) (n + 1) cp] 54) ⟨g, off + n * 2, none⟩ hg).trans d0
    clear hJ hlast hne hlen hda hdb c0 d0 hpl h0 hn
    go_enter Tryz.func33, Tryz.ntmps33
    go_upto_region 1 with fail
    generalize w.alloc (.cells #[vC, vU, vS, .int .i32 E, .slice (some ⟨g, off, none⟩) (n + 1) cp] 54) = W at *
    have x4 := hx.cell (j := 4) rfl
    have f1 : (((n + 1 : Nat) : Int) == 0) = false := by simp; omega
    have f2 : IntKind.i64.wrap (((n + 1 : Nat) : Int) - 1) = (n : Int) := by rw [IntKind.wrap_i64]; omega
    have f3 : n < n + 1 := Nat.lt_succ_self n
    have f4 : 0 < n + 1 := Nat.succ_pos n
    obtain ⟨m, hm⟩ : ∃ m, n + 1 = m := ⟨_, rfl⟩
    rw [hm] at f1 f2 f3 f4 x4
    clear hx
    go_upto_region 3 with fail
    go_quiet (fail)
    go_wp2_with fail
    exact bodyPost_ret (v := .tuple #[.int .i32 da, .int .i32 db, .bool true]) (by simp [results, Tryz.results33, go_sem]) rfl ⟨rfl, hb.trans (below_drewQ _ _ _)⟩
end Go.Proofs.YtjgmbjfijpmhdaaGreatDoor
/- What the laws ask of book, of the landed book. -/
namespace Go.Proofs.YtjgmbjfijpmhdaaGreatDoor
open Go.RowKit
set_option linter.unusedVariables false
set_option linter.unusedSimpArgs false
end Go.Proofs.YtjgmbjfijpmhdaaGreatDoor

/- slices.Clone at amounts, and the walk of law MoneyTurns. -/
import Derived.Test.YtcfdanfebpgplaaDoorTd
import Derived.Test.YtcfdanfebpgplaaDoorTf
import Derived.Test.YtcfdanfebpgplaaDoorOa
import Derived.Test.YtcfdanfebpgplaaDoorUa
import Derived.Laws.AppendOwn
import Derived.OwnWalk
import Derived.Lib.SliceRun
namespace Go.Proofs.YtcfdanfebpgplaaDoor
open Go.RowKit Go.Lib
set_option linter.unusedVariables false
set_option linter.unusedSimpArgs false
/-- The cells of a row of amounts. -/
def ints (zs : List Int) : List Value := zs.map (Value.int .i64)
theorem ints_one (zs : List Int) : ∀ u ∈ ints zs, u.oneCell' = true := by
  intro u hu
  unfold ints at hu
  obtain ⟨z, _, rfl⟩ := List.mem_map.1 hu
  rfl
theorem ints_len (zs : List Int) : (ints zs).length = zs.length := by unfold ints; simp
theorem ints_get {zs : List Int} {j : Nat} {u : Value} (h : (ints zs)[j]? = some u) : j < zs.length ∧ u = .int .i64 (zs.getD j 0) := by
  unfold ints at h
  rw [List.getElem?_map] at h
  cases hq : zs[j]? with
  | none => rw [hq] at h; cases h
  | some z =>
    rw [hq] at h
    obtain ⟨hj, _⟩ := List.getElem?_eq_some_iff.1 hq
    refine ⟨hj, ?_⟩
    simp only [Option.map_some, Option.some.injEq] at h
    rw [← h, List.getD, hq]; rfl
theorem ints_app (a b : List Int) : ints a ++ ints b = ints (a ++ b) := by unfold ints; simp
theorem infoI : ∃ i, Tryd.prog.info? 2 = some i ∧ i.zero = some (.int .i64 0) ∧ i.size = 1 ∧ i.bytes = 8 := by
  have h : (Tryd.prog.info? 2).map (fun i => (i.zero, i.size, i.bytes)) = some (some (.int .i64 0), 1, 8) := by kernel_rfl
  cases hq : Tryd.prog.info? 2 with
  | none => rw [hq] at h; cases h
  | some i =>
    rw [hq] at h
    simp only [Option.map_some, Option.some.injEq, Prod.mk.injEq] at h
    exact ⟨i, rfl, h.1, h.2.1, h.2.2⟩
/-- What owns a row of amounts is a slice of them. -/
theorem amts_owns {w : World} {base : Nat} {v : Value} {zs : List Int} (h : w.ownsRow base 2 1 v zs.length (ints zs)) (hl : zs.length ≤ 9223372036854775807) (hw : ∀ z ∈ zs, (Lit.int .i64 z).wf = true) : Amts w v zs := by
  rcases h.2 with ⟨rfl, h0⟩ | ⟨g, cap, cur, rfl, hb, hg, hcap, _⟩
  · exact .inl ⟨none, 0, rfl, List.length_eq_zero_iff.1 h0⟩
  · refine .inr ⟨g, 0, cap, rfl, (h.lt g rfl).2, hl, hcap, fun i hi => ⟨?_, ?_⟩⟩
    · have hu : (ints zs)[i]? = some (.int .i64 (zs.getD i 0)) := by
        unfold ints
        simp [List.getD, hi]
      have := h.cells (g := g) rfl i _ hu
      rwa [Lib.add_plain] at this
    · refine hw _ ?_
      simp [List.getD, hi]
set_option maxHeartbeats 1000000 in
set_option maxRecDepth 100000 in
theorem clone_any (b off cap : Nat) (zs : List Int) (w : World) (hb : b < w.heap.size) (hl : zs.length ≤ 1000) (h0 : 0 < zs.length)
    (hz : ∀ i, i < zs.length → w.cell? ⟨b, off + i, none⟩ = some (.int .i64 (zs.getD i 0))) :
    Calls Tryd.prog 19 #[.slice (some ⟨b, off, none⟩) zs.length cap] w fun e w' => ∃ v, e = .returned v ∧ w'.ownsRow w.heap.size 2 1 v zs.length (ints zs) ∧ Below w.heap.size w w' := by
  obtain ⟨i0, hi, hz0, hz1, hz2⟩ := infoI
  have q22 : ∀ (w : World) (a : Option Addr) (n c n' c' : Nat), (binOp .eql 22 (.slice a n c) (.slice none n' c')).run Tryd.prog w = .ok (.bool a.isNone) w := fun w a n c n' c' => Lib.run_eql_slice_nil w _ _ a n c n' c' Tryd.underlying22
  go_enter Tryd.func19, Tryd.ntmps19
  have hcs : ∀ j u, (ints zs)[j]? = some u → (w.alloc (.cells #[] 2)).cell? ((⟨b, off, none⟩ : Addr).add j) = some u := fun j u hu => by
    obtain ⟨hj, rfl⟩ := ints_get hu
    rw [Lib.add_plain, World.cell?_alloc_lt _ _ _ hb]
    exact hz j hj
  have HC := Lib.hid hcs
  clear hcs hz
  go_wp2_with (at_builtin; refine wpList_append_own _ rfl (.tmp 5) (.tmp 6) 22 rfl w.heap.size 2 i0 (.int .i64 0) 1 8 Tryd.underlying22 hi hz0 hz1 hz2 rfl (by decide) _ 0 [] rfl (World.ownsRow_made w #[] 0 (Nat.le_refl _) (by decide) (by simp)) ⟨b, off, none⟩ zs.length cap (ints zs) rfl (by rw [ints_len]; omega) HC.out (ints_one zs) (by unfold maxLen; omega) (by omega) (by simp) ?_; intro v' w3 hown' hgrow3 hnil3)
  go_ret
  refine ⟨_, rfl, ?_, ?_⟩
  · simpa using hown'
  · exact ((Below.refl _ _).alloc (Nat.le_refl _) _).grown hgrow3 (by simp) (fun k hk => by have e : some w.heap.size = some k := hk; injection e with e; omega)
theorem fitV_congr {S T : Int} (h : S % 340282366920938463463374607431768211456 = T % 340282366920938463463374607431768211456) : fitV S = fitV T := by
  obtain ⟨h1, h2⟩ := same_of.2 h
  unfold fitV
  rw [h1, h2]
theorem fitV_mod {S n : Int} (h : fitV S = .tuple #[.int .i64 n, .bool true]) : n % 340282366920938463463374607431768211456 = S % 340282366920938463463374607431768211456 := by
  by_cases hf : hiW (wrap64 (loW S)) = hiW S
  · rw [fitV_yes hf] at h
    have e : wrap64 (loW S) = n := by simpa using h
    rw [← e]
    exact same_of.1 ⟨hf, lo_wrap S⟩
  · rw [fitV_no hf] at h
    simp at h
theorem amts_sub {w : World} {b off cap : Nat} {zs : List Int} (hb : b < w.heap.size) (hl : zs.length ≤ 9223372036854775807)
    (hz : ∀ i, i < zs.length → w.cell? ⟨b, off + i, none⟩ = some (.int .i64 (zs.getD i 0)) ∧ (Lit.int .i64 (zs.getD i 0)).wf = true) (j m c : Nat) (h1 : j + m ≤ zs.length) (h2 : m ≤ c) :
    Amts w (.slice (some ⟨b, off + j, none⟩) m c) ((zs.drop j).take m) := by
  have e : ((zs.drop j).take m).length = m := by rw [List.length_take, List.length_drop]; omega
  refine .inr ⟨b, off + j, c, by rw [e], hb, by rw [e]; omega, by rw [e]; exact h2, fun t ht => ?_⟩
  rw [e] at ht
  have g : ((zs.drop j).take m).getD t 0 = zs.getD (j + t) 0 := by
    simp [List.getD, List.getElem?_take, List.getElem?_drop, ht]
  rw [g, Nat.add_assoc]
  exact hz (j + t) (by omega)
theorem amts_take {w : World} {b off cap : Nat} {zs : List Int} (hb : b < w.heap.size) (hl : zs.length ≤ 9223372036854775807)
    (hz : ∀ i, i < zs.length → w.cell? ⟨b, off + i, none⟩ = some (.int .i64 (zs.getD i 0)) ∧ (Lit.int .i64 (zs.getD i 0)).wf = true) (m c : Nat) (h1 : m ≤ zs.length) (h2 : m ≤ c) :
    Amts w (.slice (some ⟨b, off, none⟩) m c) (zs.take m) := by
  have := amts_sub (cap := cap) hb hl hz 0 m c (by omega) h2
  simpa using this
theorem amts_drop {w : World} {b off cap : Nat} {zs : List Int} (hb : b < w.heap.size) (hl : zs.length ≤ 9223372036854775807)
    (hz : ∀ i, i < zs.length → w.cell? ⟨b, off + i, none⟩ = some (.int .i64 (zs.getD i 0)) ∧ (Lit.int .i64 (zs.getD i 0)).wf = true) (j c : Nat) (h1 : j ≤ zs.length) (h2 : zs.length - j ≤ c) :
    Amts w (.slice (some ⟨b, off + j, none⟩) (zs.length - j) c) (zs.drop j) := by
  have := amts_sub (cap := cap) hb hl hz j (zs.length - j) c (by omega) h2
  rwa [List.take_of_length_le (by rw [List.length_drop]; exact Nat.le_refl _)] at this
theorem slice_from (a : Addr) (n cap i : Nat) (hi : i ≤ n) (hc : i < cap) (w : World) :
    (Instr.slice 22 (.slice (some a) n cap) (some (.int .i64 (i : Int))) none none).run Tryd.prog w = .ok (.slice (some (a.add i)) (n - i) (cap - i)) w := by
  have hu : Tryd.prog.underlying 22 = some (.slice (Tryd.prog.elem 22)) := by kernel_rfl
  have hs : (sizeOf (Tryd.prog.elem 22)).run Tryd.prog w = .ok 1 w := by kernel_rfl
  rw [run_slice_l w 22 (some a) n cap hu .i64 (i : Int) (by omega) (by omega), hs]
  simp only [Result.andThen_ok, sliced, Int.toNat_natCast]
  rw [if_neg (by omega), Nat.mul_one]
  rfl
theorem slice_to (a : Addr) (n cap i : Nat) (hc : i < cap) (w : World) :
    (Instr.slice 22 (.slice (some a) n cap) none (some (.int .i64 (i : Int))) none).run Tryd.prog w = .ok (.slice (some a) i cap) w := by
  have hu : Tryd.prog.underlying 22 = some (.slice (Tryd.prog.elem 22)) := by kernel_rfl
  have hs : (sizeOf (Tryd.prog.elem 22)).run Tryd.prog w = .ok 1 w := by kernel_rfl
  rw [run_slice_h w 22 (some a) n cap hu .i64 (i : Int) (by omega) (by omega), hs]
  simp only [Result.andThen_ok, sliced, Int.toNat_natCast]
  rw [if_neg (by omega)]
  simp [Addr.add]
end Go.Proofs.YtcfdanfebpgplaaDoor

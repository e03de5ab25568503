/- Contracts of money.guess and money.Parse, for every string. -/
import Derived.Test.YtibipjncpojifaaDoorTb
import Derived.LoopTactic
namespace Go.Proofs.YtibipjncpojifaaDoor
open Go.RowKit Go.Lib
set_option linter.unusedVariables false
set_option linter.unusedSimpArgs false
theorem digs_step (s : ByteArray) (i : Nat) (h : i < s.size) : digs 0 (s.data.toList.take (i + 1)) = digs (digs 0 (s.data.toList.take i)) [s[i]] := by
  have hl : i < s.data.toList.length := by simpa using h
  rw [List.take_succ_eq_append_getElem hl, digs_app]
  rfl
theorem digs_in (D : Nat) (b : UInt8) (h : ((b.toNat : Int) - 48) % 256 ≤ 9) : IntKind.u64.wrap (IntKind.u64.wrap ((D : Int) * 10) + ((b.toNat : Int) - 48) % 256) = ((digs D [b] : Nat) : Int) := by
  have hb : b.toNat < 256 := b.toNat_lt
  simp only [digs]
  rw [if_pos (by omega)]
  simp only [IntKind.wrap_u64]; omega
theorem digs_out (D : Nat) (b : UInt8) (h : 9 < ((b.toNat : Int) - 48) % 256) : digs D [b] = D := by
  have hb : b.toNat < 256 := b.toNat_lt
  simp only [digs]
  rw [if_neg (by omega)]
theorem minus_head (l : List UInt8) : Lib.hasPrefix l [45] = decide (l.head? = some 45) := by
  cases l with
  | nil => rfl
  | cons b l =>
    have e : Lib.hasPrefix (b :: l) [45] = (45 == b) := by simp [Lib.hasPrefix, List.isPrefixOf]
    rw [e, List.head?_cons]
    by_cases h : b = 45
    · subst h; rfl
    · rw [decide_eq_false (by simpa using h)]; exact beq_eq_false_iff_ne.2 (fun x => h x.symm)
theorem guess_any (s : ByteArray) (w : World) (hs : s.size ≤ 9223372036854775807) :
    Calls Tryd.prog 46 #[.string s] w fun e w' => e = .returned (.int .i64 (guessL s.data.toList)) ∧ w = w' := by
  go_enter Tryd.func46, Tryd.ntmps46
  go_wp2
  go_loop [3, 9] (fun a d => ∃ (i : Nat), a = .int .u64 (digs 0 (s.data.toList.take i)) ∧ d = .int .i64 i ∧ i ≤ s.size) (fun a d => s.size - (RowKit.intOf d).toNat)
  case atStart => exact ⟨0, by simp [digs], rfl, Nat.zero_le _⟩
  case round =>
    obtain ⟨i, rfl, rfl, hi⟩ := hrel
    by_cases hlt : i < s.size
    · have e1 := digs_step s i hlt
      have e2 := digs_in (digs 0 (s.data.toList.take i)) s[i]
      have e3 := digs_out (digs 0 (s.data.toList.take i)) s[i]
      rw [← e1] at e2 e3
      clear e1
      go_wp2
      · have := e2 (by assumption)
        refine ⟨⟨i + 1, by first | rfl | rw [this], by go_num, by omega⟩, ?_⟩
        simp [RowKit.intOf]; omega
      · have := e3 (by assumption)
        refine ⟨⟨i + 1, by first | rfl | rw [this], by go_num, by omega⟩, ?_⟩
        simp [RowKit.intOf]; omega
    · have hn : s.data.toList.take i = s.data.toList := List.take_of_length_le (by simp; have : s.data.size = s.size := rfl; omega)
      rw [hn]
      have hi : i = s.size := by omega
      subst hi
      clear hn hlt
      go_wp2_with (go_at_call 57; refine (Tryd.strings_HasPrefix _ _ _).mono ?_; rintro e w' ⟨rfl, rfl⟩)
      · have h1 : Lib.hasPrefix s.data.toList [45] = true := by assumption
        rw [minus_head] at h1
        have h2 : guessL s.data.toList = wrap64 (-wrap64 (digs 0 s.data.toList)) := by unfold guessL; rw [if_pos (of_decide_eq_true h1)]
        go_ret
        exact ⟨by rw [h2]; rfl, rfl⟩
      · have h1 : Lib.hasPrefix s.data.toList [45] = false := by assumption
        rw [minus_head] at h1
        have h2 : guessL s.data.toList = wrap64 (digs 0 s.data.toList) := by unfold guessL; rw [if_neg (of_decide_eq_false h1)]
        go_ret
        exact ⟨by rw [h2]; rfl, rfl⟩
theorem guess_wf (l : List UInt8) : (Lit.int .i64 (guessL l)).wf = true := by
  unfold guessL
  simp only []
  split
  · exact wrap64_wf _
  · exact wrap64_wf _
theorem parse_yes (s : ByteArray) (n : Int) (w : World) (hs : s.size ≤ 9223372036854775807) (htab : Pow w) (hw : 1 < w.heap.size) (hg : guessL s.data.toList = n) (h : (⟨(textL n).toArray⟩ : ByteArray) = s) :
    Calls Tryd.prog 35 #[.string s] w fun e w' => e = .returned (.tuple #[.int .i64 n, .bool true]) ∧ Below w.heap.size w w' := by
  have hwf : (Lit.int .i64 n).wf = true := hg ▸ guess_wf _
  have c1 := guess_any s w hs
  rw [hg] at c1
  have c2 := text_any n w hwf htab hw
  rw [h] at c2
  go_enter Tryd.func35, Tryd.ntmps35
  go_wp2_with (first | (go_at_call 46; refine c1.mono ?_; rintro e w1 ⟨rfl, rfl⟩) | (go_at_call 36; refine c2.mono ?_; rintro e w2 ⟨rfl, hb⟩))
  go_ret2
  exact ⟨rfl, hb⟩
theorem bytes_ne {s t : ByteArray} (h : ¬ t = s) : (t.toList == s.toList) = false := by
  refine beq_eq_false_iff_ne.2 (fun e => h ?_)
  rw [Lib.toList_data, Lib.toList_data] at e
  exact ByteArray.ext (Array.ext' e)
theorem parse_no (s : ByteArray) (n : Int) (w : World) (hs : s.size ≤ 9223372036854775807) (htab : Pow w) (hw : 1 < w.heap.size) (hg : guessL s.data.toList = n) (h : ¬ (⟨(textL n).toArray⟩ : ByteArray) = s) :
    Calls Tryd.prog 35 #[.string s] w fun e w' => e = .returned (.tuple #[.int .i64 0, .bool false]) ∧ Below w.heap.size w w' := by
  have hwf : (Lit.int .i64 n).wf = true := hg ▸ guess_wf _
  have c1 := guess_any s w hs
  rw [hg] at c1
  have c2 := text_any n w hwf htab hw
  generalize (⟨(textL n).toArray⟩ : ByteArray) = t at *
  have hne := bytes_ne h
  go_enter Tryd.func35, Tryd.ntmps35
  go_wp2_with (first | (go_at_call 46; refine c1.mono ?_; rintro e w1 ⟨rfl, rfl⟩) | (go_at_call 36; refine c2.mono ?_; rintro e w2 ⟨rfl, hb⟩))
  go_ret2
  exact ⟨rfl, hb⟩
end Go.Proofs.YtibipjncpojifaaDoor

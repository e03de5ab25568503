/- The walk of law MoneyLong. -/
import Derived.Test.YtcfdanfebpgplaaDoorTf
import Derived.Test.YtcfdanfebpgplaaDoorTg
import Derived.Shelf.Strings.SlTrimAscii
namespace Go.Proofs.YtcfdanfebpgplaaDoor
open Go.RowKit Go.Lib
set_option linter.unusedVariables false
set_option linter.unusedSimpArgs false
theorem textL_len (n : Int) (hb : -9223372036854775808 ≤ n ∧ n < 9223372036854775808) : (textL n).length ≤ 30 := by
  unfold textL
  have := Lib.nDigits_le20 (n.natAbs / 100) (by omega)
  have h2 : (two (n.natAbs % 100)).length = 2 := rfl
  rw [List.length_append, List.length_append, Lib.decDigits_length, List.length_cons, h2]
  split <;> simp <;> omega
theorem replace_any (n : Int) (hb : -9223372036854775808 ≤ n ∧ n < 9223372036854775808) (m : Int) (w : World) (hm : w.cell? ⟨1, 0, none⟩ = some (.int .i64 m)) :
    Calls Tryd.prog 21 #[.string ⟨(textL n).toArray⟩, .string ⟨#[46]⟩, .string ⟨#[]⟩, .int .i64 1] w fun e w' => e = .returned (.string ⟨(Lib.replace (textL n) [46] [] 1).toArray⟩) ∧ Below w.heap.size w w' := by
  have hl := textL_len n hb
  have hs : (⟨(textL n).toArray⟩ : ByteArray).size = (textL n).length := by simp [ByteArray.size]
  exact Tryd.strings_Replace ⟨(textL n).toArray⟩ ⟨#[46]⟩ ⟨#[]⟩ 1 m w (by rw [hs]; omega) hm (by decide) (by
    have : (⟨#[]⟩ : ByteArray).size = 0 := rfl
    rw [hs, this, Nat.mul_zero]; omega)
theorem trim_any (l : List UInt8) (w : World) :
    Calls Tryd.prog 20 #[.string ⟨l.toArray⟩, .string ⟨#[45, 48]⟩] w fun e w' => e = .returned (.string ⟨(Lib.trimLeftS l [45, 48]).toArray⟩) ∧ Below w.heap.size w w' :=
  Any.strings_TrimLeft_laid Tryd.lays161x (by kernel_rfl) ⟨l.toArray⟩ ⟨#[45, 48]⟩ w (by decide) (fun j b hb => by
    have h : [(45 : UInt8), 48].all (fun b => decide (b.toNat < 128)) = true := by decide
    have := List.all_eq_true.1 h b (List.mem_of_getElem? hb)
    simpa using this)
theorem heads_ne (l l' : List UInt8) (b : UInt8) (h : 48 ≤ b.toNat) : ((⟨(45 :: l).toArray⟩ : ByteArray).toList == (⟨(b :: l').toArray⟩ : ByteArray).toList) = false := by
  rw [Lib.toList_data, Lib.toList_data]
  refine beq_eq_false_iff_ne.2 (fun e => ?_)
  have : (45 : UInt8) = b := by simpa using congrArg List.head? e
  rw [← this] at h
  revert h; decide
set_option maxHeartbeats 4000000 in
theorem moneylong_any (n : Int) (w : World) (htab : Pow w) (hw : 0 < w.heap.size) (hm : ∃ m, w.cell? ⟨1, 0, none⟩ = some (.int .i64 m)) (hn : (Lit.int .i32 n).wf = true) :
    Calls Tryd.prog 8 #[.int .i32 n] w fun e w' => e = .returned (.bool true) ∧ Below w.heap.size w w' := by
  obtain ⟨m, hm⟩ := hm
  have hmb : 1 < w.heap.size := World.block_lt_of_cell? w _ hm
  have hb : -2147483648 ≤ n ∧ n ≤ 2147483647 := by
    simpa [Lit.wf, IntKind.min, IntKind.max, IntKind.signed, IntKind.bits] using hn
  have w1 : (Lit.int .i64 n).wf = true := WalkArith.wf_i64 (by omega)
  have w2 : (Lit.int .i64 (n * 100)).wf = true := WalkArith.wf_i64 (by omega)
  have k1 : wrap64 n = n := by rw [w64w]; omega
  have k2 : wrap64 (n * 100) = n * 100 := by rw [w64w]; omega
  have c1 := fun (w' : World) (h1 : Pow w') (h2 : 0 < w'.heap.size) => text_any n w' w1 h1 h2
  have c2 := fun (w' : World) (h1 : Pow w') (h2 : 0 < w'.heap.size) => text_any (n * 100) w' w2 h1 h2
  have c3 := fun (w' : World) (h : Below w.heap.size w w') => replace_any n (by omega) m w' (by rw [h.cell (p := ⟨1, 0, none⟩) hmb]; exact hm)
  have hd := dec_head n.natAbs
  have L1 : (Lib.decDigits n.natAbs).length ≤ 20 := by rw [Lib.decDigits_length]; exact Lib.nDigits_le20 _ (by omega)
  have b1 := bytes_app (Lib.decDigits n.natAbs) [46, 48, 48]
  have b2 := bytes_app [45] (Lib.decDigits n.natAbs)
  have b3 := bytes_app (45 :: Lib.decDigits n.natAbs) [46, 48, 48]
  by_cases h0 : n = 0
  · subst h0
    clear hd L1 b1 b2 b3 c3
    go_enter Tryd.func8, Tryd.ntmps8
    go_wp2_with (first
      | (go_at_call 9; refine (awake2_any _ htab hw).mono ?_; rintro e w1 ⟨rfl, hb1⟩; have t1 := htab.stay hw hb1; have s1 := Nat.lt_of_lt_of_le hw hb1.size)
      | (go_at_call 18; (first
          | (refine (c2 _ t2 s2).mono ?_; rintro e w3 ⟨rfl, hb3⟩)
          | (refine (c1 _ t1 s1).mono ?_; rintro e w2 ⟨rfl, hb2⟩; have t2 := t1.stay s1 hb2; have s2 := Nat.lt_of_lt_of_le s1 hb2.size))))
    go_ret
    exact ⟨rfl, hb1.trans ((hb2.mono hb1.size).trans (hb3.mono (Nat.le_trans hb1.size hb2.size)))⟩
  · have hne : (n == 0) = false := beq_eq_false_iff_ne.2 h0
    have hu : 1 ≤ n.natAbs := by omega
    by_cases hneg : n < 0
    · rw [dot_neg hneg] at c3
      rw [hundred_neg hneg] at c2
      have c4 := fun (w' : World) => trim_any (45 :: (Lib.decDigits (n.natAbs / 100) ++ two (n.natAbs % 100))) w'
      rw [trim_minus, trim_num _ hu] at c4
      have hq : ((⟨(45 :: (Lib.decDigits n.natAbs ++ [46, 48, 48])).toArray⟩ : ByteArray).toList == (⟨(Lib.decDigits n.natAbs ++ [46, 48, 48]).toArray⟩ : ByteArray).toList) = false := by
        obtain ⟨b, l, e, h1, _⟩ := hd
        rw [e]
        exact heads_ne _ _ b h1
      generalize Lib.decDigits (n.natAbs / 100) ++ two (n.natAbs % 100) = R at *
      generalize Lib.decDigits n.natAbs = D at *
      generalize textL n = T at *
      clear hd
      go_enter Tryd.func8, Tryd.ntmps8
      go_wp2_with (first
        | (go_at_call 9; refine (awake2_any _ htab hw).mono ?_; rintro e w1 ⟨rfl, hb1⟩; have t1 := htab.stay hw hb1; have s1 := Nat.lt_of_lt_of_le hw hb1.size)
        | (go_at_call 18; (first
            | (refine (c2 _ t2 s2).mono ?_; rintro e w3 ⟨rfl, hb3⟩; have hB3 := hb1.trans ((hb2.mono hb1.size).trans (hb3.mono (Nat.le_trans hb1.size hb2.size))))
            | (refine (c1 _ t1 s1).mono ?_; rintro e w2 ⟨rfl, hb2⟩; have t2 := t1.stay s1 hb2; have s2 := Nat.lt_of_lt_of_le s1 hb2.size)))
        | (go_at_call 21; (first
            | (refine (c3 _ hB5).mono ?_; rintro e w6 ⟨rfl, hb6⟩; have hB6 := hB5.trans (hb6.mono hB5.size))
            | (refine (c3 _ hB3).mono ?_; rintro e w4 ⟨rfl, hb4⟩; have hB4 := hB3.trans (hb4.mono hB3.size))))
        | (go_at_call 20; (first
            | (refine (c4 _).mono ?_; rintro e w7 ⟨rfl, hb7⟩; have hB7 := hB6.trans (hb7.mono hB6.size))
            | (refine (c4 _).mono ?_; rintro e w5 ⟨rfl, hb5⟩; have hB5 := hB4.trans (hb5.mono hB4.size)))))
      go_ret
      exact ⟨rfl, hB7⟩
    · rw [dot_pos hneg] at c3
      rw [hundred_pos hneg] at c2
      have c4 := fun (w' : World) => trim_any (Lib.decDigits (n.natAbs / 100) ++ two (n.natAbs % 100)) w'
      rw [trim_num _ hu] at c4
      have hpos : 0 < n := by omega
      generalize Lib.decDigits (n.natAbs / 100) ++ two (n.natAbs % 100) = R at *
      generalize Lib.decDigits n.natAbs = D at *
      generalize textL n = T at *
      clear hd
      go_enter Tryd.func8, Tryd.ntmps8
      go_wp2_with (first
        | (go_at_call 9; refine (awake2_any _ htab hw).mono ?_; rintro e w1 ⟨rfl, hb1⟩; have t1 := htab.stay hw hb1; have s1 := Nat.lt_of_lt_of_le hw hb1.size)
        | (go_at_call 18; (first
            | (refine (c2 _ t2 s2).mono ?_; rintro e w3 ⟨rfl, hb3⟩; have hB3 := hb1.trans ((hb2.mono hb1.size).trans (hb3.mono (Nat.le_trans hb1.size hb2.size))))
            | (refine (c1 _ t1 s1).mono ?_; rintro e w2 ⟨rfl, hb2⟩; have t2 := t1.stay s1 hb2; have s2 := Nat.lt_of_lt_of_le s1 hb2.size)))
        | (go_at_call 21; refine (c3 _ hB3).mono ?_; rintro e w4 ⟨rfl, hb4⟩; have hB4 := hB3.trans (hb4.mono hB3.size))
        | (go_at_call 20; refine (c4 _).mono ?_; rintro e w5 ⟨rfl, hb5⟩; have hB5 := hB4.trans (hb5.mono hB4.size)))
      go_ret
      exact ⟨rfl, hB5⟩
end Go.Proofs.YtcfdanfebpgplaaDoor

/- The walk of law MoneyTexts. -/
import Derived.Test.YtcfdanfebpgplaaDoorTf
namespace Go.Proofs.YtcfdanfebpgplaaDoor
open Go.RowKit Go.Lib
set_option linter.unusedVariables false
set_option linter.unusedSimpArgs false
theorem two_dec (u : Nat) : two (u % 100) = Lib.decDigits (u / 10 % 10) ++ Lib.decDigits (u % 10) := by
  rw [Lib.decDigits_one (by omega), Lib.decDigits_one (by omega)]
  have e1 : u % 100 / 10 = u / 10 % 10 := by omega
  have e2 : u % 100 % 10 = u % 10 := by omega
  unfold two
  rw [e1, e2]
  rfl
set_option maxHeartbeats 4000000 in
theorem moneytexts_any (n : Int) (w : World) (htab : Pow w) (hw : 0 < w.heap.size) (hn : (Lit.int .i64 n).wf = true) :
    Calls Tryd.prog 5 #[.int .i64 n] w fun e w' => e = .returned (.bool true) ∧ Below w.heap.size w w' := by
  have hb := wf_bd_i64 hn
  have hp := @textL_pos n
  have hm := @textL_neg n
  have k1 := guess_text n hb
  have k2 := @size_neg n hn
  have k3 := @size_pos n hn
  have t := fun (w' : World) (h1 : Pow w') (h2 : 0 < w'.heap.size) => text_any n w' hn h1 h2
  have p := fun (w' : World) (h1 : Pow w') (h2 : 0 < w'.heap.size) => parse_yes ⟨(textL n).toArray⟩ n w' (by
    have : (textL n).length ≤ 30 := by
      unfold textL
      have := Lib.nDigits_le20 (n.natAbs / 100) (by omega)
      have h2 : (two (n.natAbs % 100)).length = 2 := rfl
      rw [List.length_append, List.length_append, Lib.decDigits_length, List.length_cons, h2]
      split <;> simp <;> omega
    show (textL n).toArray.size ≤ _
    simp; omega) h1 h2 k1 rfl
  generalize hu : n.natAbs = u at *
  have hu64 : u < 18446744073709551616 := by omega
  rw [two_dec] at hp hm
  have c1 := fun (w' : World) (h : Pow w') => fmt_int ((u : Int) / 100) (u / 100) (by omega) w' (by omega) h
  have c2 := fun (w' : World) (h : Pow w') => fmt_int ((u : Int) / 10 % 10) (u / 10 % 10) (by omega) w' (by omega) h
  have c3 := fun (w' : World) (h : Pow w') => fmt_int ((u : Int) % 10) (u % 10) (by omega) w' (by omega) h
  have L1 : (Lib.decDigits (u / 100)).length ≤ 20 := by rw [Lib.decDigits_length]; exact Lib.nDigits_le20 _ (by omega)
  have L2 : (Lib.decDigits (u / 10 % 10)).length ≤ 20 := by rw [Lib.decDigits_length]; exact Lib.nDigits_le20 _ (by omega)
  have L3 : (Lib.decDigits (u % 10)).length ≤ 20 := by rw [Lib.decDigits_length]; exact Lib.nDigits_le20 _ (by omega)
  generalize textL n = T at *
  generalize Lib.decDigits (u / 100) = A at *
  generalize Lib.decDigits (u / 10 % 10) = B at *
  generalize Lib.decDigits (u % 10) = C at *
  have b1 := bytes_app A [46]
  have b2 : (⟨(A ++ [46]).toArray⟩ : ByteArray) ++ ⟨B.toArray⟩ = ⟨(A ++ 46 :: B).toArray⟩ := by rw [bytes_app]; simp
  have b3 : (⟨(A ++ 46 :: B).toArray⟩ : ByteArray) ++ ⟨C.toArray⟩ = ⟨(A ++ 46 :: (B ++ C)).toArray⟩ := by rw [bytes_app]; simp
  by_cases h0 : n < 0
  · have hm' := hm h0
    have k2' := k2 h0
    have b4 : (⟨#[45]⟩ : ByteArray) ++ ⟨(A ++ 46 :: (B ++ C)).toArray⟩ = ⟨T.toArray⟩ := by rw [hm']; exact bytes_app [45] _
    clear hp hm k2 k3 hm' k1
    go_enter Tryd.func5, Tryd.ntmps5
    go_wp2_with (first
      | (go_at_call 9; refine (awake2_any _ htab hw).mono ?_; rintro e w1 ⟨rfl, hb1⟩; have t1 := htab.stay hw hb1; have s1 := Nat.lt_of_lt_of_le hw hb1.size)
      | (go_at_call 16; (first
          | (refine (c3 _ t3).mono ?_; rintro e w4 ⟨rfl, hb4⟩; have t4 := t3.stay s3 hb4; have s4 := Nat.lt_of_lt_of_le s3 hb4.size)
          | (refine (c2 _ t2).mono ?_; rintro e w3 ⟨rfl, hb3⟩; have t3 := t2.stay s2 hb3; have s3 := Nat.lt_of_lt_of_le s2 hb3.size)
          | (refine (c1 _ t1).mono ?_; rintro e w2 ⟨rfl, hb2⟩; have t2 := t1.stay s1 hb2; have s2 := Nat.lt_of_lt_of_le s1 hb2.size)))
      | (go_at_call 18; (first
          | (refine (t _ t6 s6).mono ?_; rintro e w7 ⟨rfl, hb7⟩)
          | (refine (t _ t4 s4).mono ?_; rintro e w5 ⟨rfl, hb5⟩; have t5 := t4.stay s4 hb5; have s5 := Nat.lt_of_lt_of_le s4 hb5.size)))
      | (go_at_call 17; refine (p _ t5 s5).mono ?_; rintro e w6 ⟨rfl, hb6⟩; have t6 := t5.stay s5 hb6; have s6 := Nat.lt_of_lt_of_le s5 hb6.size))
    go_ret
    have r1 := hb1.size
    have r2 := hb2.size
    have r3 := hb3.size
    have r4 := hb4.size
    have r5 := hb5.size
    have r6 := hb6.size
    exact ⟨rfl, hb1.trans ((hb2.mono (by omega)).trans ((hb3.mono (by omega)).trans ((hb4.mono (by omega)).trans ((hb5.mono (by omega)).trans ((hb6.mono (by omega)).trans (hb7.mono (by omega)))))))⟩
  · have hp' := hp h0
    have k3' := k3 (by omega)
    have b4 : (⟨#[]⟩ : ByteArray) ++ ⟨(A ++ 46 :: (B ++ C)).toArray⟩ = ⟨T.toArray⟩ := by rw [hp']; exact bytes_app [] _
    clear hp hm k2 k3 hp' k1
    go_enter Tryd.func5, Tryd.ntmps5
    go_wp2_with (first
      | (go_at_call 9; refine (awake2_any _ htab hw).mono ?_; rintro e w1 ⟨rfl, hb1⟩; have t1 := htab.stay hw hb1; have s1 := Nat.lt_of_lt_of_le hw hb1.size)
      | (go_at_call 16; (first
          | (refine (c3 _ t3).mono ?_; rintro e w4 ⟨rfl, hb4⟩; have t4 := t3.stay s3 hb4; have s4 := Nat.lt_of_lt_of_le s3 hb4.size)
          | (refine (c2 _ t2).mono ?_; rintro e w3 ⟨rfl, hb3⟩; have t3 := t2.stay s2 hb3; have s3 := Nat.lt_of_lt_of_le s2 hb3.size)
          | (refine (c1 _ t1).mono ?_; rintro e w2 ⟨rfl, hb2⟩; have t2 := t1.stay s1 hb2; have s2 := Nat.lt_of_lt_of_le s1 hb2.size)))
      | (go_at_call 18; (first
          | (refine (t _ t6 s6).mono ?_; rintro e w7 ⟨rfl, hb7⟩)
          | (refine (t _ t4 s4).mono ?_; rintro e w5 ⟨rfl, hb5⟩; have t5 := t4.stay s4 hb5; have s5 := Nat.lt_of_lt_of_le s4 hb5.size)))
      | (go_at_call 17; refine (p _ t5 s5).mono ?_; rintro e w6 ⟨rfl, hb6⟩; have t6 := t5.stay s5 hb6; have s6 := Nat.lt_of_lt_of_le s5 hb6.size))
    go_ret
    have r1 := hb1.size
    have r2 := hb2.size
    have r3 := hb3.size
    have r4 := hb4.size
    have r5 := hb5.size
    have r6 := hb6.size
    exact ⟨rfl, hb1.trans ((hb2.mono (by omega)).trans ((hb3.mono (by omega)).trans ((hb4.mono (by omega)).trans ((hb5.mono (by omega)).trans ((hb6.mono (by omega)).trans (hb7.mono (by omega)))))))⟩
end Go.Proofs.YtcfdanfebpgplaaDoor

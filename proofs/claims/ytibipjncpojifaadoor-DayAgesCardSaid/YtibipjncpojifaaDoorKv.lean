/- The landed day: number, Parse, and what is no day's text. -/
import Derived.Test.YtibipjncpojifaaDoorKw
import Derived.Deep.QuietTactic
import Derived.BigQuiet
namespace Go.Proofs.YtibipjncpojifaaDoor
open Go.RowKit Go.Sort Go.Lib
set_option linter.unusedVariables false
set_option linter.unusedSimpArgs false
/-- What package day's number makes of bytes. -/
def numB (l : List UInt8) : Int := l.foldl (fun n b => n * 10 + (b.toNat : Int) - 48) 0
theorem numB_snoc (l : List UInt8) (b : UInt8) : numB (l ++ [b]) = numB l * 10 + (b.toNat : Int) - 48 := by unfold numB; simp
theorem numB_bd (l : List UInt8) (h : l.length ≤ 4) : -1000000 ≤ numB l ∧ numB l ≤ 1000000 := by
  match l, h with
  | [], _ => simp [numB]
  | [a], _ => have := a.toNat_lt; simp [numB]; omega
  | [a, b], _ => have := a.toNat_lt; have := b.toNat_lt; simp [numB]; omega
  | [a, b, c], _ => have := a.toNat_lt; have := b.toNat_lt; have := c.toNat_lt; simp [numB]; omega
  | [a, b, c, d], _ => have := a.toNat_lt; have := b.toNat_lt; have := c.toNat_lt; have := d.toNat_lt; simp [numB]; omega
  | _ :: _ :: _ :: _ :: _ :: _, h => simp at h
theorem take_next (s : ByteArray) (k : Nat) (h : k < s.size) : s.data.toList.take (k + 1) = s.data.toList.take k ++ [s[k]] := by
  rw [List.take_succ_eq_append_getElem (by simpa using h)]; rfl
set_option maxHeartbeats 1000000 in
theorem daynumber_any (s : ByteArray) (w : World) (hs : s.size ≤ 4) :
    Calls Tryd.prog 21 #[.string s] w fun e w' => e = .returned (.int .i64 (numB s.data.toList)) ∧ w' = w := by
  go_enter Tryd.func21, Tryd.ntmps21
  go_wp2
  go_loop [3, 7] (fun n i => ∃ k : Nat, k ≤ s.size ∧ i = .int .i64 k ∧ n = .int .i64 (numB (s.data.toList.take k))) (fun _ i => s.size - (RowKit.intOf i).toNat)
  case atStart => exact ⟨0, Nat.zero_le _, rfl, rfl⟩
  case round =>
    obtain ⟨k, hk, rfl, rfl⟩ := hrel
    have hb := numB_bd (s.data.toList.take k) (by have := List.length_take_le k s.data.toList; omega)
    by_cases hlt : k < s.size
    · have e := numB_snoc (s.data.toList.take k) s[k]
      rw [← take_next s k hlt] at e
      have E := Lib.hid e
      have hc := (s[k]).toNat_lt
      clear e
      generalize numB (s.data.toList.take k) = q at *
      go_wp2
      go_round
      case rel => exact ⟨k + 1, by omega, by go_num, int_int (by rw [E.out])⟩
      case measure => simp [RowKit.intOf]; omega
    · go_wp2
      go_ret
      exact ⟨ret_int (by rw [List.take_of_length_le (by simp; omega)]), rfl⟩
theorem below_drewN (w : World) (k : Nat) : Below w.heap.size w (w.drewN k) := by
  refine ⟨rfl, rfl, rfl, ?_, fun j hj => ?_⟩
  · simp
  · simp
theorem parse_short (l : List UInt8) (w : World) (hm : l.length ≤ 9223372036854775807) (h : ¬ l.length = 10) :
    Calls Tryd.prog 13 #[strV l] w fun e w' => e = .returned (.tuple #[.int .i32 0, .bool false]) ∧ Below w.heap.size w w' := by
  have e0 : (⟨l.toArray⟩ : ByteArray).size = l.length := by simp [ByteArray.size]
  unfold strV
  generalize (⟨l.toArray⟩ : ByteArray) = s at *
  rw [← e0] at hm h
  clear e0
  have e1 : ((s.size : Int) != 10) = true := by simp; omega
  clear h
  go_enter Tryd.func13, Tryd.ntmps13
  go_wp2
  go_ret2
  exact ⟨rfl, Below.refl _ _⟩
set_option maxRecDepth 100000 in
theorem parse_parts (l : List UInt8) (h : l.length = 10) : ∃ p1 p2 p3 : ByteArray, p1.data.toList = l.take 4 ∧ p2.data.toList = (l.drop 5).take 2 ∧ p3.data.toList = l.drop 8 ∧ p1.size ≤ 4 ∧ p2.size ≤ 4 ∧ p3.size ≤ 4 ∧
    (∀ W : World, (Instr.slice 9 (.string ⟨l.toArray⟩) none (some (.int .i64 4)) none).run Tryd.prog W = .ok (.string p1) W) ∧
    (∀ W : World, (Instr.slice 9 (.string ⟨l.toArray⟩) (some (.int .i64 5)) (some (.int .i64 7)) none).run Tryd.prog W = .ok (.string p2) W) ∧
    (∀ W : World, (Instr.slice 9 (.string ⟨l.toArray⟩) (some (.int .i64 8)) none none).run Tryd.prog W = .ok (.string p3) W) := by
  have hs : (⟨l.toArray⟩ : ByteArray).size = 10 := by rw [← h]; simp [ByteArray.size]
  refine ⟨(⟨l.toArray⟩ : ByteArray).extract 0 4, (⟨l.toArray⟩ : ByteArray).extract 5 7, (⟨l.toArray⟩ : ByteArray).extract 8 (⟨l.toArray⟩ : ByteArray).size, ?_, ?_, ?_, ?_, ?_, ?_, fun W => ?_, fun W => ?_, fun W => ?_⟩
  · rw [Lib.extract_data]; simp
  · rw [Lib.extract_data]
  · rw [Lib.extract_data, hs]; simp; rw [List.take_of_length_le (by rw [List.length_drop]; omega)]
  · simp [hs]
  · simp [hs]
  · simp [hs]
  · rw [run_slice_string_h W 9 _ Tryd.underlying9 .i64 4 (by decide) (by omega)]; rfl
  · rw [run_slice_string W 9 _ .i64 .i64 5 7 Tryd.underlying9 (by decide) (by decide) (by omega)]; rfl
  · rw [run_slice_string_l W 9 _ Tryd.underlying9 .i64 8 (by decide) (by omega)]; rfl
set_option maxHeartbeats 1000000 in
theorem parse_wrong (l : List UInt8) (w : World) (hI : InI w) (h : l.length = 10) (hw : ¬ RightD (numB (l.take 4)) (numB ((l.drop 5).take 2)) (numB (l.drop 8))) :
    Calls Tryd.prog 13 #[strV l] w fun e w' => e = .returned (.tuple #[.int .i32 0, .bool false]) ∧ Below w.heap.size w w' := by
  obtain ⟨p1, p2, p3, d1, d2, d3, z1, z2, z3, s1, s2, s3⟩ := parse_parts l h
  have e0 : (⟨l.toArray⟩ : ByteArray).size = l.length := by simp [ByteArray.size]
  have C1 := Lib.hid (fun W => daynumber_any p1 W z1)
  have C2 := Lib.hid (fun W => daynumber_any p2 W z2)
  have C3 := Lib.hid (fun W => daynumber_any p3 W z3)
  rw [← d1, ← d2, ← d3] at hw
  have O := Lib.hid (fun (W : World) (hW : InI W) => (of_wrong _ _ _ W hW.2.2 hw).mono fun e w' ⟨a, b⟩ => (⟨a, b.symm⟩ : e = Ending.returned (.tuple #[.int .i32 0, .bool false]) ∧ w' = W))
  have hJ : ∀ k, InI (w.drewN k) := fun k => hI.stay (below_drewN w k)
  clear hw d1 d2 d3 z1 z2 z3
  generalize numB p1.data.toList = a at *
  generalize numB p2.data.toList = b at *
  generalize numB p3.data.toList = c at *
  unfold strV
  generalize (⟨l.toArray⟩ : ByteArray) = s at *
  rw [h] at e0
  have e1 : ((s.size : Int) != 10) = false := by simp; omega
  clear h e0
  have J := Lib.hid hJ
  clear hJ
  go_enter Tryd.func13, Tryd.ntmps13
  go_wp2
  go_quiet (first
    | (go_at_call_of 21 p1; exact Calls.quiet_of_same (C1.out _))
    | (go_at_call_of 21 p2; exact Calls.quiet_of_same (C2.out _))
    | (go_at_call_of 21 p3; exact Calls.quiet_of_same (C3.out _))
    | (go_at_call 9; exact Calls.quiet_of_same (O.out _ (J.out _))))
  go_wp2
  go_ret2
  exact ⟨rfl, below_drewN _ _⟩
set_option maxHeartbeats 1000000 in
theorem parse_right (l : List UInt8) (y m d : Int) (w : World) (hI : InI w) (h : l.length = 10) (hy : numB (l.take 4) = y) (hm : numB ((l.drop 5).take 2) = m) (hd : numB (l.drop 8) = d) (hw : RightD y m d) (r : Bool) (hr : (dateL y m d == l) = r) :
    Calls Tryd.prog 13 #[strV l] w fun e w' => e = .returned (.tuple #[.int .i32 (if r = true then numD y m d else 0), .bool r]) ∧ Below w.heap.size w w' := by
  obtain ⟨p1, p2, p3, d1, d2, d3, z1, z2, z3, s1, s2, s3⟩ := parse_parts l h
  have e0 : (⟨l.toArray⟩ : ByteArray).size = l.length := by simp [ByteArray.size]
  have e9 : (⟨l.toArray⟩ : ByteArray).toList = l := ByteArray.toList_mk l
  have C1 := Lib.hid (fun W => daynumber_any p1 W z1)
  have C2 := Lib.hid (fun W => daynumber_any p2 W z2)
  have C3 := Lib.hid (fun W => daynumber_any p3 W z3)
  rw [d1, hy] at C1
  rw [d2, hm] at C2
  rw [d3, hd] at C3
  have O := Lib.hid (fun (W : World) (hW : InI W) => (of_right y m d W hW.2.2 hw).mono fun e w' ⟨a, b⟩ => (⟨a, b.symm⟩ : e = Ending.returned (.tuple #[.int .i32 (numD y m d), .bool true]) ∧ w' = W))
  have T := Lib.hid (fun (W : World) (hW : InI W) => text_right y m d W hW hw)
  unfold strV at T
  have J := Lib.hid (fun k => hI.stay (below_drewN w k))
  clear hw d1 d2 d3 z1 z2 z3 hy hm hd
  generalize numD y m d = N at *
  generalize dateL y m d = D at *
  unfold strV
  generalize (⟨l.toArray⟩ : ByteArray) = s at *
  rw [h] at e0
  have e1 : ((s.size : Int) != 10) = false := by simp; omega
  clear h e0
  cases r with
  | true =>
    rw [← e9] at hr
    clear e9
    go_enter Tryd.func13, Tryd.ntmps13
    go_wp2
    go_quiet (first
      | (go_at_call_of 21 p1; exact Calls.quiet_of_same (C1.out _))
      | (go_at_call_of 21 p2; exact Calls.quiet_of_same (C2.out _))
      | (go_at_call_of 21 p3; exact Calls.quiet_of_same (C3.out _))
      | (go_at_call 9; exact Calls.quiet_of_same (O.out _ (J.out _))))
    go_wp2_with (go_at_call 15; refine (T.out _ (J.out _)).mono ?_; rintro e w1 ⟨rfl, hb1⟩)
    go_ret2
    exact ⟨rfl, (below_drewN _ _).trans (hb1.mono (below_drewN _ _).size)⟩
  | false =>
    rw [← e9] at hr
    clear e9
    go_enter Tryd.func13, Tryd.ntmps13
    go_wp2
    go_quiet (first
      | (go_at_call_of 21 p1; exact Calls.quiet_of_same (C1.out _))
      | (go_at_call_of 21 p2; exact Calls.quiet_of_same (C2.out _))
      | (go_at_call_of 21 p3; exact Calls.quiet_of_same (C3.out _))
      | (go_at_call 9; exact Calls.quiet_of_same (O.out _ (J.out _))))
    go_wp2_with (go_at_call 15; refine (T.out _ (J.out _)).mono ?_; rintro e w1 ⟨rfl, hb1⟩)
    go_ret2
    exact ⟨rfl, (below_drewN _ _).trans (hb1.mono (below_drewN _ _).size)⟩
end Go.Proofs.YtibipjncpojifaaDoor

/- Contracts of package chart's Name, of law 6's name. -/
import Derived.Test.YtdhgkggcnilgoaaGreatDoorDa
namespace Go.Proofs.YtdhgkggcnilgoaaGreatDoor
open Go.RowKit Go.Shelf
set_option linter.unusedVariables false
set_option linter.unusedSimpArgs false
theorem all_take {l : List UInt8} {k : Nat} (h : (l.take k).all signB = true) {b : UInt8} (hb : l[k]? = some b) (hs : signB b = true) : (l.take (k + 1)).all signB = true := by
  obtain ⟨hk, e⟩ := List.getElem?_eq_some_iff.1 hb
  rw [List.take_succ_eq_append_getElem hk, List.all_append, h, e]; simp [hs]
theorem all_bad {l : List UInt8} {k : Nat} {b : UInt8} (hb : l[k]? = some b) (hs : signB b = false) : nameB l = false := by
  have : l.all signB = false := by
    rw [List.all_eq_false]
    exact ⟨b, List.mem_of_getElem? hb, by simp [hs]⟩
  unfold nameB; rw [this]; simp
theorem trim_w (s : ByteArray) (w : World) (hs : s.size ≤ 9223372036854775807) :
    Calls Tryz.prog 27 #[.string s, .string ⟨#[32]⟩] w fun e w' => e = .returned (.string ⟨(Lib.trimS s.data.toList [32]).toArray⟩) ∧ Below w.heap.size w w' := by
  have h := Any.strings_Trim_laid Tryz.trim (by kernel_rfl) s ⟨#[32]⟩ w hs (by decide) (ascii_of_all (by decide))
  change Calls Tryz.prog 27 _ _ (fun e w' => e = .returned (.string ⟨(Lib.trimS s.data.toList [32]).toArray⟩) ∧ Below w.heap.size w w') at h
  exact h
theorem bw_below (w : World) (e : TypeId) (s : ByteArray) : Below w.heap.size w (Lib.bytesWorld w e s) :=
  ⟨rfl, rfl, rfl, by rw [Lib.bytesWorld_size]; omega, fun k hk => Lib.bytesWorld_at_old w e s k hk⟩
theorem tab_c (b : UInt8) (w : World) : Calls Tryz.prog 26 #[.string ⟨#[97, 98, 99, 100, 101, 102, 103, 104, 105, 106, 107, 108, 109, 110, 111, 112, 113, 114, 115, 116, 117, 118, 119, 120, 121, 122, 65, 66, 67, 68, 69, 70, 71, 72, 73, 74, 75, 76, 77, 78, 79, 80, 81, 82, 83, 84, 85, 86, 87, 88, 89, 90, 48, 49, 50, 51, 52, 53, 54, 55, 56, 57, 32, 46]⟩, .int .u8 (b.toNat : Int)] w fun e w' => e = .returned (.int .i64 (Lib.indexByte tabB b)) ∧ w' = w := by
  have h := Tryz.strings_IndexByte ⟨#[97, 98, 99, 100, 101, 102, 103, 104, 105, 106, 107, 108, 109, 110, 111, 112, 113, 114, 115, 116, 117, 118, 119, 120, 121, 122, 65, 66, 67, 68, 69, 70, 71, 72, 73, 74, 75, 76, 77, 78, 79, 80, 81, 82, 83, 84, 85, 86, 87, 88, 89, 90, 48, 49, 50, 51, 52, 53, 54, 55, 56, 57, 32, 46]⟩ (b.toNat : Int) w
  have e : ((b.toNat : Int)).toNat.toUInt8 = b := by simp
  rw [e] at h
  exact h
theorem eq_trim (s : ByteArray) (l : List UInt8) (h : s.toList = l) : ((⟨(Lib.trimS l [32]).toArray⟩ : ByteArray).toList == s.toList) = (Lib.trimS l [32] == l) := by
  rw [h, ByteArray.toList_eq]
set_option maxHeartbeats 1000000 in
set_option maxRecDepth 100000 in
theorem lname_c2 (s : ByteArray) (w : World) (hs : s.size ≤ 9223372036854775807) :
    Calls Tryz.prog 18 #[.string s] w fun e w' => e = .returned (.bool (nameB s.toList)) ∧ Below w.heap.size w w' := by
  have hconv := Lib.run_convert_string_bytes (P := Tryz.prog) w 9 57 5 s Tryz.underlying9 Tryz.underlying57 Tryz.underlying5
  have HC := Lib.hid (Lib.bytesWorld_cell w 5 s)
  have HB := Lib.hid (bw_below w 5 s)
  obtain ⟨l, hl⟩ : ∃ l, s.data.toList = l := ⟨_, rfl⟩
  have hsl : s.toList = l := by rw [ByteArray.toList_eq, hl]
  have hn : s.size = l.length := by show s.data.size = _; rw [← hl]; exact Array.length_toList.symm
  have HT := Lib.hid (fun w => trim_w s w hs)
  have HI := Lib.hid (fun (b : UInt8) (w : World) => tab_c b w)
  have HEQ := Lib.hid (eq_trim s l hsl)
  rw [hl] at HC HT
  rw [hsl]
  obtain ⟨n, hn'⟩ : ∃ n, s.size = n := ⟨_, rfl⟩
  have HN := Lib.hid (show l.length = n by omega)
  obtain ⟨q, hq⟩ : ∃ q, (Lib.trimS l [32] == l) = q := ⟨_, rfl⟩
  have HQ := Lib.hid hq
  rw [hq] at HEQ
  obtain ⟨R, hR⟩ : ∃ R, nameB l = R := ⟨_, rfl⟩
  have HR := Lib.hid hR
  rw [hR]
  generalize (⟨(Lib.trimS l [32]).toArray⟩ : ByteArray) = tr at *
  rw [hn'] at hconv HC hs
  have hsz := hn'
  clear hl hsl hn hq hR hn'
  have HSZ := Lib.hid hsz
  clear hsz
  generalize grownCap w n 0 5 = cp at *
  generalize Lib.bytesWorld w 5 s = W at *
  go_enter Tryz.func18, Tryz.ntmps18
  go_wp2
  go_loop [8] (fun i => ∃ k : Nat, k ≤ n ∧ i = .int .i64 k ∧ Hid ((l.take k).all signB = true)) (fun i => n - (intOf i).toNat)
  case atStart => exact ⟨0, Nat.zero_le _, rfl, Lib.hid rfl⟩
  case round =>
    obtain ⟨k, hk, rfl, HA⟩ := hrel
    by_cases hlt : k < n
    · have c0 := HC.out k hlt
      obtain ⟨b, hb⟩ : ∃ b, l[k]? = some b := ⟨l[k]'(by have := HN.out; omega), List.getElem?_eq_getElem (by have := HN.out; omega)⟩
      have hgd : l.getD k 0 = b := by simp [List.getD, hb]
      rw [hgd] at c0
      have hz := tab_sign b
      have KI := HI.out b W
      have HBB := Lib.hid hb
      clear hgd hb
      generalize Lib.indexByte tabB b = z at *
      have HKI := Lib.hid KI
      clear KI
      cases hsb : signB b with
      | true =>
        have HA1 := Lib.hid (all_take HA.out HBB.out hsb)
        rw [hsb] at hz
        have hz1 : 0 ≤ z := by have := of_decide_eq_false hz; omega
        clear hz hsb
        go_wp2_with (go_at_call 26; refine HKI.out.mono ?_; rintro e w1 ⟨rfl, rfl⟩)
        go_round
        case rel => exact ⟨k + 1, by omega, by go_num, HA1⟩
        case measure => simp [intOf]; omega
      | false =>
        have HE : Hid (R = false) := Lib.hid (by rw [← HR.out]; exact all_bad HBB.out hsb)
        rw [hsb] at hz
        have hz1 : z < 0 := of_decide_eq_true hz
        clear hz hsb
        go_wp2_with (go_at_call 26; refine HKI.out.mono ?_; rintro e w1 ⟨rfl, rfl⟩)
        go_ret
        exact ⟨by rw [HE.out]; rfl, HB.out⟩
    · obtain rfl : k = n := by omega
      have hall : l.all signB = true := by have := HA.out; rwa [List.take_of_length_le (by have := HN.out; omega)] at this
      by_cases h0 : k = 0
      · have HE : Hid (R = false) := Lib.hid (by rw [← HR.out]; unfold nameB; rw [decide_eq_false (by have := HN.out; omega)]; rfl)
        have hk0 : k ≤ 0 := by omega
        have hs2 := HSZ.out
        clear h0
        go_wp2
        go_ret
        exact ⟨by rw [HE.out]; rfl, HB.out⟩
      · have hk1 : 0 < k := by omega
        by_cases h31 : k < 31
        · have HE : Hid (R = q) := Lib.hid (by
            rw [← HR.out, ← HQ.out, trim_same (by have := HN.out; omega)]
            unfold nameB
            rw [hall, decide_eq_true (by have := HN.out; omega), decide_eq_true (by have := HN.out; omega)]
            simp)
          have heq := HEQ.out
          have hs2 := HSZ.out
          go_wp2_with (go_at_call 27; refine (HT.out _).mono ?_; rintro e w1 ⟨rfl, hb1⟩; have HB1 := Lib.hid (HB.out.trans (hb1.mono HB.out.size)); clear hb1)
          go_ret
          exact ⟨by rw [HE.out]; rfl, HB1.out⟩
        · have HE : Hid (R = false) := Lib.hid (by rw [← HR.out]; unfold nameB; rw [decide_eq_false (show ¬ l.length < 31 by have := HN.out; omega)]; simp)
          have hs2 := HSZ.out
          go_wp2
          go_ret
          exact ⟨by rw [HE.out]; rfl, HB.out⟩
end Go.Proofs.YtdhgkggcnilgoaaGreatDoor

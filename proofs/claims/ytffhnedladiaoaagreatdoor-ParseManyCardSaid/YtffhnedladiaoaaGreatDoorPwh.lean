/- Law ParseMany. -/
import Derived.Test.YtffhnedladiaoaaGreatDoorPdz
import Derived.Test.YtffhnedladiaoaaGreatDoorPwc
import Derived.Test.YtffhnedladiaoaaGreatDoorPqf
import Derived.Lib.Repeat
import Derived.Lib.ItoaLen
namespace Go.Proofs.YtffhnedladiaoaaGreatDoor
open Go.RowKit Go.Lib
set_option linter.unusedVariables false
set_option linter.unusedSimpArgs false
set_option maxHeartbeats 1000000 in
set_option maxRecDepth 100000 in
theorem many_c (o p n : Nat) (w : World) (hI : InS w) (ho : o < 256) (hp : p < 256) (hn : n < 4294967296) :
    Calls Tryz.prog 6 #[.int .u8 (o : Int), .int .u8 (p : Int), .int .u32 (n : Int)] w fun e w' => e = .returned (.bool true) ∧ Below w.heap.size w w' := by
  have KA := Lib.hid (awake14 parC w hI)
  have HI := Lib.hid hI
  obtain ⟨c1, hc1⟩ : ∃ c : Nat, (o : Int) % 20 = (c : Int) := ⟨o % 20, by push_cast; rfl⟩
  have hc2 : c1 < 20 := by omega
  obtain ⟨d1, hd1⟩ : ∃ c : Nat, (p : Int) % 12 = (c : Int) := ⟨p % 12, by push_cast; rfl⟩
  have hd2 : d1 < 12 := by omega
  obtain ⟨R1, hR1⟩ : ∃ x, Lib.repeatL [109, 101, 114, 103, 101, 32, 49, 32, 105, 110, 116, 111, 32, 50, 59] (90 + c1) = x := ⟨_, rfl⟩
  have l1 : R1.length = 15 * (90 + c1) := by rw [← hR1, Lib.repeatL_length, Nat.mul_comm]; rfl
  obtain ⟨R2, hR2⟩ : ∃ x, Lib.repeatL [44, 32, 51, 32, 49] d1 = x := ⟨_, rfl⟩
  have l2 : R2.length = 5 * d1 := by rw [← hR2, Lib.repeatL_length, Nat.mul_comm]; rfl
  have KR1 := fun (w' : World) => Tryz.strings_Repeat ⟨#[109, 101, 114, 103, 101, 32, 49, 32, 105, 110, 116, 111, 32, 50, 59]⟩ (90 + c1) w' (by omega) (by show 15 * (90 + c1) ≤ _; omega)
  have KR2 := fun (w' : World) => Tryz.strings_Repeat ⟨#[44, 32, 51, 32, 49]⟩ d1 w' (by omega) (by show 5 * d1 ≤ _; omega)
  rw [show (⟨#[109, 101, 114, 103, 101, 32, 49, 32, 105, 110, 116, 111, 32, 50, 59]⟩ : ByteArray).data.toList = [109, 101, 114, 103, 101, 32, 49, 32, 105, 110, 116, 111, 32, 50, 59] from rfl, hR1, show (((90 + c1 : Nat)) : Int) = 90 + (c1 : Int) by push_cast; rfl] at KR1
  rw [show (⟨#[44, 32, 51, 32, 49]⟩ : ByteArray).data.toList = [44, 32, 51, 32, 49] from rfl, hR2] at KR2
  obtain ⟨Z, hZ⟩ : ∃ x, Lib.itoa (n : Int) = x := ⟨_, rfl⟩
  have l3 : Z.length ≤ 21 := by rw [← hZ]; exact Lib.itoa_length_le (n : Int) (by omega) (by omega)
  have KZ : ∀ (w' : World), InS w' → Calls Tryz.prog 17 #[.int .i64 (n : Int)] w' fun e w2 => e = .returned (.string ⟨Z.toArray⟩) ∧ Below w'.heap.size w' w2 := fun w' h => (Tryz.strconv_Itoa (n : Int) (by omega) (by omega) w' h.1.1).mono fun e w2 ⟨he, hb⟩ => ⟨by rw [he, hZ], below_grow_any hb⟩
  have KR1 := Lib.hid KR1
  have KR2 := Lib.hid KR2
  have KZ := Lib.hid KZ
  clear hR1 hR2 hZ hI
  have f1 := bytes_app R1 [115, 112, 108, 105, 116, 32, 49, 32, 105, 110, 116, 111, 32, 50, 32, 49]
  obtain ⟨A1, g1⟩ : ∃ x, R1 ++ [115, 112, 108, 105, 116, 32, 49, 32, 105, 110, 116, 111, 32, 50, 32, 49] = x := ⟨_, rfl⟩
  have a1 : A1.length = 15 * (90 + c1) + 16 := by rw [← g1]; simp [l1]
  rw [g1] at f1
  have f2 := bytes_app A1 R2
  obtain ⟨A2, g2⟩ : ∃ x, A1 ++ R2 = x := ⟨_, rfl⟩
  have a2 : A2.length = 15 * (90 + c1) + 16 + 5 * d1 := by rw [← g2]; simp [a1, l2]
  rw [g2] at f2
  have f3 := bytes_app A2 [59]
  obtain ⟨S, g3⟩ : ∃ x, A2 ++ [59] = x := ⟨_, rfl⟩
  have a3 : S.length = 15 * (90 + c1) + 16 + 5 * d1 + 1 := by rw [← g3]; simp [a2]
  rw [g3] at f3
  have f4 := bytes_app [114, 101, 99, 111, 100, 101, 32] Z
  obtain ⟨B1, g4⟩ : ∃ x, [114, 101, 99, 111, 100, 101, 32] ++ Z = x := ⟨_, rfl⟩
  have a4 : B1.length ≤ 28 := by rw [← g4]; simp; omega
  rw [g4] at f4
  have f5 := bytes_app B1 [32, 116, 111, 32, 49, 59, 32, 109, 101, 114, 103, 101, 32]
  obtain ⟨B2, g5⟩ : ∃ x, B1 ++ [32, 116, 111, 32, 49, 59, 32, 109, 101, 114, 103, 101, 32] = x := ⟨_, rfl⟩
  have a5 : B2.length ≤ 41 := by rw [← g5]; simp; omega
  rw [g5] at f5
  have f6 := bytes_app B2 Z
  obtain ⟨B3, g6⟩ : ∃ x, B2 ++ Z = x := ⟨_, rfl⟩
  have a6 : B3.length ≤ 62 := by rw [← g6]; simp; omega
  rw [g6] at f6
  have f7 := bytes_app B3 [32, 105, 110, 116, 111, 32, 49, 59]
  obtain ⟨T, g7⟩ : ∃ x, B3 ++ [32, 105, 110, 116, 111, 32, 49, 59] = x := ⟨_, rfl⟩
  have a7 : T.length ≤ 70 := by rw [← g7]; simp; omega
  rw [g7] at f7
  have n1 : ¬ 9223372036854775807 < R1.length + 16 := by omega
  have n2 : ¬ 9223372036854775807 < A1.length + R2.length := by omega
  have n3 : ¬ 9223372036854775807 < A2.length + 1 := by omega
  have n4 : ¬ 9223372036854775807 < 7 + Z.length := by omega
  have n5 : ¬ 9223372036854775807 < B1.length + 13 := by omega
  have n6 : ¬ 9223372036854775807 < B2.length + Z.length := by omega
  have n7 : ¬ 9223372036854775807 < B3.length + 8 := by omega
  have HS := Lib.hid a3
  have HT := Lib.hid a7
  clear g1 g2 g3 g4 g5 g6 g7 l1 l2 l3 a1 a2 a3 a4 a5 a6 a7
  go_enter Tryz.func6, Tryz.ntmps6
  go_upto_region 4 with (first
    | (go_at_call 16; with_reducible refine (KR1.out _).mono ?_; rintro e w2 ⟨rfl, h2⟩; have HB2 := Lib.hid (HB1.out.trans (h2.mono HB1.out.size)); clear h2)
    | (go_at_call 16; with_reducible refine (KR2.out _).mono ?_; rintro e w3 ⟨rfl, h3⟩; have HB3 := Lib.hid (HB2.out.trans (h3.mono HB2.out.size)); clear h3)
    | (go_at_call 9; refine KA.out.mono ?_; rintro e w1 ⟨rfl, hb⟩; have HB1 := Lib.hid hb; clear hb))
  go_upto_region 5 with (go_at_call 17; first
    | (with_reducible refine (KZ.out _ (HI.out.stay HB4.out)).mono ?_; rintro e w5 ⟨rfl, h5⟩; have HB5 := Lib.hid (HB4.out.trans (h5.mono HB4.out.size)); clear h5)
    | (with_reducible refine (KZ.out _ (HI.out.stay HB3.out)).mono ?_; rintro e w4 ⟨rfl, h4⟩; have HB4 := Lib.hid (HB3.out.trans (h4.mono HB3.out.size)); clear h4))
  clear f1 f2 f3 f4 f5 f6 f7 n1 n2 n3 n4 n5 n6 n7 KR1 KR2 KZ KA
  have hsl := HS.out
  have q1 : 15 * (90 + (c1 : Int)) ≤ (S.length : Int) := by omega
  go_wp2_with fail
  have x3s : ((⟨S.toArray⟩ : ByteArray).extract (15 * (90 + c1)) (15 * (90 + c1) + 16 + 5 * d1 + 1)).size ≤ 10000 := by
    simp only [ByteArray.size_extract]
    have : (⟨S.toArray⟩ : ByteArray).size = S.length := rfl
    omega
  generalize (⟨S.toArray⟩ : ByteArray).extract (15 * (90 + c1)) (15 * (90 + c1) + 16 + 5 * d1 + 1) = X3 at *
  have hbl := (Below.refl w5.heap.size w5).alloc (Nat.le_refl _) (.cells #[.string ⟨S.toArray⟩, .string ⟨T.toArray⟩, .string X3] 9)
  have HBX : Hid (HBox (w5.alloc (.cells #[.string ⟨S.toArray⟩, .string ⟨T.toArray⟩, .string X3] 9)) w5.heap.size [.string ⟨S.toArray⟩, .string ⟨T.toArray⟩, .string X3] 9) := Lib.hid (HBox.new w5 [.string ⟨S.toArray⟩, .string ⟨T.toArray⟩, .string X3] _)
  have HB6 := Lib.hid (HB5.out.trans (hbl.mono HB5.out.size))
  generalize w5.alloc (.cells #[.string ⟨S.toArray⟩, .string ⟨T.toArray⟩, .string X3] 9) = W6 at *
  generalize w5.heap.size = F at *
  have HXS : Hid (∀ j, j < 3 → ∃ x : ByteArray, ([.string ⟨S.toArray⟩, .string ⟨T.toArray⟩, .string X3] : List Value)[j]? = some (.string x) ∧ x.size ≤ 10000) := Lib.hid (fun j hj => by
    have e1 : (⟨S.toArray⟩ : ByteArray).size = S.length := rfl
    have e2 : (⟨T.toArray⟩ : ByteArray).size = T.length := rfl
    have := HS.out
    have := HT.out
    rcases (by omega : j = 0 ∨ j = 1 ∨ j = 2) with rfl | rfl | rfl
    · exact ⟨_, rfl, by omega⟩
    · exact ⟨_, rfl, by omega⟩
    · exact ⟨_, rfl, x3s⟩)
  clear hbl x3s q1 hsl
  rw [hc1]
  clear hc1 hd1
  go_loopw [52] (fun i wr => ∃ j : Nat, i = .int .i64 (j : Int) ∧ j ≤ 3 ∧ Hid (HBox wr F [.string ⟨S.toArray⟩, .string ⟨T.toArray⟩, .string X3] 9) ∧ Hid (Below w.heap.size w wr)) (fun i _ => 3 - (RowKit.intOf i).toNat)
  case atStart => exact ⟨0, rfl, by omega, HBX, HB6⟩
  case round =>
    clear HBX HB6
    obtain ⟨j, rfl, hj, HBX, HB⟩ := hrel
    rename World => wr
    by_cases hlt : j < 3
    · have t1 : decide ((j : Int) < 3) = true := decide_eq_true (by omega)
      obtain ⟨x, hx, hsz⟩ := HXS.out j hlt
      have cx := HBX.out.cell hx
      have K1 := fun (w' : World) (h : Below w.heap.size w w') => parC.parse x w' (HI.out.stay h) (by omega)
      have K2 := fun (w' : World) (h : Below w.heap.size w w') => lparse_c dayC x w' (HI.out.stay h).1 hsz
      obtain ⟨p, hp⟩ : ∃ p, prsT x.data.toList = p := ⟨_, rfl⟩
      rw [hp] at K1 K2
      obtain ⟨ls, pl, cd⟩ := p
      unfold PrsR at K1 K2
      simp only at K1 K2
      have K1 := Lib.hid K1
      have K2 := Lib.hid K2
      clear hp hsz hx
      go_wp2_with (first
        | (go_at_call 13; refine (same14 _ _ _ _ _ HR2.out HR3.out (HP2.out.trans HP3.out.symm)).mono ?_; rintro e w4 ⟨rfl, h4⟩; have HB4 := Lib.hid (HB3.out.trans (h4.mono HB3.out.size)); have HX4 := Lib.hid (HX3.out.stay h4); clear h4)
        | (go_at_call 15; refine (K2.out _ HB2.out).mono ?_; rintro e w3 ⟨q3, c3, ps3, rfl, hr, hp, h3⟩; have HR2 := Lib.hid (HR1.out.stay h3); have HR3 := Lib.hid hr; have HP3 := Lib.hid hp; have HB3 := Lib.hid (HB2.out.trans (h3.mono HB2.out.size)); have HX3 := Lib.hid (HX2.out.stay h3); clear h3 hr hp)
        | (go_at_call 12; refine (K1.out _ HB.out).mono ?_; rintro e w2 ⟨q2, c2, ps2, rfl, hr, hp, h2⟩; have HR1 := Lib.hid hr; have HP2 := Lib.hid hp; have HB2 := Lib.hid (HB.out.trans (h2.mono HB.out.size)); have HX2 := Lib.hid (HBX.out.stay h2); clear h2 hr hp))
      go_roundw
      case rel => exact ⟨j + 1, by go_num, by omega, HX4, HB4⟩
      case measure => simp [RowKit.intOf]; omega
    · obtain rfl : j = 3 := by omega
      go_wp2_with fail
      go_ret
      exact ⟨rfl, HB.out⟩
end Go.Proofs.YtffhnedladiaoaaGreatDoor

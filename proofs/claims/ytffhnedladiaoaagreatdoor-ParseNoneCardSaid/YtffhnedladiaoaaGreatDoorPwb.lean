/- Law ParseNone. -/
import Derived.Test.YtffhnedladiaoaaGreatDoorPdz
import Derived.Test.YtffhnedladiaoaaGreatDoorPsi
import Derived.Test.YtffhnedladiaoaaGreatDoorJall
import Derived.Lib.ConvBytes
import Derived.Lib.AtoiErrMem
namespace Go.Proofs.YtffhnedladiaoaaGreatDoor
open Go.RowKit Go.Lib
set_option linter.unusedVariables false
set_option linter.unusedSimpArgs false
def lowOf (b : UInt8) : UInt8 := UInt8.ofNat (97 + b.toNat % 26)
theorem lowOf_low : ∀ b : UInt8, lowB (lowOf b) = true := fun b => by
  have h : ∀ r : Fin 26, lowB (UInt8.ofNat (97 + r.val)) = true := by decide
  exact h ⟨b.toNat % 26, Nat.mod_lt _ (by omega)⟩
theorem rune_low (x : Nat) : Utf8.encode (97 + (x : Int) % 26) = ⟨#[UInt8.ofNat (97 + x % 26)]⟩ := by
  have h : ∀ r : Fin 26, Utf8.encode (97 + (r.val : Int)) = ⟨#[UInt8.ofNat (97 + r.val)]⟩ := by decide
  have e : (x : Int) % 26 = ((x % 26 : Nat) : Int) := by omega
  rw [e]
  exact h ⟨x % 26, Nat.mod_lt _ (by omega)⟩
theorem gapT_len (n : List UInt8) (k : Nat) : (gapT n k).length ≤ n.length + 2 := by
  unfold gapT
  split
  · simp
  · simp
  · simp [noteT]
theorem gapsT_snoc (n : List UInt8) {l : List Nat} {k c : Nat} (h : l[k]? = some c) : gapsT n (l.take (k + 1)) = gapsT n (l.take k) ++ gapT n c := by
  unfold gapsT
  rw [List.take_add_one, h, List.flatMap_append]
  simp
theorem bytesP (a b : List UInt8) : (⟨a.toArray⟩ : ByteArray) ++ ⟨b.toArray⟩ = ⟨(a ++ b).toArray⟩ := by
  apply ByteArray.ext
  simp
theorem mod3I (c r : Nat) (h : c % 3 = r) : (c : Int) % 3 = (r : Int) := by omega
theorem notNl_of {l : List UInt8} (h : Lib.indexByte l 10 < 0) : ∀ c ∈ l, notNl c = true := fun c hc => by
  have := (idx_neg 10 l).1 h
  unfold notNl
  rw [bne_iff_ne]
  rintro rfl
  exact this hc
set_option maxHeartbeats 4000000 in
set_option maxRecDepth 100000 in
theorem none_main (PC : ParC) (v : Value) (gs : List Nat) (N Wd : List UInt8) (w : World) (hI : InS w) (hG : Recs u8c 1 w v gs) (hg : ∀ c ∈ gs, c < 256) (hL : gs.length ≤ 30) (hN : N.length ≤ 30) (hW : Wd.length ≤ 20) (hc : Lib.indexByte N 10 < 0) :
    Calls Tryz.prog 8 #[v, .string ⟨N.toArray⟩, .string ⟨Wd.toArray⟩] w fun e w' => e = .returned (.bool true) ∧ Below w.heap.size w w' := by
  obtain ⟨r0, cap0, rfl, _⟩ := hG.form
  have KA := Lib.hid (awake14 PC w hI)
  have HNL := Lib.hid (notNl_of hc)
  have hcd : decide (0 ≤ Lib.indexByte N 10) = false := decide_eq_false (by omega)
  have KC := fun (W' : World) => Tryz.strings_Contains_one ⟨N.toArray⟩ 10 W'
  simp only [hcd] at KC
  have KC := Lib.hid KC
  have HI := Lib.hid hI
  have HR := Lib.hid hG
  have HGB := Lib.hid hg
  have HPC := Lib.hid PC
  obtain ⟨L, hLe⟩ : ∃ L, gs.length = L := ⟨_, rfl⟩
  rw [hLe] at hL ⊢
  have HL := Lib.hid hLe
  obtain ⟨M, hM⟩ : ∃ M, N.length = M := ⟨_, rfl⟩
  have HM := Lib.hid hM
  obtain ⟨Q, hQ⟩ : ∃ Q, Wd.length = Q := ⟨_, rfl⟩
  have HQ := Lib.hid hQ
  have z1 : (⟨N.toArray⟩ : ByteArray).size = M := by rw [← hM]; rfl
  have z2 : (⟨Wd.toArray⟩ : ByteArray).size = Q := by rw [← hQ]; rfl
  have e1 : ¬ (30 : Int) < (L : Int) := by omega
  have e2 : ¬ (30 : Int) < (M : Int) := by omega
  have e3 : ¬ (20 : Int) < (Q : Int) := by omega
  rw [hM] at hN
  rw [hQ] at hW
  clear PC hI hG hg hc hLe hM hQ hcd
  go_enter Tryz.func8, Tryz.ntmps8
  go_upto_region 5 with (first
    | (go_at_call 18; refine (KC.out _).mono ?_; rintro e w5 ⟨rfl, h5⟩; obtain rfl : w4 = w5 := h5.symm)
    | (go_at_call 9; refine KA.out.mono ?_; rintro e w4 ⟨rfl, h4⟩; have HB4 := Lib.hid h4; clear h4))
  clear KA KC e1 e2 e3
  go_wp2_with fail
  go_loopw [7, 40] (fun s i wr => ∃ (k : Nat) (O : List UInt8), s = .string ⟨O.toArray⟩ ∧ i = .int .i64 (k : Int) ∧ k ≤ L ∧ O.length ≤ 32 * k ∧ Hid (O = gapsT N (gs.take k)) ∧ Hid (Below w.heap.size w wr)) (fun _ i _ => L - (RowKit.intOf i).toNat)
  case atStart => exact ⟨0, [], rfl, rfl, Nat.zero_le _, by simp, Lib.hid rfl, HB4⟩
  case round =>
    obtain ⟨k, O, rfl, rfl, hk, hOl, HO, HB⟩ := hrel
    rename World => wr
    by_cases hlt : k < L
    · obtain ⟨c, hc⟩ : ∃ c, gs[k]? = some c := ⟨gs[k]'(by have := HL.out; omega), List.getElem?_eq_getElem (by have := HL.out; omega)⟩
      have hc256 := HGB.out c (List.mem_of_getElem? hc)
      obtain ⟨g, off, hr0, _, hcx⟩ := (HR.out.stay HB.out).at hc
      subst hr0
      have y0 := hcx 0 _ rfl
      simp only [Nat.mul_one, Nat.add_zero] at y0
      have HSN := Lib.hid (gapsT_snoc N hc)
      have hE := gapT_len N c
      have u1 := bytesP [35] N
      have u2 := bytesP (35 :: N) [10]
      have HNT : Hid (35 :: N ++ [10] = noteT N) := Lib.hid rfl
      have s1 : ¬ 9223372036854775807 < 1 + N.length := by have := HM.out; omega
      have s2 : ¬ 9223372036854775807 < N.length + 1 + 1 := by have := HM.out; omega
      have hm3 : c % 3 = 0 ∨ c % 3 = 1 ∨ c % 3 = 2 := by omega
      have HGT : Hid (O ++ gapT N c = gapsT N (gs.take (k + 1))) := Lib.hid (by rw [HSN.out, ← HO.out])
      have HEL : Hid ((O ++ gapT N c).length ≤ 32 * (k + 1)) := Lib.hid (by rw [List.length_append]; have := HM.out; omega)
      clear hcx hc HSN hE
      rcases hm3 with h3 | h3 | h3
      all_goals
        have h3i := mod3I c _ h3
      · have hgt : gapT N c = [32] := by unfold gapT; rw [h3]; rfl
        rw [hgt] at HGT HEL
        have u3 := bytesP O [32]
        have s3 : ¬ 9223372036854775807 < O.length + 1 := by omega
        clear hgt h3
        go_wp2_with fail
        go_roundw
        case rel => exact ⟨k + 1, O ++ [32], rfl, by go_num, by omega, HEL.out, HGT, Lib.hid (HB.out.alloc HB.out.size _)⟩
        case measure => simp [RowKit.intOf]; omega
      · have hgt : gapT N c = [10] := by unfold gapT; rw [h3]; rfl
        rw [hgt] at HGT HEL
        have u3 := bytesP O [10]
        have s3 : ¬ 9223372036854775807 < O.length + 1 := by omega
        clear hgt h3
        go_wp2_with fail
        go_roundw
        case rel => exact ⟨k + 1, O ++ [10], rfl, by go_num, by omega, HEL.out, HGT, Lib.hid (HB.out.alloc HB.out.size _)⟩
        case measure => simp [RowKit.intOf]; omega
      · have hgt : gapT N c = 35 :: N ++ [10] := by unfold gapT; rw [h3]; rfl
        rw [hgt] at HGT HEL
        have u3 := bytesP O (35 :: N ++ [10])
        have s3 : ¬ 9223372036854775807 < O.length + (N.length + 1 + 1) := by have := HM.out; omega
        clear hgt h3
        go_wp2_with fail
        go_roundw
        case rel => exact ⟨k + 1, O ++ (35 :: N ++ [10]), rfl, by go_num, by omega, HEL.out, HGT, Lib.hid (HB.out.alloc HB.out.size _)⟩
        case measure => simp [RowKit.intOf]; omega
    · obtain rfl : k = L := by omega
      have hS := HO.out
      rw [List.take_of_length_le (by have := HL.out; omega)] at hS
      have hl1 : (gapsT N gs).length ≤ 65536 := by rw [← hS]; omega
      have KP1 : Hid (∀ w', Below w.heap.size w w' → Calls Tryz.prog 12 #[.string ⟨O.toArray⟩] w' fun e w2 => (∃ q cap, e = .returned (.tuple #[.slice q 0 cap, .int .i64 0, .int .i64 0])) ∧ Below w'.heap.size w' w2) := Lib.hid (fun w' hb => by
        refine (HPC.out.parse ⟨O.toArray⟩ w' (HI.out.stay hb) (by show O.length ≤ 100000; omega)).mono ?_
        rintro e w2 ⟨q, cap, ps, rfl, _, _, hb2⟩
        have : prsT (⟨O.toArray⟩ : ByteArray).data.toList = ([], 0, 0) := by show prsT O = _; rw [hS]; exact prs_gaps HNL.out gs hl1
        rw [this]
        exact ⟨⟨q, cap, rfl⟩, hb2⟩)
      have KP2 : Hid (∀ (W : List UInt8), (∀ c ∈ W, lowB c = true) → W.length ≤ 20 → ∀ w', Below w.heap.size w w' → Calls Tryz.prog 12 #[.string ⟨(O ++ (120 :: W)).toArray⟩] w' fun e w2 => (∃ q cap, e = .returned (.tuple #[.slice q 0 cap, .int .i64 (O.length : Int), .int .i64 17])) ∧ Below w'.heap.size w' w2) := Lib.hid (fun W hW hW2 w' hb => by
        have hl2 : (O ++ (120 :: W)).length ≤ 65536 := by simp; omega
        refine (HPC.out.parse ⟨(O ++ (120 :: W)).toArray⟩ w' (HI.out.stay hb) (by show (O ++ (120 :: W)).length ≤ 100000; omega)).mono ?_
        rintro e w2 ⟨q, cap, ps, rfl, _, _, hb2⟩
        have : prsT (⟨(O ++ (120 :: W)).toArray⟩ : ByteArray).data.toList = ([], O.length, 17) := by
          show prsT (O ++ 120 :: W) = _
          rw [hS] at hl2 ⊢
          exact prs_word HNL.out gs hW hl2
        rw [this]
        exact ⟨⟨q, cap, rfl⟩, hb2⟩)
      have hcv := fun W => Lib.run_convert_string_bytes (P := Tryz.prog) W 9 27 5 ⟨Wd.toArray⟩ Tryz.underlying9 Tryz.underlying27 Tryz.underlying5
      rw [z2] at hcv
      have hzs : (⟨O.toArray⟩ : ByteArray).size = O.length := rfl
      clear hS hl1 HO HL HR HGB z1
      go_upto_region 12 with (go_at_call 12; refine (KP1.out _ HB.out).mono ?_; rintro e w5 ⟨⟨q1, cap1, rfl⟩, h5⟩; have HB5 := Lib.hid (HB.out.trans (h5.mono HB.out.size)); clear h5)
      have HB6 := Lib.hid (HB5.out.trans ((Lib.bytesWorld_below w5 5 ⟨Wd.toArray⟩).mono HB5.out.size))
      have HC6 : Hid (∀ j x, Wd[j]? = some x → (Lib.bytesWorld w5 5 ⟨Wd.toArray⟩).cell? ⟨w5.heap.size, j, none⟩ = some (.int .u8 (x.toNat : Int))) := Lib.hid (fun j x hx => by
        have hj : j < (⟨Wd.toArray⟩ : ByteArray).size := by rw [z2, ← HQ.out]; exact (List.getElem?_eq_some_iff.1 hx).1
        rw [Lib.bytesWorld_cell w5 _ _ j hj]
        simp [List.getD, hx])
      go_wp2_with fail
      generalize Lib.bytesWorld w5 5 ⟨Wd.toArray⟩ = W6 at *
      generalize w5.heap.size = Y at *
      clear hcv HB5 KP1
      go_loop [13, 64] (fun s i => ∃ (j : Nat) (U : List UInt8), s = .string ⟨(120 :: U).toArray⟩ ∧ i = .int .i64 (j : Int) ∧ j ≤ Q ∧ U.length = j ∧ Hid (∀ c ∈ U, lowB c = true)) (fun _ i => Q - (RowKit.intOf i).toNat)
      case atStart => exact ⟨0, [], rfl, rfl, Nat.zero_le _, rfl, Lib.hid (fun c hc => by cases hc)⟩
      case round =>
        obtain ⟨j, U, rfl, rfl, hj, hUl, HU⟩ := hrel
        by_cases hlt2 : j < Q
        · obtain ⟨x, hx⟩ : ∃ x, Wd[j]? = some x := ⟨Wd[j]'(by have := HQ.out; omega), List.getElem?_eq_getElem (by have := HQ.out; omega)⟩
          have y0 := HC6.out j x hx
          have hx8 := x.toNat_lt
          have hl := lowOf_low x
          have hr := rune_low x.toNat
          have HU2 : Hid (∀ c ∈ U ++ [lowOf x], lowB c = true) := Lib.hid (fun c hc => by
            rcases List.mem_append.1 hc with h | h
            · exact HU.out c h
            · rw [List.mem_singleton] at h; subst h; exact hl)
          unfold lowOf at HU2
          have w1 : IntKind.u8.wrap (97 + (x.toNat : Int) % 26) = 97 + (x.toNat : Int) % 26 := by rw [IntKind.wrap_u8]; omega
          have w2 : IntKind.i32.wrap (97 + (x.toNat : Int) % 26) = 97 + (x.toNat : Int) % 26 := by rw [IntKind.wrap_i32]; omega
          have u1 := bytesP (120 :: U) [UInt8.ofNat (97 + x.toNat % 26)]
          have s3 : ¬ 9223372036854775807 < U.length + 1 + 1 := by omega
          obtain ⟨m, hm⟩ : ∃ m, U.length = m := ⟨_, rfl⟩
          generalize UInt8.ofNat (97 + x.toNat % 26) = lc at *
          clear hx hl
          go_wp2_with fail
          exact ⟨⟨j + 1, U ++ [lc], rfl, by go_num, by omega, by simp; omega, HU2⟩, by simp [RowKit.intOf]; omega⟩
        · have K2 := Lib.hid (KP2.out U HU.out (by omega) W6 HB6.out)
          have u1 := bytesP O (120 :: U)
          have s3 : ¬ 9223372036854775807 < O.length + (U.length + 1) := by omega
          clear KP2
          go_wp2_with (go_at_call 12; refine K2.out.mono ?_; rintro e w7 ⟨⟨q2, cap2, rfl⟩, h7⟩; have HB7 := Lib.hid (HB6.out.trans (h7.mono HB6.out.size)); clear h7)
          go_ret
          exact ⟨rfl, HB7.out⟩
/-- Law ParseNone, of any arguments. -/
theorem none_early (PC : ParC) (v : Value) (gs : List Nat) (N Wd : List UInt8) (w : World) (hI : InS w) (hG : Recs u8c 1 w v gs) (hg : ∀ c ∈ gs, c < 256) (hz : gs.length ≤ 9223372036854775807 ∧ N.length ≤ 9223372036854775807 ∧ Wd.length ≤ 9223372036854775807)
    (h : ¬ (gs.length ≤ 30 ∧ N.length ≤ 30 ∧ Wd.length ≤ 20 ∧ Lib.indexByte N 10 < 0)) :
    Calls Tryz.prog 8 #[v, .string ⟨N.toArray⟩, .string ⟨Wd.toArray⟩] w fun e w' => e = .returned (.bool true) ∧ Below w.heap.size w w' := by
  obtain ⟨r0, cap0, rfl, _⟩ := hG.form
  have KA := Lib.hid (awake14 PC w hI)
  have KC := Lib.hid (fun (W' : World) => Tryz.strings_Contains_one ⟨N.toArray⟩ 10 W')
  obtain ⟨L, hLe⟩ : ∃ L, gs.length = L := ⟨_, rfl⟩
  obtain ⟨M, hM⟩ : ∃ M, N.length = M := ⟨_, rfl⟩
  obtain ⟨Q, hQ⟩ : ∃ Q, Wd.length = Q := ⟨_, rfl⟩
  have z1 : (⟨N.toArray⟩ : ByteArray).size = M := by rw [← hM]; rfl
  have z2 : (⟨Wd.toArray⟩ : ByteArray).size = Q := by rw [← hQ]; rfl
  obtain ⟨D, hD⟩ : ∃ D, decide (0 ≤ Lib.indexByte N 10) = D := ⟨_, rfl⟩
  have hd : D = false → Lib.indexByte N 10 < 0 := fun e => by rw [← hD] at e; have := of_decide_eq_false e; omega
  have KC2 : Hid (∀ W', Calls Tryz.prog 18 #[.string ⟨N.toArray⟩, .string ⟨#[10]⟩] W' fun e w' => e = .returned (.bool D) ∧ w' = W') := Lib.hid (fun W' => by rw [← hD]; exact KC.out W')
  have hor : decide ((30 : Int) < (L : Int)) = true ∨ (decide ((30 : Int) < (L : Int)) = false ∧ decide ((30 : Int) < (M : Int)) = true) ∨ (decide ((30 : Int) < (L : Int)) = false ∧ decide ((30 : Int) < (M : Int)) = false ∧ D = true) ∨ (decide ((30 : Int) < (L : Int)) = false ∧ decide ((30 : Int) < (M : Int)) = false ∧ D = false ∧ decide ((20 : Int) < (Q : Int)) = true) := by
    by_cases a : 30 < L
    · exact .inl (decide_eq_true (by omega))
    by_cases b : 30 < M
    · exact .inr (.inl ⟨decide_eq_false (by omega), decide_eq_true (by omega)⟩)
    cases D with
    | true => exact .inr (.inr (.inl ⟨decide_eq_false (by omega), decide_eq_false (by omega), rfl⟩))
    | false =>
      have := hd rfl
      exact .inr (.inr (.inr ⟨decide_eq_false (by omega), decide_eq_false (by omega), rfl, decide_eq_true (by omega)⟩))
  rw [hLe]
  clear h hd hD KC hI hG hg hLe hM hQ hz
  rcases hor with t1 | ⟨t1, t2⟩ | ⟨t1, t2, rfl⟩ | ⟨t1, t2, rfl, t3⟩
  all_goals
    go_enter Tryz.func8, Tryz.ntmps8
    go_wp2_with (first
      | (go_at_call 18; refine (KC2.out _).mono ?_; rintro e w5 ⟨rfl, h5⟩; obtain rfl : w4 = w5 := h5.symm)
      | (go_at_call 9; refine KA.out.mono ?_; rintro e w4 ⟨rfl, h4⟩; have HB4 := Lib.hid h4; clear h4))
    go_ret
    exact ⟨rfl, HB4.out⟩
theorem none_c (PC : ParC) (v : Value) (gs : List Nat) (note word : ByteArray) (w : World) (hI : InS w) (hG : Recs u8c 1 w v gs) (hg : ∀ c ∈ gs, c < 256) (h1 : note.size ≤ 9223372036854775807) (h2 : word.size ≤ 9223372036854775807) :
    Calls Tryz.prog 8 #[v, .string note, .string word] w fun e w' => e = .returned (.bool true) ∧ Below w.heap.size w w' := by
  obtain ⟨N, rfl⟩ : ∃ N : List UInt8, note = ⟨N.toArray⟩ := ⟨note.data.toList, by simp⟩
  obtain ⟨Wd, rfl⟩ : ∃ N : List UInt8, word = ⟨N.toArray⟩ := ⟨word.data.toList, by simp⟩
  by_cases h : gs.length ≤ 30 ∧ N.length ≤ 30 ∧ Wd.length ≤ 20 ∧ Lib.indexByte N 10 < 0
  · exact none_main PC v gs N Wd w hI hG hg h.1 h.2.1 h.2.2.1 h.2.2.2
  · exact none_early PC v gs N Wd w hI hG hg ⟨hG.form.elim fun _ ⟨_, _, h⟩ => h, h1, h2⟩ h
end Go.Proofs.YtffhnedladiaoaaGreatDoor

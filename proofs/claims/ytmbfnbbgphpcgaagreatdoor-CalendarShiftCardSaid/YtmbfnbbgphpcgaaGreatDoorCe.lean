/- Contracts of the library's search by halving at accounts, of Find, Get; of law 6's get. -/
import Derived.Test.YtmbfnbbgphpcgaaGreatDoorCd
import Derived.LoopTactic
import Derived.Outline
namespace Go.Proofs.YtmbfnbbgphpcgaaGreatDoor
open Go.RowKit
set_option linter.unusedVariables false
set_option linter.unusedSimpArgs false
theorem getA_below {c : List Ac} (h : RiseA c) (n : Nat) {a : Ac} (ha : c[belowA c n]? = some a) : (getA c n).isSome = decide (a.code = n) := by
  by_cases hn : a.code = n
  · rw [decide_eq_true hn]
    rw [← hn, getA_mem h (List.mem_of_getElem? ha)]; rfl
  · rw [decide_eq_false hn]
    cases e : getA c n with
    | none => rfl
    | some b =>
      have h1 := (out_parts h e).1
      rw [ha] at h1
      cases h1
      exact absurd (getA_some e).2 hn
theorem getA_end {c : List Ac} (h : RiseA c) (n : Nat) (ha : c.length ≤ belowA c n) : (getA c n).isSome = false := by
  cases e : getA c n with
  | none => rfl
  | some b =>
    have h1 := (out_parts h e).1
    have := (List.getElem?_eq_some_iff.1 h1).1
    omega
theorem Recs.cells4 {c : List Ac} {w : World} {g off i : Nat} {x : Ac} (h : ∀ j u, (cc x)[j]? = some u → w.cell? ⟨g, off + i * 4 + j, none⟩ = some u) :
    w.cell? ⟨g, off + i * 4, none⟩ = some (.int .u32 (x.code : Int)) ∧ w.cell? ⟨g, off + i * 4 + 1, none⟩ = some (.string x.name) ∧ w.cell? ⟨g, off + i * 4 + 2, none⟩ = some (.int .u8 (x.kind : Int)) ∧ w.cell? ⟨g, off + i * 4 + 3, none⟩ = some (.int .u32 (x.par : Int)) :=
  ⟨h 0 _ rfl, h 1 _ rfl, h 2 _ rfl, h 3 _ rfl⟩
set_option maxHeartbeats 1000000 in
set_option maxRecDepth 100000 in
theorem bsearch_c (v : Value) (c : List Ac) (n : Nat) (w : World) (hR : Recs cc 4 w v c) (hr : RiseA c) (hl : c.length ≤ 1000) :
    Calls Tryz.prog 63 #[v, .int .u32 (n : Int), .func (.func 64) #[] #[]] w fun e w' =>
      e = .returned (.tuple #[.int .i64 (belowA c n : Nat), .bool (getA c n).isSome]) ∧ Below w.heap.size w w' := by
  obtain ⟨r, cap, rfl, hm⟩ := hR.form
  have HR := Lib.hid hR
  obtain ⟨B, hB⟩ : ∃ B, belowA c n = B := ⟨_, rfl⟩
  obtain ⟨T, hT⟩ : ∃ T, (getA c n).isSome = T := ⟨_, rfl⟩
  obtain ⟨L, hL⟩ : ∃ L, c.length = L := ⟨_, rfl⟩
  have HB : Hid (∀ (i : Nat) (a : Ac), c[i]? = some a → (i < B ↔ a.code < n)) := Lib.hid (fun i a ha => hB ▸ belowA_lt hr i a ha n)
  have HT : Hid (∀ a, c[B]? = some a → T = decide (a.code = n)) := Lib.hid (fun a ha => hT ▸ getA_below hr n (hB.symm ▸ ha))
  have HE : Hid (L ≤ B → T = false) := Lib.hid (fun h => hT ▸ getA_end hr n (by omega))
  have hBL : B ≤ L := hB ▸ hL ▸ belowA_le c n
  have HL := Lib.hid hL
  rw [hB, hT]
  rw [hL] at HR ⊢
  rw [hL] at hl
  clear hR hm hB hT hL hr
  go_enter Tryz.func63, Tryz.ntmps63
  go_wp2
  go_loopw [9, 10] (fun i j wr => ∃ lo hi : Nat, i = .int .i64 lo ∧ j = .int .i64 hi ∧ lo ≤ B ∧ B ≤ hi ∧ hi ≤ L ∧ Below w.heap.size w wr) (fun i j _ => (intOf j - intOf i).toNat)
  case atStart => exact ⟨0, L, rfl, rfl, Nat.zero_le _, hBL, Nat.le_refl _, Below.refl _ _⟩
  case round =>
    obtain ⟨lo, hi, rfl, rfl, h1, h2, h3, hb⟩ := hrel
    rename World => wr
    by_cases hlt : lo < hi
    · have hmid : (lo + hi) / 2 < L := by omega
      obtain ⟨a, ha⟩ : ∃ a, c[(lo + hi) / 2]? = some a := ⟨c[(lo + hi) / 2]'(by have := HL.out; omega), List.getElem?_eq_getElem (by have := HL.out; omega)⟩
      have hiff := HB.out _ _ ha
      obtain ⟨g, off, rfl, hg, hc⟩ := (HR.out.stay hb).at ha
      obtain ⟨c0, c1, c2, c3⟩ := Recs.cells4 (c := c) hc
      clear hc ha
      have K := findc a n wr
      unfold cv at K
      by_cases hlow : a.code < n
      · have e : cmpN a.code n = -1 := by unfold cmpN; rw [if_pos hlow]
        rw [e] at K
        clear e
        have hlB := hiff.2 hlow
        have HK := Lib.hid K
        have hbs := hb.size
        have HW := Lib.hid hb
        clear K hiff hlow hb
        go_wp2_with (go_at_call 64; refine HK.out.mono ?_; rintro e w1 ⟨rfl, hb1⟩; have HW1 := Lib.hid (HW.out.trans (hb1.mono hbs)); clear hb1)
        go_roundw
        case rel => exact ⟨(lo + hi) / 2 + 1, hi, by go_num, rfl, by omega, h2, h3, HW1.out⟩
        case measure => simp [RowKit.intOf]; omega
      · have e : 0 ≤ cmpN a.code n := by unfold cmpN; rw [if_neg hlow]; split <;> omega
        have hlB : ¬ (lo + hi) / 2 < B := fun h => hlow (hiff.1 h)
        generalize cmpN a.code n = z at K e
        have HK := Lib.hid K
        have hbs := hb.size
        have HW := Lib.hid hb
        clear K hiff hlow hb
        go_wp2_with (go_at_call 64; refine HK.out.mono ?_; rintro e w1 ⟨rfl, hb1⟩; have HW1 := Lib.hid (HW.out.trans (hb1.mono hbs)); clear hb1)
        go_roundw
        case rel => exact ⟨lo, (lo + hi) / 2, rfl, by go_num, h1, by omega, by omega, HW1.out⟩
        case measure => simp [RowKit.intOf]; omega
    · obtain rfl : hi = lo := by omega
      obtain rfl : B = hi := by omega
      by_cases hn : B < L
      · obtain ⟨a, ha⟩ : ∃ a, c[B]? = some a := ⟨c[B]'(by have := HL.out; omega), List.getElem?_eq_getElem (by have := HL.out; omega)⟩
        have ht := HT.out _ ha
        obtain ⟨g, off, rfl, hg, hc⟩ := (HR.out.stay hb).at ha
        obtain ⟨c0, c1, c2, c3⟩ := Recs.cells4 (c := c) hc
        clear hc ha
        have K := findc a n wr
        unfold cv at K
        have e : T = (cmpN a.code n == 0) := by
          rw [ht]; unfold cmpN
          by_cases x1 : a.code < n
          · rw [if_pos x1, decide_eq_false (by omega)]; rfl
          · by_cases x2 : n < a.code
            · rw [if_neg x1, if_pos x2, decide_eq_false (by omega)]; rfl
            · rw [if_neg x1, if_neg x2, decide_eq_true (by omega)]; rfl
        generalize cmpN a.code n = z at K e
        have HEQ := Lib.hid e
        have HK := Lib.hid K
        have hbs := hb.size
        have HW := Lib.hid hb
        clear K hb e ht
        have hd : decide ((B : Int) < (L : Int)) = true := decide_eq_true (by omega)
        go_wp2_with (go_at_call 64; refine HK.out.mono ?_; rintro e w1 ⟨rfl, hb1⟩; have HW1 := Lib.hid (HW.out.trans (hb1.mono hbs)); clear hb1)
        go_ret2
        exact ⟨by simp [HEQ.out], HW1.out⟩
      · obtain rfl := HE.out (by omega)
        have hd : decide ((B : Int) < (L : Int)) = false := decide_eq_false (by omega)
        go_wp2
        go_ret2
        exact ⟨rfl, hb⟩
theorem find_c (v : Value) (c : List Ac) (n : Nat) (w : World) (hR : Recs cc 4 w v c) (hr : RiseA c) (hl : c.length ≤ 1000) :
    Calls Tryz.prog 58 #[v, .int .u32 (n : Int)] w fun e w' => e = .returned (.tuple #[.int .i64 (belowA c n : Nat), .bool (getA c n).isSome]) ∧ Below w.heap.size w w' := by
  have K := Lib.hid (bsearch_c v c n w hR hr hl)
  clear hR hr hl
  generalize belowA c n = B at *
  generalize (getA c n).isSome = T at *
  go_enter Tryz.func58, Tryz.ntmps58
  go_wp2_with (go_at_call 63; refine K.out.mono ?_; rintro e w1 ⟨rfl, hb1⟩; have HB1 := Lib.hid hb1; clear hb1)
  go_ret2
  exact ⟨rfl, HB1.out⟩
end Go.Proofs.YtmbfnbbgphpcgaaGreatDoor

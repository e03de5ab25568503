/- Contracts of the library's Equal and Clone at bytes. -/
import Derived.Test.YtafmakhhdinknaaGreatDoorCy
import Derived.Laws.OwnMore
import Derived.Maps.AppendAt
import Derived.Lib.SliceRun
import Derived.Lib.Walk
import Derived.Test.YtafmakhhdinknaaGreatDoorCfall
import Derived.Test.YtafmakhhdinknaaGreatDoorLawb
namespace Go.Proofs.YtafmakhhdinknaaGreatDoor
open Go.RowKit
set_option linter.unusedVariables false
set_option linter.unusedSimpArgs false
theorem take_step8 {xs ys : List Nat} {j : Nat} {x y : Nat} (h : xs.take j = ys.take j) (hx : xs[j]? = some x) (hy : ys[j]? = some y) (e : x = y) : xs.take (j + 1) = ys.take (j + 1) := by
  rw [List.take_add_one, List.take_add_one, h, hx, hy, e]
theorem equal_8len (r1 r2 : Option Addr) (n1 n2 c1 c2 : Nat) (w : World) (h : n1 ≠ n2) :
    Calls Tryz.prog 25 #[.slice r1 n1 c1, .slice r2 n2 c2] w fun e w' => e = .returned (.bool false) ∧ Below w.heap.size w w' := by
  have h1 : ((n1 : Int) != (n2 : Int)) = true := by simp; omega
  go_enter Tryz.func25, Tryz.ntmps25
  go_wp2
  go_ret
  exact ⟨rfl, Below.refl _ _⟩
set_option maxHeartbeats 2000000 in
theorem equal_8 (v1 v2 : Value) (S S' : List Nat) (w : World) (h1 : Recs byc 1 w v1 S) (h2 : Recs byc 1 w v2 S') :
    Calls Tryz.prog 25 #[v1, v2] w fun e w' => e = .returned (.bool (decide (S = S'))) ∧ Below w.heap.size w w' := by
  obtain ⟨r1, cap1, rfl, hm⟩ := h1.form
  obtain ⟨r2, cap2, rfl, _⟩ := h2.form
  by_cases hne : S.length = S'.length
  · obtain ⟨n, hn⟩ : ∃ n, S.length = n := ⟨_, rfl⟩
    have HN := Lib.hid hn
    have HN' := Lib.hid (hne ▸ hn)
    rw [← hne, hn] at h2 ⊢
    rw [hn] at h1 hm
    have H1 := Lib.hid h1
    have H2 := Lib.hid h2
    obtain ⟨T, hT⟩ : ∃ T, decide (S = S') = T := ⟨_, rfl⟩
    have HT := Lib.hid hT
    rw [hT]
    clear h1 h2 hn hne hT
    go_enter Tryz.func25, Tryz.ntmps25
    go_wp2
    go_loopw [13] (fun i wr => ∃ j : Nat, j ≤ n ∧ i = .int .i64 j ∧ Hid (S.take j = S'.take j) ∧ Below w.heap.size w wr) (fun i _ => n - (RowKit.intOf i).toNat)
    case atStart => exact ⟨0, Nat.zero_le _, rfl, rfl, Below.refl _ _⟩
    case round =>
      obtain ⟨j, hj, rfl, hE, hB⟩ := hrel
      rename World => wr
      by_cases hlt : j < n
      · obtain ⟨x, hx⟩ : ∃ x, S[j]? = some x := ⟨S[j]'(by have := HN.out; omega), List.getElem?_eq_getElem (by have := HN.out; omega)⟩
        obtain ⟨y, hy⟩ : ∃ y, S'[j]? = some y := ⟨S'[j]'(by have := HN'.out; omega), List.getElem?_eq_getElem (by have := HN'.out; omega)⟩
        obtain ⟨g1, o1, rfl, _, c1⟩ := (H1.out.stay hB).at hx
        obtain ⟨g2, o2, rfl, _, c2⟩ := (H2.out.stay hB).at hy
        have a0 := c1 0 _ rfl
        have b0 := c2 0 _ rfl
        simp only [Nat.mul_one, Nat.add_zero] at a0 b0
        have HS := Lib.hid (fun e => take_step8 hE.out hx hy e)
        have HF : Hid (x ≠ y → T = false) := Lib.hid (fun e => by
          rw [← HT.out]
          refine decide_eq_false fun h => e ?_
          rw [h, hy] at hx
          exact (Option.some.inj hx).symm)
        clear hx hy c1 c2 hE
        by_cases hxy : x = y
        · subst hxy
          have HS2 := Lib.hid (HS.out rfl)
          clear HS HF
          go_wp2
          go_region
          all_goals
            go_wp2
            go_roundw
            case rel => exact ⟨j + 1, by omega, by go_num, HS2, hB.drew⟩
            case measure => simp [RowKit.intOf]; omega
        · have hxy' : ((x : Int) != (y : Int)) = true := by simp; omega
          obtain rfl := HF.out hxy
          clear HS HF
          go_wp2
          go_region
          all_goals
            go_wp2
            go_ret
            exact ⟨rfl, hB.drew⟩
      · obtain rfl : j = n := by omega
        have e : T = true := by
          rw [← HT.out]
          refine decide_eq_true ?_
          have := hE.out
          rwa [List.take_of_length_le (by have := HN.out; omega), List.take_of_length_le (by have := HN'.out; omega)] at this
        subst e
        go_wp2
        go_ret
        exact ⟨rfl, hB⟩
  · rw [decide_eq_false fun h => hne (by rw [h])]
    exact equal_8len _ _ _ _ _ _ _ hne
end Go.Proofs.YtafmakhhdinknaaGreatDoor
/- What the laws ask of codec's Encode; law 11's Awake. -/
namespace Go.Proofs.YtafmakhhdinknaaGreatDoor
open Go.RowKit
set_option linter.unusedVariables false
set_option linter.unusedSimpArgs false
/-- What the laws ask of codec's Encode. -/
structure CodecC (I : World → Prop) : Prop where
  enc : ∀ (vC vU vS vJ : Value) (f : Fr) (vs : List Jm) (w : World), FrM f vC vU vS w → JRow w vJ vs → OkBw (bdOf f (vs.map jOf)) → Calls Tryz.prog 24 #[bkV vC vU vS f.E vJ] w fun e w' => ∃ v', e = .returned v' ∧ Recs byc 1 w' v' (encB f (vs.map jOf)) ∧ Below w.heap.size w w'
theorem recs_of_owns8 {w : World} {base : Nat} {v : Value} {l : List Nat} (h : w.ownsRow base 5 1 v l.length (l.flatMap byc)) (hm : l.length ≤ 100000000) : Recs byc 1 w v l := by
  have hcl := h.lt
  rcases h.2 with ⟨rfl, h0⟩ | ⟨g, cap, cur, rfl, hb, hg, hnc, hcm, _⟩
  · have : l = [] := List.eq_nil_of_length_eq_zero (by omega)
    subst this
    exact .inl ⟨_, _, rfl, rfl⟩
  · have hc := h.cells (g := g) rfl
    refine .inr ⟨g, 0, cap, rfl, (hcl g rfl).2, by omega, by omega, fun i x hx j u hu => ?_⟩
    have := hc _ _ (flat_get byc_len hx hu)
    rw [Nat.zero_add]
    have e0 : (⟨g, 0, none⟩ : Addr).add (i * 1 + j) = ⟨g, i * 1 + j, none⟩ := by simp [Addr.add]; intro h1 h2; omega
    rw [e0] at this
    exact this
theorem codecC {I : World → Prop} : CodecC I where
  enc vC vU vS vJ f vs w hF hJ hok := by
    refine (dencode_c vC vU vS vJ f vs w hF hJ hok).mono ?_
    rintro e w' ⟨v', rfl, ho, hb⟩
    exact ⟨v', rfl, recs_of_owns8 ho (by have := encBw_len hok; omega), hb⟩
theorem lit_recs {α : Type} {enc : α → List Value} {k : Nat} (hk : ∀ x, (enc x).length = k) (xs : List α) (w : World) (e : TypeId) (h1 : xs.length ≤ 1000) : Recs enc k (w.alloc (.cells (xs.flatMap enc).toArray e)) (.slice (some ⟨w.heap.size, 0, none⟩) xs.length xs.length) xs := by
  refine .inr ⟨w.heap.size, 0, xs.length, rfl, by simp, by omega, Nat.le_refl _, fun i x hx j u hu => ?_⟩
  have h := flat_get hk hx hu
  have h2 := heap_alloc_new w (.cells (xs.flatMap enc).toArray e)
  unfold World.cell?
  simp only [h2, Nat.zero_add]
  simpa using h
def fr11 : Fr := ⟨[], [], [0], 1⟩
theorem enc11 : encB fr11 [] = [84, 82, 80, 49, 0, 0, 1, 0, 2, 0] := by
  unfold encB encBd bdOf fr11 encL sigB sigN
  simp [numB_small]
set_option maxHeartbeats 2000000 in
set_option maxRecDepth 100000 in
theorem awake11_any {I : World → Prop} (C : AllotC) (D : DayC I) (K : KeyC I) (U : UnitC) (LC : CalC I) (EC : EntryC I) (B : BookC I) (CO : CodecC I) (w : World) (hI : I w) :
    Calls Tryz.prog 12 #[] w fun e w' => e = .returned (.bool true) ∧ Below w.heap.size w w' := by
  have hb1 := (Below.refl w.heap.size w).alloc (Nat.le_refl _) (.cells #[.int .i32 0] 29)
  have hS : Recs dcl 1 (w.alloc (.cells #[.int .i32 0] 29)) (.slice (some ⟨w.heap.size, 0, none⟩) 1 1) [0] := lit_recs dcl_len [0] w 29 (by decide)
  have hF : FrM fr11 (.slice none 0 0) (.slice none 0 0) (.slice (some ⟨w.heap.size, 0, none⟩) 1 1) (w.alloc (.cells #[.int .i32 0] 29)) := ⟨.inl ⟨_, _, rfl, rfl⟩, .inl ⟨_, _, rfl, rfl⟩, hS⟩
  have hok : OkBw (bdOf fr11 (([] : List Jm).map jOf)) := ⟨⟨by decide, fun x hx => by cases hx⟩, ⟨by decide, fun x hx => by cases hx⟩, ⟨by decide, fun x hx => by simp [bdOf, fr11] at hx; omega⟩, by decide, ⟨by decide, fun x hx => by cases hx⟩⟩
  have K1 := CO.enc _ _ _ (.slice none 0 0) fr11 [] _ hF (JRow.nil _ _ _) hok
  rw [show ([] : List Jm).map jOf = [] from rfl, enc11] at K1
  unfold bkV at K1
  have KK1 := Lib.hid K1
  have KA := Lib.hid (fun (w' : World) (h : Below w.heap.size w w') => awake10_any C D K U LC EC B w' (D.stay hI h))
  have HB1 := Lib.hid hb1
  clear hb1 hS hF hok K1 hI C D K U LC EC B CO
  go_enter Tryz.func12, Tryz.ntmps12
  go_upto_region 2 with (go_at_call 24; refine KK1.out.mono ?_; rintro e w2 ⟨v2, rfl, o2, h2⟩; obtain ⟨r2, c2, rfl, _⟩ := o2.form; have HO2 := Lib.hid o2; have HB2 := Lib.hid (HB1.out.trans (h2.mono HB1.out.size)); clear o2 h2)
  have hl := lit_recs byc_len [84, 82, 80, 49, 0, 0, 1, 0, 2, 0] w2 5 (by decide)
  have hbw := (Below.refl w2.heap.size w2).alloc (Nat.le_refl _) (.cells (([84, 82, 80, 49, 0, 0, 1, 0, 2, 0] : List Nat).flatMap byc).toArray 5)
  have K2 := Lib.hid (equal_8 _ _ _ _ _ (HO2.out.stay hbw) hl)
  have HB3 := Lib.hid (HB2.out.trans (hbw.mono HB2.out.size))
  clear hl hbw
  go_wp2_with (first
    | (go_at_call 26; refine (KA.out _ HB4.out).mono ?_; rintro e w4 ⟨rfl, h4⟩; have HB5 := Lib.hid (HB4.out.trans (h4.mono HB4.out.size)); clear h4)
    | (go_at_call 25; refine K2.out.mono ?_; rintro e w3 ⟨rfl, h3⟩; have HB4 := Lib.hid (HB3.out.trans (h3.mono HB3.out.size)); clear h3))
  go_ret
  exact ⟨rfl, HB5.out⟩
end Go.Proofs.YtafmakhhdinknaaGreatDoor
/- Made books as bytes (law 11). -/
namespace Go.Proofs.YtafmakhhdinknaaGreatDoor
open Go.RowKit
set_option linter.unusedVariables false
set_option linter.unusedSimpArgs false
theorem made_bd {x : Bk} (hT : lightB x = true) : OkBd (bdOf (frB x) (makeJ x)) ∧ chkB (frB x) (makeJ x) = 0 ∧ (makeJ x).length ≤ 12 ∧ (encB (frB x) (makeJ x)).length ≤ 300000 := by
  have hl := light_of hT
  have h5 := hl.2.2.2.2
  have hok := made_ok x hl.1 (by omega)
  have h1 := okBd_of hok
  obtain ⟨_, _, _, d⟩ := stJ_ok x hl.1 x.journals.length (Nat.le_refl _)
  have h6 : (makeJ x).length ≤ 12 := by unfold makeJ; omega
  exact ⟨h1, hok, h6, encB_len h1 (by omega)⟩
theorem made_dec {x : Bk} (hT : lightB x = true) : decB (encB (frB x) (makeJ x)) = (frB x, makeJ x, 0) := by
  obtain ⟨h1, h2, _, h4⟩ := made_bd hT
  exact dec_enc h1 h2 (by omega)
/-- Encode of a made book. -/
theorem enc_mk {I : World → Prop} (CO : CodecC I) {x : Bk} (hT : lightB x = true) {w : World} {v : Value} (h : MkB x w v) :
    Calls Tryz.prog 24 #[v] w fun e w' => ∃ r c, e = .returned (.slice r (encB (frB x) (makeJ x)).length c) ∧ Recs byc 1 w' (.slice r (encB (frB x) (makeJ x)).length c) (encB (frB x) (makeJ x)) ∧ Below w.heap.size w w' := by
  obtain ⟨vC, vU, vS, vJ, vs, rfl, hM⟩ := h
  have hok : OkBw (bdOf (frB x) (vs.map jOf)) := by rw [hM.js]; exact (made_bd hT).1.wide
  have K := CO.enc vC vU vS vJ (frB x) vs w hM.fr hM.jr hok
  rw [hM.js] at K
  refine K.mono ?_
  rintro e w' ⟨v', rfl, hR, hb⟩
  obtain ⟨r, c, rfl, _⟩ := hR.form
  exact ⟨r, c, rfl, hR, hb⟩
theorem rec_some {w : World} {r : Option Addr} {L c : Nat} {l : List Nat} (h : Recs byc 1 w (.slice r L c) l) (hl : l.length = L) (h0 : 0 < L) : ∃ b off, r = some ⟨b, off, none⟩ ∧ b < w.heap.size ∧ L ≤ c := by
  obtain ⟨y, hy⟩ : ∃ y, l[0]? = some y := ⟨l[0]'(by omega), List.getElem?_eq_getElem (by omega)⟩
  obtain ⟨b, off, rfl, hb, _⟩ := h.at hy
  refine ⟨b, off, rfl, hb, ?_⟩
  rcases h with ⟨_, _, h, h'⟩ | ⟨_, _, _, h, _, _, h', _⟩
  · rw [h'] at hl; simp at hl; omega
  · cases h; omega
end Go.Proofs.YtafmakhhdinknaaGreatDoor

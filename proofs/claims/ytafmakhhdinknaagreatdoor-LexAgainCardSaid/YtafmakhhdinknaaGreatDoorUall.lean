/- Books in plain words: one journal's error among those of a book. -/
import Derived.Test.YtafmakhhdinknaaGreatDoorXall
import Derived.Test.YtafmakhhdinknaaGreatDoorLawb
import Derived.Test.YtafmakhhdinknaaGreatDoorNall
import Derived.Test.YtafmakhhdinknaaGreatDoorJall
import Derived.Test.YtafmakhhdinknaaGreatDoorHall
import Derived.Test.YtafmakhhdinknaaGreatDoorIall
import Derived.BigQuiet
import Derived.Deep.QuietTactic
import Derived.BigRegion
import Derived.Test.YtafmakhhdinknaaGreatDoorKall
namespace Go.Proofs.YtafmakhhdinknaaGreatDoor
open Go.RowKit
set_option linter.unusedVariables false
set_option linter.unusedSimpArgs false
theorem chkD1_ok10 : ∀ {l : List Int} {p : Option Int}, chkD1 p l = 0 → RiseD l ∧ ∀ x ∈ l, -719162 ≤ x ∧ x ≤ 2932896 ∧ ∀ b, p = some b → b < x
  | [], p, _ => ⟨List.Pairwise.nil, fun x hx => by cases hx⟩
  | a :: r, p, h => by
    unfold chkD1 at h
    split at h
    · omega
    · rename_i h1
      split at h
      · omega
      · rename_i h2
        obtain ⟨h3, h4⟩ := chkD1_ok10 h
        have hb : ∀ b, p = some b → b < a := fun b e => Int.lt_of_not_ge fun hh => h2 ⟨b, e, hh⟩
        refine ⟨List.pairwise_cons.2 ⟨fun x hx => (h4 x hx).2.2 a rfl, h3⟩, fun x hx => ?_⟩
        rcases List.mem_cons.1 hx with rfl | hx
        · exact ⟨by omega, by omega, hb⟩
        · obtain ⟨g1, g2, g3⟩ := h4 x hx
          exact ⟨g1, g2, fun b e => Int.lt_trans (hb b e) (g3 a rfl)⟩
theorem chkD_ok10 {S : List Int} {E : Int} (h : chkD S E = 0) : RiseD S ∧ (∀ x ∈ S, x < E) ∧ S.length ≤ 60 := by
  unfold chkD at h
  split at h
  · omega
  · rename_i h0
    obtain ⟨h1, _⟩ := chkD1_ok10 h
    obtain ⟨h2, _, h3⟩ := List.pairwise_append.1 h1
    exact ⟨h2, fun x hx => h3 x hx E (by simp), by omega⟩
theorem chkF_ok10 {f : Fr} (h : chkF f = 0) : chkD f.S f.E = 0 := by
  unfold chkF at h
  split at h
  · omega
  · split at h
    · omega
    · exact h
/-- The day of the journal ahead. -/
def prevD (vs : List Jm) (k : Nat) : Option Int := if k = 0 then none else (vs[k - 1]?).map (·.1)
theorem prevD_succ {vs : List Jm} {k : Nat} {p : Jm} (h : vs[k]? = some p) : prevD vs (k + 1) = some p.1 := by
  unfold prevD
  rw [if_neg (by omega), Nat.add_sub_cancel, h]
  rfl
theorem chkJs_step {f : Fr} {vs : List Jm} {k : Nat} {p : Jm} (h : vs[k]? = some p) : chkJs f (prevD vs k) ((vs.drop k).map jOf) = if chkJ p.1 p.2.2 ≠ 0 then chkJ p.1 p.2.2 else if (∃ q, prevD vs k = some q ∧ p.1 < q) then 6 else if perI f.S f.E p.1 < 0 then 13 else if p.2.2.all (hasF f) = false then 8 else chkJs f (prevD vs (k + 1)) ((vs.drop (k + 1)).map jOf) := by
  obtain ⟨hk, e⟩ := List.getElem?_eq_some_iff.1 h
  rw [List.drop_eq_getElem_cons hk, e, List.map_cons, prevD_succ h]
  rfl
/-- What is wrong with the journal at a place. -/
def oneJ (f : Fr) (vs : List Jm) (k : Nat) (p : Jm) : Int := if chkJ p.1 p.2.2 ≠ 0 then chkJ p.1 p.2.2 else if (∃ q, prevD vs k = some q ∧ p.1 < q) then 6 else if perI f.S f.E p.1 < 0 then 13 else if p.2.2.all (hasF f) = false then 8 else 0
theorem step_one (x r : Int) (A B C : Prop) [Decidable A] [Decidable B] [Decidable C] : (if x ≠ 0 then x else if A then 6 else if B then 13 else if C then 8 else r) = if (if x ≠ 0 then x else if A then 6 else if B then 13 else if C then 8 else 0) ≠ 0 then (if x ≠ 0 then x else if A then 6 else if B then 13 else if C then 8 else 0) else r := by
  by_cases h1 : x = 0 <;> by_cases h2 : A <;> by_cases h3 : B <;> by_cases h4 : C <;> simp [h1, h2, h3, h4]
theorem chkJs_one {f : Fr} {vs : List Jm} {k : Nat} {p : Jm} (h : vs[k]? = some p) : chkJs f (prevD vs k) ((vs.drop k).map jOf) = if oneJ f vs k p ≠ 0 then oneJ f vs k p else chkJs f (prevD vs (k + 1)) ((vs.drop (k + 1)).map jOf) := by
  rw [chkJs_step h]
  exact step_one _ _ _ _ _
/-- What a frame that may be holds. -/
theorem chkF_parts {f : Fr} (h : chkF f = 0) : chkA f.C = 0 ∧ chkU f.U = 0 ∧ chkD f.S f.E = 0 := by
  unfold chkF at h
  split at h
  · omega
  · split at h
    · omega
    · exact ⟨by omega, by omega, h⟩
theorem chkF_eq (f : Fr) : chkF f = if chkA f.C ≠ 0 then chkA f.C else if chkU f.U ≠ 0 then chkU f.U else chkD f.S f.E := rfl
theorem JRow.cells {w : World} {g off n cap : Nat} {vs : List Jm} (h : JRow w (.slice (some ⟨g, off, none⟩) n cap) vs) {i : Nat} {p : Jm} (hp : vs[i]? = some p) : g < w.heap.size ∧ n ≤ cap ∧ w.cell? ⟨g, off + i * 2, none⟩ = some (.int .i32 p.1) ∧ w.cell? ⟨g, off + i * 2 + 1, none⟩ = some p.2.1 ∧ Recs lc 4 w p.2.1 p.2.2 := by
  obtain ⟨g', off', cp', er, h1, h2, h3, h4, h5⟩ := h.at hp
  injection er with e1 e2 e3
  injection e1 with e1
  injection e1 with e1 e4
  subst e1 e2 e3 e4
  exact ⟨h1, h2, h3, h4, h5⟩
end Go.Proofs.YtafmakhhdinknaaGreatDoor
/- Package book: is there such an account, may a line be in a frame. -/
namespace Go.Proofs.YtafmakhhdinknaaGreatDoor
open Go.RowKit
set_option linter.unusedVariables false
set_option linter.unusedSimpArgs false
/-- Where an account of a code first stands; below nought: nowhere. -/
def fstA : List Ac → Nat → Nat → Int
  | [], _, _ => -1
  | a :: r, n, k => if a.code = n then (k : Int) else fstA r n (k + 1)
theorem fstA_drop {c : List Ac} {n k : Nat} {a : Ac} (h : c[k]? = some a) : fstA (c.drop k) n k = if a.code = n then (k : Int) else fstA (c.drop (k + 1)) n (k + 1) := by
  obtain ⟨hk, e⟩ := List.getElem?_eq_some_iff.1 h
  rw [List.drop_eq_getElem_cons hk, e]
  rfl
theorem fstA_any : ∀ (c : List Ac) (n k : Nat), decide (0 ≤ fstA c n k) = c.any (fun a => a.code == n)
  | [], _, _ => rfl
  | a :: r, n, k => by
    rw [List.any_cons]
    unfold fstA
    by_cases h : a.code = n
    · rw [if_pos h, h]; simp
    · rw [if_neg h, fstA_any r n (k + 1)]; simp [h]
set_option maxRecDepth 100000 in
theorem account1 (a : Ac) (n B : Nat) (w : World) (hB : B < w.heap.size) (hc : w.cell? ⟨B, 0, none⟩ = some (.int .u32 (n : Int))) :
    Calls Tryz.prog 169 #[.agg #[.int .u32 (a.code : Int), .string a.name, .int .u8 (a.kind : Int), .int .u32 (a.par : Int)], .pointer (some ⟨B, 0, none⟩)] w fun e w' => e = .returned (.bool (decide (a.code = n))) ∧ Below w.heap.size w w' := by
  have hb := (Below.refl w.heap.size w).alloc (Nat.le_refl _) (.cells #[.int .u32 (a.code : Int), .string a.name, .int .u8 (a.kind : Int), .int .u32 (a.par : Int)] 84)
  have hc1 : (w.alloc (.cells #[.int .u32 (a.code : Int), .string a.name, .int .u8 (a.kind : Int), .int .u32 (a.par : Int)] 84)).cell? ⟨B, 0, none⟩ = some (.int .u32 (n : Int)) := (World.cell?_alloc_lt _ _ _ hB).trans hc
  by_cases h : a.code = n
  · have hd : ((a.code : Int) == (n : Int)) = true := by simp [h]
    rw [decide_eq_true h]
    clear h
    go_enter Tryz.func169, Tryz.ntmps169
    go_wp2_with fail
    go_ret
    exact ⟨rfl, hb⟩
  · have hd : ((a.code : Int) == (n : Int)) = false := by simp; omega
    rw [decide_eq_false h]
    clear h
    go_enter Tryz.func169, Tryz.ntmps169
    go_wp2_with fail
    go_ret
    exact ⟨rfl, hb⟩
set_option maxHeartbeats 1000000 in
set_option maxRecDepth 100000 in
theorem indexfunc_a (v : Value) (c : List Ac) (n B : Nat) (w : World) (hR : Recs cc 4 w v c) (hB : B < w.heap.size) (hc : w.cell? ⟨B, 0, none⟩ = some (.int .u32 (n : Int))) :
    Calls Tryz.prog 192 #[v, .func (.func 169) #[] #[.pointer (some ⟨B, 0, none⟩)]] w fun e w' => e = .returned (.int .i64 (fstA c n 0)) ∧ Below w.heap.size w w' := by
  obtain ⟨r, cap, rfl, hm⟩ := hR.form
  have HR := Lib.hid hR
  obtain ⟨L, hL⟩ : ∃ L, c.length = L := ⟨_, rfl⟩
  have HL := Lib.hid hL
  rw [hL] at HR hm ⊢
  obtain ⟨F, hF⟩ : ∃ F, fstA c n 0 = F := ⟨_, rfl⟩
  have HF : Hid (F = fstA (c.drop 0) n 0) := Lib.hid hF.symm
  have KC := Lib.hid (fun a (w' : World) (h : Below w.heap.size w w') => account1 a n B w' (Nat.lt_of_lt_of_le hB h.size) ((h.cell (p := ⟨B, 0, none⟩) hB).trans hc))
  rw [hF]
  clear hR hL hF hc hB
  go_enter Tryz.func192, Tryz.ntmps192
  go_wp2_with fail
  go_loopw [8] (fun i wr => ∃ k : Nat, k ≤ L ∧ i = .int .i64 k ∧ Hid (F = fstA (c.drop k) n k) ∧ Hid (Below w.heap.size w wr)) (fun i _ => L - (RowKit.intOf i).toNat)
  case atStart => exact ⟨0, Nat.zero_le _, rfl, HF, Lib.hid (Below.refl _ _)⟩
  case round =>
    obtain ⟨k, hk, rfl, HK, HB⟩ := hrel
    rename World => wr
    by_cases hlt : k < L
    · obtain ⟨x, hx⟩ : ∃ x, c[k]? = some x := ⟨c[k]'(by have := HL.out; omega), List.getElem?_eq_getElem (by have := HL.out; omega)⟩
      obtain ⟨g, off, rfl, hg, hcx⟩ := (HR.out.stay HB.out).at hx
      have c0 := hcx 0 _ rfl
      have c1 := hcx 1 _ rfl
      have c2 := hcx 2 _ rfl
      have c3 := hcx 3 _ rfl
      rw [Nat.add_zero] at c0
      have HS : Hid (F = if x.code = n then (k : Int) else fstA (c.drop (k + 1)) n (k + 1)) := Lib.hid (by rw [HK.out, fstA_drop hx])
      have K1 := KC.out x wr HB.out
      clear hcx hx HK
      by_cases h : x.code = n
      · rw [decide_eq_true h] at K1
        have K2 := Lib.hid K1
        have HE : F = (k : Int) := by rw [HS.out, if_pos h]
        clear K1 h HS
        go_wp2_with (go_at_call 169; refine K2.out.mono ?_; rintro e w1 ⟨rfl, h1⟩; have HB1 := Lib.hid (HB.out.trans (h1.mono HB.out.size)); clear h1)
        go_ret
        exact ⟨by first | rfl | (rw [HE]; rfl), HB1.out⟩
      · rw [decide_eq_false h] at K1
        have K2 := Lib.hid K1
        have HE : Hid (F = fstA (c.drop (k + 1)) n (k + 1)) := Lib.hid (by rw [HS.out, if_neg h])
        clear K1 h HS
        go_wp2_with (go_at_call 169; refine K2.out.mono ?_; rintro e w1 ⟨rfl, h1⟩; have HB1 := Lib.hid (HB.out.trans (h1.mono HB.out.size)); clear h1)
        go_roundw
        case rel => exact ⟨k + 1, by omega, by go_num, HE, HB1⟩
        case measure => simp [RowKit.intOf]; omega
    · obtain rfl : k = L := by omega
      have HE : F = -1 := by rw [HK.out, List.drop_eq_nil_of_le (by have := HL.out; omega)]; rfl
      clear HK
      go_wp2_with fail
      go_ret
      exact ⟨by first | rfl | (rw [HE]; rfl), HB.out⟩
set_option maxRecDepth 100000 in
theorem containsfunc_a (v : Value) (c : List Ac) (n B : Nat) (w : World) (hR : Recs cc 4 w v c) (hB : B < w.heap.size) (hc : w.cell? ⟨B, 0, none⟩ = some (.int .u32 (n : Int))) :
    Calls Tryz.prog 168 #[v, .func (.func 169) #[] #[.pointer (some ⟨B, 0, none⟩)]] w fun e w' => e = .returned (.bool (c.any (fun a => a.code == n))) ∧ Below w.heap.size w w' := by
  have K := Lib.hid (indexfunc_a v c n B w hR hB hc)
  obtain ⟨r, cap, rfl, hm⟩ := hR.form
  rw [← fstA_any c n 0]
  clear hR hB hc
  generalize fstA c n 0 = F at *
  by_cases h : 0 ≤ F
  · have hd : decide (F < 0) = false := decide_eq_false (by omega)
    rw [decide_eq_true h]
    go_enter Tryz.func168, Tryz.ntmps168
    go_wp2_with (go_at_call 192; refine K.out.mono ?_; rintro e w1 ⟨rfl, h1⟩)
    go_ret
    exact ⟨by simp [h], h1⟩
  · have hd : decide (F < 0) = true := decide_eq_true (by omega)
    rw [decide_eq_false h]
    go_enter Tryz.func168, Tryz.ntmps168
    go_wp2_with (go_at_call 192; refine K.out.mono ?_; rintro e w1 ⟨rfl, h1⟩)
    go_ret
    exact ⟨by simp [h], h1⟩
set_option maxHeartbeats 1000000 in
set_option maxRecDepth 100000 in
theorem account_c (vC vU vS : Value) (f : Fr) (n : Nat) (w : World) (hC : Recs cc 4 w vC f.C) :
    Calls Tryz.prog 136 #[frV vC vU vS f.E, .int .u32 (n : Int)] w fun e w' => e = .returned (.bool (f.C.any (fun a => a.code == n))) ∧ Below w.heap.size w w' := by
  obtain ⟨r, cap, rfl, hm⟩ := hC.form
  unfold frV
  have hs : (w.alloc (.cells #[.slice r f.C.length cap, vU, vS, .int .i32 f.E] 64)).heap.size = w.heap.size + 1 := by simp
  have hb : Below w.heap.size w ((w.alloc (.cells #[.slice r f.C.length cap, vU, vS, .int .i32 f.E] 64)).alloc (.cells #[.int .u32 (n : Int)] 74)) := ((Below.refl _ _).alloc (Nat.le_refl _) _).alloc (by simp) _
  have K := containsfunc_a (.slice r f.C.length cap) f.C n (w.heap.size + 1) _ (hC.stay hb) (by simp) (by have h := box_cell (w.alloc (.cells #[.slice r f.C.length cap, vU, vS, .int .i32 f.E] 64)) #[.int .u32 (n : Int)] 74 0 _ rfl; rw [hs] at h; exact h)
  have HK := Lib.hid K
  have HB := Lib.hid hb
  have hx := (HBox.new w [.slice r f.C.length cap, vU, vS, .int .i32 f.E] 64).alloc (.cells #[.int .u32 (n : Int)] 74)
  have x0 := hx.cell (j := 0) rfl
  change ((w.alloc (.cells #[.slice r f.C.length cap, vU, vS, .int .i32 f.E] 64)).alloc (.cells #[.int .u32 (n : Int)] 74)).cell? _ = _ at x0
  clear K hb hC hx
  generalize f.C.any (fun a => a.code == n) = T at *
  generalize f.C.length = L at *
  go_enter Tryz.func136, Tryz.ntmps136
  go_upto_region 1 with fail
  generalize hW : (w.alloc (.cells #[.slice r L cap, vU, vS, .int .i32 f.E] 64)).alloc (.cells #[.int .u32 (n : Int)] 74) = W at *
  clear hW hs
  go_wp2_with (go_at_call 168; refine HK.out.mono ?_; rintro e w1 ⟨rfl, h1⟩; have HB1 := Lib.hid (HB.out.trans (h1.mono HB.out.size)); clear h1)
  go_ret
  exact ⟨rfl, HB1.out⟩
set_option maxHeartbeats 2000000 in
set_option maxRecDepth 100000 in
theorem line_b (vC vU vS : Value) (f : Fr) (l : Ln) (w : World) (hF : FrM f vC vU vS w) (hi : FrIn f) :
    Calls Tryz.prog 115 #[frV vC vU vS f.E, lnV l] w fun e w' => e = .returned (.int .i64 (if hasF f l = true then 0 else 8)) ∧ Below w.heap.size w w' := by
  have hU := unitC.has
  obtain ⟨rC, cC, rfl, _⟩ := hF.c.form
  obtain ⟨rU, cU, rfl, _⟩ := hF.u.form
  obtain ⟨rS, cS, rfl, _⟩ := hF.s.form
  have KA := Lib.hid (fun (w' : World) (h : Below w.heap.size w w') => account_c (.slice rC f.C.length cC) (.slice rU f.U.length cU) (.slice rS f.S.length cS) f l.acc w' (hF.c.stay h))
  have KH := Lib.hid (fun (n : Nat) (hn : n < 65536) (w' : World) (h : Below w.heap.size w w') => unitC.has (.slice rU f.U.length cU) f.U n w' (hF.u.stay h) hi.u.1 hn)
  have K2 := KH.out l.ent.n l.ent.h
  have K3 := KH.out l.ctr l.hc
  have t2 : decide (l.ent.n ∈ f.U) = f.U.any (fun n => n == l.ent.n) := by rw [Bool.eq_iff_iff]; simp
  have t3 : decide (l.ctr ∈ f.U) = f.U.any (fun n => n == l.ctr) := by rw [Bool.eq_iff_iff]; simp
  rw [t2] at K2
  rw [t3] at K3
  have hT : hasF f l = (f.C.any (fun a => a.code == l.acc) && f.U.any (fun n => n == l.ent.n) && (l.ctr == 0 || f.U.any (fun n => n == l.ctr))) := rfl
  obtain ⟨b4, hb4⟩ : ∃ b, (l.ctr == 0) = b := ⟨_, rfl⟩
  rw [hb4] at hT
  obtain ⟨R, hR⟩ : ∃ R : Int, (if hasF f l = true then (0 : Int) else 8) = R := ⟨_, rfl⟩
  rw [hR]
  rw [hT] at hR
  have HR := Lib.hid hR
  have e1 : ((l.ctr : Int) != 0) = !b4 := by
    rw [← hb4]
    rcases Nat.eq_zero_or_pos l.ctr with h | h
    · rw [h]; rfl
    · rw [show (l.ctr == 0) = false by simp; omega]; simp; omega
  unfold frV at KA
  unfold frV lnV
  have hs : (w.alloc (.cells #[.slice rC f.C.length cC, .slice rU f.U.length cU, .slice rS f.S.length cS, .int .i32 f.E] 64)).heap.size = w.heap.size + 1 := by simp
  have hb : Below w.heap.size w ((w.alloc (.cells #[.slice rC f.C.length cC, .slice rU f.U.length cU, .slice rS f.S.length cS, .int .i32 f.E] 64)).alloc (.cells #[.int .u32 (l.acc : Int), .int .u16 (l.ent.n : Int), .int .u16 (l.ctr : Int), .int .i64 l.amt] 116)) := ((Below.refl _ _).alloc (Nat.le_refl _) _).alloc (by simp) _
  have hx := (HBox.new w [.slice rC f.C.length cC, .slice rU f.U.length cU, .slice rS f.S.length cS, .int .i32 f.E] 64).alloc (.cells #[.int .u32 (l.acc : Int), .int .u16 (l.ent.n : Int), .int .u16 (l.ctr : Int), .int .i64 l.amt] 116)
  have hy := HBox.new (w.alloc (.cells #[.slice rC f.C.length cC, .slice rU f.U.length cU, .slice rS f.S.length cS, .int .i32 f.E] 64)) [.int .u32 (l.acc : Int), .int .u16 (l.ent.n : Int), .int .u16 (l.ctr : Int), .int .i64 l.amt] 116
  rw [hs] at hy
  change HBox ((w.alloc (.cells #[.slice rC f.C.length cC, .slice rU f.U.length cU, .slice rS f.S.length cS, .int .i32 f.E] 64)).alloc _) _ _ _ at hx
  change HBox ((w.alloc (.cells #[.slice rC f.C.length cC, .slice rU f.U.length cU, .slice rS f.S.length cS, .int .i32 f.E] 64)).alloc (.cells #[.int .u32 (l.acc : Int), .int .u16 (l.ent.n : Int), .int .u16 (l.ctr : Int), .int .i64 l.amt] 116)) _ _ _ at hy
  have H2 := Lib.hid K2
  have H3 := Lib.hid K3
  have HB := Lib.hid hb
  clear K2 K3 t2 t3 hT hU KH hF hi hb4 hR
  generalize f.C.any (fun a => a.code == l.acc) = b1 at *
  generalize f.U.any (fun n => n == l.ent.n) = b2 at *
  generalize f.U.any (fun n => n == l.ctr) = b3 at *
  generalize f.C.length = LC at *
  generalize f.U.length = LU at *
  generalize f.S.length = LS at *
  generalize f.E = E at *
  clear f
  go_enter Tryz.func115, Tryz.ntmps115
  go_upto_region 1 with fail
  generalize (w.alloc (.cells #[.slice rC LC cC, .slice rU LU cU, .slice rS LS cS, .int .i32 E] 64)).alloc (.cells #[.int .u32 (l.acc : Int), .int .u16 (l.ent.n : Int), .int .u16 (l.ctr : Int), .int .i64 l.amt] 116) = W at *
  clear hs hb
  have HX := Lib.hid hx
  have HY := Lib.hid hy
  have x0 := hx.cell (j := 0) rfl
  have x1 := hx.cell (j := 1) rfl
  have x2 := hx.cell (j := 2) rfl
  have x3 := hx.cell (j := 3) rfl
  have y0 := hy.cell (j := 0) rfl
  clear hx hy
  generalize (l.ctr : Int) = ct at *
  cases b1 <;> cases b2 <;> cases b4 <;> cases b3
  all_goals
    first | rw [Bool.not_true] at e1 | rw [Bool.not_false] at e1
    go_wp2_with (first
      | (go_at_call 137; refine (H3.out _ HB2.out).mono ?_; rintro e w3 ⟨rfl, g3⟩; have HB3 := Lib.hid (HB2.out.trans (g3.mono HB2.out.size)); clear g3)
      | (go_at_call 137; refine (H2.out _ HB1.out).mono ?_; rintro e w2 ⟨rfl, g2⟩; have HB2 := Lib.hid (HB1.out.trans (g2.mono HB1.out.size)); have HX2 := Lib.hid (HX1.out.stay g2); have HY2 := Lib.hid (HY1.out.stay g2); have u1 := HX2.out.cell (j := 1) rfl; have v2 := HY2.out.cell (j := 2) rfl; clear g2)
      | (go_at_call 136; refine (KA.out _ HB.out).mono ?_; rintro e w1 ⟨rfl, g1⟩; have HB1 := Lib.hid (HB.out.trans (g1.mono HB.out.size)); have HX1 := Lib.hid (HX.out.stay g1); have HY1 := Lib.hid (HY.out.stay g1); have t1 := HX1.out.cell (j := 1) rfl; have s1 := HY1.out.cell (j := 1) rfl; have s2 := HY1.out.cell (j := 2) rfl; clear g1))
    go_ret
    first | exact ⟨by rw [← HR.out]; rfl, HB3.out⟩ | exact ⟨by rw [← HR.out]; rfl, HB2.out⟩ | exact ⟨by rw [← HR.out]; rfl, HB1.out⟩
end Go.Proofs.YtafmakhhdinknaaGreatDoor
/- Package book: the first error of what is looked at; may a frame, may a book be. -/
namespace Go.Proofs.YtafmakhhdinknaaGreatDoor
open Go.RowKit
set_option linter.unusedVariables false
set_option linter.unusedSimpArgs false
set_option maxHeartbeats 2000000 in
set_option maxRecDepth 100000 in
theorem first_f (v0 v1 v2 : Value) (e0 e1 e2 : Int) (g : Nat) (T : TypeId) (w : World) (hb : HBox w g [.func (.func 89) #[v0] #[], .func (.func 90) #[v1] #[], .func (.func 91) #[v2] #[]] T)
    (k0 : ∀ w', Below w.heap.size w w' → Calls Tryz.prog 89 #[v0] w' fun e w'' => e = .returned (.int .i64 e0) ∧ Below w'.heap.size w' w'')
    (k1 : ∀ w', e0 = 0 → Below w.heap.size w w' → Calls Tryz.prog 90 #[v1] w' fun e w'' => e = .returned (.int .i64 e1) ∧ Below w'.heap.size w' w'')
    (k2 : ∀ w', e0 = 0 → Below w.heap.size w w' → Calls Tryz.prog 91 #[v2] w' fun e w'' => e = .returned (.int .i64 e2) ∧ Below w'.heap.size w' w'') :
    Calls Tryz.prog 72 #[.slice (some ⟨g, 0, none⟩) 3 3] w fun e w' => e = .returned (.int .i64 (if e0 ≠ 0 then e0 else if e1 ≠ 0 then e1 else e2)) ∧ Below w.heap.size w w' := by
  obtain ⟨R, hR⟩ : ∃ R, (if e0 ≠ 0 then e0 else if e1 ≠ 0 then e1 else e2) = R := ⟨_, rfl⟩
  have HR := Lib.hid hR
  rw [hR]
  have HX := Lib.hid hb
  have K0 := Lib.hid k0
  have K1 := Lib.hid k1
  have K2 := Lib.hid k2
  clear hR hb k0 k1 k2
  go_enter Tryz.func72, Tryz.ntmps72
  go_wp2_with fail
  go_loopw [8] (fun i wr => ∃ k : Nat, k ≤ 3 ∧ i = .int .i64 k ∧ Hid ((0 < k → e0 = 0) ∧ (1 < k → e1 = 0) ∧ (2 < k → e2 = 0)) ∧ Hid (Below w.heap.size w wr)) (fun i _ => 3 - (RowKit.intOf i).toNat)
  case atStart => exact ⟨0, by omega, rfl, Lib.hid ⟨by omega, by omega, by omega⟩, Lib.hid (Below.refl _ _)⟩
  case round =>
    obtain ⟨k, hk, rfl, HE, HB⟩ := hrel
    rename World => wr
    have HXr := Lib.hid (HX.out.stay HB.out)
    rcases (by omega : k = 0 ∨ k = 1 ∨ k = 2 ∨ k = 3) with rfl | rfl | rfl | rfl
    · have x := HXr.out.cell (j := 0) rfl
      by_cases hz : e0 = 0
      · have hn : (e0 != 0) = false := by simp [hz]
        go_wp2_with (go_at_call 89; refine (K0.out _ HB.out).mono ?_; rintro e w1 ⟨rfl, h1⟩; have HB1 := Lib.hid (HB.out.trans (h1.mono HB.out.size)); clear h1)
        go_roundw
        case rel => exact ⟨1, by omega, by go_num, Lib.hid ⟨fun _ => hz, by omega, by omega⟩, HB1⟩
        case measure => simp [RowKit.intOf]
      · have hn : (e0 != 0) = true := by simp [hz]
        have hr : e0 = R := by
          have h := HR.out
          rw [if_pos hz] at h; exact h
        go_wp2_with (go_at_call 89; refine (K0.out _ HB.out).mono ?_; rintro e w1 ⟨rfl, h1⟩; have HB1 := Lib.hid (HB.out.trans (h1.mono HB.out.size)); clear h1)
        go_ret
        exact ⟨by first | rfl | (rw [hr]; rfl), HB1.out⟩
    · have x := HXr.out.cell (j := 1) rfl
      by_cases hz : e1 = 0
      · have hn : (e1 != 0) = false := by simp [hz]
        go_wp2_with (go_at_call 90; refine (K1.out _ (HE.out.1 (by omega)) HB.out).mono ?_; rintro e w1 ⟨rfl, h1⟩; have HB1 := Lib.hid (HB.out.trans (h1.mono HB.out.size)); clear h1)
        go_roundw
        case rel => exact ⟨2, by omega, by go_num, Lib.hid ⟨fun _ => HE.out.1 (by omega), fun _ => hz, by omega⟩, HB1⟩
        case measure => simp [RowKit.intOf]
      · have hn : (e1 != 0) = true := by simp [hz]
        have hr : e1 = R := by
          have h := HR.out
          rw [if_neg (fun h => h (HE.out.1 (by omega)))] at h; rw [if_pos hz] at h; exact h
        go_wp2_with (go_at_call 90; refine (K1.out _ (HE.out.1 (by omega)) HB.out).mono ?_; rintro e w1 ⟨rfl, h1⟩; have HB1 := Lib.hid (HB.out.trans (h1.mono HB.out.size)); clear h1)
        go_ret
        exact ⟨by first | rfl | (rw [hr]; rfl), HB1.out⟩
    · have x := HXr.out.cell (j := 2) rfl
      by_cases hz : e2 = 0
      · have hn : (e2 != 0) = false := by simp [hz]
        go_wp2_with (go_at_call 91; refine (K2.out _ (HE.out.1 (by omega)) HB.out).mono ?_; rintro e w1 ⟨rfl, h1⟩; have HB1 := Lib.hid (HB.out.trans (h1.mono HB.out.size)); clear h1)
        go_roundw
        case rel => exact ⟨3, by omega, by go_num, Lib.hid ⟨fun _ => HE.out.1 (by omega), fun _ => HE.out.2.1 (by omega), fun _ => hz⟩, HB1⟩
        case measure => simp [RowKit.intOf]
      · have hn : (e2 != 0) = true := by simp [hz]
        have hr : e2 = R := by
          have h := HR.out
          rw [if_neg (fun h => h (HE.out.1 (by omega)))] at h; rw [if_neg (fun h => h (HE.out.2.1 (by omega)))] at h; exact h
        go_wp2_with (go_at_call 91; refine (K2.out _ (HE.out.1 (by omega)) HB.out).mono ?_; rintro e w1 ⟨rfl, h1⟩; have HB1 := Lib.hid (HB.out.trans (h1.mono HB.out.size)); clear h1)
        go_ret
        exact ⟨by first | rfl | (rw [hr]; rfl), HB1.out⟩
    · have hr : R = 0 := by
        have h := HR.out
        rw [if_neg (fun h => h (HE.out.1 (by omega))), if_neg (fun h => h (HE.out.2.1 (by omega))), HE.out.2.2 (by omega)] at h
        exact h.symm
      go_wp2_with fail
      go_ret
      exact ⟨by first | rfl | (rw [hr]; rfl), HB.out⟩
set_option maxHeartbeats 2000000 in
set_option maxRecDepth 100000 in
theorem first_b (v0 v1 v2 : Value) (e0 e1 e2 : Int) (g : Nat) (T : TypeId) (w : World) (hb : HBox w g [.func (.func 73) #[v0] #[], .func (.func 74) #[v1] #[], .func (.func 75) #[v2] #[]] T)
    (k0 : ∀ w', Below w.heap.size w w' → Calls Tryz.prog 73 #[v0] w' fun e w'' => e = .returned (.int .i64 e0) ∧ Below w'.heap.size w' w'')
    (k1 : ∀ w', e0 = 0 → Below w.heap.size w w' → Calls Tryz.prog 74 #[v1] w' fun e w'' => e = .returned (.int .i64 e1) ∧ Below w'.heap.size w' w'')
    (k2 : ∀ w', e0 = 0 → Below w.heap.size w w' → Calls Tryz.prog 75 #[v2] w' fun e w'' => e = .returned (.int .i64 e2) ∧ Below w'.heap.size w' w'') :
    Calls Tryz.prog 72 #[.slice (some ⟨g, 0, none⟩) 3 3] w fun e w' => e = .returned (.int .i64 (if e0 ≠ 0 then e0 else if e1 ≠ 0 then e1 else e2)) ∧ Below w.heap.size w w' := by
  obtain ⟨R, hR⟩ : ∃ R, (if e0 ≠ 0 then e0 else if e1 ≠ 0 then e1 else e2) = R := ⟨_, rfl⟩
  have HR := Lib.hid hR
  rw [hR]
  have HX := Lib.hid hb
  have K0 := Lib.hid k0
  have K1 := Lib.hid k1
  have K2 := Lib.hid k2
  clear hR hb k0 k1 k2
  go_enter Tryz.func72, Tryz.ntmps72
  go_wp2_with fail
  go_loopw [8] (fun i wr => ∃ k : Nat, k ≤ 3 ∧ i = .int .i64 k ∧ Hid ((0 < k → e0 = 0) ∧ (1 < k → e1 = 0) ∧ (2 < k → e2 = 0)) ∧ Hid (Below w.heap.size w wr)) (fun i _ => 3 - (RowKit.intOf i).toNat)
  case atStart => exact ⟨0, by omega, rfl, Lib.hid ⟨by omega, by omega, by omega⟩, Lib.hid (Below.refl _ _)⟩
  case round =>
    obtain ⟨k, hk, rfl, HE, HB⟩ := hrel
    rename World => wr
    have HXr := Lib.hid (HX.out.stay HB.out)
    rcases (by omega : k = 0 ∨ k = 1 ∨ k = 2 ∨ k = 3) with rfl | rfl | rfl | rfl
    · have x := HXr.out.cell (j := 0) rfl
      by_cases hz : e0 = 0
      · have hn : (e0 != 0) = false := by simp [hz]
        go_wp2_with (go_at_call 73; refine (K0.out _ HB.out).mono ?_; rintro e w1 ⟨rfl, h1⟩; have HB1 := Lib.hid (HB.out.trans (h1.mono HB.out.size)); clear h1)
        go_roundw
        case rel => exact ⟨1, by omega, by go_num, Lib.hid ⟨fun _ => hz, by omega, by omega⟩, HB1⟩
        case measure => simp [RowKit.intOf]
      · have hn : (e0 != 0) = true := by simp [hz]
        have hr : e0 = R := by
          have h := HR.out
          rw [if_pos hz] at h; exact h
        go_wp2_with (go_at_call 73; refine (K0.out _ HB.out).mono ?_; rintro e w1 ⟨rfl, h1⟩; have HB1 := Lib.hid (HB.out.trans (h1.mono HB.out.size)); clear h1)
        go_ret
        exact ⟨by first | rfl | (rw [hr]; rfl), HB1.out⟩
    · have x := HXr.out.cell (j := 1) rfl
      by_cases hz : e1 = 0
      · have hn : (e1 != 0) = false := by simp [hz]
        go_wp2_with (go_at_call 74; refine (K1.out _ (HE.out.1 (by omega)) HB.out).mono ?_; rintro e w1 ⟨rfl, h1⟩; have HB1 := Lib.hid (HB.out.trans (h1.mono HB.out.size)); clear h1)
        go_roundw
        case rel => exact ⟨2, by omega, by go_num, Lib.hid ⟨fun _ => HE.out.1 (by omega), fun _ => hz, by omega⟩, HB1⟩
        case measure => simp [RowKit.intOf]
      · have hn : (e1 != 0) = true := by simp [hz]
        have hr : e1 = R := by
          have h := HR.out
          rw [if_neg (fun h => h (HE.out.1 (by omega)))] at h; rw [if_pos hz] at h; exact h
        go_wp2_with (go_at_call 74; refine (K1.out _ (HE.out.1 (by omega)) HB.out).mono ?_; rintro e w1 ⟨rfl, h1⟩; have HB1 := Lib.hid (HB.out.trans (h1.mono HB.out.size)); clear h1)
        go_ret
        exact ⟨by first | rfl | (rw [hr]; rfl), HB1.out⟩
    · have x := HXr.out.cell (j := 2) rfl
      by_cases hz : e2 = 0
      · have hn : (e2 != 0) = false := by simp [hz]
        go_wp2_with (go_at_call 75; refine (K2.out _ (HE.out.1 (by omega)) HB.out).mono ?_; rintro e w1 ⟨rfl, h1⟩; have HB1 := Lib.hid (HB.out.trans (h1.mono HB.out.size)); clear h1)
        go_roundw
        case rel => exact ⟨3, by omega, by go_num, Lib.hid ⟨fun _ => HE.out.1 (by omega), fun _ => HE.out.2.1 (by omega), fun _ => hz⟩, HB1⟩
        case measure => simp [RowKit.intOf]
      · have hn : (e2 != 0) = true := by simp [hz]
        have hr : e2 = R := by
          have h := HR.out
          rw [if_neg (fun h => h (HE.out.1 (by omega)))] at h; rw [if_neg (fun h => h (HE.out.2.1 (by omega)))] at h; exact h
        go_wp2_with (go_at_call 75; refine (K2.out _ (HE.out.1 (by omega)) HB.out).mono ?_; rintro e w1 ⟨rfl, h1⟩; have HB1 := Lib.hid (HB.out.trans (h1.mono HB.out.size)); clear h1)
        go_ret
        exact ⟨by first | rfl | (rw [hr]; rfl), HB1.out⟩
    · have hr : R = 0 := by
        have h := HR.out
        rw [if_neg (fun h => h (HE.out.1 (by omega))), if_neg (fun h => h (HE.out.2.1 (by omega))), HE.out.2.2 (by omega)] at h
        exact h.symm
      go_wp2_with fail
      go_ret
      exact ⟨by first | rfl | (rw [hr]; rfl), HB.out⟩
set_option maxHeartbeats 1000000 in
set_option maxRecDepth 100000 in
theorem fcheck_b (vC vU vS : Value) (f : Fr) (w : World) (hI : InI w) (hF : FrM f vC vU vS w) (hi : FrIn f) :
    Calls Tryz.prog 73 #[frV vC vU vS f.E] w fun e w' => e = .returned (.int .i64 (chkF f)) ∧ Below w.heap.size w w' := by
  obtain ⟨rC, cC, rfl, _⟩ := hF.c.form
  obtain ⟨rU, cU, rfl, _⟩ := hF.u.form
  obtain ⟨rS, cS, rfl, _⟩ := hF.s.form
  have hb : Below w.heap.size w ((w.alloc (.cells #[.slice rC f.C.length cC, .slice rU f.U.length cU, .slice rS f.S.length cS, .int .i32 f.E] 64))) := (Below.refl _ _).alloc (Nat.le_refl _) _
  have KF := fun (W : World) (hW : Below w.heap.size w W) (g : Nat) (T : TypeId) (hx) => first_f (.slice rC f.C.length cC) (.slice rU f.U.length cU) (.agg #[.slice rS f.S.length cS, .int .i32 f.E]) (chkA f.C) (chkU f.U) (chkD f.S f.E) g T W hx
    (fun w' h => checkA_c _ f.C w' (hF.c.stay (hW.trans (h.mono hW.size))))
    (fun w' _ h => unitC.check _ f.U w' (hF.u.stay (hW.trans (h.mono hW.size))) hi.u.1 hi.u.2)
    (fun w' _ h => calC.check _ f.S f.E w' (hI.stay (hW.trans (h.mono hW.size))) (hF.s.stay (hW.trans (h.mono hW.size))) hi.s.1 hi.s.2 hi.e)
  rw [← chkF_eq f] at KF
  have hx := HBox.new w [.slice rC f.C.length cC, .slice rU f.U.length cU, .slice rS f.S.length cS, .int .i32 f.E] 64
  unfold frV
  have HK := Lib.hid KF
  clear KF hI hF hi
  generalize chkF f = R at *
  generalize f.C.length = LC at *
  generalize f.U.length = LU at *
  generalize f.S.length = LS at *
  generalize f.E = E at *
  clear f
  change HBox (w.alloc (.cells #[.slice rC LC cC, .slice rU LU cU, .slice rS LS cS, .int .i32 E] 64)) _ _ _ at hx
  go_enter Tryz.func73, Tryz.ntmps73
  go_upto_region 1 with fail
  generalize w.alloc (.cells #[.slice rC LC cC, .slice rU LU cU, .slice rS LS cS, .int .i32 E] 64) = W at *
  have x0 := hx.cell (j := 0) rfl
  have x1 := hx.cell (j := 1) rfl
  have x2 := hx.cell (j := 2) rfl
  have x3 := hx.cell (j := 3) rfl
  have HB := Lib.hid hb
  have hb2 := (Below.refl W.heap.size W).alloc (Nat.le_refl _) (.cells #[.func (.func 89) #[.slice rC LC cC] #[], .func (.func 90) #[.slice rU LU cU] #[], .func (.func 91) #[.agg #[.slice rS LS cS, .int .i32 E]] #[]] 104)
  have HB2 := Lib.hid (hb.trans (hb2.mono hb.size))
  have hf := HBox.new W [.func (.func 89) #[.slice rC LC cC] #[], .func (.func 90) #[.slice rU LU cU] #[], .func (.func 91) #[.agg #[.slice rS LS cS, .int .i32 E]] #[]] 104
  change HBox (W.alloc (.cells #[.func (.func 89) #[.slice rC LC cC] #[], .func (.func 90) #[.slice rU LU cU] #[], .func (.func 91) #[.agg #[.slice rS LS cS, .int .i32 E]] #[]] 104)) _ _ _ at hf
  have H1 := Lib.hid (HK.out _ HB2.out _ _ hf)
  clear hx hb hb2 hf HK
  go_wp2_with (go_at_call 72; refine H1.out.mono ?_; rintro e w3 ⟨rfl, h3⟩; have HB3 := Lib.hid (HB2.out.trans (h3.mono HB2.out.size)); clear h3)
  go_ret
  exact ⟨rfl, HB3.out⟩
set_option maxRecDepth 100000 in
theorem checksize_b (rC rU rS rJ : Option Addr) (LC LU LS m cC cU cS cJ : Nat) (E : Int) (w : World) (hm : m ≤ 2000) :
    Calls Tryz.prog 74 #[.agg #[.slice rC LC cC, .slice rU LU cU, .slice rS LS cS, .int .i32 E, .slice rJ m cJ]] w fun e w' => e = .returned (.int .i64 0) ∧ Below w.heap.size w w' := by
  have hx := HBox.new w [.slice rC LC cC, .slice rU LU cU, .slice rS LS cS, .int .i32 E, .slice rJ m cJ] 67
  have hb : Below w.heap.size w (w.alloc (.cells #[.slice rC LC cC, .slice rU LU cU, .slice rS LS cS, .int .i32 E, .slice rJ m cJ] 67)) := (Below.refl _ _).alloc (Nat.le_refl _) _
  change HBox (w.alloc (.cells #[.slice rC LC cC, .slice rU LU cU, .slice rS LS cS, .int .i32 E, .slice rJ m cJ] 67)) _ _ _ at hx
  have hd : decide ((2000 : Int) < (m : Int)) = false := decide_eq_false (by omega)
  go_enter Tryz.func74, Tryz.ntmps74
  go_upto_region 1 with fail
  generalize w.alloc (.cells #[.slice rC LC cC, .slice rU LU cU, .slice rS LS cS, .int .i32 E, .slice rJ m cJ] 67) = W at *
  have x4 := hx.cell (j := 4) rfl
  go_wp2_with fail
  go_ret
  exact ⟨rfl, hb⟩
end Go.Proofs.YtafmakhhdinknaaGreatDoor
/- Package book: may a journal be where it is. -/
namespace Go.Proofs.YtafmakhhdinknaaGreatDoor
open Go.RowKit
set_option linter.unusedVariables false
set_option linter.unusedSimpArgs false
set_option maxHeartbeats 4000000 in
set_option maxRecDepth 100000 in
theorem checkjournal_b (vC vU vS vJ : Value) (f : Fr) (vs : List Jm) (k : Nat) (p : Jm) (w : World) (hI : InI w) (hF : FrM f vC vU vS w) (hi : FrIn f) (hc : chkF f = 0) (hJ : JRow w vJ vs) (hl : vs.length ≤ 2000) (hp : ∀ p ∈ vs, p.2.2.length ≤ 100 ∧ -2147483648 ≤ p.1 ∧ p.1 ≤ 2147483647) (hk : vs[k]? = some p) :
    Calls Tryz.prog 92 #[bkV vC vU vS f.E vJ, .int .i64 (k : Nat)] w fun e w' => e = .returned (.int .i64 (oneJ f vs k p)) ∧ Below w.heap.size w w' := by
  have hmix : Tryz.prog.follows .mixedOrders = true := by kernel_rfl
  obtain ⟨hrD, hED, hlD⟩ := chkD_ok10 (chkF_ok10 hc)
  have h1D : 1 ≤ f.S.length := by
    have h := chkF_ok10 hc
    unfold chkD at h
    split at h
    · omega
    · omega
  have hkl : k < vs.length := (List.getElem?_eq_some_iff.1 hk).1
  obtain ⟨rC, cC, rfl, _⟩ := hF.c.form
  obtain ⟨rU, cU, rfl, _⟩ := hF.u.form
  obtain ⟨rS, cS, rfl, _⟩ := hF.s.form
  obtain ⟨g, off, cp, rfl, _⟩ := hJ.at hk
  obtain ⟨R, hR⟩ : ∃ n, oneJ f vs k p = n := ⟨_, rfl⟩
  have HR := Lib.hid (show (if chkJ p.1 p.2.2 ≠ 0 then chkJ p.1 p.2.2 else if (∃ q, prevD vs k = some q ∧ p.1 < q) then 6 else if perI f.S f.E p.1 < 0 then 13 else if p.2.2.all (hasF f) = false then 8 else 0) = R from hR)
  have hpi := hp p (List.mem_of_getElem? hk)
  have KP := Lib.hid (fun (w' : World) (h : Below w.heap.size w w') => calC.period _ f.S f.E p.1 w' (hI.stay h) (hF.stay h).s hrD h1D hlD (fun x hx => ⟨hi.s.2 x hx, hED x hx⟩) hi.e hpi.2)
  have KH := Lib.hid (fun (l : Ln) (w' : World) (h : Below w.heap.size w w') => line_b _ _ _ f l w' (hF.stay h) hi)
  have HI := Lib.hid hI
  have HJ := Lib.hid hJ
  unfold bkV
  unfold frV at KH
  obtain ⟨EE, hEE⟩ : ∃ n, f.E = n := ⟨_, rfl⟩
  obtain ⟨LC, hLC⟩ : ∃ n, f.C.length = n := ⟨_, rfl⟩
  obtain ⟨LU, hLU⟩ : ∃ n, f.U.length = n := ⟨_, rfl⟩
  obtain ⟨LS, hLS⟩ : ∃ n, f.S.length = n := ⟨_, rfl⟩
  obtain ⟨m, hm⟩ : ∃ n, vs.length = n := ⟨_, rfl⟩
  rw [hEE, hLC, hLU, hLS] at KH
  rw [hEE, hLS] at KP
  rw [hEE] at HR
  rw [hR, hEE, hLC, hLU, hLS]
  obtain ⟨pv, hpv⟩ : ∃ n, perI f.S EE p.1 = n := ⟨_, rfl⟩
  rw [hpv] at HR KP
  have hb := (Below.refl w.heap.size w).alloc (Nat.le_refl _) (.cells #[.slice rC LC cC, .slice rU LU cU, .slice rS LS cS, .int .i32 EE, .slice (some ⟨g, off, none⟩) m cp] 67)
  have bx := HBox.new w [.slice rC LC cC, .slice rU LU cU, .slice rS LS cS, .int .i32 EE, .slice (some ⟨g, off, none⟩) m cp] 67
  change HBox (w.alloc (.cells #[.slice rC LC cC, .slice rU LU cU, .slice rS LS cS, .int .i32 EE, .slice (some ⟨g, off, none⟩) m cp] 67)) _ _ _ at bx
  rw [hm] at hJ hl hkl ⊢
  obtain ⟨hg, hcp, c0, c1, hRl⟩ := (hJ.stay hb).cells hk
  have HPV : Hid (∀ n, k = n + 1 → ∃ q : Jm, vs[n]? = some q) := Lib.hid (fun n e => ⟨_, List.getElem?_eq_getElem (by omega)⟩)
  obtain ⟨rl, cl, hvl, hml⟩ := hRl.form
  rw [hvl] at c1 hRl
  obtain ⟨dd, hdd⟩ : ∃ d, p.1 = d := ⟨_, rfl⟩
  obtain ⟨LL, hLL⟩ : ∃ n, p.2.2.length = n := ⟨_, rfl⟩
  obtain ⟨CJ, hCJ⟩ : ∃ n, chkJ p.1 p.2.2 = n := ⟨_, rfl⟩
  have hd32 : I32 dd := by unfold I32; omega
  have KL := fun (w' : World) (h : Below (w.alloc (.cells #[.slice rC LC cC, .slice rU LU cU, .slice rS LS cS, .int .i32 EE, .slice (some ⟨g, off, none⟩) m cp] 67)).heap.size (w.alloc (.cells #[.slice rC LC cC, .slice rU LU cU, .slice rS LS cS, .int .i32 EE, .slice (some ⟨g, off, none⟩) m cp] 67)) w') => entryC.check (.slice rl p.2.2.length cl) dd p.2.2 w' (HI.out.stay (hb.trans (h.mono hb.size))) (hRl.stay h) hpi.1 hd32
  rw [hCJ, hdd] at HR
  rw [← hdd, hCJ, hLL] at KL
  rw [hdd] at KL KP c0
  rw [hLL] at c1 hml hRl
  have HRL := Lib.hid hRl
  have HLL := Lib.hid hLL
  have KL3 := Lib.hid KL
  have HMV := Lib.hid hm
  have HJ1 := Lib.hid (HJ.out.stay hb)
  have HB := Lib.hid hb
  have HX := Lib.hid bx
  obtain ⟨ls, hls⟩ : ∃ ls, p.2.2 = ls := ⟨_, rfl⟩
  rw [hls] at HR HRL HLL
  have HDD := Lib.hid hdd
  clear hI hF hi hJ hp hrD hED h1D hlD hEE hLC hLU hLS hm hpv hR hvl hpi hRl hb bx hLL hCJ KL hls hdd hd32 HJ
  go_enter Tryz.func92, Tryz.ntmps92
  go_upto_region 1 with fail
  generalize w.alloc (.cells #[.slice rC LC cC, .slice rU LU cU, .slice rS LS cS, .int .i32 EE, .slice (some ⟨g, off, none⟩) m cp] 67) = W at *
  generalize hY : w.heap.size = Y at HX ⊢
  clear hY
  have x4 := HX.out.cell (j := 4) rfl
  have hbw := (Below.refl W.heap.size W).alloc (Nat.le_refl _) (.cells #[.int .i32 dd, .slice rl LL cl] 94)
  have hjb := HBox.new W [.int .i32 dd, .slice rl LL cl] 94
  change HBox (W.alloc (.cells #[.int .i32 dd, .slice rl LL cl] 94)) _ _ _ at hjb
  go_upto_region 2 with fail
  clear c0 c1 hg x4
  generalize W.alloc (.cells #[.int .i32 dd, .slice rl LL cl] 94) = W1 at *
  generalize hJY : W.heap.size = JY at hjb ⊢
  have y0 := hjb.cell (j := 0) rfl
  have y1 := hjb.cell (j := 1) rfl
  have HJB := Lib.hid hjb
  have HX1 := Lib.hid (HX.out.stay hbw)
  have HB1 := Lib.hid (HB.out.trans (hbw.mono HB.out.size))
  have HBW := Lib.hid hbw
  clear hjb hbw hJY HX HB
  go_upto_region 3 with (go_at_call 76; refine (KL3.out _ HBW.out).mono ?_; rintro e w5 ⟨rfl, h5⟩; have HX5 := Lib.hid (HX1.out.stay h5); have HJB5 := Lib.hid (HJB.out.stay h5); have HB5 := Lib.hid (HB1.out.trans (h5.mono HB1.out.size)); have HBW5 := Lib.hid (HBW.out.trans (h5.mono HBW.out.size)); clear h5)
  clear y0 y1 HX1 HJB HB1 HBW
  by_cases hcj : CJ = 0
  · subst hcj
    obtain ⟨kI, hkI⟩ : ∃ i : Int, (k : Int) = i := ⟨_, rfl⟩
    rw [hkI]
    have HT : Hid ((¬ ∃ q, prevD vs k = some q ∧ dd < q) → (if pv < 0 then 13 else if ls.all (hasF f) = false then 8 else 0) = R) := Lib.hid (fun h => by
      have hr := HR.out
      rw [if_neg (by simp), if_neg h] at hr
      exact hr)
    have y0 := HJB5.out.cell (j := 0) rfl
    have x4 := HX5.out.cell (j := 4) rfl
    rcases (by cases k with
      | zero => exact .inl rfl
      | succ n => exact .inr ⟨n, rfl⟩ : k = 0 ∨ ∃ n, k = n + 1) with h0 | ⟨n, hn⟩
    · have f1 : decide (0 < kI) = false := decide_eq_false (by omega)
      have HT2 := Lib.hid (HT.out (by rw [h0]; unfold prevD; simp))
      clear HR HT h0 hkI hkl hk
      go_upto_region 5 with fail
      go_quiet (fail)
      have HX6 := Lib.hid (HX5.out.stay (below_drewQ _ w5 nq))
      have HJB6 := Lib.hid (HJB5.out.stay (below_drewQ _ w5 nq))
      have HB6 := Lib.hid (HB5.out.trans (below_drewQ _ w5 nq))
      have HBW6 := Lib.hid (HBW5.out.trans (below_drewQ _ w5 nq))
      clear HX5 HJB5 HB5 HBW5 y0 x4
      generalize w5.drewN nq = w6 at *
      have y0 := HJB6.out.cell (j := 0) rfl
      have x2 := HX6.out.cell (j := 2) rfl
      have x3 := HX6.out.cell (j := 3) rfl
      go_upto_region 8 with (go_at_call 95; refine (KP.out _ HB6.out).mono ?_; rintro e w8 ⟨rfl, h8⟩; have HX8 := Lib.hid (HX6.out.stay h8); have HJB8 := Lib.hid (HJB6.out.stay h8); have HB8 := Lib.hid (HB6.out.trans (h8.mono HB6.out.size)); have HBW8 := Lib.hid (HBW6.out.trans (h8.mono HBW6.out.size)); clear h8)
      clear y0 x2 x3 HX6 HJB6 HB6 HBW6
      by_cases hpn : pv < 0
      · have hr := HT2.out
        rw [if_pos hpn] at hr
        subst hr
        have g1 : decide (0 ≤ pv) = false := decide_eq_false (by omega)
        go_wp2_with fail
        go_ret
        exact ⟨rfl, HB8.out⟩
      · have HT3 := Lib.hid (HT2.out)
        have hr := HT2.out
        rw [if_neg hpn] at hr
        have HT4 := Lib.hid hr
        have g1 : decide (0 ≤ pv) = true := decide_eq_true (by omega)
        have y1 := HJB8.out.cell (j := 1) rfl
        clear hr HT2 HT3
        go_wp2_with fail
        clear y1
        go_loopw [50] (fun i wq => ∃ j : Nat, i = .int .i64 j ∧ j ≤ LL ∧ Hid ((ls.take j).all (hasF f) = true) ∧ Hid (HBox wq Y [.slice rC LC cC, .slice rU LU cU, .slice rS LS cS, .int .i32 EE, .slice (some ⟨g, off, none⟩) m cp] 67) ∧ Hid (Below w.heap.size w wq) ∧ Hid (Below W.heap.size W wq)) (fun i _ => LL - (intOf i).toNat)
        case atStart => exact ⟨0, rfl, Nat.zero_le _, Lib.hid rfl, HX8, HB8, HBW8⟩
        case round =>
          clear HX8 HB8 HBW8 HJB8
          obtain ⟨j, rfl, hjl, HA, HX, HB, HBW⟩ := hrel
          rename World => wq
          by_cases hlt : j < LL
          · obtain ⟨l, hl⟩ : ∃ l, ls[j]? = some l := ⟨ls[j]'(by have := HLL.out; omega), List.getElem?_eq_getElem (by have := HLL.out; omega)⟩
            obtain ⟨gl, ol, rfl, hgl, hcx⟩ := (HRL.out.stay HBW.out).at hl
            have c0 := hcx 0 _ rfl
            have c1 := hcx 1 _ rfl
            have c2 := hcx 2 _ rfl
            have c3 := hcx 3 _ rfl
            rw [Nat.add_zero] at c0
            have HS : Hid ((ls.take (j + 1)).all (hasF f) = hasF f l) := Lib.hid (by
              rw [List.take_add_one, hl, List.all_append, HA.out]; simp)
            have HN : Hid (hasF f l = false → ls.all (hasF f) = false) := Lib.hid (fun h => by
              rw [List.all_eq_false]
              exact ⟨l, List.mem_of_getElem? hl, by rw [h]; simp⟩)
            have K1 := fun w' h => KH.out l w' h
            clear hcx hl HA
            unfold lnV at K1
            have hbq := (Below.refl wq.heap.size wq).alloc (Nat.le_refl _) (.cells #[.int .u32 (l.acc : Int), .int .u16 (l.ent.n : Int), .int .u16 (l.ctr : Int), .int .i64 l.amt] 116)
            have hlb := HBox.new wq [.int .u32 (l.acc : Int), .int .u16 (l.ent.n : Int), .int .u16 (l.ctr : Int), .int .i64 l.amt] 116
            change HBox (wq.alloc (.cells #[.int .u32 (l.acc : Int), .int .u16 (l.ent.n : Int), .int .u16 (l.ctr : Int), .int .i64 l.amt] 116)) _ _ _ at hlb
            go_upto_region 13 with fail
            clear c0 c1 c2 c3 hgl
            generalize wq.alloc (.cells #[.int .u32 (l.acc : Int), .int .u16 (l.ent.n : Int), .int .u16 (l.ctr : Int), .int .i64 l.amt] 116) = W3 at *
            generalize wq.heap.size = LY at hlb ⊢
            have HXq := Lib.hid (HX.out.stay hbq)
            have HBq := Lib.hid (HB.out.trans (hbq.mono HB.out.size))
            have HBWq := Lib.hid (HBW.out.trans (hbq.mono HBW.out.size))
            have x0 := HXq.out.cell (j := 0) rfl
            have x1 := HXq.out.cell (j := 1) rfl
            have x2 := HXq.out.cell (j := 2) rfl
            have x3 := HXq.out.cell (j := 3) rfl
            have z0 := hlb.cell (j := 0) rfl
            have z1 := hlb.cell (j := 1) rfl
            have z2 := hlb.cell (j := 2) rfl
            have z3 := hlb.cell (j := 3) rfl
            have K2 := K1 W3 HBq.out
            clear K1 hbq hlb HX HB HBW
            cases hT : hasF f l with
            | true =>
              rw [hT] at K2 HS
              simp only [if_true] at K2
              have K3 := Lib.hid K2
              clear K2
              go_wp2_with (go_at_call 115; refine K3.out.mono ?_; rintro e w9 ⟨rfl, h9⟩; have HX9 := Lib.hid (HXq.out.stay h9); have HB9 := Lib.hid (HBq.out.trans (h9.mono HBq.out.size)); have HBW9 := Lib.hid (HBWq.out.trans (h9.mono HBWq.out.size)); clear h9)
              go_roundw
              case rel => exact ⟨j + 1, by go_num, by omega, HS, HX9, HB9, HBW9⟩
              case measure => simp [intOf]; omega
            | false =>
              rw [hT] at K2
              simp only [if_false, Bool.false_eq_true] at K2
              have K3 := Lib.hid K2
              have hr := HT4.out
              rw [if_pos (HN.out hT)] at hr
              subst hr
              clear K2
              go_wp2_with (go_at_call 115; refine K3.out.mono ?_; rintro e w9 ⟨rfl, h9⟩; have HB9 := Lib.hid (HBq.out.trans (h9.mono HBq.out.size)); clear h9)
              go_ret
              exact ⟨rfl, HB9.out⟩
          · obtain rfl : j = LL := by omega
            have hr := HT4.out
            rw [if_neg (by have h := HA.out; rw [List.take_of_length_le (by have := HLL.out; omega)] at h; rw [h]; simp)] at hr
            subst hr
            go_wp2_with fail
            go_ret
            exact ⟨rfl, HB.out⟩
    · obtain ⟨q, hq⟩ := HPV.out n hn
      have f1 : decide (0 < kI) = true := decide_eq_true (by omega)
      have f2 : IntKind.i64.wrap (kI - 1) = (n : Int) := by rw [show kI - 1 = (n : Int) by omega]; rw [IntKind.wrap_i64]; omega
      have f3 : n < m := by omega
      obtain ⟨hg, _, c0, _, _⟩ := (HJ1.out.stay HBW5.out).cells hq
      obtain ⟨qd, hqd⟩ : ∃ d, q.1 = d := ⟨_, rfl⟩
      rw [hqd] at c0
      have hpr : prevD vs k = some qd := by rw [hn, prevD_succ hq, hqd]
      by_cases hlt : dd < qd
      · have f4 : decide (dd < qd) = true := decide_eq_true hlt
        have hr := HR.out
        rw [if_neg (by simp), if_pos ⟨qd, hpr, hlt⟩] at hr
        subst hr
        clear HR HT hn hkI hkl hk hpr
        go_upto_region 5 with fail
        go_quiet (fail)
        go_wp2_with fail
        go_ret
        exact ⟨rfl, HB5.out.trans (below_drewQ _ _ _)⟩
      · have f4 : decide (dd < qd) = false := decide_eq_false hlt
        have HT2 := Lib.hid (HT.out (by rw [hpr]; rintro ⟨q', e, h⟩; cases e; exact hlt h))
        clear HR HT hn hkI hkl hk hpr
        go_upto_region 5 with fail
        go_quiet (fail)
        have HX6 := Lib.hid (HX5.out.stay (below_drewQ _ w5 nq))
        have HJB6 := Lib.hid (HJB5.out.stay (below_drewQ _ w5 nq))
        have HB6 := Lib.hid (HB5.out.trans (below_drewQ _ w5 nq))
        have HBW6 := Lib.hid (HBW5.out.trans (below_drewQ _ w5 nq))
        clear HX5 HJB5 HB5 HBW5 y0 x4
        generalize w5.drewN nq = w6 at *
        have y0 := HJB6.out.cell (j := 0) rfl
        have x2 := HX6.out.cell (j := 2) rfl
        have x3 := HX6.out.cell (j := 3) rfl
        go_upto_region 8 with (go_at_call 95; refine (KP.out _ HB6.out).mono ?_; rintro e w8 ⟨rfl, h8⟩; have HX8 := Lib.hid (HX6.out.stay h8); have HJB8 := Lib.hid (HJB6.out.stay h8); have HB8 := Lib.hid (HB6.out.trans (h8.mono HB6.out.size)); have HBW8 := Lib.hid (HBW6.out.trans (h8.mono HBW6.out.size)); clear h8)
        clear y0 x2 x3 HX6 HJB6 HB6 HBW6
        by_cases hpn : pv < 0
        · have hr := HT2.out
          rw [if_pos hpn] at hr
          subst hr
          have g1 : decide (0 ≤ pv) = false := decide_eq_false (by omega)
          go_wp2_with fail
          go_ret
          exact ⟨rfl, HB8.out⟩
        · have HT3 := Lib.hid (HT2.out)
          have hr := HT2.out
          rw [if_neg hpn] at hr
          have HT4 := Lib.hid hr
          have g1 : decide (0 ≤ pv) = true := decide_eq_true (by omega)
          have y1 := HJB8.out.cell (j := 1) rfl
          clear hr HT2 HT3
          go_wp2_with fail
          clear y1
          go_loopw [50] (fun i wq => ∃ j : Nat, i = .int .i64 j ∧ j ≤ LL ∧ Hid ((ls.take j).all (hasF f) = true) ∧ Hid (HBox wq Y [.slice rC LC cC, .slice rU LU cU, .slice rS LS cS, .int .i32 EE, .slice (some ⟨g, off, none⟩) m cp] 67) ∧ Hid (Below w.heap.size w wq) ∧ Hid (Below W.heap.size W wq)) (fun i _ => LL - (intOf i).toNat)
          case atStart => exact ⟨0, rfl, Nat.zero_le _, Lib.hid rfl, HX8, HB8, HBW8⟩
          case round =>
            clear HX8 HB8 HBW8 HJB8
            obtain ⟨j, rfl, hjl, HA, HX, HB, HBW⟩ := hrel
            rename World => wq
            by_cases hlt : j < LL
            · obtain ⟨l, hl⟩ : ∃ l, ls[j]? = some l := ⟨ls[j]'(by have := HLL.out; omega), List.getElem?_eq_getElem (by have := HLL.out; omega)⟩
              obtain ⟨gl, ol, rfl, hgl, hcx⟩ := (HRL.out.stay HBW.out).at hl
              have c0 := hcx 0 _ rfl
              have c1 := hcx 1 _ rfl
              have c2 := hcx 2 _ rfl
              have c3 := hcx 3 _ rfl
              rw [Nat.add_zero] at c0
              have HS : Hid ((ls.take (j + 1)).all (hasF f) = hasF f l) := Lib.hid (by
                rw [List.take_add_one, hl, List.all_append, HA.out]; simp)
              have HN : Hid (hasF f l = false → ls.all (hasF f) = false) := Lib.hid (fun h => by
                rw [List.all_eq_false]
                exact ⟨l, List.mem_of_getElem? hl, by rw [h]; simp⟩)
              have K1 := fun w' h => KH.out l w' h
              clear hcx hl HA
              unfold lnV at K1
              have hbq := (Below.refl wq.heap.size wq).alloc (Nat.le_refl _) (.cells #[.int .u32 (l.acc : Int), .int .u16 (l.ent.n : Int), .int .u16 (l.ctr : Int), .int .i64 l.amt] 116)
              have hlb := HBox.new wq [.int .u32 (l.acc : Int), .int .u16 (l.ent.n : Int), .int .u16 (l.ctr : Int), .int .i64 l.amt] 116
              change HBox (wq.alloc (.cells #[.int .u32 (l.acc : Int), .int .u16 (l.ent.n : Int), .int .u16 (l.ctr : Int), .int .i64 l.amt] 116)) _ _ _ at hlb
              go_upto_region 13 with fail
              clear c0 c1 c2 c3 hgl
              generalize wq.alloc (.cells #[.int .u32 (l.acc : Int), .int .u16 (l.ent.n : Int), .int .u16 (l.ctr : Int), .int .i64 l.amt] 116) = W3 at *
              generalize wq.heap.size = LY at hlb ⊢
              have HXq := Lib.hid (HX.out.stay hbq)
              have HBq := Lib.hid (HB.out.trans (hbq.mono HB.out.size))
              have HBWq := Lib.hid (HBW.out.trans (hbq.mono HBW.out.size))
              have x0 := HXq.out.cell (j := 0) rfl
              have x1 := HXq.out.cell (j := 1) rfl
              have x2 := HXq.out.cell (j := 2) rfl
              have x3 := HXq.out.cell (j := 3) rfl
              have z0 := hlb.cell (j := 0) rfl
              have z1 := hlb.cell (j := 1) rfl
              have z2 := hlb.cell (j := 2) rfl
              have z3 := hlb.cell (j := 3) rfl
              have K2 := K1 W3 HBq.out
              clear K1 hbq hlb HX HB HBW
              cases hT : hasF f l with
              | true =>
                rw [hT] at K2 HS
                simp only [if_true] at K2
                have K3 := Lib.hid K2
                clear K2
                go_wp2_with (go_at_call 115; refine K3.out.mono ?_; rintro e w9 ⟨rfl, h9⟩; have HX9 := Lib.hid (HXq.out.stay h9); have HB9 := Lib.hid (HBq.out.trans (h9.mono HBq.out.size)); have HBW9 := Lib.hid (HBWq.out.trans (h9.mono HBWq.out.size)); clear h9)
                go_roundw
                case rel => exact ⟨j + 1, by go_num, by omega, HS, HX9, HB9, HBW9⟩
                case measure => simp [intOf]; omega
              | false =>
                rw [hT] at K2
                simp only [if_false, Bool.false_eq_true] at K2
                have K3 := Lib.hid K2
                have hr := HT4.out
                rw [if_pos (HN.out hT)] at hr
                subst hr
                clear K2
                go_wp2_with (go_at_call 115; refine K3.out.mono ?_; rintro e w9 ⟨rfl, h9⟩; have HB9 := Lib.hid (HBq.out.trans (h9.mono HBq.out.size)); clear h9)
                go_ret
                exact ⟨rfl, HB9.out⟩
            · obtain rfl : j = LL := by omega
              have hr := HT4.out
              rw [if_neg (by have h := HA.out; rw [List.take_of_length_le (by have := HLL.out; omega)] at h; rw [h]; simp)] at hr
              subst hr
              go_wp2_with fail
              go_ret
              exact ⟨rfl, HB.out⟩
  · have hr := HR.out
    rw [if_pos hcj] at hr
    subst hr
    have hcj' : (CJ != 0) = true := by simp [hcj]
    go_wp2_with fail
    go_ret
    exact ⟨rfl, HB5.out⟩
end Go.Proofs.YtafmakhhdinknaaGreatDoor
/- Package book: may its journals be, may it be. -/
namespace Go.Proofs.YtafmakhhdinknaaGreatDoor
open Go.RowKit
set_option linter.unusedVariables false
set_option linter.unusedSimpArgs false
set_option maxHeartbeats 2000000 in
set_option maxRecDepth 100000 in
theorem checkjournals_b (vC vU vS vJ : Value) (f : Fr) (vs : List Jm) (w : World) (hI : InI w) (hF : FrM f vC vU vS w) (hi : FrIn f) (hc : chkF f = 0) (hJ : JRow w vJ vs) (hl : vs.length ≤ 2000) (hp : ∀ p ∈ vs, p.2.2.length ≤ 100 ∧ -2147483648 ≤ p.1 ∧ p.1 ≤ 2147483647) :
    Calls Tryz.prog 75 #[bkV vC vU vS f.E vJ] w fun e w' => e = .returned (.int .i64 (chkJs f none (vs.map jOf))) ∧ Below w.heap.size w w' := by
  obtain ⟨rC, cC, rfl, _⟩ := hF.c.form
  obtain ⟨rU, cU, rfl, _⟩ := hF.u.form
  obtain ⟨rS, cS, rfl, _⟩ := hF.s.form
  obtain ⟨rJ, cJ, rfl, hmJ⟩ := hJ.1.form
  have KJ := Lib.hid (fun (k : Nat) (p : Jm) (hk : vs[k]? = some p) (w' : World) (h : Below w.heap.size w w') => checkjournal_b _ _ _ _ f vs k p w' (hI.stay h) (hF.stay h) hi hc (hJ.stay h) hl hp hk)
  obtain ⟨R, hR⟩ : ∃ n, chkJs f none (vs.map jOf) = n := ⟨_, rfl⟩
  have HR : Hid (chkJs f (prevD vs 0) ((vs.drop 0).map jOf) = R) := Lib.hid hR
  rw [hR]
  unfold bkV at KJ ⊢
  obtain ⟨EE, hEE⟩ : ∃ n, f.E = n := ⟨_, rfl⟩
  obtain ⟨LC, hLC⟩ : ∃ n, f.C.length = n := ⟨_, rfl⟩
  obtain ⟨LU, hLU⟩ : ∃ n, f.U.length = n := ⟨_, rfl⟩
  obtain ⟨LS, hLS⟩ : ∃ n, f.S.length = n := ⟨_, rfl⟩
  obtain ⟨m, hm⟩ : ∃ n, vs.length = n := ⟨_, rfl⟩
  have HM := Lib.hid hm
  rw [hEE, hLC, hLU, hLS, hm] at KJ
  rw [hEE, hLC, hLU, hLS, hm]
  rw [hm] at hl
  have hb := (Below.refl w.heap.size w).alloc (Nat.le_refl _) (.cells #[.slice rC LC cC, .slice rU LU cU, .slice rS LS cS, .int .i32 EE, .slice rJ m cJ] 67)
  have bx := HBox.new w [.slice rC LC cC, .slice rU LU cU, .slice rS LS cS, .int .i32 EE, .slice rJ m cJ] 67
  change HBox (w.alloc (.cells #[.slice rC LC cC, .slice rU LU cU, .slice rS LS cS, .int .i32 EE, .slice rJ m cJ] 67)) _ _ _ at bx
  have HB := Lib.hid hb
  have HX := Lib.hid bx
  clear hI hF hi hc hJ hp hR hEE hLC hLU hLS hm hb bx
  go_enter Tryz.func75, Tryz.ntmps75
  go_upto_region 1 with fail
  generalize w.alloc (.cells #[.slice rC LC cC, .slice rU LU cU, .slice rS LS cS, .int .i32 EE, .slice rJ m cJ] 67) = W at *
  generalize w.heap.size = Y at HX ⊢
  have x4 := HX.out.cell (j := 4) rfl
  go_wp2_with fail
  clear x4
  go_loopw [8] (fun i wr => ∃ k : Nat, i = .int .i64 k ∧ k ≤ m ∧ Hid (chkJs f (prevD vs k) ((vs.drop k).map jOf) = R) ∧ Hid (HBox wr Y [.slice rC LC cC, .slice rU LU cU, .slice rS LS cS, .int .i32 EE, .slice rJ m cJ] 67) ∧ Hid (Below w.heap.size w wr)) (fun i _ => m - (intOf i).toNat)
  case atStart => exact ⟨0, rfl, Nat.zero_le _, HR, HX, HB⟩
  case round =>
    clear HR HX HB
    obtain ⟨k, rfl, hk, HR, HX, HB⟩ := hrel
    rename World => wr
    by_cases hlt : k < m
    · obtain ⟨p, hp⟩ : ∃ p, vs[k]? = some p := ⟨vs[k]'(by have := HM.out; omega), List.getElem?_eq_getElem (by have := HM.out; omega)⟩
      have HST := Lib.hid ((chkJs_one (f := f) hp).symm.trans HR.out)
      have K1 := KJ.out k p hp wr HB.out
      obtain ⟨O, hO⟩ : ∃ o, oneJ f vs k p = o := ⟨_, rfl⟩
      rw [hO] at K1 HST
      have K2 := Lib.hid K1
      have x0 := HX.out.cell (j := 0) rfl
      have x1 := HX.out.cell (j := 1) rfl
      have x2 := HX.out.cell (j := 2) rfl
      have x3 := HX.out.cell (j := 3) rfl
      have x4 := HX.out.cell (j := 4) rfl
      clear K1 hO hp HR
      by_cases hz : O = 0
      · have HS : Hid (chkJs f (prevD vs (k + 1)) ((vs.drop (k + 1)).map jOf) = R) := Lib.hid (by have h := HST.out; rw [if_neg (by simpa using hz)] at h; exact h)
        have hn : (O != 0) = false := by simp [hz]
        clear HST
        go_wp2_with (go_at_call 92; refine K2.out.mono ?_; rintro e w9 ⟨rfl, h9⟩; have HX9 := Lib.hid (HX.out.stay h9); have HB9 := Lib.hid (HB.out.trans (h9.mono HB.out.size)); clear h9)
        go_roundw
        case rel => exact ⟨k + 1, by go_num, by omega, HS, HX9, HB9⟩
        case measure => simp [intOf]; omega
      · have hr := HST.out
        rw [if_pos hz] at hr
        subst hr
        have hn : (O != 0) = true := by simp [hz]
        clear HST
        go_wp2_with (go_at_call 92; refine K2.out.mono ?_; rintro e w9 ⟨rfl, h9⟩; have HB9 := Lib.hid (HB.out.trans (h9.mono HB.out.size)); clear h9)
        go_ret
        exact ⟨rfl, HB9.out⟩
    · obtain rfl : k = m := by omega
      have hr := HR.out
      rw [List.drop_eq_nil_of_le (by rw [HM.out]; exact Nat.le_refl _)] at hr
      have hr2 : (0 : Int) = R := hr
      subst hr2
      go_wp2_with fail
      go_ret
      exact ⟨rfl, HB.out⟩
set_option maxHeartbeats 2000000 in
set_option maxRecDepth 100000 in
theorem bookcheck_b (vC vU vS vJ : Value) (f : Fr) (vs : List Jm) (w : World) (hI : InI w) (hF : FrM f vC vU vS w) (hi : FrIn f) (hJ : JRow w vJ vs) (hl : vs.length ≤ 2000) (hp : ∀ p ∈ vs, p.2.2.length ≤ 100 ∧ -2147483648 ≤ p.1 ∧ p.1 ≤ 2147483647) :
    Calls Tryz.prog 55 #[bkV vC vU vS f.E vJ] w fun e w' => e = .returned (.int .i64 (chkB f (vs.map jOf))) ∧ Below w.heap.size w w' := by
  obtain ⟨rC, cC, rfl, _⟩ := hF.c.form
  obtain ⟨rU, cU, rfl, _⟩ := hF.u.form
  obtain ⟨rS, cS, rfl, _⟩ := hF.s.form
  obtain ⟨rJ, cJ, rfl, hmJ⟩ := hJ.1.form
  have KF := fun (W : World) (hW : Below w.heap.size w W) (g : Nat) (T : TypeId) (hx) => first_b (frV (.slice rC f.C.length cC) (.slice rU f.U.length cU) (.slice rS f.S.length cS) f.E) (bkV (.slice rC f.C.length cC) (.slice rU f.U.length cU) (.slice rS f.S.length cS) f.E (.slice rJ vs.length cJ)) (bkV (.slice rC f.C.length cC) (.slice rU f.U.length cU) (.slice rS f.S.length cS) f.E (.slice rJ vs.length cJ)) (chkF f) 0 (chkJs f none (vs.map jOf)) g T W hx
    (fun w' h => fcheck_b _ _ _ f w' (hI.stay (hW.trans (h.mono hW.size))) (hF.stay (hW.trans (h.mono hW.size))) hi)
    (fun w' _ h => checksize_b _ _ _ _ _ _ _ _ _ _ _ _ _ w' hl)
    (fun w' hc h => checkjournals_b _ _ _ _ f vs w' (hI.stay (hW.trans (h.mono hW.size))) (hF.stay (hW.trans (h.mono hW.size))) hi hc (hJ.stay (hW.trans (h.mono hW.size))) hl hp)
  have hR : (if chkF f ≠ 0 then chkF f else if (0 : Int) ≠ 0 then 0 else chkJs f none (vs.map jOf)) = chkB f (vs.map jOf) := by
    unfold chkB
    rw [if_neg (show ¬ ((0 : Int) ≠ 0) by simp), if_neg (show ¬ 2000 < (vs.map jOf).length by rw [List.length_map]; omega)]
  rw [hR] at KF
  obtain ⟨R, hR2⟩ : ∃ n, chkB f (vs.map jOf) = n := ⟨_, rfl⟩
  rw [hR2] at KF ⊢
  unfold frV bkV at KF
  unfold bkV
  obtain ⟨EE, hEE⟩ : ∃ n, f.E = n := ⟨_, rfl⟩
  obtain ⟨LC, hLC⟩ : ∃ n, f.C.length = n := ⟨_, rfl⟩
  obtain ⟨LU, hLU⟩ : ∃ n, f.U.length = n := ⟨_, rfl⟩
  obtain ⟨LS, hLS⟩ : ∃ n, f.S.length = n := ⟨_, rfl⟩
  obtain ⟨m, hm⟩ : ∃ n, vs.length = n := ⟨_, rfl⟩
  have HM := Lib.hid hm
  rw [hEE, hLC, hLU, hLS, hm] at KF
  rw [hEE, hLC, hLU, hLS, hm]
  have HK := Lib.hid KF
  have hb := (Below.refl w.heap.size w).alloc (Nat.le_refl _) (.cells #[.slice rC LC cC, .slice rU LU cU, .slice rS LS cS, .int .i32 EE, .slice rJ m cJ] 67)
  have hx := HBox.new w [.slice rC LC cC, .slice rU LU cU, .slice rS LS cS, .int .i32 EE, .slice rJ m cJ] 67
  change HBox (w.alloc (.cells #[.slice rC LC cC, .slice rU LU cU, .slice rS LS cS, .int .i32 EE, .slice rJ m cJ] 67)) _ _ _ at hx
  clear KF hI hF hi hJ hl hp hR hR2 hEE hLC hLU hLS hm
  go_enter Tryz.func55, Tryz.ntmps55
  go_upto_region 1 with fail
  generalize w.alloc (.cells #[.slice rC LC cC, .slice rU LU cU, .slice rS LS cS, .int .i32 EE, .slice rJ m cJ] 67) = W at *
  have x0 := hx.cell (j := 0) rfl
  have x1 := hx.cell (j := 1) rfl
  have x2 := hx.cell (j := 2) rfl
  have x3 := hx.cell (j := 3) rfl
  have x4 := hx.cell (j := 4) rfl
  have hb2 := (Below.refl W.heap.size W).alloc (Nat.le_refl _) (.cells #[.func (.func 73) #[.agg #[.slice rC LC cC, .slice rU LU cU, .slice rS LS cS, .int .i32 EE]] #[], .func (.func 74) #[.agg #[.slice rC LC cC, .slice rU LU cU, .slice rS LS cS, .int .i32 EE, .slice rJ m cJ]] #[], .func (.func 75) #[.agg #[.slice rC LC cC, .slice rU LU cU, .slice rS LS cS, .int .i32 EE, .slice rJ m cJ]] #[]] 104)
  have HB2 := Lib.hid (hb.trans (hb2.mono hb.size))
  have hf := HBox.new W [.func (.func 73) #[.agg #[.slice rC LC cC, .slice rU LU cU, .slice rS LS cS, .int .i32 EE]] #[], .func (.func 74) #[.agg #[.slice rC LC cC, .slice rU LU cU, .slice rS LS cS, .int .i32 EE, .slice rJ m cJ]] #[], .func (.func 75) #[.agg #[.slice rC LC cC, .slice rU LU cU, .slice rS LS cS, .int .i32 EE, .slice rJ m cJ]] #[]] 104
  change HBox (W.alloc (.cells #[.func (.func 73) #[.agg #[.slice rC LC cC, .slice rU LU cU, .slice rS LS cS, .int .i32 EE]] #[], .func (.func 74) #[.agg #[.slice rC LC cC, .slice rU LU cU, .slice rS LS cS, .int .i32 EE, .slice rJ m cJ]] #[], .func (.func 75) #[.agg #[.slice rC LC cC, .slice rU LU cU, .slice rS LS cS, .int .i32 EE, .slice rJ m cJ]] #[]] 104)) _ _ _ at hf
  have H1 := Lib.hid (HK.out _ HB2.out _ _ hf)
  clear hx hb hb2 hf HK
  go_wp2_with (go_at_call 72; refine H1.out.mono ?_; rintro e w3 ⟨rfl, h3⟩; have HB3 := Lib.hid (HB2.out.trans (h3.mono HB2.out.size)); clear h3)
  go_ret
  exact ⟨rfl, HB3.out⟩
end Go.Proofs.YtafmakhhdinknaaGreatDoor
/- == of accounts; slices.Equal at any accounts, at any entities. -/
namespace Go.Proofs.YtafmakhhdinknaaGreatDoor
open Go.RowKit
set_option linter.unusedVariables false
set_option linter.unusedSimpArgs false
theorem below_drewA (B : Nat) (w : World) (q : Nat) : Below B w (w.drewN q) := ⟨rfl, rfl, rfl, Nat.le_refl _, fun _ _ => rfl⟩
set_option maxRecDepth 100000 in
theorem equalIn_a (x y : Ac) (w : World) : (Op.equalIn Op.maxDepth 84 (.agg #[.int .u32 (x.code : Int), .string x.name, .int .u8 (x.kind : Int), .int .u32 (x.par : Int)]) (.agg #[.int .u32 (y.code : Int), .string y.name, .int .u8 (y.kind : Int), .int .u32 (y.par : Int)])).run Tryz.prog w = .ok (decide (x = y)) w := by
  have hp : Tryz.prog.stoodInHeld 84 = false := by kernel_rfl
  have ht := Tryz.underlying84
  have hf : Tryz.prog.underlying 84 = some (.struct (Tryz.prog.fieldsOf 84)) := by kernel_rfl
  rw [show Op.maxDepth = 9999 + 1 from rfl, run_equalIn_agg w 9999 _ _ _ hf hp]
  have he : (Tryz.prog.fieldsOf 84) = (match Tryz.prog.underlying 84 with | some (.struct fs) => fs | _ => #[]) := rfl
  rw [he, ht]
  have hd : decide (x = y) = (((x.code : Int) == (y.code : Int)) && ((x.name.toList == y.name.toList) && (((x.kind : Int) == (y.kind : Int)) && ((x.par : Int) == (y.par : Int))))) := by
    rw [Bool.eq_iff_iff]
    simp only [decide_eq_true_eq, Bool.and_eq_true, beq_iff_eq]
    constructor
    · rintro rfl; exact ⟨rfl, rfl, rfl, rfl⟩
    · rintro ⟨h1, h2, h3, h4⟩
      exact Ac.eq_of (by omega) (toList_inj h2) (by omega) (by omega)
  rw [hd]
  generalize (x.code : Int) = a1
  generalize x.name = a2
  generalize (x.kind : Int) = a3
  generalize (x.par : Int) = a4
  generalize (y.code : Int) = b1
  generalize y.name = b2
  generalize (y.kind : Int) = b3
  generalize (y.par : Int) = b4
  clear hd he hf hp ht
  cases h1 : (a1 == b1) <;> cases h2 : (a2.toList == b2.toList) <;> cases h3 : (a3 == b3) <;> cases h4 : (a4 == b4) <;> simp [Op.eqFields, go_sem, Tryz.underlying74, Tryz.underlying9, Tryz.underlying82, h1, h2, h3, h4]
theorem neq_a (x y : Ac) (w : World) : (binOp .neq 84 (.agg #[.int .u32 (x.code : Int), .string x.name, .int .u8 (x.kind : Int), .int .u32 (x.par : Int)]) (.agg #[.int .u32 (y.code : Int), .string y.name, .int .u8 (y.kind : Int), .int .u32 (y.par : Int)])).run Tryz.prog w = .ok (.bool (!decide (x = y))) w := by
  simp [binOp, Op.equal, equalIn_a x y w]
theorem take_stepA {xs ys : List Ac} {j : Nat} {x y : Ac} (h : xs.take j = ys.take j) (hx : xs[j]? = some x) (hy : ys[j]? = some y) (e : x = y) : xs.take (j + 1) = ys.take (j + 1) := by
  rw [List.take_add_one, List.take_add_one, h, hx, hy, e]
theorem take_stepU {xs ys : List Nat} {j : Nat} {x y : Nat} (h : xs.take j = ys.take j) (hx : xs[j]? = some x) (hy : ys[j]? = some y) (e : x = y) : xs.take (j + 1) = ys.take (j + 1) := by
  rw [List.take_add_one, List.take_add_one, h, hx, hy, e]
theorem equal_ulen (r1 r2 : Option Addr) (n1 n2 c1 c2 : Nat) (w : World) (h : n1 ≠ n2) :
    Calls Tryz.prog 117 #[.slice r1 n1 c1, .slice r2 n2 c2] w fun e w' => e = .returned (.bool false) ∧ Below w.heap.size w w' := by
  have h1 : ((n1 : Int) != (n2 : Int)) = true := by simp; omega
  go_enter Tryz.func117, Tryz.ntmps117
  go_wp2
  go_ret
  exact ⟨rfl, Below.refl _ _⟩
set_option maxHeartbeats 2000000 in
theorem equal_us (v1 v2 : Value) (S S' : List Nat) (w : World) (h1 : Recs uc 1 w v1 S) (h2 : Recs uc 1 w v2 S') :
    Calls Tryz.prog 117 #[v1, v2] w fun e w' => e = .returned (.bool (decide (S = S'))) ∧ Below w.heap.size w w' := by
  obtain ⟨r1, cap1, rfl, hm⟩ := h1.form
  obtain ⟨r2, cap2, rfl, _⟩ := h2.form
  by_cases hne : S.length = S'.length
  · obtain ⟨n, hn⟩ : ∃ n, S.length = n := ⟨_, rfl⟩
    have HN := Lib.hid hn
    have HN' := Lib.hid (hne ▸ hn)
    rw [← hne, hn] at h2 ⊢
    rw [hn] at h1 hm
    have H1 := Lib.hid h1
    have H2 := Lib.hid h2
    obtain ⟨T, hT⟩ : ∃ T, decide (S = S') = T := ⟨_, rfl⟩
    have HT := Lib.hid hT
    rw [hT]
    clear h1 h2 hn hne hT
    go_enter Tryz.func117, Tryz.ntmps117
    go_wp2
    go_loopw [13] (fun i wr => ∃ j : Nat, j ≤ n ∧ i = .int .i64 j ∧ Hid (S.take j = S'.take j) ∧ Below w.heap.size w wr) (fun i _ => n - (RowKit.intOf i).toNat)
    case atStart => exact ⟨0, Nat.zero_le _, rfl, rfl, Below.refl _ _⟩
    case round =>
      obtain ⟨j, hj, rfl, hE, hB⟩ := hrel
      rename World => wr
      by_cases hlt : j < n
      · obtain ⟨x, hx⟩ : ∃ x, S[j]? = some x := ⟨S[j]'(by have := HN.out; omega), List.getElem?_eq_getElem (by have := HN.out; omega)⟩
        obtain ⟨y, hy⟩ : ∃ y, S'[j]? = some y := ⟨S'[j]'(by have := HN'.out; omega), List.getElem?_eq_getElem (by have := HN'.out; omega)⟩
        obtain ⟨g1, o1, rfl, _, c1⟩ := (H1.out.stay hB).at hx
        obtain ⟨g2, o2, rfl, _, c2⟩ := (H2.out.stay hB).at hy
        have a0 := c1 0 _ rfl
        have b0 := c2 0 _ rfl
        simp only [Nat.mul_one, Nat.add_zero] at a0 b0
        have HS := Lib.hid (fun e => take_stepU hE.out hx hy e)
        have HF : Hid (x ≠ y → T = false) := Lib.hid (fun e => by
          rw [← HT.out]
          refine decide_eq_false fun h => e ?_
          rw [h, hy] at hx
          exact (Option.some.inj hx).symm)
        clear hx hy c1 c2 hE
        by_cases hxy : x = y
        · subst hxy
          have HS2 := Lib.hid (HS.out rfl)
          clear HS HF
          go_wp2
          go_region
          all_goals
            go_wp2
            go_roundw
            case rel => exact ⟨j + 1, by omega, by go_num, HS2, hB.drew⟩
            case measure => simp [RowKit.intOf]; omega
        · have hxy' : ((x : Int) != (y : Int)) = true := by simp; omega
          obtain rfl := HF.out hxy
          clear HS HF
          go_wp2
          go_region
          all_goals
            go_wp2
            go_ret
            exact ⟨rfl, hB.drew⟩
      · obtain rfl : j = n := by omega
        have e : T = true := by
          rw [← HT.out]
          refine decide_eq_true ?_
          have := hE.out
          rwa [List.take_of_length_le (by have := HN.out; omega), List.take_of_length_le (by have := HN'.out; omega)] at this
        subst e
        go_wp2
        go_ret
        exact ⟨rfl, hB⟩
  · rw [decide_eq_false fun h => hne (by rw [h])]
    exact equal_ulen _ _ _ _ _ _ _ hne
end Go.Proofs.YtafmakhhdinknaaGreatDoor
/- Package book: the first and the last day; are two frames, two books the same. -/
namespace Go.Proofs.YtafmakhhdinknaaGreatDoor
open Go.RowKit
set_option linter.unusedVariables false
set_option linter.unusedSimpArgs false
set_option maxHeartbeats 2000000 in
set_option maxRecDepth 100000 in
theorem days_b (vC vU vS vJ : Value) (f : Fr) (vs : List Jm) (w : World) (hJ : JRow w vJ vs) (hl : vs.length ≤ 2000) :
    Calls Tryz.prog 54 #[bkV vC vU vS f.E vJ] w fun e w' => e = .returned (.tuple #[.int .i32 ((vs.head?.map (·.1)).getD 0), .int .i32 ((vs.getLast?.map (·.1)).getD 0), .bool (decide (vs ≠ []))]) ∧ Below w.heap.size w w' := by
  unfold bkV
  generalize f.E = E
  cases vs with
  | nil =>
    obtain ⟨r, cap, rfl, _⟩ := hJ.1.form
    have hb := (Below.refl w.heap.size w).alloc (Nat.le_refl _) (.cells #[vC, vU, vS, .int .i32 E, .slice r 0 cap] 67)
    have hx := HBox.new w [vC, vU, vS, .int .i32 E, .slice r 0 cap] 67
    change HBox (w.alloc (.cells #[vC, vU, vS, .int .i32 E, .slice r 0 cap] 67)) _ _ _ at hx
    change Calls _ _ #[.agg #[vC, vU, vS, .int .i32 E, .slice r 0 cap]] _ _
    clear hJ hl
    go_enter Tryz.func54, Tryz.ntmps54
    go_upto_region 1 with fail
    generalize w.alloc (.cells #[vC, vU, vS, .int .i32 E, .slice r 0 cap] 67) = W at *
    have x4 := hx.cell (j := 4) rfl
    go_wp2_with fail
    exact bodyPost_ret (v := .tuple #[.int .i32 0, .int .i32 0, .bool false]) (by simp [results, Tryz.results54, go_sem]) rfl ⟨by simp, hb⟩
  | cons p0 rest =>
    obtain ⟨n, hn⟩ : ∃ n, rest.length = n := ⟨_, rfl⟩
    have h0 : (p0 :: rest)[0]? = some p0 := rfl
    obtain ⟨pl, hpl⟩ : ∃ q, (p0 :: rest)[n]? = some q := ⟨_, List.getElem?_eq_getElem (by simp; omega)⟩
    have hlast : (p0 :: rest).getLast? = some pl := by rw [List.getLast?_eq_getElem?, ← hpl]; simp [hn]
    obtain ⟨g, off, cp, rfl, hg, hcp, c0, _, _⟩ := hJ.at h0
    obtain ⟨hg', _, d0, _, _⟩ := hJ.cells hpl
    rw [hlast]
    have hne : decide (p0 :: rest ≠ []) = true := by simp
    rw [hne]
    have hlen : (p0 :: rest).length = n + 1 := by simp [hn]
    rw [hlen] at hcp ⊢
    rw [hlen] at hl
    simp only [Nat.zero_mul, Nat.add_zero] at c0
    simp only [List.head?_cons, Option.map_some, Option.getD_some]
    obtain ⟨da, hda⟩ : ∃ d, p0.1 = d := ⟨_, rfl⟩
    obtain ⟨db, hdb⟩ : ∃ d, pl.1 = d := ⟨_, rfl⟩
    rw [hda] at c0 ⊢
    rw [hdb] at d0 ⊢
    have hb := (Below.refl w.heap.size w).alloc (Nat.le_refl _) (.cells #[vC, vU, vS, .int .i32 E, .slice (some ⟨g, off, none⟩) (n + 1) cp] 67)
    have hx := HBox.new w [vC, vU, vS, .int .i32 E, .slice (some ⟨g, off, none⟩) (n + 1) cp] 67
    change HBox (w.alloc (.cells #[vC, vU, vS, .int .i32 E, .slice (some ⟨g, off, none⟩) (n + 1) cp] 67)) _ _ _ at hx
    have c1 := (World.cell?_alloc_lt w (.cells #[vC, vU, vS, .int .i32 E, .slice (some ⟨g, off, none⟩) (n + 1) cp] 67) ⟨g, off, none⟩ hg).trans c0
    have d1 := (World.cell?_alloc_lt w (.cells #[vC, vU, vS, .int .i32 E, .slice (some ⟨g, off, none⟩) (n + 1) cp] 67) ⟨g, off + n * 2, none⟩ hg).trans d0
    clear hJ hlast hne hlen hda hdb c0 d0 hpl h0 hn
    go_enter Tryz.func54, Tryz.ntmps54
    go_upto_region 1 with fail
    generalize w.alloc (.cells #[vC, vU, vS, .int .i32 E, .slice (some ⟨g, off, none⟩) (n + 1) cp] 67) = W at *
    have x4 := hx.cell (j := 4) rfl
    have f1 : (((n + 1 : Nat) : Int) == 0) = false := by simp; omega
    have f2 : IntKind.i64.wrap (((n + 1 : Nat) : Int) - 1) = (n : Int) := by rw [IntKind.wrap_i64]; omega
    have f3 : n < n + 1 := Nat.lt_succ_self n
    have f4 : 0 < n + 1 := Nat.succ_pos n
    obtain ⟨m, hm⟩ : ∃ m, n + 1 = m := ⟨_, rfl⟩
    rw [hm] at f1 f2 f3 f4 x4
    clear hx
    go_upto_region 3 with fail
    go_quiet (fail)
    go_wp2_with fail
    exact bodyPost_ret (v := .tuple #[.int .i32 da, .int .i32 db, .bool true]) (by simp [results, Tryz.results54, go_sem]) rfl ⟨rfl, hb.trans (below_drewQ _ _ _)⟩
/-- Are two rows of journals the same? -/
def sameJ (vs us : List Jm) : Bool := decide (vs.map jOf = us.map jOf)
theorem sameJ_take {vs us : List Jm} {j : Nat} {x y : Jm} (h : (vs.take j).map jOf = (us.take j).map jOf) (hx : vs[j]? = some x) (hy : us[j]? = some y) (e : x.1 = y.1 ∧ x.2.2 = y.2.2) : (vs.take (j + 1)).map jOf = (us.take (j + 1)).map jOf := by
  rw [List.take_add_one, List.take_add_one, hx, hy, List.map_append, List.map_append, h]
  have : jOf x = jOf y := by unfold jOf; rw [e.1, e.2]
  simp [this]
end Go.Proofs.YtafmakhhdinknaaGreatDoor
/- What the laws ask of book, of the landed book. -/
namespace Go.Proofs.YtafmakhhdinknaaGreatDoor
open Go.RowKit
set_option linter.unusedVariables false
set_option linter.unusedSimpArgs false
theorem bookC : BookC InI where
  fcheck vC vU vS f w hI hF hi := fcheck_b vC vU vS f w hI hF hi
  line vC vU vS f l w hF hi _ := line_b vC vU vS f l w hF hi
  check vC vU vS vJ f vs w hI hF hi hJ hl hp := bookcheck_b vC vU vS vJ f vs w hI hF hi hJ hl hp
  days vC vU vS vJ f vs w hJ hl := days_b vC vU vS vJ f vs w hJ hl
end Go.Proofs.YtafmakhhdinknaaGreatDoor

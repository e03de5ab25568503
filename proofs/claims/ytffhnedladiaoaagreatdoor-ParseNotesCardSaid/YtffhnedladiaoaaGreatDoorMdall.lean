/- Package script: an op's text. -/
import Derived.Test.YtffhnedladiaoaaGreatDoorMt1
import Derived.Test.YtffhnedladiaoaaGreatDoorTall
import Derived.OwnWalk
import Derived.Maps.AppendAt
import Derived.Laws.MakeOwn
namespace Go.Proofs.YtffhnedladiaoaaGreatDoor
open Go.RowKit Go.Lib Go.Shelf
set_option linter.unusedVariables false
set_option linter.unusedSimpArgs false
theorem writeString_s (B b : Nat) (bs : List Value) (s : ByteArray) (w : World) (h : Lib.IsBuilder 80 5 B b bs w) (hlen : bs.length + s.size ≤ 140737488355328) (hBw : B ≤ w.heap.size) :
    Calls Tryz.prog 33 #[.pointer (some ⟨b, 0, none⟩), .string s] w fun e w' => e = .returned (.tuple #[.int .i64 s.size, .nilIface]) ∧ (Lib.BuilderAt 80 5 B b (.pointer (some ⟨b, 0, none⟩)) (bs ++ Lib.strCells s) w' ∧ Below B w w') :=
  Any.Builder_WriteString { Tryz.lays156 with } Tryz.Builder_Extra_156 B b bs s w h hlen hBw
end Go.Proofs.YtffhnedladiaoaaGreatDoor
/- Package script: weights. -/
namespace Go.Proofs.YtffhnedladiaoaaGreatDoor
open Go.RowKit Go.Lib
set_option linter.unusedVariables false
set_option linter.unusedSimpArgs false
def sc (s : List UInt8) : List Value := [strV s]
theorem sc_len (s : List UInt8) : (sc s).length = 1 := rfl
theorem sc_one (s : List UInt8) : ∀ v ∈ sc s, v.oneCell' = true := fun v hv => by simp [sc] at hv; subst hv; rfl
theorem infoS : (Tryz.prog.info? 9).map (fun i => (i.zero, i.size, i.bytes)) = some (some (.string ⟨#[]⟩), 1, 16) := by kernel_rfl
theorem info_of {e : TypeId} {z : Value} {s b : Nat} (h : (Tryz.prog.info? e).map (fun i => (i.zero, i.size, i.bytes)) = some (some z, s, b)) : ∃ i, Tryz.prog.info? e = some i ∧ i.zero = some z ∧ i.size = s ∧ i.bytes = b := by
  cases hi : Tryz.prog.info? e with
  | none => rw [hi] at h; cases h
  | some i =>
    rw [hi] at h
    simp only [Option.map_some, Option.some.injEq, Prod.mk.injEq] at h
    exact ⟨i, rfl, h.1, h.2.1, h.2.2⟩
/-- Texts put together. -/
theorem join_s (base : Nat) (v : Value) (xs : List (List UInt8)) (sep : List UInt8) (w : World) (h : w.ownsRow base 9 1 v xs.length (xs.flatMap sc)) (h0 : xs ≠ []) (hn : xs.length ≤ 1000) (hl : (Lib.join xs sep).length ≤ 140737488355328) :
    Calls Tryz.prog 60 #[v, strV sep] w fun e w' => e = .returned (strV (Lib.join xs sep)) ∧ Below w.heap.size w w' := by
  have hR := recs_of_owns sc_len h rfl hn
  rcases hR with ⟨r, cap, _, h2⟩ | ⟨g, off, cap, rfl, h2, h3, h4, h5⟩
  · exact absurd h2 h0
  · have e1 : ((xs.map fun l => (⟨l.toArray⟩ : ByteArray)).map (·.data.toList)) = xs := by rw [List.map_map]; exact (List.map_congr_left (fun _ _ => rfl)).trans (List.map_id xs)
    have e2 : (xs.map fun l => (⟨l.toArray⟩ : ByteArray)).length = xs.length := by simp
    have K := Tryz.strings_Join g off cap (xs.map fun l => (⟨l.toArray⟩ : ByteArray)) ⟨sep.toArray⟩ w (fun j x hj => by
      rw [List.getElem?_map] at hj
      cases hx : xs[j]? with
      | none => rw [hx] at hj; cases hj
      | some l =>
        rw [hx] at hj; cases hj
        have := h5 j l hx 0 (strV l) rfl
        rw [Nat.mul_one, Nat.add_zero] at this
        exact this) h2 (by rw [e2]; omega) (by rw [e2]; exact h4) (by rw [e1]; simpa using hl)
    rw [e1, e2] at K
    simpa [strV] using K
theorem dec_len (k n : Nat) (h : n < 10 ^ (k + 1)) : (decDigits n).length ≤ k + 1 := by
  revert n
  induction k with
  | zero => intro n hn; rw [decDigits, dif_pos (by simpa using hn)]; simp
  | succ k ih =>
    intro n hn
    rw [decDigits]
    split
    · simp
    · rw [List.length_append]
      have := ih (n / 10) (by rw [Nat.pow_succ] at hn; omega)
      simp; omega
theorem pT_len {p : Nat × Nat} (h1 : p.1 < 4294967296) (h2 : p.2 < 9223372036854775808) : (pT p).length ≤ 50 := by
  have a := dec_len 9 p.1 (by omega)
  have b := dec_len 19 p.2 (by omega)
  unfold pT
  rw [List.length_append, List.length_cons]
  omega
theorem lens_le {xs : List (List UInt8)} {m : Nat} (h : ∀ x ∈ xs, x.length ≤ m) : Lib.lens xs ≤ m * xs.length := by
  unfold Lib.lens
  induction xs with
  | nil => simp
  | cons x xs ih =>
    have h1 := h x (by simp)
    have h2 := ih (fun y hy => h y (by simp [hy]))
    simp only [List.map_cons, List.sum_cons, List.length_cons, Nat.mul_succ]
    omega
theorem join_len {xs : List (List UInt8)} {m : Nat} (h : ∀ x ∈ xs, x.length ≤ m) (sep : List UInt8) : (Lib.join xs sep).length ≤ (sep.length + m) * xs.length := by
  cases xs with
  | nil => simp [join_nil]
  | cons x xs =>
    rw [join_cons, List.length_append, joinTail_length]
    have h1 := h x (by simp)
    have h2 := lens_le (xs := xs) (fun y hy => h y (by simp [hy]))
    rw [List.length_cons, Nat.mul_succ, Nat.add_mul]
    omega
/-- What the region of a round holds, operation by operation. -/
def RW (B : Nat) (v : Value) (p : Nat × Nat) (X : Nat) : Nat → Value → World → Prop
  | 0, u, _ => u = v
  | 1, u, _ => u = .pointer (some ⟨X, 0, none⟩)
  | 2, u, _ => u = .int .u32 (p.1 : Int)
  | 3, u, _ => u = strV (decDigits p.1)
  | 4, u, _ => u = strV (decDigits p.1 ++ [32])
  | 5, u, _ => u = .pointer (some ⟨X, 1, none⟩)
  | 6, u, _ => u = .int .i64 (p.2 : Int)
  | 7, u, _ => u = strV (decDigits p.2)
  | 8, u, _ => u = strV (pT p)
  | _ + 9, u, w => ∃ g, u = .slice (some ⟨g, 0, none⟩) 1 1 ∧ B ≤ g ∧ w.heap[g]? = some (.cells #[strV (pT p)] 9 (0, 0))
theorem RW.stay {B : Nat} {v : Value} {p : Nat × Nat} {X : Nat} {w w' : World} (hb : Below w.heap.size w w') : ∀ (j : Nat) (u : Value), RW B v p X j u w → RW B v p X j u w'
  | 0, _, h => h
  | 1, _, h => h
  | 2, _, h => h
  | 3, _, h => h
  | 4, _, h => h
  | 5, _, h => h
  | 6, _, h => h
  | 7, _, h => h
  | 8, _, h => h
  | _ + 9, _, ⟨g, h1, h2, h3⟩ => ⟨g, h1, h2, (hb.block g (Array.getElem?_eq_some_iff.1 h3).1).trans h3⟩
set_option maxHeartbeats 4000000 in
set_option maxRecDepth 100000 in
theorem weights_s (v : Value) (ps : List (Nat × Nat)) (w : World) (hI : InI w) (hR : Recs ptc 2 w v ps) (hl : ps.length ≤ 1000) (h0 : ps ≠ []) (hb : ∀ p ∈ ps, p.1 < 4294967296 ∧ p.2 < 9223372036854775808) :
    Calls Tryz.prog 97 #[v] w fun e w' => e = .returned (strV (Lib.join (ps.map pT) [44, 32])) ∧ Below w.heap.size w w' := by
  have hmix : Tryz.prog.follows .mixedOrders = true := by kernel_rfl
  obtain ⟨i0, hi, hz0, hz1, hz2⟩ := info_of infoS
  obtain ⟨r, cap, rfl, hm⟩ := hR.form
  obtain ⟨L, hL⟩ : ∃ L, ps.length = L := ⟨_, rfl⟩
  have HL := Lib.hid hL
  have HR := Lib.hid hR
  have HBD := Lib.hid hb
  have HI := Lib.hid hI
  have HJ := Lib.hid (fun (w' : World) (v' : Value) (h : w'.ownsRow w.heap.size 9 1 v' L ((ps.map pT).flatMap sc)) => join_s w.heap.size v' (ps.map pT) [44, 32] w' (by rw [List.length_map, hL]; exact h) (by simpa using h0) (by rw [List.length_map]; exact hl)
    (Nat.le_trans (join_len (m := 50) (fun x hx => by obtain ⟨p, hp, rfl⟩ := List.mem_map.1 hx; exact pT_len (hb p hp).1 (hb p hp).2) _) (by rw [List.length_map]; simp; omega)))
  rw [hL] at hl HR ⊢
  clear hR hL hb hI h0
  obtain ⟨w4, hmk, ho4, hg4⟩ := run_make_own (P := Tryz.prog) w w.heap.size 52 9 i0 (.string ⟨#[]⟩) 1 Tryz.underlying52 hi hz0 hz1 .i64 .i64 L (by rw [hz2]; omega) (by unfold maxLen; omega) (Nat.le_refl _)
  have HO4 := Lib.hid ho4
  have HB4 : Hid (Below w.heap.size w w4) := Lib.hid ((Below.refl _ _).grown hg4 (Nat.le_refl _) (fun k hk => by cases hk))
  clear ho4 hg4
  generalize Lib.join (ps.map pT) [44, 32] = J at *
  go_enter Tryz.func97, Tryz.ntmps97
  go_wp2
  go_loopw [3, 11] (fun s i wr => ∃ (k : Nat) (r2 : Option Addr) (cp : Nat), s = .slice r2 k cp ∧ i = .int .i64 k ∧ k ≤ L ∧ Hid (wr.ownsRow w.heap.size 9 1 (.slice r2 k cp) k (((ps.take k).map pT).flatMap sc)) ∧ Hid (Below w.heap.size w wr)) (fun _ i _ => L - (RowKit.intOf i).toNat)
  case atStart => exact ⟨0, _, _, rfl, rfl, Nat.zero_le _, HO4, HB4⟩
  case round =>
    obtain ⟨k, r2, cp, rfl, rfl, hk, HO, HB⟩ := hrel
    rename World => wr
    clear HO4 HB4 hmk
    by_cases hlt : k < L
    · obtain ⟨p, hp⟩ : ∃ p, ps[k]? = some p := ⟨ps[k]'(by have := HL.out; omega), List.getElem?_eq_getElem (by have := HL.out; omega)⟩
      obtain ⟨g, off, rfl, _, c1⟩ := (HR.out.stay HB.out).at hp
      have a0 := c1 0 _ rfl
      have a1 := c1 1 _ rfl
      rw [Nat.add_zero] at a0
      have hpb := HBD.out p (List.mem_of_getElem? hp)
      have HNX : Hid (((ps.take (k + 1)).map pT).flatMap sc = ((ps.take k).map pT).flatMap sc ++ [strV (pT p)]) := Lib.hid (by rw [List.take_add_one, hp, List.map_append, List.flatMap_append]; rfl)
      clear c1 hp
      go_upto_region 5 with fail
      have hb1 := (HB.out).alloc HB.out.size (.cells #[.int .u32 (p.1 : Int), .int .i64 (p.2 : Int)] 60)
      have bx := RBox.new wr [.int .u32 (p.1 : Int), .int .i64 (p.2 : Int)] 60
      have ho1 := HO.out.alloc (.cells #[.int .u32 (p.1 : Int), .int .i64 (p.2 : Int)] 60)
      change RBox (wr.alloc (.cells #[.int .u32 (p.1 : Int), .int .i64 (p.2 : Int)] 60)) _ _ at bx
      generalize wr.alloc (.cells #[.int .u32 (p.1 : Int), .int .i64 (p.2 : Int)] 60) = W at *
      generalize wr.heap.size = X at *
      have HX := Lib.hid bx
      have HB1 := Lib.hid hb1
      have HO1 := Lib.hid ho1
      have HP := Lib.hid hpb
      clear bx hb1 ho1 hpb a0 a1 HO HB
      refine wp_region_part 10 (fun w' => Below W.heap.size W w') (RW W.heap.size (.slice r2 k cp) p X) hmix (by decide) (by kernel_rfl) (by kernel_rfl) (by kernel_rfl) (Below.refl _ _).drew ?_ ?_
      · intro a w' i hi hC hfar hrd
        have hBw : Below w.heap.size w w' := HB1.out.trans (hC.mono HB1.out.size)
        have hI' : InI w' := HI.out.stay hBw
        rcases (by omega : i = 0 ∨ i = 1 ∨ i = 2 ∨ i = 3 ∨ i = 4 ∨ i = 5 ∨ i = 6 ∨ i = 7 ∨ i = 8 ∨ i = 9) with rfl | rfl | rfl | rfl | rfl | rfl | rfl | rfl | rfl | rfl
        · refine op_run (.move (.tmp 3)) (some 15) (by unfold opIs; kernel_rfl) (.slice r2 k cp) (w' := w') (fun o ho => by unfold execOp; rw [ho]; simp only [(hfar 3 (by kernel_rfl)).trans (show _ = Value.slice r2 k cp by kernel_rfl)]; go_simp) ?_
          exact ⟨_, congrArg (fun d => a.put d (.slice r2 k cp)) (by kernel_rfl), hC, rfl, fun j u h => h⟩
        · refine op_run (.fieldAddr 60 (.tmp 5) 0) (some 16) (by unfold opIs; kernel_rfl) (.pointer (some ⟨X, 0, none⟩)) (w' := w') (fun o ho => by unfold execOp; rw [ho]; simp only [(hfar 5 (by kernel_rfl)).trans (show _ = Value.pointer (some ⟨X, 0, none⟩) by kernel_rfl)]; go_simp) ?_
          exact ⟨_, congrArg (fun d => a.put d (.pointer (some ⟨X, 0, none⟩))) (by kernel_rfl), hC, rfl, fun j u h => h⟩
        · refine op_load 31 (.tmp 16) (some 17) (by unfold opIs; kernel_rfl) _ (.int .u32 (p.1 : Int)) (hrd 1 16 (by kernel_rfl) (by kernel_rfl)) (by have := (HX.out.stay hC).at_ 0 _ rfl; go_simp) ?_
          exact ⟨_, congrArg (fun d => a.put d (.int .u32 (p.1 : Int))) (by kernel_rfl), hC, rfl, fun j u h => h⟩
        · refine op_call (.call { callee := .value (.func 96), args := #[.tmp 17], argTypes := #[31] }) (some 18) (by unfold opIs; kernel_rfl) 96 #[.int .u32 (p.1 : Int)] (fun o ho => by unfold execOp; rw [ho]; simp only [resolve, List.map_toArray, List.map_cons, List.map_nil, show a.eval (.tmp 17) = _ from hrd 2 17 (by kernel_rfl) (by kernel_rfl)]; kernel_rfl) (number_s p.1 HP.out.1 w' hI'.1) ?_
          rintro e w'' ⟨rfl, hb⟩
          exact ⟨_, rfl, _, congrArg (fun d => a.put d _) (by kernel_rfl), hC.trans (hb.mono hC.size), rfl, RW.stay hb⟩
        · refine op_run (.binOp .add 9 (.tmp 18) (.const (.string ⟨#[32]⟩)) 9) (some 19) (by unfold opIs; kernel_rfl) (strV (decDigits p.1 ++ [32])) (w' := w') (fun o ho => by
            unfold execOp; rw [ho]; simp only [show a.eval (.tmp 18) = strV (decDigits p.1) from hrd 3 18 (by kernel_rfl) (by kernel_rfl)]
            have b1 := bytes_app (decDigits p.1) [32]
            have d1 := dec_len 9 p.1 (by have := HP.out.1; omega)
            unfold strV
            go_simp
            omega) ?_
          exact ⟨_, congrArg (fun d => a.put d _) (by kernel_rfl), hC, rfl, fun j u h => h⟩
        · refine op_run (.fieldAddr 60 (.tmp 5) 1) (some 20) (by unfold opIs; kernel_rfl) (.pointer (some ⟨X, 1, none⟩)) (w' := w') (fun o ho => by unfold execOp; rw [ho]; simp only [(hfar 5 (by kernel_rfl)).trans (show _ = Value.pointer (some ⟨X, 0, none⟩) by kernel_rfl)]; go_simp) ?_
          exact ⟨_, congrArg (fun d => a.put d (.pointer (some ⟨X, 1, none⟩))) (by kernel_rfl), hC, rfl, fun j u h => h⟩
        · refine op_load 2 (.tmp 20) (some 21) (by unfold opIs; kernel_rfl) _ (.int .i64 (p.2 : Int)) (hrd 5 20 (by kernel_rfl) (by kernel_rfl)) (by have := (HX.out.stay hC).at_ 1 _ rfl; go_simp) ?_
          exact ⟨_, congrArg (fun d => a.put d (.int .i64 (p.2 : Int))) (by kernel_rfl), hC, rfl, fun j u h => h⟩
        · refine op_call (.call { callee := .value (.func 122), args := #[.tmp 21, .const (.int .i64 10)], argTypes := #[2, 3] }) (some 22) (by unfold opIs; kernel_rfl) 122 #[.int .i64 (p.2 : Int), .int .i64 10] (fun o ho => by unfold execOp; rw [ho]; simp only [resolve, List.map_toArray, List.map_cons, List.map_nil, show a.eval (.tmp 21) = _ from hrd 6 21 (by kernel_rfl) (by kernel_rfl)]; kernel_rfl) (fmtint_s p.2 HP.out.2 w' hI'.1) ?_
          rintro e w'' ⟨rfl, hb⟩
          exact ⟨_, rfl, _, congrArg (fun d => a.put d _) (by kernel_rfl), hC.trans (hb.mono hC.size), rfl, RW.stay hb⟩
        · refine op_run (.binOp .add 9 (.tmp 19) (.tmp 22) 9) (some 23) (by unfold opIs; kernel_rfl) (strV (pT p)) (w' := w') (fun o ho => by
            unfold execOp; rw [ho]; simp only [show a.eval (.tmp 19) = strV (decDigits p.1 ++ [32]) from hrd 4 19 (by kernel_rfl) (by kernel_rfl), show a.eval (.tmp 22) = strV (decDigits p.2) from hrd 7 22 (by kernel_rfl) (by kernel_rfl)]
            have b1 := bytes_app (decDigits p.1 ++ [32]) (decDigits p.2)
            rw [show decDigits p.1 ++ [32] ++ decDigits p.2 = pT p by simp [pT]] at b1
            have d1 := dec_len 9 p.1 (by have := HP.out.1; omega)
            have d2 := dec_len 19 p.2 (by have := HP.out.2; omega)
            unfold strV
            go_simp
            omega) ?_
          exact ⟨_, congrArg (fun d => a.put d _) (by kernel_rfl), hC, rfl, fun j u h => h⟩
        · refine op_run (.buildSlice 52 1 #[(0, .tmp 23)]) (some 24) (by unfold opIs; kernel_rfl) (.slice (some ⟨w'.heap.size, 0, none⟩) 1 1) (w' := w'.alloc (.cells #[strV (pT p)] 9)) (fun o ho => by
            unfold execOp; rw [ho]; simp only [List.map_toArray, List.map_cons, List.map_nil, show a.eval (.tmp 23) = strV (pT p) from hrd 8 23 (by kernel_rfl) (by kernel_rfl)]
            unfold strV
            go_simp) ?_
          have hb := (Below.refl w'.heap.size w').alloc (Nat.le_refl _) (.cells #[strV (pT p)] 9)
          exact ⟨_, congrArg (fun d => a.put d (.slice (some ⟨w'.heap.size, 0, none⟩) 1 1)) (by kernel_rfl), hC.trans (hb.mono hC.size), ⟨_, rfl, hC.size, heap_alloc_new w' _⟩, RW.stay hb⟩
      · intro b w' hC hR
        obtain ⟨g2, e9, hg2, hh2⟩ := hR 9 (by omega)
        have e0 : b 0 = .slice r2 k cp := hR 0 (by omega)
        simp only [List.take_succ_cons, List.take_zero, List.drop_succ_cons, List.drop_zero, putL, if_true, Nat.reduceAdd, Act.put, List.getElem_toArray, List.getElem_cons_zero, List.getElem_cons_succ, List.setIfInBounds_toArray, List.set_cons_zero, List.set_cons_succ]
        rw [e9, e0]
        clear e9 e0 hR
        have HBW : Hid (Below w.heap.size w w') := Lib.hid (HB1.out.trans (hC.mono HB1.out.size))
        have HOW : Hid (w'.ownsRow w.heap.size 9 1 (.slice r2 k cp) k (((ps.take k).map pT).flatMap sc)) := Lib.hid (owns_below HO1.out hC)
        have HC2 : Hid (∀ j u, [strV (pT p)][j]? = some u → w'.cell? ((⟨g2, 0, none⟩ : Addr).add j) = some u) := Lib.hid (fun j u hj => by
          match j, hj with
          | 0, hj =>
            simp at hj
            subst hj
            simp [Addr.add, World.cell?, hh2])
        clear hh2 hg2 hC HO1 HB1 HX
        refine wpList_append_own_at _ rfl (.tmp 15) (.tmp 24) 52 rfl w.heap.size 9 i0 (.string ⟨#[]⟩) 1 16 Tryz.underlying52 hi hz0 hz1 hz2 rfl (by decide) _ k _ rfl HOW.out ⟨g2, 0, none⟩ 1 1 [strV (pT p)] rfl rfl HC2.out (sc_one (pT p)) (by unfold maxLen; omega) (by omega) HBW.out.size ?_
        intro v3 w3 hown3 hgrow3 _ _
        have HB3 := Lib.hid (HBW.out.grown hgrow3 HBW.out.size (fun j hj => (HOW.out.lt j hj).1))
        have HO3 := Lib.hid hown3
        obtain ⟨r3, cap3, rfl⟩ := owns_form hown3
        clear hgrow3 hown3
        go_wp2
        go_roundw
        case rel => exact ⟨k + 1, _, _, rfl, by go_num, by omega, Lib.hid (HNX.out ▸ HO3.out), HB3⟩
        case measure => simp [RowKit.intOf]; omega
    · have hk2 : k = L := by omega
      subst hk2
      have hal : ps.take k = ps := List.take_of_length_le (by have := HL.out; omega)
      rw [hal] at HO
      have KJ := Lib.hid (HJ.out wr _ HO.out)
      go_wp2_with (go_at_call 60; refine KJ.out.mono ?_; rintro e w5 ⟨rfl, h5⟩; have HB5 := Lib.hid (HB.out.trans (h5.mono HB.out.size)); clear h5)
      go_ret
      exact ⟨rfl, HB5.out⟩
end Go.Proofs.YtffhnedladiaoaaGreatDoor
/- Package script: what an op's text is put together of. -/
namespace Go.Proofs.YtffhnedladiaoaaGreatDoor
open Go.RowKit Go.Lib Go.Sort
set_option linter.unusedVariables false
set_option linter.unusedSimpArgs false
/-- How much an op holds where the laws ask. -/
structure OpIn (o : Opp) : Prop where
  ok : OkO o
  frm : o.frm < 4294967296
  tgt : o.to < 4294967296
  name : o.name.length ≤ 1000000
  parts : o.parts.length ≤ 1000 ∧ ∀ p ∈ o.parts, p.1 < 4294967296 ∧ p.2 < 9223372036854775808
  starts : o.starts.length ≤ 900
/-- What told answers. -/
def Told (w : World) (o : Opp) (e : Ending) (w' : World) : Prop := ∃ v, e = .returned v ∧ w'.ownsRow w.heap.size 9 1 v (toldO o).length ((toldO o).flatMap sc) ∧ Below w.heap.size w w'
set_option maxHeartbeats 4000000 in
set_option maxRecDepth 100000 in
theorem told_d (p : Om) (w : World) (hI : InS w) (hM : OpM w p) (ho : OpIn p.o) (h1 : p.o.kind ≠ 1) (h4 : p.o.kind ≠ 4) (h7 : p.o.kind ≠ 7) :
    Calls Tryz.prog 61 #[opV p] w fun e w' => Told w p.o e w' := by
  have hmix : Tryz.prog.follows .mixedOrders = true := by kernel_rfl
  have et : toldO p.o = [wordK p.o.kind, decDigits p.o.frm, linkK p.o.kind, decDigits p.o.to] := by unfold toldO; rw [if_neg h1, if_neg h4, if_neg h7]
  have hk := ho.ok.kind
  have hfr := ho.frm
  have hto := ho.tgt
  have hnm := ho.name
  have hps := ho.parts
  have hss := ho.starts
  have hok := ho.ok
  unfold Told
  rw [et]
  unfold opV
  obtain ⟨⟨k, fr, tg, nm, ps, ss, en⟩, pos, vP, vS⟩ := p
  simp only at *
  clear et ho
  have n1 : ((k : Int) == 1) = false := by simpa using fun h => h1 (by omega)
  have n4 : ((k : Int) == 4) = false := by simpa using fun h => h4 (by omega)
  have n7 : ((k : Int) == 7) = false := by simpa using fun h => h7 (by omega)
  have KW := Lib.hid (fun (w' : World) (h : InS w') => word_b k (by omega) w' h.2)
  have KL := Lib.hid (fun (w' : World) (h : InS w') => link_b k (by omega) w' h.2)
  have HI := Lib.hid hI
  have KF := Lib.hid (fun (w' : World) (h : InS w') => number_s fr hfr w' h.1.1)
  have KT := Lib.hid (fun (w' : World) (h : InS w') => number_s tg hto w' h.1.1)
  clear hI
  clear hk hfr hto hnm hps hss hok hM h1 h4 h7
  generalize wordK k = WD at *
  generalize linkK k = LK at *
  generalize decDigits fr = FR at *
  generalize decDigits tg = TO at *
  go_enter Tryz.func61, Tryz.ntmps61
  go_upto_region 1 with fail
  have hb1 := (Below.refl w.heap.size w).alloc (Nat.le_refl _) (.cells #[.int .i64 (k : Int), .int .u32 (fr : Int), .int .u32 (tg : Int), strV nm, vP, vS, .int .i32 en, .int .i64 pos] 38)
  have bx := RBox.new w [.int .i64 (k : Int), .int .u32 (fr : Int), .int .u32 (tg : Int), strV nm, vP, vS, .int .i32 en, .int .i64 pos] 38
  change RBox (w.alloc (.cells #[.int .i64 (k : Int), .int .u32 (fr : Int), .int .u32 (tg : Int), strV nm, vP, vS, .int .i32 en, .int .i64 pos] 38)) _ _ at bx
  have hsz : (w.alloc (.cells #[.int .i64 (k : Int), .int .u32 (fr : Int), .int .u32 (tg : Int), strV nm, vP, vS, .int .i32 en, .int .i64 pos] 38)).heap.size = w.heap.size + 1 := by simp
  generalize w.alloc (.cells #[.int .i64 (k : Int), .int .u32 (fr : Int), .int .u32 (tg : Int), strV nm, vP, vS, .int .i32 en, .int .i64 pos] 38) = W at *
  have HX := Lib.hid bx
  have HB := Lib.hid hb1
  have HIW : Hid (InS W) := Lib.hid (HI.out.stay hb1)
  have HIR := Lib.hid (fun d os => HIW.out.stay (below_regrown W d os))
  have y0 := fun d os => cell_regrown (bx.at_ 0 _ rfl) d os
  obtain ⟨X, hXX⟩ : ∃ X, w.heap.size = X := ⟨_, rfl⟩
  have HXX := Lib.hid hXX
  rw [hXX] at HX bx y0 hb1 ⊢
  clear hb1 hXX hsz bx
  refine wp_region_quiet_below hmix (by kernel_rfl) ?_
  repeat (first | go_big_quiet_step ((first | (go_at_call 95; with_reducible exact Calls.regrown_of (KW.out _ (HIR.out _ _))) | (go_at_call 90; with_reducible exact Calls.regrown_of (KL.out _ (HIR.out _ _))))) | quiet_step ((first | (go_at_call 95; with_reducible exact Calls.regrown_of (KW.out _ (HIR.out _ _))) | (go_at_call 90; with_reducible exact Calls.regrown_of (KL.out _ (HIR.out _ _))))))
  refine wpQuiet_nil ?_
  intro w1 hw1
  have hb2 : Below W.heap.size W w1 := by obtain ⟨q, rfl⟩ := hw1; exact below_regrown _ _ _
  have HX1 := Lib.hid (HX.out.stay hb2)
  have HB1 := Lib.hid (HB.out.trans (hb2.mono HB.out.size))
  have HI1 : Hid (InS w1) := Lib.hid (HIW.out.stay hb2)
  have HR1 := Lib.hid (fun d os => HI1.out.stay (below_regrown w1 d os))
  have z0 := HX1.out.at_ 0 _ rfl
  clear y0 hw1 hb2 HX HB HIW HIR KW KL
  go_wp2_with fail
  have y1 := fun d os => cell_regrown (HX1.out.at_ 1 _ rfl) d os
  have y2 := fun d os => cell_regrown (HX1.out.at_ 2 _ rfl) d os
  clear z0
  refine wp_tails_below 8 hmix (by kernel_rfl) ?_
  repeat (first | go_big_quiet_step ((first | (go_at_call 96; with_reducible exact Calls.regrown_of (KF.out _ (HR1.out _ _))) | (go_at_call 96; with_reducible exact Calls.regrown_of (KT.out _ (HR1.out _ _))))) | quiet_step ((first | (go_at_call 96; with_reducible exact Calls.regrown_of (KF.out _ (HR1.out _ _))) | (go_at_call 96; with_reducible exact Calls.regrown_of (KT.out _ (HR1.out _ _))))))
  refine wpQuiet_nil ?_
  intro w2 hw2
  have hb3 : Below w1.heap.size w1 w2 := by obtain ⟨q, rfl⟩ := hw2; exact below_regrown _ _ _
  have HB2 := Lib.hid (HB1.out.trans (hb3.mono HB1.out.size))
  clear hw2 hb3
  try simp only [strV]
  go_wp2
  go_ret
  exact ⟨.slice (some ⟨w2.heap.size, 0, none⟩) 4 4, rfl, World.ownsRow_lit (base := w.heap.size) (e := 9) (size := 1) w2 #[strV WD, strV FR, strV LK, strV TO] 4 HB2.out.size (by unfold maxLen; omega) rfl, HB2.out.alloc HB2.out.size (.cells #[strV WD, strV FR, strV LK, strV TO] 9)⟩
set_option maxHeartbeats 4000000 in
set_option maxRecDepth 100000 in
theorem told_1 (p : Om) (w : World) (hI : InS w) (hM : OpM w p) (ho : OpIn p.o) (h1 : p.o.kind = 1) :
    Calls Tryz.prog 61 #[opV p] w fun e w' => Told w p.o e w' := by
  have hmix : Tryz.prog.follows .mixedOrders = true := by kernel_rfl
  have et : toldO p.o = [wordK 1, decDigits p.o.frm, 34 :: (p.o.name ++ [34])] := by unfold toldO; rw [if_pos h1]
  have hk := ho.ok.kind
  have hfr := ho.frm
  have hto := ho.tgt
  have hnm := ho.name
  have hps := ho.parts
  have hss := ho.starts
  have hok := ho.ok
  unfold Told
  rw [et]
  unfold opV
  obtain ⟨⟨k, fr, tg, nm, ps, ss, en⟩, pos, vP, vS⟩ := p
  simp only at *
  clear et ho
  subst h1
  have KW := Lib.hid (fun (w' : World) (h : InS w') => word_b 1 (by omega) w' h.2)
  have KL := Lib.hid (fun (w' : World) (h : InS w') => link_b 1 (by omega) w' h.2)
  have HI := Lib.hid hI
  have KF := Lib.hid (fun (w' : World) (h : InS w') => number_s fr hfr w' h.1.1)
  clear hI
  clear hk hfr hto hps hss hok hM
  generalize wordK 1 = WD at *
  generalize linkK 1 = LK at *
  generalize decDigits fr = FR at *
  have b1 := bytes_app [34] nm
  have b2 := bytes_app (34 :: nm) [34]
  have d1 : ¬ 9223372036854775807 < 1 + nm.length := by omega
  have d2 : ¬ 9223372036854775807 < nm.length + 1 + 1 := by omega
  have d3 : nm.length ≤ 9223372036854775805 := by omega
  simp only [List.cons_append, List.nil_append] at b1 b2
  unfold strV at *
  go_enter Tryz.func61, Tryz.ntmps61
  go_upto_region 1 with fail
  have hb1 := (Below.refl w.heap.size w).alloc (Nat.le_refl _) (.cells #[.int .i64 1, .int .u32 (fr : Int), .int .u32 (tg : Int), .string ⟨nm.toArray⟩, vP, vS, .int .i32 en, .int .i64 pos] 38)
  have bx := RBox.new w [.int .i64 1, .int .u32 (fr : Int), .int .u32 (tg : Int), .string ⟨nm.toArray⟩, vP, vS, .int .i32 en, .int .i64 pos] 38
  change RBox (w.alloc (.cells #[.int .i64 1, .int .u32 (fr : Int), .int .u32 (tg : Int), .string ⟨nm.toArray⟩, vP, vS, .int .i32 en, .int .i64 pos] 38)) _ _ at bx
  have hsz : (w.alloc (.cells #[.int .i64 1, .int .u32 (fr : Int), .int .u32 (tg : Int), .string ⟨nm.toArray⟩, vP, vS, .int .i32 en, .int .i64 pos] 38)).heap.size = w.heap.size + 1 := by simp
  generalize w.alloc (.cells #[.int .i64 1, .int .u32 (fr : Int), .int .u32 (tg : Int), .string ⟨nm.toArray⟩, vP, vS, .int .i32 en, .int .i64 pos] 38) = W at *
  have HX := Lib.hid bx
  have HB := Lib.hid hb1
  have HIW : Hid (InS W) := Lib.hid (HI.out.stay hb1)
  have HIR := Lib.hid (fun d os => HIW.out.stay (below_regrown W d os))
  have y0 := fun d os => cell_regrown (bx.at_ 0 _ rfl) d os
  obtain ⟨X, hXX⟩ : ∃ X, w.heap.size = X := ⟨_, rfl⟩
  have HXX := Lib.hid hXX
  rw [hXX] at HX bx y0 hb1 ⊢
  clear hb1 hXX hsz bx
  refine wp_region_quiet_below hmix (by kernel_rfl) ?_
  repeat (first | go_big_quiet_step ((first | (go_at_call 95; with_reducible exact Calls.regrown_of (KW.out _ (HIR.out _ _))) | (go_at_call 90; with_reducible exact Calls.regrown_of (KL.out _ (HIR.out _ _))))) | quiet_step ((first | (go_at_call 95; with_reducible exact Calls.regrown_of (KW.out _ (HIR.out _ _))) | (go_at_call 90; with_reducible exact Calls.regrown_of (KL.out _ (HIR.out _ _))))))
  refine wpQuiet_nil ?_
  intro w1 hw1
  have hb2 : Below W.heap.size W w1 := by obtain ⟨q, rfl⟩ := hw1; exact below_regrown _ _ _
  have HX1 := Lib.hid (HX.out.stay hb2)
  have HB1 := Lib.hid (HB.out.trans (hb2.mono HB.out.size))
  have HI1 : Hid (InS w1) := Lib.hid (HIW.out.stay hb2)
  have HR1 := Lib.hid (fun d os => HI1.out.stay (below_regrown w1 d os))
  have z0 := HX1.out.at_ 0 _ rfl
  clear y0 hw1 hb2 HX HB HIW HIR KW KL
  go_wp2_with fail
  have y1 := fun d os => cell_regrown (HX1.out.at_ 1 _ rfl) d os
  have y3 := fun d os => cell_regrown (HX1.out.at_ 3 _ rfl) d os
  clear z0
  refine wp_tails_below 8 hmix (by kernel_rfl) ?_
  repeat (first | go_big_quiet_step ((go_at_call 96; with_reducible exact Calls.regrown_of (KF.out _ (HR1.out _ _)))) | quiet_step ((go_at_call 96; with_reducible exact Calls.regrown_of (KF.out _ (HR1.out _ _)))))
  refine wpQuiet_nil ?_
  intro w2 hw2
  have hb3 : Below w1.heap.size w1 w2 := by obtain ⟨q, rfl⟩ := hw2; exact below_regrown _ _ _
  have HB2 := Lib.hid (HB1.out.trans (hb3.mono HB1.out.size))
  clear hw2 hb3
  try simp only [strV]
  go_wp2
  go_ret
  exact ⟨.slice (some ⟨w2.heap.size, 0, none⟩) 3 3, rfl, World.ownsRow_lit (base := w.heap.size) (e := 9) (size := 1) w2 #[strV WD, strV FR, strV (34 :: (nm ++ [34]))] 3 HB2.out.size (by unfold maxLen; omega) rfl, HB2.out.alloc HB2.out.size (.cells #[strV WD, strV FR, strV (34 :: (nm ++ [34]))] 9)⟩
set_option maxHeartbeats 4000000 in
set_option maxRecDepth 100000 in
theorem told_4 (p : Om) (w : World) (hI : InS w) (hM : OpM w p) (ho : OpIn p.o) (h4 : p.o.kind = 4) :
    Calls Tryz.prog 61 #[opV p] w fun e w' => Told w p.o e w' := by
  have hmix : Tryz.prog.follows .mixedOrders = true := by kernel_rfl
  have et : toldO p.o = [wordK 4, decDigits p.o.frm, linkK 4, Lib.join (p.o.parts.map pT) [44, 32]] := by unfold toldO; rw [if_neg (by omega), if_pos h4]
  have hk := ho.ok.kind
  have hfr := ho.frm
  have hto := ho.tgt
  have hnm := ho.name
  have hps := ho.parts
  have hss := ho.starts
  have hok := ho.ok
  unfold Told
  rw [et]
  unfold opV
  obtain ⟨⟨k, fr, tg, nm, ps, ss, en⟩, pos, vP, vS⟩ := p
  simp only at *
  clear et ho
  subst h4
  have KW := Lib.hid (fun (w' : World) (h : InS w') => word_b 4 (by omega) w' h.2)
  have KL := Lib.hid (fun (w' : World) (h : InS w') => link_b 4 (by omega) w' h.2)
  have HI := Lib.hid hI
  have KF := Lib.hid (fun (w' : World) (h : InS w') => number_s fr hfr w' h.1.1)
  have KS := Lib.hid (fun (w' : World) (h : Below w.heap.size w w') (hI' : InS w') => weights_s vP ps w' hI'.1 (hM.parts.stay h) hps.1 (hok.parts.1 rfl) hps.2)
  clear hI
  obtain ⟨rP, cP, eP, _⟩ := hM.parts.form
  simp only at eP
  subst eP
  clear hk hfr hto hps hss hok hM hnm
  generalize wordK 4 = WD at *
  generalize linkK 4 = LK at *
  generalize decDigits fr = FR at *
  generalize Lib.join (ps.map pT) [44, 32] = JP at *
  generalize ps.length = LP at *
  go_enter Tryz.func61, Tryz.ntmps61
  go_upto_region 1 with fail
  have hb1 := (Below.refl w.heap.size w).alloc (Nat.le_refl _) (.cells #[.int .i64 4, .int .u32 (fr : Int), .int .u32 (tg : Int), strV nm, .slice rP LP cP, vS, .int .i32 en, .int .i64 pos] 38)
  have bx := RBox.new w [.int .i64 4, .int .u32 (fr : Int), .int .u32 (tg : Int), strV nm, .slice rP LP cP, vS, .int .i32 en, .int .i64 pos] 38
  change RBox (w.alloc (.cells #[.int .i64 4, .int .u32 (fr : Int), .int .u32 (tg : Int), strV nm, .slice rP LP cP, vS, .int .i32 en, .int .i64 pos] 38)) _ _ at bx
  have hsz : (w.alloc (.cells #[.int .i64 4, .int .u32 (fr : Int), .int .u32 (tg : Int), strV nm, .slice rP LP cP, vS, .int .i32 en, .int .i64 pos] 38)).heap.size = w.heap.size + 1 := by simp
  generalize w.alloc (.cells #[.int .i64 4, .int .u32 (fr : Int), .int .u32 (tg : Int), strV nm, .slice rP LP cP, vS, .int .i32 en, .int .i64 pos] 38) = W at *
  have HX := Lib.hid bx
  have HB := Lib.hid hb1
  have HIW : Hid (InS W) := Lib.hid (HI.out.stay hb1)
  have HIR := Lib.hid (fun d os => HIW.out.stay (below_regrown W d os))
  have y0 := fun d os => cell_regrown (bx.at_ 0 _ rfl) d os
  obtain ⟨X, hXX⟩ : ∃ X, w.heap.size = X := ⟨_, rfl⟩
  have HXX := Lib.hid hXX
  rw [hXX] at HX bx y0 hb1 ⊢
  clear hb1 hXX hsz bx
  refine wp_region_quiet_below hmix (by kernel_rfl) ?_
  repeat (first | go_big_quiet_step ((first | (go_at_call 95; with_reducible exact Calls.regrown_of (KW.out _ (HIR.out _ _))) | (go_at_call 90; with_reducible exact Calls.regrown_of (KL.out _ (HIR.out _ _))))) | quiet_step ((first | (go_at_call 95; with_reducible exact Calls.regrown_of (KW.out _ (HIR.out _ _))) | (go_at_call 90; with_reducible exact Calls.regrown_of (KL.out _ (HIR.out _ _))))))
  refine wpQuiet_nil ?_
  intro w1 hw1
  have hb2 : Below W.heap.size W w1 := by obtain ⟨q, rfl⟩ := hw1; exact below_regrown _ _ _
  have HX1 := Lib.hid (HX.out.stay hb2)
  have HB1 := Lib.hid (HB.out.trans (hb2.mono HB.out.size))
  have HI1 : Hid (InS w1) := Lib.hid (HIW.out.stay hb2)
  have HR1 := Lib.hid (fun d os => HI1.out.stay (below_regrown w1 d os))
  have z0 := HX1.out.at_ 0 _ rfl
  clear y0 hw1 hb2 HX HB HIW HIR KW KL
  go_wp2_with fail
  have y1 := fun d os => cell_regrown (HX1.out.at_ 1 _ rfl) d os
  have y4 := fun d os => cell_regrown (HX1.out.at_ 4 _ rfl) d os
  have HW1 := Lib.hid (fun d os => HB1.out.trans ((below_regrown w1 d os).mono HB1.out.size))
  clear z0
  refine wp_tails_below 8 hmix (by kernel_rfl) ?_
  repeat (first | go_big_quiet_step ((first | (go_at_call 96; with_reducible exact Calls.regrown_of (KF.out _ (HR1.out _ _))) | (go_at_call 97; with_reducible exact Calls.regrown_of (KS.out _ (HW1.out _ _) (HR1.out _ _))))) | quiet_step ((first | (go_at_call 96; with_reducible exact Calls.regrown_of (KF.out _ (HR1.out _ _))) | (go_at_call 97; with_reducible exact Calls.regrown_of (KS.out _ (HW1.out _ _) (HR1.out _ _))))))
  refine wpQuiet_nil ?_
  intro w2 hw2
  have hb3 : Below w1.heap.size w1 w2 := by obtain ⟨q, rfl⟩ := hw2; exact below_regrown _ _ _
  have HB2 := Lib.hid (HB1.out.trans (hb3.mono HB1.out.size))
  clear hw2 hb3
  try simp only [strV]
  go_wp2
  go_ret
  exact ⟨.slice (some ⟨w2.heap.size, 0, none⟩) 4 4, rfl, World.ownsRow_lit (base := w.heap.size) (e := 9) (size := 1) w2 #[strV WD, strV FR, strV LK, strV JP] 4 HB2.out.size (by unfold maxLen; omega) rfl, HB2.out.alloc HB2.out.size (.cells #[strV WD, strV FR, strV LK, strV JP] 9)⟩
end Go.Proofs.YtffhnedladiaoaaGreatDoor
/- Package script: what an op about periods is put together of. -/
namespace Go.Proofs.YtffhnedladiaoaaGreatDoor
open Go.RowKit Go.Lib Go.Sort
set_option linter.unusedVariables false
set_option linter.unusedSimpArgs false
set_option maxHeartbeats 4000000 in
set_option maxRecDepth 100000 in
theorem told_7 (p : Om) (w : World) (hI : InS w) (hM : OpM w p) (ho : OpIn p.o) (h7 : p.o.kind = 7) :
    Calls Tryz.prog 61 #[opV p] w fun e w' => Told w p.o e w' := by
  have hmix : Tryz.prog.follows .mixedOrders = true := by kernel_rfl
  have et : toldO p.o = wordK 7 :: (p.o.starts.map dayT ++ [linkK 7, dayT p.o.en]) := by unfold toldO; rw [if_neg (by omega), if_neg (by omega), if_pos h7]
  have hk := ho.ok.kind
  have hfr := ho.frm
  have hto := ho.tgt
  have hnm := ho.name
  have hps := ho.parts
  have hss := ho.starts
  have hok := ho.ok
  unfold Told
  rw [et]
  unfold opV
  obtain ⟨⟨k, fr, tg, nm, ps, ss, en⟩, pos, vP, vS⟩ := p
  simp only at *
  clear et ho
  subst h7
  have KW := Lib.hid (fun (w' : World) (h : InS w') => word_b 7 (by omega) w' h.2)
  have KL := Lib.hid (fun (w' : World) (h : InS w') => link_b 7 (by omega) w' h.2)
  have HI := Lib.hid hI
  have KD := Lib.hid (fun (d : Int) (h : IsDay d) (w' : World) (hI' : InS w') => day_s d h w' hI'.1)
  have HDS := Lib.hid (hok.days.1 rfl)
  clear hI
  obtain ⟨rS, cS, eS, _⟩ := hM.starts.form
  simp only at eS
  subst eS
  have HS := Lib.hid hM.starts
  simp only at HS
  obtain ⟨LS, hLS⟩ : ∃ n, ss.length = n := ⟨_, rfl⟩
  have HLS := Lib.hid hLS
  have hll : (wordK 7 :: (ss.map dayT ++ [linkK 7, dayT en])).length = LS + 3 := by simp [hLS]
  rw [hll]
  rw [hLS] at hss HS ⊢
  clear hk hfr hto hps hok hM hnm hLS hll
  generalize wordK 7 = WD at *
  generalize linkK 7 = LK at *
  obtain ⟨i0, hi, hz0, hz1, hz2⟩ := info_of infoS
  go_enter Tryz.func61, Tryz.ntmps61
  go_upto_region 1 with fail
  have hb1 := (Below.refl w.heap.size w).alloc (Nat.le_refl _) (.cells #[.int .i64 7, .int .u32 (fr : Int), .int .u32 (tg : Int), strV nm, vP, .slice rS LS cS, .int .i32 en, .int .i64 pos] 38)
  have bx := RBox.new w [.int .i64 7, .int .u32 (fr : Int), .int .u32 (tg : Int), strV nm, vP, .slice rS LS cS, .int .i32 en, .int .i64 pos] 38
  change RBox (w.alloc (.cells #[.int .i64 7, .int .u32 (fr : Int), .int .u32 (tg : Int), strV nm, vP, .slice rS LS cS, .int .i32 en, .int .i64 pos] 38)) _ _ at bx
  have hsz : (w.alloc (.cells #[.int .i64 7, .int .u32 (fr : Int), .int .u32 (tg : Int), strV nm, vP, .slice rS LS cS, .int .i32 en, .int .i64 pos] 38)).heap.size = w.heap.size + 1 := by simp
  generalize w.alloc (.cells #[.int .i64 7, .int .u32 (fr : Int), .int .u32 (tg : Int), strV nm, vP, .slice rS LS cS, .int .i32 en, .int .i64 pos] 38) = W at *
  have HX := Lib.hid bx
  have HB := Lib.hid hb1
  have HIW : Hid (InS W) := Lib.hid (HI.out.stay hb1)
  have HIR := Lib.hid (fun d os => HIW.out.stay (below_regrown W d os))
  have y0 := fun d os => cell_regrown (bx.at_ 0 _ rfl) d os
  obtain ⟨X, hXX⟩ : ∃ X, w.heap.size = X := ⟨_, rfl⟩
  have HXX := Lib.hid hXX
  rw [hXX] at HX bx y0 hb1 ⊢
  clear hb1 hXX hsz bx
  refine wp_region_quiet_below hmix (by kernel_rfl) ?_
  repeat (first | go_big_quiet_step ((first | (go_at_call 95; with_reducible exact Calls.regrown_of (KW.out _ (HIR.out _ _))) | (go_at_call 90; with_reducible exact Calls.regrown_of (KL.out _ (HIR.out _ _))))) | quiet_step ((first | (go_at_call 95; with_reducible exact Calls.regrown_of (KW.out _ (HIR.out _ _))) | (go_at_call 90; with_reducible exact Calls.regrown_of (KL.out _ (HIR.out _ _))))))
  refine wpQuiet_nil ?_
  intro w1 hw1
  have hb2 : Below W.heap.size W w1 := by obtain ⟨q, rfl⟩ := hw1; exact below_regrown _ _ _
  have HX1 := Lib.hid (HX.out.stay hb2)
  have HB1 := Lib.hid (HB.out.trans (hb2.mono HB.out.size))
  have HI1 : Hid (InS w1) := Lib.hid (HIW.out.stay hb2)
  have HR1 := Lib.hid (fun d os => HI1.out.stay (below_regrown w1 d os))
  have z0 := HX1.out.at_ 0 _ rfl
  clear y0 hw1 hb2 HX HB HIW HIR KW KL
  try simp only [strV] at *
  go_upto_region 9 with fail
  have bx2 := HX1.out.alloc (.cells #[Value.string ⟨WD.toArray⟩] 9)
  have ho0 := World.ownsRow_lit (base := w1.heap.size) (e := 9) (size := 1) w1 #[Value.string ⟨WD.toArray⟩] 1 (Nat.le_refl _) (by unfold maxLen; omega) rfl
  have hc0 := (Below.refl w1.heap.size w1).alloc (Nat.le_refl _) (.cells #[Value.string ⟨WD.toArray⟩] 9)
  generalize w1.alloc (.cells #[Value.string ⟨WD.toArray⟩] 9) = w2 at *
  have HO0 : Hid (w2.ownsRow w1.heap.size 9 1 (.slice (some ⟨w1.heap.size, 0, none⟩) 1 1) 1 ((WD :: (ss.take 0).map dayT).flatMap sc)) := Lib.hid ho0
  have HC0 := Lib.hid hc0
  have z5 := bx2.at_ 5 _ rfl
  clear ho0 hc0 bx2
  go_wp2
  go_loopw [5, 46] (fun s i wr => ∃ (k : Nat) (r2 : Option Addr) (cp : Nat), s = .slice r2 (k + 1) cp ∧ i = .int .i64 k ∧ k ≤ LS ∧ Hid (wr.ownsRow w1.heap.size 9 1 (.slice r2 (k + 1) cp) (k + 1) ((WD :: (ss.take k).map dayT).flatMap sc)) ∧ Hid (Below w1.heap.size w1 wr)) (fun _ i _ => LS - (RowKit.intOf i).toNat)
  case atStart => exact ⟨0, _, _, rfl, rfl, Nat.zero_le _, HO0, HC0⟩
  case round =>
    obtain ⟨k, r2, cp, rfl, rfl, hk, HO, HC⟩ := hrel
    rename World => wr
    clear HO0 HC0
    have HB := Lib.hid (HB1.out.trans (HC.out.mono HB1.out.size))
    by_cases hlt : k < LS
    · obtain ⟨d, hd⟩ : ∃ d, ss[k]? = some d := ⟨ss[k]'(by have := HLS.out; omega), List.getElem?_eq_getElem (by have := HLS.out; omega)⟩
      obtain ⟨g, off, rfl, _, c1⟩ := (HS.out.stay HB.out).at hd
      have a0 := c1 0 _ rfl
      rw [Nat.add_zero, Nat.mul_one] at a0
      have HD := Lib.hid (HDS.out.1 d (List.mem_of_getElem? hd))
      have HNX : Hid ((WD :: (ss.take (k + 1)).map dayT).flatMap sc = (WD :: (ss.take k).map dayT).flatMap sc ++ [strV (dayT d)]) := Lib.hid (by rw [List.take_add_one, hd, List.map_append, ← List.cons_append, List.flatMap_append]; rfl)
      clear c1 hd HB
      go_wp2_with (first
        | (at_builtin; refine wpList_append_own_at _ rfl (.tmp 50) (.tmp 53) 52 rfl w1.heap.size 9 i0 (.string ⟨#[]⟩) 1 16 Tryz.underlying52 hi hz0 hz1 hz2 rfl (by decide) _ (k + 1) _ rfl (HO4.out.alloc _) ⟨_, 0, none⟩ 1 1 [Value.string ⟨(dayT d).toArray⟩] rfl rfl (cells_new _ [Value.string ⟨(dayT d).toArray⟩] _) (sc_one (dayT d)) (by unfold maxLen; omega) (by omega) (by simp; have := HC4.out.size; omega) ?_; intro v5 w5 hown5 hgrow5 _ _; have HC5 := Lib.hid ((HC4.out.alloc HC4.out.size _).grown hgrow5 (by simp; have := HC4.out.size; omega) (fun j hj => (HO4.out.lt j hj).1)); have HO5 := Lib.hid hown5; obtain ⟨r5, cp5, rfl⟩ := owns_form hown5; clear hgrow5 hown5)
        | (go_at_call 25; refine (KD.out _ HD.out _ (HI1.out.stay HC.out)).mono ?_; rintro e w4 ⟨rfl, h4⟩; have HO4 := Lib.hid (owns_below HO.out h4); have HC4 := Lib.hid (HC.out.trans (h4.mono HC.out.size)); clear h4))
      go_roundw
      case rel => exact ⟨_, _, _, _, _, _, _, _, _, _, _, _, ⟨k + 1, _, _, rfl, by go_num, by omega, Lib.hid (HNX.out ▸ HO5.out), HC5⟩, rfl⟩
      case measure => simp [RowKit.intOf]; omega
    · have hk2 : k = LS := by omega
      subst hk2
      have hal : ss.take k = ss := List.take_of_length_le (by have := HLS.out; omega)
      rw [hal] at HO
      have HD := Lib.hid (HDS.out.2)
      have z6 := (HX1.out.stay HC.out).at_ 6 _ rfl
      have HEQ : Hid ((WD :: ss.map dayT).flatMap sc ++ [strV LK, strV (dayT en)] = (WD :: (ss.map dayT ++ [LK, dayT en])).flatMap sc) := Lib.hid (by rw [← List.cons_append, List.flatMap_append]; rfl)
      clear hal z5 HB
      go_wp2_with (first
        | (at_builtin; refine wpList_append_own_at _ rfl (.tmp 56) (.tmp 62) 52 rfl w1.heap.size 9 i0 (.string ⟨#[]⟩) 1 16 Tryz.underlying52 hi hz0 hz1 hz2 rfl (by decide) _ (k + 1) _ rfl (HO4.out.alloc _) ⟨_, 0, none⟩ 2 2 [Value.string ⟨LK.toArray⟩, Value.string ⟨(dayT en).toArray⟩] rfl rfl (cells_new _ [Value.string ⟨LK.toArray⟩, Value.string ⟨(dayT en).toArray⟩] _) (fun v hv => by simp at hv; rcases hv with rfl | rfl <;> rfl) (by unfold maxLen; omega) (by omega) (by simp; have := HC4.out.size; omega) ?_; intro v5 w5 hown5 hgrow5 _ _; have HC5 := Lib.hid ((HC4.out.alloc HC4.out.size _).grown hgrow5 (by simp; have := HC4.out.size; omega) (fun j hj => (HO4.out.lt j hj).1)); have HO5 := Lib.hid hown5; obtain ⟨r5, cp5, rfl⟩ := owns_form hown5; clear hgrow5 hown5)
        | (go_at_call 25; refine (KD.out _ HD.out _ (HI1.out.stay HC.out)).mono ?_; rintro e w4 ⟨rfl, h4⟩; have HO4 := Lib.hid (owns_below HO.out h4); have HC4 := Lib.hid (HC.out.trans (h4.mono HC.out.size)); clear h4))
      go_ret
      exact ⟨_, rfl, owns_mono (HEQ.out ▸ HO5.out) HB1.out.size, HB1.out.trans (HC5.out.mono HB1.out.size)⟩
end Go.Proofs.YtffhnedladiaoaaGreatDoor
/- Package script: an op's text. -/
namespace Go.Proofs.YtffhnedladiaoaaGreatDoor
open Go.RowKit Go.Lib
set_option linter.unusedVariables false
set_option linter.unusedSimpArgs false
theorem told_s (p : Om) (w : World) (hI : InS w) (hM : OpM w p) (ho : OpIn p.o) : Calls Tryz.prog 61 #[opV p] w fun e w' => Told w p.o e w' := by
  by_cases h1 : p.o.kind = 1
  · exact told_1 p w hI hM ho h1
  · by_cases h4 : p.o.kind = 4
    · exact told_4 p w hI hM ho h4
    · by_cases h7 : p.o.kind = 7
      · exact told_7 p w hI hM ho h7
      · exact told_d p w hI hM ho h1 h4 h7
theorem digL_lenS : ∀ k n, (digL n k).length = k
  | 0, _ => rfl
  | k + 1, n => by unfold digL; rw [List.length_cons, digL_lenS k]
theorem dayT_len {n : Int} (h : IsDay n) : (dayT n).length = 10 := by
  obtain ⟨y, m, d, _, _, e⟩ := dayT_of h
  rw [e]
  unfold dateL
  simp [digL_lenS]
theorem word_len : ∀ k : Fin 8, (wordK k.val).length ≤ 10 ∧ (linkK k.val).length ≤ 10 := by decide
theorem told_len {o : Opp} (h : OpIn o) : (toldO o).length ≤ 1000 ∧ toldO o ≠ [] ∧ ∀ x ∈ toldO o, x.length ≤ 1000010 := by
  have hk := h.ok.kind
  have w := word_len ⟨o.kind, by omega⟩
  simp only at w
  have w1 := word_len 1
  have w4 := word_len 4
  have w7 := word_len 7
  have d1 := dec_len 9 o.frm (by have := h.frm; omega)
  have d2 := dec_len 9 o.to (by have := h.tgt; omega)
  have hn := h.name
  have hp := h.parts
  have hs := h.starts
  unfold toldO
  by_cases k1 : o.kind = 1
  · rw [if_pos k1]
    refine ⟨by simp, by simp, fun x hx => ?_⟩
    simp only [List.mem_cons, List.not_mem_nil, or_false] at hx
    rcases hx with rfl | rfl | rfl
    · exact Nat.le_trans w1.1 (by omega)
    · omega
    · simp; omega
  · rw [if_neg k1]
    by_cases k4 : o.kind = 4
    · rw [if_pos k4]
      refine ⟨by simp, by simp, fun x hx => ?_⟩
      simp only [List.mem_cons, List.not_mem_nil, or_false] at hx
      rcases hx with rfl | rfl | rfl | rfl
      · exact Nat.le_trans w4.1 (by omega)
      · omega
      · exact Nat.le_trans w4.2 (by omega)
      · have := join_len (xs := o.parts.map pT) (m := 50) (fun x hx => by obtain ⟨q, hq, rfl⟩ := List.mem_map.1 hx; exact pT_len (hp.2 q hq).1 (hp.2 q hq).2) [44, 32]
        rw [List.length_map] at this
        simp at this
        omega
    · rw [if_neg k4]
      by_cases k7 : o.kind = 7
      · rw [if_pos k7]
        refine ⟨by simp; omega, by simp, fun x hx => ?_⟩
        simp only [List.mem_cons, List.mem_append, List.mem_map, List.not_mem_nil, or_false] at hx
        rcases hx with rfl | ⟨d, hd, rfl⟩ | rfl | rfl
        · exact Nat.le_trans w7.1 (by omega)
        · rw [dayT_len ((h.ok.days.1 k7).1 d hd)]; omega
        · exact Nat.le_trans w7.2 (by omega)
        · rw [dayT_len (h.ok.days.1 k7).2]; omega
      · rw [if_neg k7]
        refine ⟨by simp, by simp, fun x hx => ?_⟩
        simp only [List.mem_cons, List.not_mem_nil, or_false] at hx
        rcases hx with rfl | rfl | rfl | rfl <;> omega
set_option maxHeartbeats 2000000 in
set_option maxRecDepth 100000 in
theorem text_s (p : Om) (w : World) (hI : InS w) (hM : OpM w p) (ho : OpIn p.o) : Calls Tryz.prog 34 #[opV p] w fun e w' => e = .returned (strV (textO p.o)) ∧ Below w.heap.size w w' := by
  obtain ⟨l1, l2, l3⟩ := told_len ho
  have hj := join_len l3 [32]
  have hjl : (Lib.join (toldO p.o) [32]).length ≤ 2000000000 := Nat.le_trans hj (Nat.le_trans (Nat.mul_le_mul_left _ l1) (by decide))
  have et := told_text ho.ok.parts.1
  have KT := Lib.hid (fun (w' : World) (hb : Below w.heap.size w w') => told_s p w' (hI.stay hb) (hM.stay hb) ho)
  unfold Told at KT
  have KJ := Lib.hid (fun (base : Nat) (v : Value) (w' : World) (h : w'.ownsRow base 9 1 v (toldO p.o).length ((toldO p.o).flatMap sc)) => join_s base v (toldO p.o) [32] w' h l2 l1 (by omega))
  have b1 := bytes_app (Lib.join (toldO p.o) [32]) [59]
  rw [et] at b1
  clear hI hM ho l1 l2 l3 hj et
  generalize Lib.join (toldO p.o) [32] = J at *
  generalize textO p.o = T at *
  generalize hTO : toldO p.o = TO at *
  clear hTO
  have d1 : ¬ 9223372036854775807 < J.length + 1 := by omega
  unfold opV at *
  obtain ⟨⟨k, fr, tg, nm, ps, ss, en⟩, pos, vP, vS⟩ := p
  simp only at *
  unfold strV at *
  go_enter Tryz.func34, Tryz.ntmps34
  go_wp2_with (first
    | (go_at_call 60; refine (KJ.out _ _ _ HO1.out).mono ?_; rintro e w2 ⟨rfl, h2⟩; have HB2 := Lib.hid (HB1.out.trans (h2.mono HB1.out.size)); clear h2)
    | (go_at_call 61; refine (KT.out _ ((Below.refl w.heap.size w).alloc (Nat.le_refl _) _)).mono ?_; rintro e w1 ⟨v1, rfl, o1, h1⟩; have HO1 := Lib.hid o1; have HB1 := Lib.hid (((Below.refl w.heap.size w).alloc (Nat.le_refl _) _).trans (h1.mono (by simp))); clear o1 h1))
  go_ret
  exact ⟨rfl, HB2.out⟩
end Go.Proofs.YtffhnedladiaoaaGreatDoor

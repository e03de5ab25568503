/- Package lex: the token that a text begins with. -/
import Derived.Test.YtafmakhhdinknaaGreatDoorLxm
import Derived.Lib.ParseIntB
import Derived.BigQuiet
namespace Go.Proofs.YtafmakhhdinknaaGreatDoor
open Go.RowKit Go.Lib
set_option linter.unusedVariables false
set_option linter.unusedSimpArgs false
/-- What a call answers that looks for a token. -/
def ResR (r : Except Int (Tk × Nat)) (e : Ending) : Prop := match r with
  | .ok p => e = .returned (.tuple #[tokV p.1, .int .i64 (p.2 : Int), .int .i64 0])
  | .error c => e = .returned (.tuple #[tokV ⟨0, [], 0, 0, 0⟩, .int .i64 0, .int .i64 c])
theorem below_drewL (B : Nat) (w : World) (q : Nat) : Below B w (w.drewN q) := ⟨rfl, rfl, rfl, Nat.le_refl _, fun _ _ => rfl⟩
theorem bw_belowL (w : World) (e : TypeId) (s : ByteArray) : Below w.heap.size w (Lib.bytesWorld w e s) :=
  ⟨rfl, rfl, rfl, by rw [Lib.bytesWorld_size]; omega, fun k hk => Lib.bytesWorld_at_old w e s k hk⟩
theorem dig_bd {c : UInt8} (h : digB c = true) : 48 ≤ c.toNat ∧ c.toNat ≤ 57 := by
  rw [dig_val, Bool.and_eq_true, decide_eq_true_eq, decide_eq_true_eq] at h
  omega
/-- Few digits are parsed as their number. -/
theorem parse_digs : ∀ (l : List UInt8) (acc k : Nat), (∀ x ∈ l, digB x = true) → acc < 10 ^ k → l.length + k ≤ 7 → ∃ u : Nat, Lib.parseUintM (2 ^ 64 - 1) acc l = .ok u ∧ (u : Int) = l.foldl (fun x b => x * 10 + ((b.toNat : Int) - 48)) (acc : Int) ∧ u < 10 ^ 7
  | [], acc, k, _, ha, hk => ⟨acc, rfl, rfl, Nat.lt_of_lt_of_le ha (Nat.pow_le_pow_right (by decide) (by simpa using hk))⟩
  | c :: r, acc, k, hd, ha, hk => by
    have hc := dig_bd (hd c (by simp))
    rw [List.length_cons] at hk
    have hp : 10 ^ k ≤ 10 ^ 6 := Nat.pow_le_pow_right (by decide) (by omega)
    have hp2 : (10 : Nat) ^ 6 = 1000000 := by decide
    have hp3 : (10 : Nat) ^ (k + 1) = 10 ^ k * 10 := Nat.pow_succ ..
    obtain ⟨u, h1, h2, h3⟩ := parse_digs r (acc * 10 + (c.toNat - 48)) (k + 1) (fun x hx => hd x (by simp [hx])) (by omega) (by omega)
    refine ⟨u, ?_, ?_, h3⟩
    · unfold Lib.parseUintM
      rw [if_pos (by omega), if_neg (by omega), if_neg (by omega), h1]
    · rw [List.foldl_cons, h2]
      congr 1
      omega
theorem parse_num {l : List UInt8} (hd : ∀ x ∈ l, digB x = true) (h0 : l ≠ []) (h7 : l.length ≤ 7) : Lib.parseIntB 64 l = .ok (numL l) := by
  obtain ⟨u, h1, h2, h3⟩ := parse_digs l 0 0 hd (by decide) (by omega)
  cases l with
  | nil => exact absurd rfl h0
  | cons c r =>
    have hc := dig_bd (hd c (by simp))
    have hp : (10 : Nat) ^ 7 = 10000000 := by decide
    unfold Lib.parseIntB Lib.parseUintB
    simp only
    have e63 : (2 : Nat) ^ (64 - 1) = 9223372036854775808 := by decide
    rw [if_neg (show ¬ (c.toNat = 43 ∨ c.toNat = 45) by omega), if_neg (show ¬ (c :: r = []) by simp), h1]
    simp only
    rw [if_neg (show ¬ (¬ c.toNat = 45 ∧ 2 ^ (64 - 1) ≤ u) by omega), if_neg (show ¬ (c.toNat = 45 ∧ 2 ^ (64 - 1) < u) by omega), if_neg (show ¬ (c.toNat = 45) by omega)]
    unfold numL
    rw [h2]
    rfl
theorem mk_size (l : List UInt8) : (⟨l.toArray⟩ : ByteArray).size = l.length := by show l.toArray.size = _; simp
theorem plain_c (k : Nat) (l : List UInt8) (w : World) : Calls Tryz.prog 30 #[.int .i64 (k : Int), .string ⟨l.toArray⟩] w fun e w' => ResR (.ok (⟨k, l, 0, 0, 0⟩, l.length)) e ∧ Below w.heap.size w w' := by
  obtain ⟨s, hs⟩ : ∃ s : ByteArray, (⟨l.toArray⟩ : ByteArray) = s := ⟨_, rfl⟩
  have hz : s.size = l.length := by rw [← hs]; exact mk_size l
  have HX : Hid (∀ e, e = .returned (.tuple #[.agg #[.int .i64 (k : Int), .string s, .int .i64 0, .int .i32 0, .int .i64 0], .int .i64 (s.size : Int), .int .i64 0]) → ResR (.ok (⟨k, l, 0, 0, 0⟩, l.length)) e) := Lib.hid (fun e h => by rw [h, hz, ← hs]; rfl)
  rw [hs]
  generalize ResR (.ok (⟨k, l, 0, 0, 0⟩, l.length)) = Q at *
  clear hs hz
  go_enter Tryz.func30, Tryz.ntmps30
  go_wp2
  exact bodyPost_ret (v := .tuple #[.agg #[.int .i64 (k : Int), .string s, .int .i64 0, .int .i32 0, .int .i64 0], .int .i64 (s.size : Int), .int .i64 0]) (by simp [results, Tryz.results30, go_sem]) rfl ⟨HX.out _ rfl, (Below.refl _ _).alloc (Nat.le_refl _) _⟩
set_option maxHeartbeats 1000000 in
theorem number_no (l : List UInt8) (hb : 7 < l.length ∨ (1 < l.length ∧ l.head? = some 48)) (hl : l.length ≤ 1000000) (w : World) :
    Calls Tryz.prog 57 #[.string ⟨l.toArray⟩] w fun e w' => e = .returned (.tuple #[.int .i64 0, .bool false]) ∧ Below w.heap.size w w' := by
  have hs := mk_size l
  have hg : ∀ h : 0 < (⟨l.toArray⟩ : ByteArray).size, l.head? = some (⟨l.toArray⟩ : ByteArray)[0] := fun h => by
    cases l with
    | nil => exact absurd h (by decide)
    | cons c r => rfl
  generalize (⟨l.toArray⟩ : ByteArray) = s at *
  by_cases h7 : 7 < l.length
  · have t7 : decide ((7 : Int) < (s.size : Int)) = true := decide_eq_true (by omega)
    clear hg hb
    go_enter Tryz.func57, Tryz.ntmps57
    go_wp2
    exact bodyPost_ret (v := .tuple #[.int .i64 0, .bool false]) (by simp [results, Tryz.results57, go_sem]) rfl ⟨rfl, Below.refl _ _⟩
  · obtain ⟨h1, h2⟩ : 1 < l.length ∧ l.head? = some 48 := hb.resolve_left h7
    have t7 : decide ((7 : Int) < (s.size : Int)) = false := decide_eq_false (by omega)
    have t1 : decide ((1 : Int) < (s.size : Int)) = true := decide_eq_true (by omega)
    have hz : 0 < s.size := by omega
    have h3 : s[0] = 48 := by rw [hg hz] at h2; exact Option.some.inj h2
    clear hg h2 hb
    go_enter Tryz.func57, Tryz.ntmps57
    go_wp2
    exact bodyPost_ret (v := .tuple #[.int .i64 0, .bool false]) (by simp [results, Tryz.results57, go_sem]) rfl ⟨rfl, Below.refl _ _⟩
set_option maxHeartbeats 1000000 in
theorem number_yes (l : List UInt8) (hd : ∀ x ∈ l, digB x = true) (h0 : l ≠ []) (h7 : l.length ≤ 7) (hb : ¬ (1 < l.length ∧ l.head? = some 48)) (w : World) :
    Calls Tryz.prog 57 #[.string ⟨l.toArray⟩] w fun e w' => e = .returned (.tuple #[.int .i64 (numL l), .bool true]) ∧ Below w.heap.size w w' := by
  have hs := mk_size l
  have KP := Lib.hid (fun (W' : World) => Tryz.strconv_ParseInt_10_at64_ok ⟨l.toArray⟩ (by omega) (numL l) (parse_num hd h0 h7) W')
  have hg : ∀ h : 0 < (⟨l.toArray⟩ : ByteArray).size, l.head? = some (⟨l.toArray⟩ : ByteArray)[0] := fun h => by
    cases l with
    | nil => exact absurd h (by decide)
    | cons c r => rfl
  generalize (⟨l.toArray⟩ : ByteArray) = s at *
  have t7 : decide ((7 : Int) < (s.size : Int)) = false := decide_eq_false (by omega)
  have hz : 0 < s.size := by have := List.length_pos_iff.2 h0; omega
  by_cases h1 : 1 < l.length
  case pos =>
    have t1 : decide ((1 : Int) < (s.size : Int)) = true := decide_eq_true (by omega)
    have h3 : ((s[0].toNat : Int) == 48) = false := u8_ne (fun h => hb ⟨h1, by rw [hg hz]; exact congrArg some h⟩)
    clear hg hb hd h0
    go_enter Tryz.func57, Tryz.ntmps57
    go_wp2_with (go_at_call 79; refine (KP.out _).mono ?_; rintro e w1 ⟨rfl, h4⟩; have hB : Below w.heap.size w w1 := (by rcases h4 with rfl | ⟨t, rfl⟩; exact Below.refl _ _; exact bw_belowL _ _ _); have HB := Lib.hid hB; clear h4 hB)
    go_quiet (fail)
    go_wp2
    exact bodyPost_ret (v := .tuple #[.int .i64 (numL l), .bool true]) (by simp [results, Tryz.results57, go_sem]) rfl ⟨rfl, HB.out.trans (below_drewL _ _ _)⟩
  case neg =>
    have t1 : decide ((1 : Int) < (s.size : Int)) = false := decide_eq_false (by omega)
    clear hg hb hd h0
    go_enter Tryz.func57, Tryz.ntmps57
    go_wp2_with (go_at_call 79; refine (KP.out _).mono ?_; rintro e w1 ⟨rfl, h4⟩; have hB : Below w.heap.size w w1 := (by rcases h4 with rfl | ⟨t, rfl⟩; exact Below.refl _ _; exact bw_belowL _ _ _); have HB := Lib.hid hB; clear h4 hB)
    go_quiet (fail)
    go_wp2
    exact bodyPost_ret (v := .tuple #[.int .i64 (numL l), .bool true]) (by simp [results, Tryz.results57, go_sem]) rfl ⟨rfl, HB.out.trans (below_drewL _ _ _)⟩
/-- Of digits and - : a day, a number, or why there is none. -/
noncomputable def digF (l : List UInt8) : Except Int (Tk × Nat) :=
  if (45 : UInt8) ∈ l then
    match dayOf l with
    | none => .error 13
    | some d => .ok (⟨3, l, 0, d, 0⟩, l.length)
  else if 7 < l.length ∨ (1 < l.length ∧ l.head? = some 48) then .error 5
  else .ok (⟨2, l, numL l, 0, 0⟩, l.length)
set_option maxHeartbeats 4000000 in
set_option maxRecDepth 100000 in
theorem digits_c {I : World → Prop} (D : DayC I) (l : List UInt8) (h0 : l ≠ []) (hd : ∀ x ∈ l, dimB x = true) (hl : l.length ≤ 100000) (w : World) (hI : I w) :
    Calls Tryz.prog 32 #[.string ⟨l.toArray⟩] w fun e w' => ResR (digF l) e ∧ Below w.heap.size w w' := by
  have hs := mk_size l
  have KC := fun (W' : World) => Tryz.strings_Contains_one ⟨l.toArray⟩ 45 W'
  rw [show (⟨l.toArray⟩ : ByteArray).data.toList = l from rfl] at KC
  have KD := Lib.hid (fun (W' : World) (h : Below w.heap.size w W') => day_parse D l W' (D.stay hI h) (by omega))
  have HX0 := Lib.hid (HBox.new w [.int .i64 0, .string ⟨#[]⟩, .int .i64 0, .int .i32 0, .int .i64 0] 31)
  have HB0 := Lib.hid ((Below.refl w.heap.size w).alloc (Nat.le_refl _) (.cells #[.int .i64 0, .string ⟨#[]⟩, .int .i64 0, .int .i32 0, .int .i64 0] 31))
  by_cases hm : (45 : UInt8) ∈ l
  · have e1 : decide (0 ≤ Lib.indexByte l 45) = true := decide_eq_true (by have h := idx_neg 45 l; rcases Int.lt_or_le (Lib.indexByte l 45) 0 with h2 | h2; exact absurd hm (h.1 h2); exact h2)
    rw [e1] at KC
    have KKC := Lib.hid KC
    have hdf : digF l = match dayOf l with
      | none => .error 13
      | some d => .ok (⟨3, l, 0, d, 0⟩, l.length) := by unfold digF; rw [if_pos hm]
    rw [hdf]
    clear KC e1 hdf hd h0 D hI hm
    cases hdo : dayOf l with
    | none =>
      rw [hdo] at KD
      clear hs hdo hl
      generalize (⟨l.toArray⟩ : ByteArray) = s at *
      go_enter Tryz.func32, Tryz.ntmps32
      go_wp2_with (first
        | (go_at_call 39; refine (KD.out _ HB0.out).mono ?_; rintro e w1 ⟨rfl, h1⟩; have HB1 := Lib.hid (HB0.out.trans (h1.mono HB0.out.size)); have hx := HX0.out.stay h1; have z0 := hx.cell (j := 0) rfl; have z1 := hx.cell (j := 1) rfl; have z2 := hx.cell (j := 2) rfl; have z3 := hx.cell (j := 3) rfl; have z4 := hx.cell (j := 4) rfl; have f0 := hx.frozen 0; have f1 := hx.frozen 1; have f2 := hx.frozen 2; have f3 := hx.frozen 3; have f4 := hx.frozen 4; have zz := hx.size; have HX1 := Lib.hid hx; clear hx; clear h1)
        | (go_at_call 38; refine (KKC.out _).mono ?_; rintro e w0 ⟨rfl, rfl⟩))
      have hx2 := HX1.out.set5 (.int .i64 0) (.string ⟨#[]⟩) (.int .i64 0) (.int .i32 0) (.int .i64 0)
      have y0 := hx2.cell (j := 0) rfl
      have y1 := hx2.cell (j := 1) rfl
      have y2 := hx2.cell (j := 2) rfl
      have y3 := hx2.cell (j := 3) rfl
      have y4 := hx2.cell (j := 4) rfl
      exact bodyPost_ret (v := .tuple #[.agg #[.int .i64 0, .string ⟨#[]⟩, .int .i64 0, .int .i32 0, .int .i64 0], .int .i64 0, .int .i64 13]) (by simp [results, Tryz.results32, go_sem, y0, y1, y2, y3, y4]) rfl ⟨rfl, ((((HB1.out.setCell (Nat.le_refl _) _).setCell (Nat.le_refl _) _).setCell (Nat.le_refl _) _).setCell (Nat.le_refl _) _).setCell (Nat.le_refl _) _⟩
    | some d =>
      rw [hdo] at KD
      have HQ : Hid (∀ e, e = .returned (.tuple #[.agg #[.int .i64 3, .string ⟨l.toArray⟩, .int .i64 0, .int .i32 d, .int .i64 0], .int .i64 ((⟨l.toArray⟩ : ByteArray).size : Int), .int .i64 0]) → ResR (.ok (⟨3, l, 0, d, 0⟩, l.length)) e) := Lib.hid (fun e h => by rw [h, hs]; rfl)
      clear hs hdo hl
      dsimp only
      generalize ResR (.ok (⟨3, l, 0, d, 0⟩, l.length)) = Q at *
      generalize (⟨l.toArray⟩ : ByteArray) = s at *
      go_enter Tryz.func32, Tryz.ntmps32
      go_wp2_with (first
        | (go_at_call 39; refine (KD.out _ HB0.out).mono ?_; rintro e w1 ⟨rfl, h1⟩; have HB1 := Lib.hid (HB0.out.trans (h1.mono HB0.out.size)); have hx := HX0.out.stay h1; have z0 := hx.cell (j := 0) rfl; have z1 := hx.cell (j := 1) rfl; have z2 := hx.cell (j := 2) rfl; have z3 := hx.cell (j := 3) rfl; have z4 := hx.cell (j := 4) rfl; have f0 := hx.frozen 0; have f1 := hx.frozen 1; have f2 := hx.frozen 2; have f3 := hx.frozen 3; have f4 := hx.frozen 4; have zz := hx.size; have HX1 := Lib.hid hx; clear hx; clear h1)
        | (go_at_call 38; refine (KKC.out _).mono ?_; rintro e w0 ⟨rfl, rfl⟩))
      have hx2 := HX1.out.set5 (.int .i64 3) (.string s) (.int .i64 0) (.int .i32 d) (.int .i64 0)
      have y0 := hx2.cell (j := 0) rfl
      have y1 := hx2.cell (j := 1) rfl
      have y2 := hx2.cell (j := 2) rfl
      have y3 := hx2.cell (j := 3) rfl
      have y4 := hx2.cell (j := 4) rfl
      exact bodyPost_ret (v := .tuple #[.agg #[.int .i64 3, .string s, .int .i64 0, .int .i32 d, .int .i64 0], .int .i64 (s.size : Int), .int .i64 0]) (by simp [results, Tryz.results32, go_sem, y0, y1, y2, y3, y4]) rfl ⟨HQ.out _ rfl, ((((HB1.out.setCell (Nat.le_refl _) _).setCell (Nat.le_refl _) _).setCell (Nat.le_refl _) _).setCell (Nat.le_refl _) _).setCell (Nat.le_refl _) _⟩
  · have e1 : decide (0 ≤ Lib.indexByte l 45) = false := decide_eq_false (by have := (idx_neg 45 l).2 hm; omega)
    rw [e1] at KC
    have KKC := Lib.hid KC
    have hdg : ∀ x ∈ l, digB x = true := fun x hx => by
      have h5 := hd x hx
      unfold dimB at h5
      rw [Bool.or_eq_true] at h5
      rcases h5 with h5 | h5
      · exact h5
      · have : x = 45 := by simpa using h5
        subst this; exact absurd hx hm
    by_cases h7 : 7 < l.length ∨ (1 < l.length ∧ l.head? = some 48)
    · have hdf : digF l = .error 5 := by unfold digF; rw [if_neg hm, if_pos h7]
      rw [hdf]
      have KN := Lib.hid (fun (W' : World) (_ : Below w.heap.size w W') => number_no l h7 (by omega) W')
      clear KC e1 hdf hd h0 D hI hm KD hs hdg h7 hl
      generalize (⟨l.toArray⟩ : ByteArray) = s at *
      go_enter Tryz.func32, Tryz.ntmps32
      go_wp2_with (first
        | (go_at_call 57; refine (KN.out _ HB0.out).mono ?_; rintro e w1 ⟨rfl, h1⟩; have HB1 := Lib.hid (HB0.out.trans (h1.mono HB0.out.size)); have hx := HX0.out.stay h1; have z0 := hx.cell (j := 0) rfl; have z1 := hx.cell (j := 1) rfl; have z2 := hx.cell (j := 2) rfl; have z3 := hx.cell (j := 3) rfl; have z4 := hx.cell (j := 4) rfl; have f0 := hx.frozen 0; have f1 := hx.frozen 1; have f2 := hx.frozen 2; have f3 := hx.frozen 3; have f4 := hx.frozen 4; have zz := hx.size; have HX1 := Lib.hid hx; clear hx; clear h1)
        | (go_at_call 38; refine (KKC.out _).mono ?_; rintro e w0 ⟨rfl, rfl⟩))
      have hx2 := HX1.out.set5 (.int .i64 0) (.string ⟨#[]⟩) (.int .i64 0) (.int .i32 0) (.int .i64 0)
      have y0 := hx2.cell (j := 0) rfl
      have y1 := hx2.cell (j := 1) rfl
      have y2 := hx2.cell (j := 2) rfl
      have y3 := hx2.cell (j := 3) rfl
      have y4 := hx2.cell (j := 4) rfl
      exact bodyPost_ret (v := .tuple #[.agg #[.int .i64 0, .string ⟨#[]⟩, .int .i64 0, .int .i32 0, .int .i64 0], .int .i64 0, .int .i64 5]) (by simp [results, Tryz.results32, go_sem, y0, y1, y2, y3, y4]) rfl ⟨rfl, ((((HB1.out.setCell (Nat.le_refl _) _).setCell (Nat.le_refl _) _).setCell (Nat.le_refl _) _).setCell (Nat.le_refl _) _).setCell (Nat.le_refl _) _⟩
    · have hdf : digF l = .ok (⟨2, l, numL l, 0, 0⟩, l.length) := by unfold digF; rw [if_neg hm, if_neg h7]
      rw [hdf]
      have KN := Lib.hid (fun (W' : World) (_ : Below w.heap.size w W') => number_yes l hdg h0 (by omega) (fun h => h7 (Or.inr h)) W')
      generalize numL l = d at *
      have HQ : Hid (∀ e, e = .returned (.tuple #[.agg #[.int .i64 2, .string ⟨l.toArray⟩, .int .i64 d, .int .i32 0, .int .i64 0], .int .i64 ((⟨l.toArray⟩ : ByteArray).size : Int), .int .i64 0]) → ResR (.ok (⟨2, l, d, 0, 0⟩, l.length)) e) := Lib.hid (fun e h => by rw [h, hs]; rfl)
      clear KC e1 hdf hd h0 D hI hm KD hs hdg h7 hl
      generalize ResR (.ok (⟨2, l, d, 0, 0⟩, l.length)) = Q at *
      generalize (⟨l.toArray⟩ : ByteArray) = s at *
      go_enter Tryz.func32, Tryz.ntmps32
      go_wp2_with (first
        | (go_at_call 57; refine (KN.out _ HB0.out).mono ?_; rintro e w1 ⟨rfl, h1⟩; have HB1 := Lib.hid (HB0.out.trans (h1.mono HB0.out.size)); have hx := HX0.out.stay h1; have z0 := hx.cell (j := 0) rfl; have z1 := hx.cell (j := 1) rfl; have z2 := hx.cell (j := 2) rfl; have z3 := hx.cell (j := 3) rfl; have z4 := hx.cell (j := 4) rfl; have f0 := hx.frozen 0; have f1 := hx.frozen 1; have f2 := hx.frozen 2; have f3 := hx.frozen 3; have f4 := hx.frozen 4; have zz := hx.size; have HX1 := Lib.hid hx; clear hx; clear h1)
        | (go_at_call 38; refine (KKC.out _).mono ?_; rintro e w0 ⟨rfl, rfl⟩))
      have hx2 := HX1.out.set5 (.int .i64 2) (.string s) (.int .i64 d) (.int .i32 0) (.int .i64 0)
      have y0 := hx2.cell (j := 0) rfl
      have y1 := hx2.cell (j := 1) rfl
      have y2 := hx2.cell (j := 2) rfl
      have y3 := hx2.cell (j := 3) rfl
      have y4 := hx2.cell (j := 4) rfl
      exact bodyPost_ret (v := .tuple #[.agg #[.int .i64 2, .string s, .int .i64 d, .int .i32 0, .int .i64 0], .int .i64 (s.size : Int), .int .i64 0]) (by simp [results, Tryz.results32, go_sem, y0, y1, y2, y3, y4]) rfl ⟨HQ.out _ rfl, ((((HB1.out.setCell (Nat.le_refl _) _).setCell (Nat.le_refl _) _).setCell (Nat.le_refl _) _).setCell (Nat.le_refl _) _).setCell (Nat.le_refl _) _⟩
end Go.Proofs.YtafmakhhdinknaaGreatDoor

/- A text's tokens, step by step. -/
import Derived.Test.YtffhnedladiaoaaGreatDoorPsa
import Derived.Test.YtffhnedladiaoaaGreatDoorLxb
import Derived.Test.YtffhnedladiaoaaGreatDoorMsb
namespace Go.Proofs.YtffhnedladiaoaaGreatDoor
open Go.RowKit Go.Lib
set_option linter.unusedVariables false
set_option linter.unusedSimpArgs false
def behind (ts : List Tk) : Except (Nat × Int) (List Tk) → Except (Nat × Int) (List Tk)
  | .error e => .error e
  | .ok us => .ok (ts ++ us)
/-- The tokens of s, from place i on, are ts and then those of r, from i' on. -/
def Goes (i : Nat) (s : List UInt8) (i' : Nat) (r : List UInt8) (ts : List Tk) : Prop := ∀ f g, s.length < f → r.length < g → spl f i s = behind ts (spl g i' r)
theorem behind_nil (x : Except (Nat × Int) (List Tk)) : behind [] x = x := by cases x <;> rfl
theorem behind_app (ts us : List Tk) (x : Except (Nat × Int) (List Tk)) : behind ts (behind us x) = behind (ts ++ us) x := by cases x <;> simp [behind]
theorem goes_refl (i : Nat) (s : List UInt8) : Goes i s i s [] := fun f g hf hg => by rw [behind_nil]; exact spl_fuel f g i s hf hg
theorem Goes.trans {i j k : Nat} {s r q : List UInt8} {ts us : List Tk} (h : Goes i s j r ts) (h' : Goes j r k q us) : Goes i s k q (ts ++ us) := fun f g hf hg => by
  rw [h f (r.length + 1) hf (Nat.lt_succ_self _), h' (r.length + 1) g (Nat.lt_succ_self _) hg, behind_app]
theorem goes_blank (i : Nat) {c : UInt8} (hc : c = 32 ∨ c = 10) (r : List UInt8) : Goes i (c :: r) (i + 1) r [] := fun f g hf hg => by
  cases f with
  | zero => exact absurd hf (by simp)
  | succ f =>
    rw [spl_cons, if_pos hc, behind_nil]
    exact spl_fuel f g (i + 1) r (by simp at hf; omega) hg
theorem goes_tok (i : Nat) {c : UInt8} {r : List UInt8} {t : Tk} {n : Nat} (h1 : ¬ (c = 32 ∨ c = 10)) (h2 : c ≠ 35) (h : oneF (c :: r) = .ok (t, n)) : Goes i (c :: r) (i + n) ((c :: r).drop n) [{ t with at_ := i }] := fun f g hf hg => by
  have hn := oneF_pos h
  cases f with
  | zero => exact absurd hf (by simp)
  | succ f =>
    rw [spl_cons, if_neg h1, if_neg h2, h]
    simp only
    rw [spl_fuel f g (i + n) ((c :: r).drop n) (by rw [List.length_drop]; simp at hf ⊢; omega) hg]
    cases spl g (i + n) ((c :: r).drop n) <;> rfl
theorem one_word {w : List UInt8} {d : UInt8} (hw : w ≠ []) (hl : ∀ c ∈ w, lowB c = true) (hd : lowB d = false) (r : List UInt8) : oneF (w ++ d :: r) = .ok (⟨1, w, 0, 0, 0⟩, w.length) := by
  unfold oneF
  rw [tw_all hd r w hl, if_pos hw]
theorem goes_word (i : Nat) {w : List UInt8} {d : UInt8} (hw : w ≠ []) (hl : ∀ c ∈ w, lowB c = true) (hd : lowB d = false) (r : List UInt8) : Goes i (w ++ d :: r) (i + w.length) (d :: r) [⟨1, w, 0, 0, i⟩] := by
  obtain ⟨c, x, rfl⟩ := List.exists_cons_of_ne_nil hw
  obtain ⟨g1, g2, g3⟩ := low_not (hl c (by simp))
  have h := goes_tok i (c := c) (r := x ++ d :: r) (by rintro (h | h); exact g1 h; exact g2 h) g3 (one_word hw hl hd r)
  have e : (c :: (x ++ d :: r)).drop (c :: x).length = d :: r := by rw [← List.cons_append, List.drop_left]
  rw [e] at h
  exact h
theorem goes_sign (i : Nat) {c : UInt8} (hc : c = 44 ∨ c = 59) (r : List UInt8) : Goes i (c :: r) (i + 1) r [⟨5, [c], 0, 0, i⟩] := by
  have h0 : oneF (c :: r) = .ok (⟨5, [c], 0, 0, 0⟩, 1) := by
    have hl : lowB c = false := by rcases hc with rfl | rfl <;> decide
    have hm : dimB c = false := by rcases hc with rfl | rfl <;> decide
    unfold oneF
    rw [List.takeWhile_cons_of_neg (by simp [hl]), if_neg (by simp), List.takeWhile_cons_of_neg (by simp [hm]), if_neg (by simp)]
    simp only
    rw [if_pos hc]
  have h := goes_tok i (c := c) (r := r) (by rcases hc with rfl | rfl <;> decide) (by rcases hc with rfl | rfl <;> decide) h0
  exact h
theorem goes_text (i : Nat) {s : List UInt8} (hs : ∀ c ∈ s, inQ c = true) (r : List UInt8) : Goes i (34 :: (s ++ 34 :: r)) (i + (s.length + 2)) r [⟨4, s, 0, 0, i⟩] := by
  have hq : inQ 34 = false := by decide
  have h0 : oneF (34 :: (s ++ 34 :: r)) = .ok (⟨4, s, 0, 0, 0⟩, s.length + 2) := by
    unfold oneF
    rw [List.takeWhile_cons_of_neg (by decide), if_neg (by simp), List.takeWhile_cons_of_neg (by decide), if_neg (by simp)]
    simp only
    rw [if_neg (by decide), if_pos trivial, tw_all hq r s hs, List.drop_left]
    simp
  have h := goes_tok i (c := 34) (r := s ++ 34 :: r) (by decide) (by decide) h0
  have e : (34 :: (s ++ 34 :: r)).drop (s.length + 2) = r := by
    rw [List.drop_succ_cons, show s.length + 1 = s.length + 1 from rfl, List.drop_append, List.drop_eq_nil_of_le (by omega)]
    simp
  rw [e] at h
  exact h
theorem dig_low {c : UInt8} (h : digB c = true) : lowB c = false := by
  unfold digB at h
  unfold lowB
  simp only [Bool.and_eq_true, decide_eq_true_eq] at h
  have : ¬ (97 : UInt8) ≤ c := by
    rw [UInt8.le_iff_toNat_le] at *
    have h2 := h.2
    rw [UInt8.le_iff_toNat_le] at h2
    have h57 : (57 : UInt8).toNat = 57 := rfl
    have h97 : (97 : UInt8).toNat = 97 := rfl
    omega
  simp [this]
theorem dig_ne45 {c : UInt8} (h : digB c = true) : c ≠ 45 := by rintro rfl; revert h; decide
/-- A number's first digit is nought only where it is the only one. -/
theorem dec_nought (n : Nat) : (decDigits n).head? = some 48 → (decDigits n).length = 1 := by
  induction n using Nat.strongRecOn with
  | _ n ih =>
    rw [decDigits]
    split
    · intro _; simp
    · rename_i h
      intro h0
      rw [head_app (dec_dig (n / 10)).2.2] at h0
      have h1 := ih (n / 10) (by omega) h0
      exfalso
      have e : decDigits (n / 10) = [48] := by
        match hd : decDigits (n / 10), h0, h1 with
        | [c], h0, _ => simp at h0; rw [h0]
      have h2 := (dec_dig (n / 10)).2.1
      rw [e] at h2
      have h3 : numL [48] = 0 := by decide
      omega
theorem one_num {n : Nat} (hn : (decDigits n).length ≤ 7) {d : UInt8} (hd : dimB d = false) (r : List UInt8) : oneF (decDigits n ++ d :: r) = .ok (⟨2, decDigits n, n, 0, 0⟩, (decDigits n).length) := by
  obtain ⟨h1, h2, h3⟩ := dec_dig n
  have hz := dec_nought n
  obtain ⟨c, x, hc⟩ := List.exists_cons_of_ne_nil h3
  have hc1 : digB c = true := h1 c (by rw [hc]; simp)
  have e1 : (decDigits n ++ d :: r).takeWhile lowB = [] := by rw [hc, List.cons_append, List.takeWhile_cons_of_neg (by simp [dig_low hc1])]
  have e2 : (decDigits n ++ d :: r).takeWhile dimB = decDigits n := tw_all hd r _ (fun y hy => dig_dim (h1 y hy))
  have e3 : (decDigits n ++ d :: r).head? = (decDigits n).head? := head_app h3 _
  unfold oneF
  rw [e1, if_neg (by simp), e2, e3, if_pos ⟨h3, by rw [hc]; simp; exact dig_ne45 hc1⟩, if_neg (fun hm => dig_ne45 (h1 45 hm) rfl), if_neg (by
    rintro (h | ⟨h, h'⟩)
    · omega
    · have := hz h'; omega), h2]
theorem goes_num (i : Nat) {n : Nat} (hn : (decDigits n).length ≤ 7) {d : UInt8} (hd : dimB d = false) (r : List UInt8) : Goes i (decDigits n ++ d :: r) (i + (decDigits n).length) (d :: r) [⟨2, decDigits n, n, 0, i⟩] := by
  have h0 := one_num hn hd r
  obtain ⟨h1, _, h3⟩ := dec_dig n
  obtain ⟨c, x, hc⟩ := List.exists_cons_of_ne_nil h3
  have hc1 : digB c = true := h1 c (by rw [hc]; simp)
  have e : (decDigits n ++ d :: r).drop (decDigits n).length = d :: r := List.drop_left
  rw [hc] at h0 e ⊢
  have h := goes_tok i (c := c) (r := x ++ d :: r) (by rintro (rfl | rfl) <;> revert hc1 <;> decide) (by rintro rfl; revert hc1; decide) h0
  rw [show (c :: (x ++ d :: r)) = (c :: x) ++ d :: r from rfl, e] at h
  exact h
theorem dateL_cons (y m d : Int) : ∃ c x, dateL y m d = c :: x ∧ digB c = true ∧ (45 : UInt8) ∈ c :: x := by
  have h : dateL y m d = UInt8.ofNat (48 + y.toNat / 10 ^ 3 % 10) :: (digL y.toNat 3 ++ [45] ++ digL m.toNat 2 ++ [45] ++ digL d.toNat 2) := rfl
  exact ⟨_, _, h, (dg_ofNat (by omega)).1, by simp⟩
theorem dayOf_dayT {n : Int} (h : IsDay n) : dayOf (dayT n) = some n := by
  obtain ⟨y, m, d, h1, h2, h3⟩ := dayT_of h
  have hx : ∃ y m d, RightD y m d ∧ dayT n = dateL y m d := ⟨y, m, d, h1, h3⟩
  unfold dayOf
  rw [dif_pos hx]
  obtain ⟨k1, k2⟩ := hx.choose_spec.choose_spec.choose_spec
  have key : ∀ y' m' d', RightD y' m' d' → dayT n = dateL y' m' d' → numD y' m' d' = n := fun y' m' d' a b => by
    obtain ⟨e1, e2, e3⟩ := date_inj h1 a (h3.symm.trans b)
    rw [← e1, ← e2, ← e3, h2]
  exact congrArg some (key _ _ _ k1 k2)
theorem one_day {n : Int} (hn : IsDay n) {d : UInt8} (hd : dimB d = false) (r : List UInt8) : oneF (dayT n ++ d :: r) = .ok (⟨3, dayT n, 0, n, 0⟩, (dayT n).length) := by
  obtain ⟨y, m, k, h1, h2, h3⟩ := dayT_of hn
  obtain ⟨c, x, hc, hc1, hc2⟩ := dateL_cons y m k
  rw [← h3] at hc
  have hne : dayT n ≠ [] := by rw [hc]; simp
  have e1 : (dayT n ++ d :: r).takeWhile lowB = [] := by rw [hc, List.cons_append, List.takeWhile_cons_of_neg (by simp [dig_low hc1])]
  have e2 : (dayT n ++ d :: r).takeWhile dimB = dayT n := tw_all hd r _ (dayT_dim hn)
  have e3 : (dayT n ++ d :: r).head? = (dayT n).head? := head_app hne _
  unfold oneF
  rw [e1, if_neg (by simp), e2, e3, if_pos ⟨hne, by rw [hc]; simp; exact dig_ne45 hc1⟩, if_pos (by rw [hc]; exact hc2), dayOf_dayT hn]
theorem goes_day (i : Nat) {n : Int} (hn : IsDay n) {d : UInt8} (hd : dimB d = false) (r : List UInt8) : Goes i (dayT n ++ d :: r) (i + (dayT n).length) (d :: r) [⟨3, dayT n, 0, n, i⟩] := by
  have h0 := one_day hn hd r
  obtain ⟨y, m, k, h1, h2, h3⟩ := dayT_of hn
  obtain ⟨c, x, hc, hc1, _⟩ := dateL_cons y m k
  rw [← h3] at hc
  have e : (dayT n ++ d :: r).drop (dayT n).length = d :: r := List.drop_left
  rw [hc] at h0 e ⊢
  have h := goes_tok i (c := c) (r := x ++ d :: r) (by rintro (rfl | rfl) <;> revert hc1 <;> decide) (by rintro rfl; revert hc1; decide) h0
  rw [show (c :: (x ++ d :: r)) = (c :: x) ++ d :: r from rfl, e] at h
  exact h
end Go.Proofs.YtffhnedladiaoaaGreatDoor
/- Ops' texts have tokens that are read as the ops: the kinds of two codes, and names. -/
namespace Go.Proofs.YtffhnedladiaoaaGreatDoor
open Go.RowKit Go.Lib
set_option linter.unusedVariables false
set_option linter.unusedSimpArgs false
theorem Goes.at_ {i j k : Nat} {s r : List UInt8} {ts : List Tk} (h : Goes i s j r ts) (e : j = k) : Goes i s k r ts := e ▸ h
theorem kindT_word {k : Nat} (hk : k < 8) (i : Nat) (l : List Tk) : kindT (⟨1, wordK k, 0, 0, i⟩ :: l) = some k := by
  have h : ∀ k : Fin 8, ((List.range 8).find? fun j => ((1 : Nat) == 1) && (wordK j == [] || wordK k.val == wordK j)) = some k.val := by decide
  exact h ⟨k, hk⟩
theorem wordK_low : ∀ k : Fin 8, wordK k.val ≠ [] ∧ ∀ c ∈ wordK k.val, lowB c = true := by decide
theorem linkK_low : ∀ k : Fin 8, k.val ≠ 1 → linkK k.val ≠ [] ∧ ∀ c ∈ linkK k.val, lowB c = true := by decide
/-- What behind an op is read. -/
def moreO (p : Opp × Nat) : Except (Nat × Int) (List (Opp × Nat)) → Except (Nat × Int) (List (Opp × Nat))
  | .error e => .error e
  | .ok os => .ok (p :: os)
/-- An op's text has tokens that are read as it. -/
def TextR (o : Opp) : Prop := ∀ i r, ∃ ts, Goes i (textO o ++ r) (i + (textO o).length) r ts ∧ ∀ n l, opsR (n + 1) (ts ++ l) = moreO (o, i) (opsR n l)
/-- Likewise, its end being wherever it is. -/
def TextB (o : Opp) : Prop := ∃ b, textO o = b ++ [59] ∧ ∀ i d r, dimB d = false → ∃ ts, Goes i (b ++ d :: r) (i + b.length) (d :: r) ts ∧ ∀ n j l, opsR (n + 1) (ts ++ ⟨5, [59], 0, 0, j⟩ :: l) = moreO (o, i) (opsR n l)
theorem TextB.text {o : Opp} (h : TextB o) : TextR o := by
  obtain ⟨b, hb, h⟩ := h
  intro i r
  obtain ⟨ts, g, hr⟩ := h i 59 r (by decide)
  have e : textO o ++ r = b ++ 59 :: r := by rw [hb]; simp
  have hl : (textO o).length = b.length + 1 := by rw [hb]; simp
  rw [e, hl]
  refine ⟨ts ++ [⟨5, [59], 0, 0, i + b.length⟩], (g.trans (goes_sign _ (.inr rfl) r)).at_ (by omega), fun n l => ?_⟩
  rw [List.append_assoc]
  exact hr n _ l
theorem opsR_op {k : Nat} (hk : k < 8) {i j : Nat} {ts l : List Tk} {o : Opp} (h : opR k (ts ++ ⟨5, [59], 0, 0, j⟩ :: l) = .ok (o, ⟨5, [59], 0, 0, j⟩ :: l)) (n : Nat) :
    opsR (n + 1) (⟨1, wordK k, 0, 0, i⟩ :: (ts ++ ⟨5, [59], 0, 0, j⟩ :: l)) = moreO (o, i) (opsR n l) := by
  conv => lhs; unfold opsR
  rw [if_neg (by simp [isT]), kindT_word hk]
  simp only [List.tail_cons]
  have e : thenR (opR k) (fun o => thenR (needT 5 [59]) fun _ => backR o) (ts ++ ⟨5, [59], 0, 0, j⟩ :: l) = .ok (o, l) := by
    unfold thenR
    rw [h]
    simp [needT, isT, backR]
  rw [e]
  simp only
  cases opsR n l <;> rfl
theorem numR_tok {a b : Int} {n : Nat} (h : a ≤ (n : Int) ∧ (n : Int) ≤ b) (x : List UInt8) (i : Nat) (l : List Tk) : numR a b (⟨2, x, n, 0, i⟩ :: l) = .ok (n, l) := by
  unfold numR
  simp only [if_true]
  rw [if_neg (by omega), Int.toNat_natCast]
theorem needT_tok {k : Nat} {s : List UInt8} {t : Tk} (h : isT k s (t :: []) = true) (l : List Tk) : needT k s (t :: l) = .ok (t, l) := by
  unfold needT
  simp only
  rw [if_pos (by simpa [isT] using h)]
theorem text_two {o : Opp} (ok : OkO o) (h1 : o.kind ≠ 1) (h4 : o.kind ≠ 4) (h7 : o.kind ≠ 7) (ha : 1 ≤ o.frm ∧ o.frm ≤ if o.kind = 5 ∨ o.kind = 6 then 999 else 999999)
    (hb : (if o.kind = 2 then 0 else 1) ≤ o.to ∧ o.to ≤ if o.kind = 5 ∨ o.kind = 6 then 999 else 999999) (la : (decDigits o.frm).length ≤ 7) (lb : (decDigits o.to).length ≤ 7) : TextB o := by
  have hk : o.kind < 8 := by have := ok.kind; omega
  obtain ⟨w1, w2⟩ := wordK_low ⟨o.kind, hk⟩
  obtain ⟨l1, l2⟩ := linkK_low ⟨o.kind, hk⟩ h1
  simp only at w1 w2 l1 l2
  refine ⟨wordK o.kind ++ 32 :: (decDigits o.frm ++ 32 :: (linkK o.kind ++ 32 :: decDigits o.to)), by
    unfold textO restO
    rw [if_neg h1, if_neg h4, if_neg h7]
    simp, fun i d r hd => ?_⟩
  have e : (wordK o.kind ++ 32 :: (decDigits o.frm ++ 32 :: (linkK o.kind ++ 32 :: decDigits o.to))) ++ d :: r = wordK o.kind ++ 32 :: (decDigits o.frm ++ 32 :: (linkK o.kind ++ 32 :: (decDigits o.to ++ d :: r))) := by simp
  have hlen : (wordK o.kind ++ 32 :: (decDigits o.frm ++ 32 :: (linkK o.kind ++ 32 :: decDigits o.to))).length = (wordK o.kind).length + 1 + (decDigits o.frm).length + 1 + (linkK o.kind).length + 1 + (decDigits o.to).length := by
    simp
    omega
  rw [e, hlen]
  have g := (goes_word i w1 w2 (by decide : lowB 32 = false) (decDigits o.frm ++ 32 :: (linkK o.kind ++ 32 :: (decDigits o.to ++ d :: r)))).trans ((goes_blank _ (.inl rfl) _).trans
    ((goes_num _ la (by decide : dimB 32 = false) (linkK o.kind ++ 32 :: (decDigits o.to ++ d :: r))).trans ((goes_blank _ (.inl rfl) _).trans
    ((goes_word _ l1 l2 (by decide : lowB 32 = false) (decDigits o.to ++ d :: r)).trans ((goes_blank _ (.inl rfl) _).trans
    (goes_num _ lb hd r))))))
  refine ⟨_, g.at_ (by omega), fun n p4 l => ?_⟩
  simp only [List.nil_append, List.cons_append]
  generalize i + (wordK o.kind).length + 1 = p1
  generalize p1 + (decDigits o.frm).length + 1 = p2
  generalize p2 + (linkK o.kind).length + 1 = p3
  refine opsR_op (ts := [⟨2, decDigits o.frm, o.frm, 0, p1⟩, ⟨1, linkK o.kind, 0, 0, p2⟩, ⟨2, decDigits o.to, o.to, 0, p3⟩]) hk ?_ n
  obtain ⟨_, hnm⟩ := ok.name
  obtain ⟨_, hps⟩ := ok.parts
  obtain ⟨_, hds⟩ := ok.days
  have eo : o = ⟨o.kind, o.frm, o.to, [], [], [], 0⟩ := Opp.eq_of rfl rfl rfl (hnm h1) (hps h4) (hds h7).1 (hds h7).2
  simp only [List.cons_append, List.nil_append]
  unfold opR
  rw [if_neg h7, if_neg h1]
  by_cases h2 : o.kind = 2
  · rw [if_pos h2]
    rw [h2] at ha hb eo ⊢
    simp only [thenR, backR]
    rw [numR_tok ⟨by omega, by simp at ha; omega⟩]
    simp only
    rw [needT_tok (by simp [isT])]
    simp only
    rw [numR_tok ⟨by omega, by simp at hb; omega⟩]
    simp only
    exact congrArg (fun x => Except.ok (x, _)) eo.symm
  · rw [if_neg h2, if_neg h4]
    rw [if_neg h2] at hb
    have hab : (1 : Int) ≤ (o.frm : Int) ∧ (o.frm : Int) ≤ (if o.kind = 5 ∨ o.kind = 6 then 999 else 999999) := by
      split <;> rename_i h <;> simp only [h, if_true, if_false] at ha <;> omega
    have hbb : (1 : Int) ≤ (o.to : Int) ∧ (o.to : Int) ≤ (if o.kind = 5 ∨ o.kind = 6 then 999 else 999999) := by
      split <;> rename_i h <;> simp only [h, if_true, if_false] at hb <;> omega
    simp only [thenR, backR]
    rw [numR_tok hab]
    simp only
    rw [needT_tok (by simp [isT])]
    simp only
    rw [numR_tok hbb]
    simp only
    exact congrArg (fun x => Except.ok (x, _)) eo.symm
end Go.Proofs.YtffhnedladiaoaaGreatDoor
/- Ops' texts have tokens that are read as the ops: names, calendars, splits. -/
namespace Go.Proofs.YtffhnedladiaoaaGreatDoor
open Go.RowKit Go.Lib
set_option linter.unusedVariables false
set_option linter.unusedSimpArgs false
theorem text_name {o : Opp} (ok : OkO o) (h1 : o.kind = 1) (ha : 1 ≤ o.frm ∧ o.frm ≤ 999999) (hn : ∀ c ∈ o.name, inQ c = true) (la : (decDigits o.frm).length ≤ 7) : TextB o := by
  obtain ⟨w1, w2⟩ := wordK_low ⟨1, by decide⟩
  simp only at w1 w2
  refine ⟨wordK 1 ++ 32 :: (decDigits o.frm ++ 32 :: 34 :: (o.name ++ [34])), by
    unfold textO restO
    rw [if_pos h1, h1]
    simp, fun i d r hd => ?_⟩
  have e : (wordK 1 ++ 32 :: (decDigits o.frm ++ 32 :: 34 :: (o.name ++ [34]))) ++ d :: r = wordK 1 ++ 32 :: (decDigits o.frm ++ 32 :: 34 :: (o.name ++ 34 :: d :: r)) := by simp
  have hlen : (wordK 1 ++ 32 :: (decDigits o.frm ++ 32 :: 34 :: (o.name ++ [34]))).length = (wordK 1).length + 1 + (decDigits o.frm).length + 1 + (o.name.length + 2) := by
    simp
    omega
  rw [e, hlen]
  have g := (goes_word i w1 w2 (by decide : lowB 32 = false) (decDigits o.frm ++ 32 :: 34 :: (o.name ++ 34 :: d :: r))).trans ((goes_blank _ (.inl rfl) _).trans
    ((goes_num _ la (by decide : dimB 32 = false) (34 :: (o.name ++ 34 :: d :: r))).trans ((goes_blank _ (.inl rfl) _).trans
    (goes_text _ hn (d :: r)))))
  refine ⟨_, g.at_ (by omega), fun n p4 l => ?_⟩
  simp only [List.nil_append, List.cons_append]
  refine opsR_op (k := 1) (ts := [⟨2, decDigits o.frm, o.frm, 0, _⟩, ⟨4, o.name, 0, 0, _⟩]) (by decide) ?_ n
  obtain ⟨_, hps⟩ := ok.parts
  obtain ⟨_, hds⟩ := ok.days
  have eo : o = ⟨1, o.frm, 0, o.name, [], [], 0⟩ := Opp.eq_of h1 rfl (ok.to (.inl h1)) rfl (hps (by omega)) (hds (by omega)).1 (hds (by omega)).2
  simp only [List.cons_append, List.nil_append]
  unfold opR
  rw [if_neg (by decide), if_pos rfl]
  simp only [thenR, backR]
  rw [numR_tok ⟨by omega, by omega⟩]
  simp only
  rw [needT_tok (by simp [isT])]
  simp only
  exact congrArg (fun x => Except.ok (x, _)) eo.symm
/-- Days' tokens. -/
noncomputable def daysTk : Nat → List Int → List Tk
  | _, [] => []
  | i, d :: ds => ⟨3, dayT d, 0, d, i⟩ :: daysTk (i + (dayT d).length + 1) ds
theorem goes_starts : ∀ (ds : List Int) (i : Nat) (r : List UInt8), (∀ d ∈ ds, IsDay d) → Goes i (startsT ds ++ r) (i + (startsT ds).length) r (daysTk i ds)
  | [], i, r, _ => goes_refl i r
  | d :: ds, i, r, h => by
    have e : startsT (d :: ds) ++ r = dayT d ++ 32 :: (startsT ds ++ r) := by simp [startsT]
    have hl : (startsT (d :: ds)).length = (dayT d).length + 1 + (startsT ds).length := by simp [startsT]; omega
    rw [e, hl]
    have g := (goes_day i (h d (by simp)) (by decide : dimB 32 = false) (startsT ds ++ r)).trans ((goes_blank _ (.inl rfl) _).trans (goes_starts ds _ r (fun x hx => h x (by simp [hx]))))
    exact g.at_ (by omega)
theorem days_tw : ∀ (ds : List Int) (i : Nat) (t : Tk) (l : List Tk), t.kind ≠ 3 → (daysTk i ds ++ t :: l).takeWhile (fun t => t.kind == 3) = daysTk i ds ∧ (daysTk i ds ++ t :: l).dropWhile (fun t => t.kind == 3) = t :: l ∧ (daysTk i ds).map (·.day) = ds
  | [], i, t, l, h => by simp [daysTk, h]
  | d :: ds, i, t, l, h => by
    obtain ⟨h1, h2, h3⟩ := days_tw ds (i + (dayT d).length + 1) t l h
    simp [daysTk, h1, h2, h3]
theorem text_cal {o : Opp} (ok : OkO o) (h7 : o.kind = 7) : TextB o := by
  obtain ⟨w1, w2⟩ := wordK_low ⟨7, by decide⟩
  obtain ⟨l1, l2⟩ := linkK_low ⟨7, by decide⟩ (by decide)
  simp only at w1 w2 l1 l2
  obtain ⟨hss, hen⟩ := ok.days.1 h7
  refine ⟨wordK 7 ++ 32 :: (startsT o.starts ++ (linkK 7 ++ 32 :: dayT o.en)), by
    unfold textO restO
    rw [if_neg (by omega), if_neg (by omega), if_pos h7, h7]
    simp, fun i d r hd => ?_⟩
  have e : (wordK 7 ++ 32 :: (startsT o.starts ++ (linkK 7 ++ 32 :: dayT o.en))) ++ d :: r = wordK 7 ++ 32 :: (startsT o.starts ++ (linkK 7 ++ 32 :: (dayT o.en ++ d :: r))) := by simp
  have hlen : (wordK 7 ++ 32 :: (startsT o.starts ++ (linkK 7 ++ 32 :: dayT o.en))).length = (wordK 7).length + 1 + (startsT o.starts).length + (linkK 7).length + 1 + (dayT o.en).length := by
    simp
    omega
  rw [e, hlen]
  have g := (goes_word i w1 w2 (by decide : lowB 32 = false) (startsT o.starts ++ (linkK 7 ++ 32 :: (dayT o.en ++ d :: r)))).trans ((goes_blank _ (.inl rfl) _).trans
    ((goes_starts o.starts _ (linkK 7 ++ 32 :: (dayT o.en ++ d :: r)) hss).trans
    ((goes_word _ l1 l2 (by decide : lowB 32 = false) (dayT o.en ++ d :: r)).trans ((goes_blank _ (.inl rfl) _).trans
    (goes_day _ hen hd r)))))
  refine ⟨_, g.at_ (by omega), fun n p4 l => ?_⟩
  simp only [List.nil_append, List.cons_append, List.append_assoc]
  generalize i + (wordK 7).length + 1 = p1
  generalize p1 + (startsT o.starts).length = p2
  generalize p2 + (linkK 7).length + 1 = p3
  have hop := opsR_op (k := 7) (i := i) (j := p4) (ts := daysTk p1 o.starts ++ [⟨1, linkK 7, 0, 0, p2⟩, ⟨3, dayT o.en, 0, o.en, p3⟩]) (l := l) (o := o) (by decide) ?_ n
  · simpa using hop
  obtain ⟨_, hnm⟩ := ok.name
  obtain ⟨_, hps⟩ := ok.parts
  have eo : o = ⟨7, 0, 0, [], [], o.starts, o.en⟩ := Opp.eq_of h7 (ok.frm h7) (ok.to (.inr (.inr h7))) (hnm (by omega)) (hps (by omega)) rfl rfl
  obtain ⟨d1, d2, d3⟩ := days_tw o.starts p1 ⟨1, linkK 7, 0, 0, p2⟩ (⟨3, dayT o.en, 0, o.en, p3⟩ :: ⟨5, [59], 0, 0, p4⟩ :: l) (by simp)
  simp only [List.append_assoc, List.cons_append, List.nil_append]
  unfold opR
  rw [if_pos rfl]
  rw [d1, d2, d3]
  simp only [thenR, backR]
  rw [needT_tok (by simp [isT])]
  simp only
  rw [needT_tok (by simp [isT])]
  simp only
  exact congrArg (fun x => Except.ok (x, _)) eo.symm
end Go.Proofs.YtffhnedladiaoaaGreatDoor
/- Ops' texts have tokens that are read as the ops: splits; all kinds; what is printed is parsed. -/
namespace Go.Proofs.YtffhnedladiaoaaGreatDoor
open Go.RowKit Go.Lib
set_option linter.unusedVariables false
set_option linter.unusedSimpArgs false
/-- A part that may be. -/
def FitP (p : Nat × Nat) : Prop := (1 ≤ p.1 ∧ p.1 ≤ 999999) ∧ (1 ≤ p.2 ∧ p.2 ≤ 1000000) ∧ (decDigits p.1).length ≤ 7 ∧ (decDigits p.2).length ≤ 7
def partTk (i : Nat) (p : Nat × Nat) : List Tk := [⟨2, decDigits p.1, p.1, 0, i⟩, ⟨2, decDigits p.2, p.2, 0, i + (decDigits p.1).length + 1⟩]
theorem goes_part {p : Nat × Nat} (h : FitP p) (i : Nat) {c : UInt8} (hc : dimB c = false) (r : List UInt8) : Goes i (pT p ++ c :: r) (i + (pT p).length) (c :: r) (partTk i p) := by
  have e : pT p ++ c :: r = decDigits p.1 ++ 32 :: (decDigits p.2 ++ c :: r) := by simp [pT]
  have hl : (pT p).length = (decDigits p.1).length + 1 + (decDigits p.2).length := by simp [pT]; omega
  rw [e, hl]
  have g := (goes_num i h.2.2.1 (by decide : dimB 32 = false) (decDigits p.2 ++ c :: r)).trans ((goes_blank _ (.inl rfl) _).trans (goes_num _ h.2.2.2 hc r))
  exact g.at_ (by omega)
def moreTk : Nat → List (Nat × Nat) → List Tk
  | _, [] => []
  | i, p :: ps => ⟨5, [44], 0, 0, i⟩ :: (partTk (i + 2) p ++ moreTk (i + 2 + (pT p).length) ps)
theorem more_next {d : UInt8} (hd : dimB d = false) : ∀ (ps : List (Nat × Nat)) (r : List UInt8), ∃ c x, moreT ps ++ d :: r = c :: x ∧ dimB c = false
  | [], r => ⟨d, r, rfl, hd⟩
  | p :: ps, r => ⟨44, 32 :: (pT p ++ (moreT ps ++ d :: r)), by simp [moreT], by decide⟩
theorem goes_more {d : UInt8} (hd : dimB d = false) : ∀ (ps : List (Nat × Nat)) (i : Nat) (r : List UInt8), (∀ p ∈ ps, FitP p) → Goes i (moreT ps ++ d :: r) (i + (moreT ps).length) (d :: r) (moreTk i ps)
  | [], i, r, _ => goes_refl i _
  | p :: ps, i, r, h => by
    obtain ⟨c, x, hx, hc⟩ := more_next hd ps r
    have e : moreT (p :: ps) ++ d :: r = 44 :: 32 :: (pT p ++ (moreT ps ++ d :: r)) := by simp [moreT]
    have hl : (moreT (p :: ps)).length = 2 + (pT p).length + (moreT ps).length := by simp [moreT]; omega
    rw [e, hl]
    have g1 := goes_part (h p (by simp)) (i + 1 + 1) hc x
    rw [← hx] at g1
    have g := (goes_sign i (.inl rfl) (32 :: (pT p ++ (moreT ps ++ d :: r)))).trans ((goes_blank _ (.inl rfl) _).trans (g1.trans (goes_more hd ps _ r (fun q hq => h q (by simp [hq])))))
    exact g.at_ (by omega)
theorem parts_read : ∀ (ps : List (Nat × Nat)) (p : Nat × Nat) (n i j k : Nat) (l : List Tk), FitP p → (∀ q ∈ ps, FitP q) → ps.length ≤ n → partsR (n + 1) (partTk i p ++ (moreTk j ps ++ ⟨5, [59], 0, 0, k⟩ :: l)) = .ok (p :: ps, ⟨5, [59], 0, 0, k⟩ :: l)
  | [], p, n, i, j, k, l, hp, _, _ => by
    unfold partsR partTk moreTk
    simp only [thenR, backR, List.cons_append, List.nil_append]
    rw [numR_tok ⟨by have := hp.1.1; omega, by have := hp.1.2; omega⟩]
    simp only
    rw [numR_tok ⟨by have := hp.2.1.1; omega, by have := hp.2.1.2; omega⟩]
    simp [isT]
  | q :: qs, p, 0, i, j, k, l, _, _, hn => by simp at hn
  | q :: qs, p, n + 1, i, j, k, l, hp, hq, hn => by
    have ih := parts_read qs q n (j + 2) (j + 2 + (pT q).length) k l (hq q (by simp)) (fun x hx => hq x (by simp [hx])) (by simp at hn; omega)
    have e : partTk i p ++ (moreTk j (q :: qs) ++ ⟨5, [59], 0, 0, k⟩ :: l) = ⟨2, decDigits p.1, p.1, 0, i⟩ :: ⟨2, decDigits p.2, p.2, 0, i + (decDigits p.1).length + 1⟩ :: ⟨5, [44], 0, 0, j⟩ :: (partTk (j + 2) q ++ (moreTk (j + 2 + (pT q).length) qs ++ ⟨5, [59], 0, 0, k⟩ :: l)) := by
      simp [partTk, moreTk]
    rw [e]
    unfold partsR
    simp only [thenR, backR]
    rw [numR_tok ⟨by have := hp.1.1; omega, by have := hp.1.2; omega⟩]
    simp only
    rw [numR_tok ⟨by have := hp.2.1.1; omega, by have := hp.2.1.2; omega⟩]
    simp only
    rw [if_pos (by simp [isT]), needT_tok (by simp [isT])]
    simp only
    rw [ih]
theorem text_split {o : Opp} (ok : OkO o) (h4 : o.kind = 4) (ha : 1 ≤ o.frm ∧ o.frm ≤ 999999) (la : (decDigits o.frm).length ≤ 7) (hp : ∀ p ∈ o.parts, FitP p) (h8 : o.parts.length ≤ 8) : TextB o := by
  obtain ⟨w1, w2⟩ := wordK_low ⟨4, by decide⟩
  obtain ⟨l1, l2⟩ := linkK_low ⟨4, by decide⟩ (by decide)
  simp only at w1 w2 l1 l2
  obtain ⟨p, ps, hps⟩ := List.exists_cons_of_ne_nil (ok.parts.1 h4)
  rw [hps] at hp h8
  refine ⟨wordK 4 ++ 32 :: (decDigits o.frm ++ 32 :: (linkK 4 ++ 32 :: (pT p ++ moreT ps))), by
    unfold textO restO
    rw [if_neg (by omega), if_pos h4, h4, hps]
    simp [partsT], fun i d r hd => ?_⟩
  obtain ⟨c, x, hx, hc⟩ := more_next hd ps r
  have e : (wordK 4 ++ 32 :: (decDigits o.frm ++ 32 :: (linkK 4 ++ 32 :: (pT p ++ moreT ps)))) ++ d :: r = wordK 4 ++ 32 :: (decDigits o.frm ++ 32 :: (linkK 4 ++ 32 :: (pT p ++ (moreT ps ++ d :: r)))) := by simp
  have hlen : (wordK 4 ++ 32 :: (decDigits o.frm ++ 32 :: (linkK 4 ++ 32 :: (pT p ++ moreT ps)))).length = (wordK 4).length + 1 + (decDigits o.frm).length + 1 + (linkK 4).length + 1 + (pT p).length + (moreT ps).length := by
    simp
    omega
  rw [e, hlen]
  have g1 := goes_part (hp p (by simp)) (i + (wordK 4).length + 1 + (decDigits o.frm).length + 1 + (linkK 4).length + 1) hc x
  rw [← hx] at g1
  have g := (goes_word i w1 w2 (by decide : lowB 32 = false) (decDigits o.frm ++ 32 :: (linkK 4 ++ 32 :: (pT p ++ (moreT ps ++ d :: r))))).trans ((goes_blank _ (.inl rfl) _).trans
    ((goes_num _ la (by decide : dimB 32 = false) (linkK 4 ++ 32 :: (pT p ++ (moreT ps ++ d :: r)))).trans ((goes_blank _ (.inl rfl) _).trans
    ((goes_word _ l1 l2 (by decide : lowB 32 = false) (pT p ++ (moreT ps ++ d :: r))).trans ((goes_blank _ (.inl rfl) _).trans
    (g1.trans (goes_more hd ps _ r (fun q hq => hp q (by simp [hq])))))))))
  refine ⟨_, g.at_ (by omega), fun n p5 l => ?_⟩
  simp only [List.nil_append, List.cons_append, List.append_assoc]
  generalize i + (wordK 4).length + 1 = p1
  generalize p1 + (decDigits o.frm).length + 1 = p2
  generalize p2 + (linkK 4).length + 1 = p3
  generalize p3 + (pT p).length = p4
  have hop := opsR_op (k := 4) (i := i) (j := p5) (ts := ⟨2, decDigits o.frm, o.frm, 0, p1⟩ :: ⟨1, linkK 4, 0, 0, p2⟩ :: (partTk p3 p ++ moreTk p4 ps)) (l := l) (o := o) (by decide) ?_ n
  · simpa using hop
  obtain ⟨_, hnm⟩ := ok.name
  obtain ⟨_, hds⟩ := ok.days
  have eo : o = ⟨4, o.frm, 0, [], p :: ps, [], 0⟩ := Opp.eq_of h4 rfl (ok.to (.inr (.inl h4))) (hnm (by omega)) hps (hds (by omega)).1 (hds (by omega)).2
  simp only [List.append_assoc, List.cons_append, List.nil_append]
  unfold opR
  rw [if_neg (by decide), if_neg (by decide), if_neg (by decide), if_pos rfl]
  simp only [thenR, backR]
  rw [numR_tok ⟨by omega, by omega⟩]
  simp only
  rw [needT_tok (by simp [isT])]
  simp only
  rw [parts_read ps p 7 _ _ _ l (hp p (by simp)) (fun q hq => hp q (by simp [hq])) (by simp at h8; omega)]
  simp only
  exact congrArg (fun x => Except.ok (x, _)) eo.symm
end Go.Proofs.YtffhnedladiaoaaGreatDoor
/- What is printed of ops is parsed as they, where they stand. -/
namespace Go.Proofs.YtffhnedladiaoaaGreatDoor
open Go.RowKit Go.Lib
set_option linter.unusedVariables false
set_option linter.unusedSimpArgs false
theorem dec_len7 {n : Nat} (h : n < 10000000) : (decDigits n).length ≤ 7 := by
  have key : ∀ k n, n < 10 ^ (k + 1) → (decDigits n).length ≤ k + 1 := by
    intro k
    induction k with
    | zero => intro n hn; rw [decDigits, dif_pos (by simpa using hn)]; simp
    | succ k ih =>
      intro n hn
      rw [decDigits]
      split
      · simp
      · have := ih (n / 10) (by rw [Nat.div_lt_iff_lt_mul (by omega)]; rw [Nat.pow_succ] at hn; exact hn)
        simp
        omega
  exact key 6 n (by simpa using h)
/-- An op that chapter 14 can answer. -/
structure FitO (o : Opp) : Prop where
  ok : OkO o
  frm : o.kind ≠ 7 → 1 ≤ o.frm ∧ o.frm ≤ if o.kind = 5 ∨ o.kind = 6 then 999 else 999999
  tgt : o.kind ≠ 1 → o.kind ≠ 4 → o.kind ≠ 7 → (if o.kind = 2 then 0 else 1) ≤ o.to ∧ o.to ≤ if o.kind = 5 ∨ o.kind = 6 then 999 else 999999
  name : ∀ c ∈ o.name, inQ c = true
  parts : o.parts.length ≤ 8 ∧ ∀ p ∈ o.parts, (1 ≤ p.1 ∧ p.1 ≤ 999999) ∧ (1 ≤ p.2 ∧ p.2 ≤ 1000000)
theorem text_b {o : Opp} (h : FitO o) : TextB o := by
  have hf : o.kind ≠ 7 → o.frm ≤ 999999 := fun k => by have := (h.frm k).2; split at this <;> omega
  by_cases h7 : o.kind = 7
  · exact text_cal h.ok h7
  · have la := dec_len7 (n := o.frm) (by have := hf h7; omega)
    by_cases h1 : o.kind = 1
    · exact text_name h.ok h1 ⟨(h.frm h7).1, hf h7⟩ h.name la
    · by_cases h4 : o.kind = 4
      · exact text_split h.ok h4 ⟨(h.frm h7).1, hf h7⟩ la (fun p hp => ⟨(h.parts.2 p hp).1, (h.parts.2 p hp).2, dec_len7 (by have := (h.parts.2 p hp).1.2; omega), dec_len7 (by have := (h.parts.2 p hp).2.2; omega)⟩) h.parts.1
      · have ht : o.to ≤ 999999 := by have := (h.tgt h1 h4 h7).2; split at this <;> omega
        exact text_two h.ok h1 h4 h7 (h.frm h7) (h.tgt h1 h4 h7) la (dec_len7 (by omega))
theorem text_read {o : Opp} (h : FitO o) : TextR o := (text_b h).text
/-- Ops and where they stand in what is printed. -/
noncomputable def posO : Nat → List Opp → List (Opp × Nat)
  | _, [] => []
  | i, o :: os => (o, i) :: posO (i + ((textO o).length + 1)) os
theorem print_goes : ∀ (os : List Opp) (i : Nat), (∀ o ∈ os, TextR o) → ∃ ts, Goes i (printO os) (i + (printO os).length) [] ts ∧ ∀ n, os.length ≤ n → ∀ l, isT 0 [] l = true → opsR n (ts ++ l) = .ok (posO i os)
  | [], i, _ => ⟨[], goes_refl i _, fun n _ l hl => by cases n <;> simp [opsR, hl, posO]⟩
  | o :: os, i, h => by
    have e : printO (o :: os) = textO o ++ 10 :: printO os := by simp [printO]
    obtain ⟨ts, g, hr⟩ := h o (by simp) i (10 :: printO os)
    obtain ⟨us, g', hr'⟩ := print_goes os (i + ((textO o).length + 1)) (fun x hx => h x (by simp [hx]))
    refine ⟨ts ++ ([] ++ us), ?_, fun n hn l hl => ?_⟩
    · have hl : (printO (o :: os)).length = (textO o).length + 1 + (printO os).length := by rw [e]; simp; omega
      rw [hl, e]
      have gb := goes_blank (i + (textO o).length) (c := 10) (.inr rfl) (printO os)
      have e2 : i + ((textO o).length + 1) = i + (textO o).length + 1 := by omega
      rw [e2] at g'
      exact (g.trans (gb.trans g')).at_ (by omega)
    · cases n with
      | zero => simp at hn
      | succ n =>
        rw [List.append_assoc, hr n, List.nil_append, hr' n (by simp at hn; omega) l hl]
        rfl
theorem prs_print {os : List Opp} (h : ∀ o ∈ os, FitO o) (hn : os.length ≤ 100) (hl : (printO os).length ≤ 65536) : prsT (printO os) = (posO 0 os, 0, 0) := by
  obtain ⟨ts, g, hr⟩ := print_goes os 0 (fun o ho => text_read (h o ho))
  have hs := g ((printO os).length + 1) 1 (by omega) (by simp)
  have e1 : splT (printO os) = (ts ++ [⟨0, [], 0, 0, 0 + (printO os).length⟩], 0, 0) := by
    unfold splT splitF
    rw [if_neg (by omega), hs]
    rfl
  unfold prsT
  rw [e1, if_neg (by simp), hr 100 hn _ (by simp [isT])]
end Go.Proofs.YtffhnedladiaoaaGreatDoor

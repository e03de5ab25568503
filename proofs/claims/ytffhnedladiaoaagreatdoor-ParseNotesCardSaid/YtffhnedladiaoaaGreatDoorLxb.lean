/- Scripts in plain words: two texts with a line feed between; tokens printed again. -/
import Derived.Test.YtffhnedladiaoaaGreatDoorLxa
namespace Go.Proofs.YtffhnedladiaoaaGreatDoor
open Go.RowKit
set_option linter.unusedVariables false
set_option linter.unusedSimpArgs false
theorem tw_app {p : UInt8 → Bool} {x : UInt8} (h : p x = false) (b : List UInt8) : ∀ s : List UInt8, (s ++ x :: b).takeWhile p = s.takeWhile p
  | [] => by simp [List.takeWhile_cons, h]
  | c :: r => by
    rw [List.cons_append, List.takeWhile_cons, List.takeWhile_cons, tw_app h b r]
theorem tw_self {p : UInt8 → Bool} : ∀ (s : List UInt8), (∀ c ∈ s, p c = true) → s.takeWhile p = s
  | [], _ => rfl
  | c :: r, h => by
    rw [List.takeWhile_cons, if_pos (h c (by simp)), tw_self r (fun x hx => h x (by simp [hx]))]
theorem tw_all {p : UInt8 → Bool} {x : UInt8} (h : p x = false) (b : List UInt8) (s : List UInt8) (hs : ∀ c ∈ s, p c = true) : (s ++ x :: b).takeWhile p = s := by
  rw [tw_app h, tw_self s hs]
theorem tw_mem {p : UInt8 → Bool} {s : List UInt8} {c : UInt8} (h : c ∈ s.takeWhile p) : p c = true := List.all_eq_true.1 List.all_takeWhile c h
theorem head_app {s : List UInt8} (h : s ≠ []) (t : List UInt8) : (s ++ t).head? = s.head? := by
  cases s with
  | nil => exact absurd rfl h
  | cons c r => rfl
/-- A token does not look beyond the line's end. -/
theorem oneF_app {s : List UInt8} (h : s ≠ []) (b : List UInt8) : oneF (s ++ 10 :: b) = oneF s := by
  unfold oneF
  rw [tw_app (p := lowB) (by decide), tw_app (p := dimB) (by decide), head_app h]
  cases s with
  | nil => exact absurd rfl h
  | cons c r =>
    rw [List.cons_append]
    have e : (r ++ 10 :: b).takeWhile inQ = r.takeWhile inQ := tw_app (by decide) b r
    have e2 : ((r ++ 10 :: b).drop (r.takeWhile inQ).length).head? = some 34 ↔ (r.drop (r.takeWhile inQ).length).head? = some 34 := by
      rw [List.drop_append_of_le_length (tw_len r)]
      cases hd : r.drop (r.takeWhile inQ).length with
      | nil => simp
      | cons x y => simp
    simp only [e, e2]
def shT (k : Nat) (t : Tk) : Tk := { t with at_ := t.at_ + k }
theorem spl_shift (k : Nat) : ∀ (f i : Nat) (s : List UInt8), spl f (i + k) s = (match spl f i s with | .error e => .error (e.1 + k, e.2) | .ok ts => .ok (ts.map (shT k)))
  | 0, _, _ => rfl
  | _ + 1, _, [] => rfl
  | f + 1, i, c :: r => by
    unfold spl
    split
    · rw [show i + k + 1 = (i + 1) + k by omega]; exact spl_shift k f (i + 1) r
    · split
      · rw [show i + k + ((c :: r).takeWhile notNl).length = (i + ((c :: r).takeWhile notNl).length) + k by omega]; exact spl_shift k f _ _
      · cases h : oneF (c :: r) with
        | error e => rfl
        | ok p =>
          obtain ⟨t, n⟩ := p
          dsimp only
          rw [show i + k + n = (i + n) + k by omega, spl_shift k f (i + n)]
          cases spl f (i + n) ((c :: r).drop n) with
          | error e => rfl
          | ok ts => rfl
theorem spl_ne : ∀ (f i : Nat) (s : List UInt8) (ts : List Tk), spl f i s = .ok ts → ts ≠ []
  | 0, _, _, _, h => by unfold spl at h; cases h; simp
  | _ + 1, _, [], _, h => by unfold spl at h; cases h; simp
  | f + 1, i, c :: r, ts, h => by
    unfold spl at h
    split at h
    · exact spl_ne f _ _ _ h
    · split at h
      · exact spl_ne f _ _ _ h
      · cases h1 : oneF (c :: r) with
        | error e => rw [h1] at h; cases h
        | ok p =>
          obtain ⟨t, n⟩ := p
          rw [h1] at h
          dsimp only at h
          cases h2 : spl f (i + n) ((c :: r).drop n) with
          | error e => rw [h2] at h; cases h
          | ok us => rw [h2] at h; cases h; simp
/-- Two texts with a line feed between. -/
theorem spl_join (b : List UInt8) : ∀ (f g h i : Nat) (s : List UInt8), s.length < f → s.length + b.length + 1 < g → b.length < h →
    spl g i (s ++ 10 :: b) = (match spl f i s with | .error e => .error e | .ok ts => match spl h (i + s.length + 1) b with | .error e => .error e | .ok us => .ok (ts.dropLast ++ us))
  | 0, _, _, _, _, h, _, _ => absurd h (Nat.not_lt_zero _)
  | _ + 1, 0, _, _, _, _, h, _ => absurd h (Nat.not_lt_zero _)
  | f + 1, g + 1, h, i, [], _, h2, h3 => by
    show spl (g + 1) i (10 :: b) = _
    have e : spl (f + 1) i [] = .ok [⟨0, [], 0, 0, i⟩] := rfl
    rw [e, spl_cons, if_pos (by decide)]
    simp only [List.length_nil] at h2
    rw [spl_fuel g h (i + 1) b (by omega) h3]
    show _ = (match spl h (i + 0 + 1) b with | .error e => .error e | .ok us => .ok (List.dropLast [(⟨0, [], 0, 0, i⟩ : Tk)] ++ us) : Except (Nat × Int) (List Tk))
    rw [Nat.add_zero]
    cases spl h (i + 1) b with
    | error e => rfl
    | ok us => rfl
  | f + 1, g + 1, h, i, c :: r, h1, h2, h3 => by
    simp only [List.length_cons] at h1 h2
    have step : ∀ n, 0 < n → n ≤ (c :: r).length → spl g (i + n) (((c :: r) ++ 10 :: b).drop n) = (match spl f (i + n) ((c :: r).drop n) with | .error e => .error e | .ok ts => match spl h (i + (c :: r).length + 1) b with | .error e => .error e | .ok us => .ok (ts.dropLast ++ us)) := fun n hn hn2 => by
      rw [List.drop_append_of_le_length hn2]
      have hl : ((c :: r).drop n).length = (c :: r).length - n := List.length_drop
      have := spl_join b f g h (i + n) ((c :: r).drop n) (by rw [hl]; simp only [List.length_cons]; omega) (by rw [hl]; simp only [List.length_cons]; omega) h3
      rw [this, hl, show i + n + ((c :: r).length - n) + 1 = i + (c :: r).length + 1 by omega]
    rw [List.cons_append]
    rw [spl_cons, spl_cons]
    split
    · rename_i hb
      exact step 1 (by omega) (by simp)
    · rename_i hb
      split
      · rename_i hc
        have e : (c :: (r ++ 10 :: b)).takeWhile notNl = (c :: r).takeWhile notNl := by rw [← List.cons_append]; exact tw_app (by decide) b (c :: r)
        have hp : 0 < ((c :: r).takeWhile notNl).length := by subst hc; simp [List.takeWhile_cons, notNl]
        rw [e]
        exact step _ hp (tw_len _)
      · have e : oneF (c :: (r ++ 10 :: b)) = oneF (c :: r) := by rw [← List.cons_append]; exact oneF_app (by simp) b
        rw [e]
        cases h4 : oneF (c :: r) with
        | error e => rfl
        | ok p =>
          obtain ⟨t, n⟩ := p
          have hp := oneF_pos h4
          have := step n hp.1 hp.2
          rw [List.cons_append] at this
          dsimp only
          rw [this]
          cases h5 : spl f (i + n) ((c :: r).drop n) with
          | error e => rfl
          | ok ts =>
            dsimp only
            have hne := spl_ne _ _ _ _ h5
            cases spl h (i + (c :: r).length + 1) b with
            | error e => rfl
            | ok us =>
              dsimp only
              rw [List.dropLast_cons_of_ne_nil hne]
              rfl
theorem join_err {a b : List UInt8} (h : (∃ e, splitF a = .error e) ∨ (∃ e, splitF b = .error e)) : ∃ e, splitF (a ++ 10 :: b) = .error e := by
  unfold splitF at *
  have hj := spl_join b (a.length + 1) ((a ++ 10 :: b).length + 1) (b.length + 1) 0 a (by omega) (by rw [List.length_append, List.length_cons]; omega) (by omega)
  rw [hj]
  rcases h with ⟨e, h⟩ | ⟨e, h⟩
  · rw [h]; exact ⟨_, rfl⟩
  · have hs := spl_shift (a.length + 1) (b.length + 1) 0 b
    rw [h] at hs
    rw [show 0 + a.length + 1 = 0 + (a.length + 1) by omega, hs]
    cases spl (a.length + 1) 0 a with
    | error e => exact ⟨_, rfl⟩
    | ok ts => exact ⟨_, rfl⟩
theorem join_ok {a b : List UInt8} {l m : List Tk} (h : splitF a = .ok l) (k : splitF b = .ok m) : splitF (a ++ 10 :: b) = .ok (l.dropLast ++ m.map (shT (a.length + 1))) := by
  unfold splitF at *
  have hj := spl_join b (a.length + 1) ((a ++ 10 :: b).length + 1) (b.length + 1) 0 a (by omega) (by rw [List.length_append, List.length_cons]; omega) (by omega)
  have hs := spl_shift (a.length + 1) (b.length + 1) 0 b
  rw [k] at hs
  rw [hj, h, show 0 + a.length + 1 = 0 + (a.length + 1) by omega, hs]
/-- A token's bytes as they are printed again. -/
def bodyT (t : Tk) : List UInt8 := if t.kind = 4 then 34 :: (t.text ++ [34]) else t.text
def rendT (t : Tk) : List UInt8 := bodyT t ++ [32]
theorem low_not {b : UInt8} (h : lowB b = true) : b ≠ 32 ∧ b ≠ 10 ∧ b ≠ 35 := by
  refine ⟨?_, ?_, ?_⟩ <;> (rintro rfl; exact absurd h (by decide))
theorem oneF_again {s : List UInt8} {t : Tk} {n : Nat} (h : oneF s = .ok (t, n)) (rest : List UInt8) :
    oneF (bodyT t ++ 32 :: rest) = .ok (t, (bodyT t).length) ∧ (bodyT t).length = n ∧ t.at_ = 0 ∧ t.kind ≠ 0 ∧ ∃ c r, bodyT t = c :: r ∧ c ≠ 32 ∧ c ≠ 10 ∧ c ≠ 35 := by
  unfold oneF at h
  split at h
  · rename_i h1
    cases h
    have e : (s.takeWhile lowB ++ 32 :: rest).takeWhile lowB = s.takeWhile lowB := tw_all (by decide) rest _ (fun c hc => tw_mem hc)
    refine ⟨?_, rfl, rfl, (by show (_ : Nat) ≠ 0; simp), ?_⟩
    · show oneF (s.takeWhile lowB ++ 32 :: rest) = _
      unfold oneF
      rw [e, if_pos h1]
      rfl
    · show ∃ c r, s.takeWhile lowB = c :: r ∧ _
      cases hs : s.takeWhile lowB with
      | nil => exact absurd hs h1
      | cons c r => exact ⟨c, r, rfl, low_not (tw_mem (s := s) (by rw [hs]; simp))⟩
  · rename_i h1
    split at h
    · rename_i h2
      obtain ⟨T, hT⟩ : ∃ T, s.takeWhile dimB = T := ⟨_, rfl⟩
      have hTm : ∀ c ∈ T, dimB c = true := fun c hc => tw_mem (s := s) (by rw [hT]; exact hc)
      have hTh : T.head? = s.head? := by
        rw [← hT]
        cases s with
        | nil => rfl
        | cons c r =>
          rw [List.takeWhile_cons]
          split
          · rfl
          · rename_i hd
            rw [List.takeWhile_cons, if_neg hd] at h2
            exact absurd rfl h2.1
      rw [hT] at h h2
      obtain ⟨c, r, hcr⟩ : ∃ c r, T = c :: r := by
        cases T with
        | nil => exact absurd rfl h2.1
        | cons c r => exact ⟨c, r, rfl⟩
      have hc45 : c ≠ 45 := by
        rintro rfl
        rw [hcr] at hTh
        exact h2.2 hTh.symm
      have hcd : digB c = true := by
        have := hTm c (by rw [hcr]; simp)
        unfold dimB at this
        rcases Bool.or_eq_true _ _ ▸ this with h | h
        · exact h
        · exact absurd (beq_iff_eq.1 h) hc45
      have hcl : lowB c = false := by
        unfold digB at hcd
        unfold lowB
        simp only [Bool.and_eq_true, decide_eq_true_eq, Bool.and_eq_false_iff, decide_eq_false_iff_not] at hcd ⊢
        left
        intro h
        have := UInt8.le_trans h hcd.2
        exact absurd this (by decide)
      have hcn : c ≠ 32 ∧ c ≠ 10 ∧ c ≠ 35 := by
        refine ⟨?_, ?_, ?_⟩ <;> (rintro rfl; exact absurd hcd (by decide))
      have e1 : (T ++ 32 :: rest).takeWhile lowB = [] := by rw [hcr, List.cons_append, List.takeWhile_cons, hcl]; rfl
      have e2 : (T ++ 32 :: rest).takeWhile dimB = T := tw_all (by decide) rest _ hTm
      have e3 : (T ++ 32 :: rest).head? = s.head? := by rw [head_app h2.1, hTh]
      have key : oneF (T ++ 32 :: rest) = (if (45 : UInt8) ∈ T then
          match dayOf T with
          | none => .error 13
          | some d => .ok (⟨3, T, 0, d, 0⟩, T.length)
        else if 7 < T.length ∨ (1 < T.length ∧ s.head? = some 48) then .error 5
        else .ok (⟨2, T, numL T, 0, 0⟩, T.length)) := by
        conv => lhs; unfold oneF
        rw [e1, e2, e3, if_neg (by simp), if_pos h2]
        rfl
      split at h
      · rename_i h3
        split at h
        · cases h
        · rename_i d hd
          cases h
          refine ⟨?_, rfl, rfl, (by show (_ : Nat) ≠ 0; simp), c, r, hcr, hcn⟩
          show oneF (T ++ 32 :: rest) = _
          rw [key, if_pos h3, hd]
          rfl
      · rename_i h3
        split at h
        · cases h
        · rename_i h4
          cases h
          refine ⟨?_, rfl, rfl, (by show (_ : Nat) ≠ 0; simp), c, r, hcr, hcn⟩
          show oneF (T ++ 32 :: rest) = _
          rw [key, if_neg h3, if_neg h4]
          rfl
    · split at h
      · cases h
      · rename_i _ c r _
        split at h
        · rename_i h4
          cases h
          refine ⟨?_, rfl, rfl, (by show (_ : Nat) ≠ 0; simp), c, [], rfl, ?_⟩
          · show oneF (c :: 32 :: rest) = _
            unfold oneF
            rcases h4 with rfl | rfl <;> simp [List.takeWhile_cons, lowB, dimB, digB, bodyT]
          · rcases h4 with rfl | rfl <;> decide
        · split at h
          · rename_i h4 h5
            split at h
            · rename_i h6
              cases h
              obtain ⟨q, hq⟩ : ∃ q, r.takeWhile inQ = q := ⟨_, rfl⟩
              have hqm : ∀ x ∈ q, inQ x = true := fun x hx => tw_mem (s := r) (by rw [hq]; exact hx)
              rw [hq]
              refine ⟨?_, by simp [bodyT], rfl, (by show (4 : Nat) ≠ 0; simp), 34, q ++ [34], rfl, by decide⟩
              show oneF ((34 :: (q ++ [34])) ++ 32 :: rest) = _
              have e : (34 :: (q ++ [34])) ++ 32 :: rest = 34 :: (q ++ 34 :: 32 :: rest) := by simp
              rw [e]
              unfold oneF
              have e1 : (q ++ 34 :: 32 :: rest).takeWhile inQ = q := tw_all (by decide) _ _ hqm
              have e2 : ((34 : UInt8) :: (q ++ 34 :: 32 :: rest)).takeWhile lowB = [] := by rw [List.takeWhile_cons]; rfl
              have e3 : ((34 : UInt8) :: (q ++ 34 :: 32 :: rest)).takeWhile dimB = [] := by rw [List.takeWhile_cons]; rfl
              have e4 : (q ++ 34 :: 32 :: rest).drop q.length = 34 :: 32 :: rest := by rw [List.drop_append_of_le_length (Nat.le_refl _), List.drop_length]; rfl
              rw [e2, e3, if_neg (by simp), if_neg (by simp)]
              simp only [e1, e4]
              simp [bodyT]
            · cases h
          · cases h
theorem oneF_ne {s : List UInt8} {e : Int} (h : oneF s = .error e) : e ≠ 0 := by
  unfold oneF at h
  split at h
  · cases h
  · split at h
    · split at h
      · split at h
        · cases h; decide
        · cases h
      · split at h
        · cases h; decide
        · cases h
    · split at h
      · cases h; decide
      · split at h
        · cases h
        · split at h
          · split at h
            · cases h
            · cases h; decide
          · cases h; decide
def likeT (t u : Tk) : Prop := t.kind = u.kind ∧ t.text = u.text ∧ t.num = u.num ∧ t.day = u.day
/-- Tokens printed again, with blanks between, are the same tokens. -/
theorem spl_again : ∀ (f i : Nat) (s : List UInt8) (ts : List Tk), s.length < f → spl f i s = .ok ts →
    (ts.flatMap rendT).length ≤ 2 * s.length + 1 ∧ ts.length ≤ s.length + 1 ∧ ∀ (g j : Nat), (ts.flatMap rendT).length < g → ∃ us, spl g j (ts.flatMap rendT) = .ok us ∧ us.length = ts.length ∧ ∀ (k : Nat) (t u : Tk), ts[k]? = some t → us[k]? = some u → likeT t u
  | 0, _, _, _, h, _ => absurd h (Nat.not_lt_zero _)
  | f + 1, i, [], ts, _, h => by
    unfold spl at h
    cases h
    refine ⟨by show (1 : Nat) ≤ _; omega, by simp, fun g j hg => ?_⟩
    have e : ([⟨0, [], 0, 0, i⟩] : List Tk).flatMap rendT = [32] := rfl
    rw [e] at hg ⊢
    obtain ⟨g, rfl⟩ : ∃ k, g = k + 2 := ⟨g - 2, by simp at hg; omega⟩
    refine ⟨[⟨0, [], 0, 0, j + 1⟩], ?_, rfl, fun k t u h1 h2 => ?_⟩
    · unfold spl
      rw [if_pos (by decide)]
      rfl
    · cases k with
      | zero => simp at h1 h2; subst h1 h2; exact ⟨rfl, rfl, rfl, rfl⟩
      | succ k => simp at h1
  | f + 1, i, c :: r, ts, hf, h => by
    simp only [List.length_cons] at hf
    unfold spl at h
    split at h
    · obtain ⟨h1, h2, h3⟩ := spl_again f _ r ts (by omega) h
      exact ⟨by simp only [List.length_cons]; omega, by simp only [List.length_cons]; omega, h3⟩
    · split at h
      · rename_i hc
        have hp : 0 < ((c :: r).takeWhile notNl).length := by subst hc; simp [List.takeWhile_cons, notNl]
        obtain ⟨h1, h2, h3⟩ := spl_again f _ _ ts (by rw [List.length_drop]; simp only [List.length_cons]; omega) h
        rw [List.length_drop] at h1 h2
        exact ⟨by omega, by omega, h3⟩
      · cases h1 : oneF (c :: r) with
        | error e => rw [h1] at h; cases h
        | ok p =>
          obtain ⟨t, n⟩ := p
          rw [h1] at h
          dsimp only at h
          have hp := oneF_pos h1
          cases h2 : spl f (i + n) ((c :: r).drop n) with
          | error e => rw [h2] at h; cases h
          | ok us =>
            rw [h2] at h
            cases h
            obtain ⟨a1, a2, a3⟩ := spl_again f _ _ us (by rw [List.length_drop]; simp only [List.length_cons] at hp ⊢; omega) h2
            rw [List.length_drop] at a1 a2
            have eb : rendT { t with at_ := i } = bodyT t ++ [32] := rfl
            obtain ⟨_, hbl, hat, _, x, y, hxy, hx1, hx2, hx3⟩ := oneF_again h1 []
            have el : (({ t with at_ := i } :: us : List Tk).flatMap rendT).length = n + 1 + (us.flatMap rendT).length := by
              rw [List.flatMap_cons, eb, List.length_append, List.length_append, hbl]; rfl
            refine ⟨by rw [el]; omega, by simp only [List.length_cons] at a2 hp ⊢; omega, fun g j hg => ?_⟩
            rw [el] at hg
            obtain ⟨g, rfl⟩ : ∃ k, g = k + 2 := ⟨g - 2, by omega⟩
            obtain ⟨vs, b1, b2, b3⟩ := a3 g (j + n + 1) (by omega)
            obtain ⟨o1, _, _, _, _⟩ := oneF_again h1 (us.flatMap rendT)
            have ef : ({ t with at_ := i } :: us : List Tk).flatMap rendT = x :: (y ++ 32 :: us.flatMap rendT) := by
              rw [List.flatMap_cons, eb, hxy]; simp
            have ex : x :: (y ++ 32 :: us.flatMap rendT) = bodyT t ++ 32 :: us.flatMap rendT := by rw [hxy]; rfl
            have ed : (x :: (y ++ 32 :: us.flatMap rendT)).drop n = 32 :: us.flatMap rendT := by
              rw [ex, List.drop_append_of_le_length (by omega), ← hbl, List.drop_length]; rfl
            refine ⟨{ t with at_ := j } :: vs, ?_, by simp [b2], fun k u v hu hv => ?_⟩
            · rw [ef]
              unfold spl
              rw [if_neg (by simp [hx1, hx2]), if_neg hx3, ex, o1]
              dsimp only
              rw [← ex, hbl, ed]
              unfold spl
              rw [if_pos (by decide), b1]
            · cases k with
              | zero => simp at hu hv; subst hu hv; exact ⟨rfl, rfl, rfl, rfl⟩
              | succ k => exact b3 k u v (by simpa using hu) (by simpa using hv)
end Go.Proofs.YtffhnedladiaoaaGreatDoor

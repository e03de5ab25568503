/- Numbers as bytes, in plain words (law 11). -/
import Derived.Test.YtafmakhhdinknaaGreatDoorBa
import Derived.Test.YtafmakhhdinknaaGreatDoorXall
namespace Go.Proofs.YtafmakhhdinknaaGreatDoor
open Go.RowKit
set_option linter.unusedVariables false
set_option linter.unusedSimpArgs false
/-- A number's bytes. -/
def numB (n : Nat) : List Nat := if h : n < 128 then [n] else (128 + n % 128) :: numB (n / 128)
termination_by n
decreasing_by omega
theorem numB_small {n : Nat} (h : n < 128) : numB n = [n] := by rw [numB]; simp [h]
theorem numB_more {n : Nat} (h : ¬ n < 128) : numB n = (128 + n % 128) :: numB (n / 128) := by rw [numB]; simp [h]
/-- A signed number as one without a sign. -/
def sigN (z : Int) : Nat := if z < 0 then 2 * (-(z + 1)).toNat + 1 else 2 * z.toNat
def sigB (z : Int) : List Nat := numB (sigN z)
def unsig (n : Nat) : Int := if n % 2 = 1 then -((n / 2 : Nat) : Int) - 1 else ((n / 2 : Nat) : Int)
theorem unsig_sig (z : Int) : unsig (sigN z) = z := by
  unfold unsig sigN
  split <;> split <;> omega
theorem sig_unsig (n : Nat) : sigN (unsig n) = n := by
  unfold unsig sigN
  split <;> split <;> omega
theorem sigN_lt {z : Int} (h : -9223372036854775808 ≤ z ∧ z ≤ 9223372036854775807) : sigN z ≤ 18446744073709551615 := by
  unfold sigN; split <;> omega
theorem unsig_in {n : Nat} (h : n ≤ 18446744073709551615) : -9223372036854775808 ≤ unsig n ∧ unsig n ≤ 9223372036854775807 := by
  unfold unsig; split <;> omega
theorem numB_lt (n : Nat) : ∀ c ∈ numB n, c < 256 := by
  induction n using Nat.strongRecOn with
  | _ n ih =>
    intro c hc
    by_cases h : n < 128
    · rw [numB_small h] at hc; simp at hc; omega
    · rw [numB_more h] at hc
      rcases List.mem_cons.1 hc with rfl | hc
      · omega
      · exact ih (n / 128) (by omega) c hc
theorem numB_pos (n : Nat) : 0 < (numB n).length := by
  by_cases h : n < 128
  · rw [numB_small h]; simp
  · rw [numB_more h]; simp
/-- How many bytes a number has. -/
theorem numB_len : ∀ (k n : Nat), n < 128 ^ (k + 1) → (numB n).length ≤ k + 1
  | 0, n, h => by rw [numB_small (by simpa using h)]; simp
  | k + 1, n, h => by
    by_cases h1 : n < 128
    · rw [numB_small h1]; simp
    · rw [numB_more h1, List.length_cons]
      have := numB_len k (n / 128) (Nat.div_lt_of_lt_mul (by rw [Nat.mul_comm, ← Nat.pow_succ]; exact h))
      omega
theorem numB_len10 {n : Nat} (h : n ≤ 18446744073709551615) : (numB n).length ≤ 10 := by
  have h1 : (18446744073709551615 : Nat) < 128 ^ (9 + 1) := by decide
  exact numB_len 9 n (Nat.lt_of_le_of_lt h h1)
/-- What a reader of bytes finds: an error, else a number and what is left. -/
def numP (i n : Nat) : List Nat → Int × Nat × List Nat
  | [] => (3, 0, [])
  | c :: t => if (0 < i ∧ c = 0) ∨ (i = 9 ∧ 1 < c) then (1, 0, []) else if c < 128 then (0, n + c % 128 * 128 ^ i, t) else numP (i + 1) (n + c % 128 * 128 ^ i) t
/-- What is written is read, whatever stands behind it. -/
theorem numP_num : ∀ (m : Nat) (i n : Nat) (t : List Nat), (0 < i → 0 < m) → i ≤ 9 → m < 2 ^ (64 - 7 * i) → numP i n (numB m ++ t) = (0, n + m * 128 ^ i, t) := by
  intro m
  induction m using Nat.strongRecOn with
  | _ m ih =>
    intro i n t h0 hi hm
    by_cases h : m < 128
    · rw [numB_small h, List.singleton_append]
      unfold numP
      rw [if_neg, if_pos h, Nat.mod_eq_of_lt h]
      rintro (⟨h1, h2⟩ | ⟨h1, h2⟩)
      · have := h0 h1; omega
      · subst h1
        have h3 : m < 2 := by simpa using hm
        omega
    · have hi9 : i < 9 := by
        rcases Nat.lt_or_ge i 9 with h9 | h9
        · exact h9
        · have e : i = 9 := by omega
          subst e
          have h3 : m < 2 := by simpa using hm
          omega
      have e7 : 64 - 7 * i = (64 - 7 * (i + 1)) + 7 := by omega
      have hm' : m / 128 < 2 ^ (64 - 7 * (i + 1)) := by
        rw [e7, Nat.pow_add] at hm
        exact Nat.div_lt_of_lt_mul (by rw [Nat.mul_comm]; exact hm)
      rw [numB_more h, List.cons_append]
      unfold numP
      rw [if_neg (by omega), if_neg (by omega), ih (m / 128) (by omega) (i + 1) _ t (fun _ => by omega) (by omega) hm']
      have e1 : (128 + m % 128) % 128 = m % 128 := by omega
      rw [e1, Nat.pow_succ]
      have e2 : m % 128 * 128 ^ i + m / 128 * (128 ^ i * 128) = m * 128 ^ i := by
        rw [show m / 128 * (128 ^ i * 128) = (m / 128 * 128) * 128 ^ i by rw [Nat.mul_comm (128 ^ i) 128, ← Nat.mul_assoc], ← Nat.add_mul]
        congr 1
        omega
      rw [Nat.add_assoc, e2]
/-- What is read was written. -/
theorem numP_back : ∀ (b : List Nat) (i n v : Nat) (t : List Nat), (∀ c ∈ b, c < 256) → i ≤ 9 → numP i n b = (0, v, t) → ∃ m, b = numB m ++ t ∧ v = n + m * 128 ^ i ∧ (0 < i → 0 < m) ∧ m < 2 ^ (64 - 7 * i)
  | [], i, n, v, t, _, _, h => by simp [numP] at h
  | c :: r, i, n, v, t, hb, hi, h => by
    have hc := hb c (List.mem_cons_self ..)
    unfold numP at h
    split at h
    · simp at h
    · rename_i h1
      have h1' : ¬ (0 < i ∧ c = 0) ∧ ¬ (i = 9 ∧ 1 < c) := ⟨fun e => h1 (.inl e), fun e => h1 (.inr e)⟩
      split at h
      · rename_i h2
        simp only [Prod.mk.injEq, true_and] at h
        obtain ⟨rfl, rfl⟩ := h
        refine ⟨c, by rw [numB_small h2]; rfl, by rw [Nat.mod_eq_of_lt h2], fun e => by omega, ?_⟩
        rcases (by omega : i = 9 ∨ i < 9) with rfl | h9
        · have : c ≤ 1 := by omega
          show c < 2 ^ 1
          omega
        · have : 2 ^ 8 ≤ 2 ^ (64 - 7 * i) := Nat.pow_le_pow_right (by omega) (by omega)
          omega
      · rename_i h2
        have h9 : i < 9 := by omega
        obtain ⟨m, e1, e2, e3, e4⟩ := numP_back r (i + 1) _ v t (fun x hx => hb x (List.mem_cons_of_mem _ hx)) (by omega) h
        have hm0 := e3 (by omega)
        refine ⟨m * 128 + c % 128, ?_, ?_, fun _ => by omega, ?_⟩
        · rw [numB_more (by omega), List.cons_append]
          have q1 : (m * 128 + c % 128) % 128 = c % 128 := by omega
          have q2 : (m * 128 + c % 128) / 128 = m := by omega
          rw [q1, q2, e1]
          congr 1
          omega
        · rw [e2, Nat.pow_succ, Nat.add_mul]
          have q3 : m * (128 ^ i * 128) = m * 128 * 128 ^ i := by rw [Nat.mul_comm (128 ^ i) 128, ← Nat.mul_assoc]
          rw [q3]; omega
        · have e7 : 64 - 7 * i = (64 - 7 * (i + 1)) + 7 := by omega
          rw [e7, Nat.pow_add]
          have : m + 1 ≤ 2 ^ (64 - 7 * (i + 1)) := e4
          have h128 : (m + 1) * 128 ≤ 2 ^ (64 - 7 * (i + 1)) * 2 ^ 7 := Nat.mul_le_mul this (by decide)
          omega
/-- A reader: what is left, the error (0: none). -/
structure Rd where
  b : List Nat
  c : Int
/-- A number, up to a greatest one. -/
def rnum (most : Nat) (r : Rd) : Nat × Rd :=
  if r.c ≠ 0 then (0, r) else if (numP 0 0 r.b).1 ≠ 0 then (0, ⟨r.b, (numP 0 0 r.b).1⟩) else if most < (numP 0 0 r.b).2.1 then (0, ⟨(numP 0 0 r.b).2.2, 5⟩) else ((numP 0 0 r.b).2.1, ⟨(numP 0 0 r.b).2.2, 0⟩)
theorem rnum_le (most : Nat) (r : Rd) : (rnum most r).1 ≤ most := by
  unfold rnum
  split
  · exact Nat.zero_le _
  · split
    · exact Nat.zero_le _
    · split
      · exact Nat.zero_le _
      · simp only; omega
theorem rnum_err {most : Nat} {r : Rd} (h : r.c ≠ 0) : rnum most r = (0, r) := by unfold rnum; rw [if_pos h]
theorem rnum_num {most n : Nat} {t : List Nat} (h : n ≤ most) (h64 : n < 18446744073709551616) : rnum most ⟨numB n ++ t, 0⟩ = (n, ⟨t, 0⟩) := by
  have e := numP_num n 0 0 t (fun h => by omega) (by omega) (by simpa using h64)
  rw [Nat.zero_add, Nat.pow_zero, Nat.mul_one] at e
  unfold rnum
  simp only [e]
  rw [if_neg (by simp), if_neg (by simp), if_neg (by omega)]
theorem rnum_back {most : Nat} {r : Rd} (hb : ∀ c ∈ r.b, c < 256) (h : (rnum most r).2.c = 0) : r.c = 0 ∧ r.b = numB (rnum most r).1 ++ (rnum most r).2.b ∧ (rnum most r).1 < 18446744073709551616 := by
  unfold rnum at h ⊢
  split at h
  · rename_i h1; exact absurd h h1
  · rename_i h1
    rw [if_neg h1]
    split at h
    · rename_i h2; exact absurd h h2
    · rename_i h2
      rw [if_neg h2]
      split at h
      · simp at h
      · rename_i h3
        rw [if_neg h3]
        have h2' : (numP 0 0 r.b).1 = 0 := by simpa using h2
        obtain ⟨m, e1, e2, _, e4⟩ := numP_back r.b 0 0 (numP 0 0 r.b).2.1 (numP 0 0 r.b).2.2 hb (by omega) (by rw [← h2'])
        rw [Nat.zero_add, Nat.pow_zero, Nat.mul_one] at e2
        refine ⟨by simpa using h1, ?_, ?_⟩
        · show r.b = numB (numP 0 0 r.b).2.1 ++ (numP 0 0 r.b).2.2
          rw [e2]; exact e1
        · show (numP 0 0 r.b).2.1 < _
          rw [e2]; simpa using e4
end Go.Proofs.YtafmakhhdinknaaGreatDoor
/- Books as bytes, in plain words (law 11): writing, reading; what is written is read as it was, and the other way round. -/
namespace Go.Proofs.YtafmakhhdinknaaGreatDoor
open Go.RowKit
set_option linter.unusedVariables false
set_option linter.unusedSimpArgs false
/-- A way to write things as bytes, and one to read them: they go together. least: how many bytes each has at least. -/
structure Cod {α : Type} (enc : α → List Nat) (f : Rd → α × Rd) (ok : α → Prop) (least : Nat) : Prop where
  fwd : ∀ (x : α) (t : List Nat), ok x → f ⟨enc x ++ t, 0⟩ = (x, ⟨t, 0⟩)
  back : ∀ r : Rd, (∀ c ∈ r.b, c < 256) → (f r).2.c = 0 → r.c = 0 ∧ r.b = enc (f r).1 ++ (f r).2.b ∧ ok (f r).1
  min : ∀ x, ok x → least ≤ (enc x).length
  stick : ∀ r : Rd, r.c ≠ 0 → (f r).2.c ≠ 0
  lt : ∀ x, ∀ c ∈ enc x, c < 256
/-- Numbers. -/
theorem cod_num (most : Nat) (h : most < 18446744073709551616) : Cod numB (rnum most) (fun n => n ≤ most) 1 where
  fwd n t hn := rnum_num hn (by omega)
  back r hb hc := by
    obtain ⟨h1, h2, _⟩ := rnum_back hb hc
    exact ⟨h1, h2, rnum_le _ _⟩
  min n _ := numB_pos n
  stick r h := by rw [rnum_err h]; exact h
  lt n := numB_lt n
/-- Signed ones. -/
def rsig (r : Rd) : Int × Rd := (unsig (rnum 18446744073709551615 r).1, (rnum 18446744073709551615 r).2)
theorem cod_sig : Cod sigB rsig (fun z => -9223372036854775808 ≤ z ∧ z ≤ 9223372036854775807) 1 where
  fwd z t hz := by
    unfold rsig sigB
    rw [rnum_num (sigN_lt hz) (by have := sigN_lt hz; omega), unsig_sig]
  back r hb hc := by
    unfold rsig at hc ⊢
    obtain ⟨h1, h2, _⟩ := rnum_back hb hc
    refine ⟨h1, ?_, unsig_in (rnum_le _ _)⟩
    unfold sigB
    rw [sig_unsig]; exact h2
  min z _ := numB_pos _
  stick r h := by unfold rsig; rw [rnum_err h]; exact h
  lt z := numB_lt _
/-- Days. -/
def rday (r : Rd) : Int × Rd := if (rsig r).2.c = 0 ∧ ((rsig r).1 < -2147483648 ∨ 2147483648 ≤ (rsig r).1) then (IntKind.i32.wrap (rsig r).1, ⟨(rsig r).2.b, 5⟩) else (IntKind.i32.wrap (rsig r).1, (rsig r).2)
theorem wrap_day {z : Int} (h : -2147483648 ≤ z ∧ z ≤ 2147483647) : IntKind.i32.wrap z = z := by rw [IntKind.wrap_i32]; omega
theorem cod_day : Cod sigB rday (fun z => -2147483648 ≤ z ∧ z ≤ 2147483647) 1 where
  fwd z t hz := by
    have h := cod_sig.fwd z t (by omega)
    unfold rday
    rw [h]
    simp only
    rw [if_neg (by omega), wrap_day hz]
  back r hb hc := by
    unfold rday at hc ⊢
    split at hc
    · simp at hc
    · rename_i h1
      rw [if_neg h1]
      have h2 : (rsig r).2.c = 0 := hc
      obtain ⟨e1, e2, e3⟩ := cod_sig.back r hb h2
      have h3 : -2147483648 ≤ (rsig r).1 ∧ (rsig r).1 ≤ 2147483647 := by
        have : ¬ ((rsig r).1 < -2147483648 ∨ 2147483648 ≤ (rsig r).1) := fun h => h1 ⟨h2, h⟩
        omega
      simp only
      rw [wrap_day h3]
      exact ⟨e1, e2, h3⟩
  min z _ := numB_pos _
  stick r h := by
    have h1 := cod_sig.stick r h
    unfold rday
    split
    · simp
    · exact h1
  lt z := numB_lt _
/-- How many there are, each of so many bytes at least. -/
def rmany (most least : Nat) (r : Rd) : Nat × Rd :=
  if (rnum most r).2.c = 0 ∧ (rnum most r).2.b.length < (rnum most r).1 * least then (0, ⟨(rnum most r).2.b, 3⟩) else if (rnum most r).2.c ≠ 0 then (0, (rnum most r).2) else rnum most r
theorem rmany_le (most least : Nat) (r : Rd) : (rmany most least r).1 ≤ most := by
  unfold rmany
  split
  · exact Nat.zero_le _
  · split
    · exact Nat.zero_le _
    · exact rnum_le _ _
theorem rmany_stick {most least : Nat} {r : Rd} (h : r.c ≠ 0) : (rmany most least r).2.c ≠ 0 := by
  unfold rmany
  rw [rnum_err h, if_neg (fun e => h e.1), if_pos h]
  exact h
theorem rmany_num {most least n : Nat} {t : List Nat} (h : n ≤ most) (h64 : most < 18446744073709551616) (hl : n * least ≤ t.length) : rmany most least ⟨numB n ++ t, 0⟩ = (n, ⟨t, 0⟩) := by
  unfold rmany
  rw [rnum_num h (by omega)]
  simp only
  rw [if_neg (by omega), if_neg (by simp)]
theorem rmany_back {most least : Nat} {r : Rd} (hb : ∀ c ∈ r.b, c < 256) (h : (rmany most least r).2.c = 0) : r.c = 0 ∧ r.b = numB (rmany most least r).1 ++ (rmany most least r).2.b ∧ (rmany most least r).1 * least ≤ (rmany most least r).2.b.length := by
  unfold rmany at h ⊢
  split at h
  · simp at h
  · rename_i h1
    rw [if_neg h1]
    split at h
    · rename_i h2; exact absurd h h2
    · rename_i h2
      rw [if_neg h2]
      have h2' : (rnum most r).2.c = 0 := by simpa using h2
      obtain ⟨e1, e2, _⟩ := rnum_back hb h2'
      refine ⟨e1, e2, ?_⟩
      have : ¬ (rnum most r).2.b.length < (rnum most r).1 * least := fun hh => h1 ⟨h2', hh⟩
      omega
/-- So many, one behind the other. -/
def rrep {α : Type} (f : Rd → α × Rd) : Nat → Rd → List α × Rd
  | 0, r => ([], r)
  | n + 1, r => ((f r).1 :: (rrep f n (f r).2).1, (rrep f n (f r).2).2)
theorem rrep_last {α : Type} (f : Rd → α × Rd) : ∀ (n : Nat) (r : Rd), rrep f (n + 1) r = ((rrep f n r).1 ++ [(f (rrep f n r).2).1], (f (rrep f n r).2).2)
  | 0, r => rfl
  | n + 1, r => by
    rw [rrep, rrep_last f n (f r).2]
    rfl
theorem rrep_len {α : Type} (f : Rd → α × Rd) : ∀ (n : Nat) (r : Rd), (rrep f n r).1.length = n
  | 0, _ => rfl
  | n + 1, r => by rw [rrep]; simp [rrep_len f n]
def rlist {α : Type} (most least : Nat) (f : Rd → α × Rd) (r : Rd) : List α × Rd := rrep f (rmany most least r).1 (rmany most least r).2
def encL {α : Type} (enc : α → List Nat) (xs : List α) : List Nat := numB xs.length ++ xs.flatMap enc
section
variable {α : Type} {enc : α → List Nat} {f : Rd → α × Rd} {ok : α → Prop} {least : Nat}
theorem Cod.rep (h : Cod enc f ok least) : ∀ (xs : List α) (t : List Nat), (∀ x ∈ xs, ok x) → rrep f xs.length ⟨xs.flatMap enc ++ t, 0⟩ = (xs, ⟨t, 0⟩)
  | [], t, _ => rfl
  | x :: r, t, hx => by
    rw [List.length_cons, rrep, List.flatMap_cons, List.append_assoc, h.fwd x _ (hx x (List.mem_cons_self ..)), h.rep r t (fun y hy => hx y (List.mem_cons_of_mem _ hy))]
theorem Cod.rep_stick (h : Cod enc f ok least) : ∀ (n : Nat) (r : Rd), r.c ≠ 0 → (rrep f n r).2.c ≠ 0
  | 0, r, hr => hr
  | n + 1, r, hr => by rw [rrep]; exact h.rep_stick n _ (h.stick r hr)
theorem Cod.rep_back (h : Cod enc f ok least) : ∀ (n : Nat) (r : Rd), (∀ c ∈ r.b, c < 256) → (rrep f n r).2.c = 0 → r.c = 0 ∧ r.b = (rrep f n r).1.flatMap enc ++ (rrep f n r).2.b ∧ ∀ x ∈ (rrep f n r).1, ok x
  | 0, r, _, hc => ⟨hc, rfl, fun x hx => by cases hx⟩
  | n + 1, r, hb, hc => by
    rw [rrep] at hc ⊢
    have hb' : (f r).2.c = 0 → ∀ c ∈ (f r).2.b, c < 256 := fun h0 c hcc => by
      obtain ⟨_, e, _⟩ := h.back r hb h0
      exact hb c (by rw [e]; exact List.mem_append_right _ hcc)
    have hz : (f r).2.c = 0 := by
      by_cases h0 : (f r).2.c = 0
      · exact h0
      · exact absurd hc (h.rep_stick n (f r).2 h0)
    obtain ⟨e1, e2, e3⟩ := h.back r hb hz
    obtain ⟨g1, g2, g3⟩ := h.rep_back n (f r).2 (hb' hz) hc
    refine ⟨e1, ?_, fun x hx => ?_⟩
    · rw [List.flatMap_cons, List.append_assoc, ← g2]; exact e2
    · rcases List.mem_cons.1 hx with rfl | hx
      · exact e3
      · exact g3 x hx
theorem Cod.rep_min (h : Cod enc f ok least) : ∀ (xs : List α), (∀ x ∈ xs, ok x) → xs.length * least ≤ (xs.flatMap enc).length
  | [], _ => by simp
  | x :: r, hx => by
    have h1 := h.min x (hx x (List.mem_cons_self ..))
    have h2 := h.rep_min r (fun y hy => hx y (List.mem_cons_of_mem _ hy))
    rw [List.flatMap_cons, List.length_append, List.length_cons, Nat.succ_mul]
    omega
/-- Lists, with how many there are ahead. -/
theorem Cod.list (h : Cod enc f ok least) (most : Nat) (hm : most < 18446744073709551616) : Cod (encL enc) (rlist most least f) (fun xs => xs.length ≤ most ∧ ∀ x ∈ xs, ok x) 1 where
  fwd xs t hx := by
    unfold rlist encL
    rw [List.append_assoc, rmany_num hx.1 hm (by rw [List.length_append]; have := h.rep_min xs hx.2; omega)]
    exact h.rep xs t hx.2
  back r hb hc := by
    unfold rlist at hc ⊢
    have hz : (rmany most least r).2.c = 0 := by
      by_cases h0 : (rmany most least r).2.c = 0
      · exact h0
      · exact absurd hc (h.rep_stick _ _ h0)
    obtain ⟨e1, e2, _⟩ := rmany_back hb hz
    have hb' : ∀ c ∈ (rmany most least r).2.b, c < 256 := fun c hcc => hb c (by rw [e2]; exact List.mem_append_right _ hcc)
    obtain ⟨g1, g2, g3⟩ := h.rep_back _ _ hb' hc
    refine ⟨e1, ?_, ?_, g3⟩
    · unfold encL
      rw [rrep_len, List.append_assoc, ← g2]; exact e2
    · rw [rrep_len]; exact rmany_le _ _ _
  min xs _ := by
    unfold encL
    rw [List.length_append]
    have := numB_pos xs.length
    omega
  stick r hr := by unfold rlist; exact h.rep_stick _ _ (rmany_stick hr)
  lt xs c hc := by
    unfold encL at hc
    rcases List.mem_append.1 hc with hc | hc
    · exact numB_lt _ c hc
    · obtain ⟨x, _, hx⟩ := List.mem_flatMap.1 hc
      exact h.lt x c hx
end
/-- Two, one behind the other. -/
def rpair {α β : Type} (f : Rd → α × Rd) (g : Rd → β × Rd) (r : Rd) : (α × β) × Rd := (((f r).1, (g (f r).2).1), (g (f r).2).2)
theorem Cod.pair {α β : Type} {e1 : α → List Nat} {f : Rd → α × Rd} {ok1 : α → Prop} {m1 : Nat} {e2 : β → List Nat} {g : Rd → β × Rd} {ok2 : β → Prop} {m2 : Nat} (h : Cod e1 f ok1 m1) (k : Cod e2 g ok2 m2) :
    Cod (fun p : α × β => e1 p.1 ++ e2 p.2) (rpair f g) (fun p => ok1 p.1 ∧ ok2 p.2) (m1 + m2) where
  fwd p t hp := by
    unfold rpair
    rw [List.append_assoc, h.fwd p.1 _ hp.1, k.fwd p.2 t hp.2]
  back r hb hc := by
    unfold rpair at hc ⊢
    have hz : (f r).2.c = 0 := by
      by_cases h0 : (f r).2.c = 0
      · exact h0
      · exact absurd hc (k.stick _ h0)
    obtain ⟨a1, a2, a3⟩ := h.back r hb hz
    obtain ⟨b1, b2, b3⟩ := k.back (f r).2 (fun c hcc => hb c (by rw [a2]; exact List.mem_append_right _ hcc)) hc
    exact ⟨a1, by rw [List.append_assoc, ← b2]; exact a2, a3, b3⟩
  min p hp := by
    rw [List.length_append]
    have := h.min p.1 hp.1
    have := k.min p.2 hp.2
    omega
  stick r hr := k.stick _ (h.stick r hr)
  lt p c hc := by
    rcases List.mem_append.1 hc with hc | hc
    · exact h.lt _ c hc
    · exact k.lt _ c hc
/-- The same, by another name. -/
def rmap {α β : Type} (up : α → β) (f : Rd → α × Rd) (r : Rd) : β × Rd := (up (f r).1, (f r).2)
theorem Cod.map {α β : Type} {e : α → List Nat} {f : Rd → α × Rd} {ok : α → Prop} {m : Nat} (h : Cod e f ok m) (up : α → β) (dn : β → α) {ok' : β → Prop} (h1 : ∀ x, ok x → dn (up x) = x ∧ ok' (up x)) (h2 : ∀ y, ok' y → up (dn y) = y ∧ ok (dn y)) : Cod (fun y => e (dn y)) (rmap up f) ok' m where
  fwd y t hy := by
    unfold rmap
    rw [h.fwd (dn y) t (h2 y hy).2, (h2 y hy).1]
  back r hb hc := by
    unfold rmap at hc ⊢
    obtain ⟨a1, a2, a3⟩ := h.back r hb hc
    exact ⟨a1, by rw [(h1 _ a3).1]; exact a2, (h1 _ a3).2⟩
  min y hy := h.min _ (h2 y hy).2
  stick r hr := h.stick r hr
  lt y := h.lt _
end Go.Proofs.YtafmakhhdinknaaGreatDoor
/- Books as bytes, in plain words (law 11): accounts, lines, journals, books. -/
namespace Go.Proofs.YtafmakhhdinknaaGreatDoor
open Go.RowKit
set_option linter.unusedVariables false
set_option linter.unusedSimpArgs false
/-- A name's bytes. -/
def nameL (n : ByteArray) : List Nat := n.data.toList.map UInt8.toNat
def nameOf (l : List Nat) : ByteArray := ⟨(l.map UInt8.ofNat).toArray⟩
theorem nameL_len (n : ByteArray) : (nameL n).length = n.size := by unfold nameL; rw [List.length_map, Array.length_toList]; rfl
theorem nameOf_size (l : List Nat) : (nameOf l).size = l.length := by
  show (nameOf l).data.size = _
  unfold nameOf
  simp
theorem nameOf_L (n : ByteArray) : nameOf (nameL n) = n := by
  obtain ⟨a⟩ := n
  unfold nameOf nameL
  simp only [List.map_map]
  have : (UInt8.ofNat ∘ UInt8.toNat) = id := by funext x; simp
  rw [this, List.map_id]
theorem nameL_of {l : List Nat} (h : ∀ c ∈ l, c < 256) : nameL (nameOf l) = l := by
  unfold nameOf nameL
  simp only [List.map_map]
  have : ∀ c ∈ l, (UInt8.toNat ∘ UInt8.ofNat) c = c := fun c hc => by
    have := h c hc
    show (UInt8.ofNat c).toNat = c
    simp [UInt8.toNat_ofNat']
    omega
  rw [List.map_congr_left this, List.map_id']
theorem nameL_lt (n : ByteArray) : ∀ c ∈ nameL n, c < 256 := fun c hc => by
  unfold nameL at hc
  obtain ⟨x, _, rfl⟩ := List.mem_map.1 hc
  exact x.toNat_lt
def encN (n : ByteArray) : List Nat := numB n.size ++ nameL n
def rname (r : Rd) : ByteArray × Rd := (nameOf ((rmany 30 1 r).2.b.take (rmany 30 1 r).1), ⟨(rmany 30 1 r).2.b.drop (rmany 30 1 r).1, (rmany 30 1 r).2.c⟩)
theorem cod_name : Cod encN rname (fun n => n.size ≤ 30) 1 where
  fwd n t hn := by
    unfold rname encN
    rw [List.append_assoc, rmany_num hn (by omega) (by rw [List.length_append, nameL_len]; omega)]
    simp only
    rw [← nameL_len, List.take_left, List.drop_left, nameOf_L]
  back r hb hc := by
    unfold rname at hc ⊢
    have hz : (rmany 30 1 r).2.c = 0 := hc
    obtain ⟨e1, e2, e3⟩ := rmany_back hb hz
    have hb' : ∀ c ∈ (rmany 30 1 r).2.b.take (rmany 30 1 r).1, c < 256 := fun c hcc => hb c (by rw [e2]; exact List.mem_append_right _ (List.mem_of_mem_take hcc))
    have hsz : (nameOf ((rmany 30 1 r).2.b.take (rmany 30 1 r).1)).size = (rmany 30 1 r).1 := by
      rw [nameOf_size, List.length_take]; omega
    refine ⟨e1, ?_, ?_⟩
    · unfold encN
      simp only
      rw [hsz, nameL_of hb', List.append_assoc, List.take_append_drop]
      exact e2
    · simp only
      rw [hsz]
      exact rmany_le _ _ _
  min n _ := by
    unfold encN
    rw [List.length_append]
    have := numB_pos n.size
    omega
  stick r hr := rmany_stick hr
  lt n c hc := by
    unfold encN at hc
    rcases List.mem_append.1 hc with hc | hc
    · exact numB_lt _ c hc
    · exact nameL_lt n c hc
/-- Accounts. -/
def capN (n : ByteArray) : ByteArray := if n.size ≤ 9223372036854775807 then n else ⟨#[]⟩
theorem capN_le (n : ByteArray) : (capN n).size ≤ 9223372036854775807 := by
  unfold capN
  split
  · assumption
  · show (0 : Nat) ≤ _; omega
theorem capN_small {n : ByteArray} (h : n.size ≤ 30) : capN n = n := by unfold capN; rw [if_pos (by omega)]
def mkAc (p : Nat × ByteArray × Nat × Nat) : Ac := ⟨p.1 % 4294967296, capN p.2.1, p.2.2.1 % 256, p.2.2.2 % 4294967296, Nat.mod_lt _ (by omega), Nat.mod_lt _ (by omega), Nat.mod_lt _ (by omega), capN_le _⟩
def ofAc (a : Ac) : Nat × ByteArray × Nat × Nat := (a.code, a.name, a.kind, a.par)
def OkA (a : Ac) : Prop := a.code ≤ 999999 ∧ a.name.size ≤ 30 ∧ a.kind ≤ 255 ∧ a.par ≤ 999999
def encA (a : Ac) : List Nat := numB a.code ++ (encN a.name ++ (numB a.kind ++ numB a.par))
def racc : Rd → Ac × Rd := rmap mkAc (rpair (rnum 999999) (rpair rname (rpair (rnum 255) (rnum 999999))))
theorem cod_acc : Cod encA racc OkA 4 := by
  have h := ((cod_num 999999 (by omega)).pair (cod_name.pair ((cod_num 255 (by omega)).pair (cod_num 999999 (by omega))))).map mkAc ofAc (ok' := OkA) (fun p hp => by
      obtain ⟨c, n, k, q⟩ := p
      obtain ⟨h1, h2, h3, h4⟩ := hp
      simp only at h1 h2 h3 h4
      have e1 : c % 4294967296 = c := Nat.mod_eq_of_lt (by omega)
      have e2 : k % 256 = k := Nat.mod_eq_of_lt (by omega)
      have e3 : q % 4294967296 = q := Nat.mod_eq_of_lt (by omega)
      unfold ofAc mkAc OkA
      simp only [e1, e2, e3, capN_small h2]
      exact ⟨trivial, h1, h2, h3, h4⟩) (fun a ha => by
      obtain ⟨h1, h2, h3, h4⟩ := ha
      refine ⟨Ac.eq_of ?_ ?_ ?_ ?_, h1, h2, h3, h4⟩
      · exact Nat.mod_eq_of_lt a.hc
      · exact capN_small h2
      · exact Nat.mod_eq_of_lt a.hk
      · exact Nat.mod_eq_of_lt a.hp)
  exact h
/-- Lines. -/
def mkLn (p : Nat × Nat × Nat × Int) : Ln := ⟨p.1 % 4294967296, ⟨p.2.1 % 65536, Nat.mod_lt _ (by omega)⟩, p.2.2.1 % 65536, IntKind.i64.wrap p.2.2.2, Nat.mod_lt _ (by omega), Nat.mod_lt _ (by omega), by rw [IntKind.wrap_i64]; omega⟩
def ofLn (l : Ln) : Nat × Nat × Nat × Int := (l.acc, l.ent.n, l.ctr, l.amt)
def OkLn (l : Ln) : Prop := l.acc ≤ 999999 ∧ l.ent.n ≤ 999 ∧ l.ctr ≤ 999
def encLn (l : Ln) : List Nat := numB l.acc ++ (numB l.ent.n ++ (numB l.ctr ++ sigB l.amt))
def rline : Rd → Ln × Rd := rmap mkLn (rpair (rnum 999999) (rpair (rnum 999) (rpair (rnum 999) rsig)))
theorem cod_line : Cod encLn rline OkLn 4 := by
  have h := ((cod_num 999999 (by omega)).pair ((cod_num 999 (by omega)).pair ((cod_num 999 (by omega)).pair cod_sig))).map mkLn ofLn (ok' := OkLn) (fun p hp => by
      obtain ⟨c, n, k, q⟩ := p
      obtain ⟨h1, h2, h3, h4⟩ := hp
      simp only at h1 h2 h3 h4
      have e1 : c % 4294967296 = c := Nat.mod_eq_of_lt (by omega)
      have e2 : n % 65536 = n := Nat.mod_eq_of_lt (by omega)
      have e3 : k % 65536 = k := Nat.mod_eq_of_lt (by omega)
      have e4 : IntKind.i64.wrap q = q := by rw [IntKind.wrap_i64]; omega
      unfold ofLn mkLn OkLn
      simp only [e1, e2, e3, e4]
      exact ⟨trivial, h1, h2, h3⟩) (fun l hl => by
      obtain ⟨h1, h2, h3⟩ := hl
      obtain ⟨c, ⟨n, hn⟩, k, q, ha, hc, hm⟩ := l
      simp only at h1 h2 h3
      refine ⟨?_, h1, h2, h3, hm⟩
      have e1 : c % 4294967296 = c := Nat.mod_eq_of_lt ha
      have e2 : n % 65536 = n := Nat.mod_eq_of_lt hn
      have e3 : k % 65536 = k := Nat.mod_eq_of_lt hc
      have e4 : IntKind.i64.wrap q = q := by rw [IntKind.wrap_i64]; omega
      unfold ofLn mkLn
      simp only [e1, e2, e3, e4])
  exact h
/-- Journals. -/
def encJ (j : Int × List Ln) : List Nat := sigB j.1 ++ encL encLn j.2
def OkJn (j : Int × List Ln) : Prop := (-2147483648 ≤ j.1 ∧ j.1 ≤ 2147483647) ∧ j.2.length ≤ 60 ∧ ∀ l ∈ j.2, OkLn l
def rjour : Rd → (Int × List Ln) × Rd := rpair rday (rlist 60 4 rline)
theorem cod_jour : Cod encJ rjour OkJn 2 := cod_day.pair (cod_line.list 60 (by omega))
/-- Books. -/
abbrev Bd := List Ac × List Nat × List Int × Int × List (Int × List Ln)
def encBd (p : Bd) : List Nat := encL encA p.1 ++ (encL numB p.2.1 ++ (encL sigB p.2.2.1 ++ (sigB p.2.2.2.1 ++ encL encJ p.2.2.2.2)))
def OkBd (p : Bd) : Prop := (p.1.length ≤ 200 ∧ ∀ x ∈ p.1, OkA x) ∧ (p.2.1.length ≤ 40 ∧ ∀ x ∈ p.2.1, x ≤ 999) ∧ (p.2.2.1.length ≤ 60 ∧ ∀ x ∈ p.2.2.1, -2147483648 ≤ x ∧ x ≤ 2147483647) ∧ (-2147483648 ≤ p.2.2.2.1 ∧ p.2.2.2.1 ≤ 2147483647) ∧ (p.2.2.2.2.length ≤ 2000 ∧ ∀ x ∈ p.2.2.2.2, OkJn x)
def rbd : Rd → Bd × Rd := rpair (rlist 200 4 racc) (rpair (rlist 40 1 (rnum 999)) (rpair (rlist 60 1 rday) (rpair rday (rlist 2000 2 rjour))))
theorem cod_bd : Cod encBd rbd OkBd 5 :=
  (cod_acc.list 200 (by omega)).pair (((cod_num 999 (by omega)).list 40 (by omega)).pair ((cod_day.list 60 (by omega)).pair (cod_day.pair (cod_jour.list 2000 (by omega)))))
def bdOf (f : Fr) (js : List (Int × List Ln)) : Bd := (f.C, f.U, f.S, f.E, js)
def frOf (p : Bd) : Fr := ⟨p.1, p.2.1, p.2.2.1, p.2.2.2.1⟩
/-- A book's bytes. -/
def encB (f : Fr) (js : List (Int × List Ln)) : List Nat := [84, 82, 80, 49] ++ encBd (bdOf f js)
/-- What is wrong with what was read. -/
def decE (p : Bd × Rd) : Int := if p.2.c ≠ 0 then p.2.c else if p.2.b ≠ [] then 4 else chkB (frOf p.1) p.1.2.2.2.2
/-- Bytes as a book: a book (all zero beside an error), the error. -/
def decB (l : List Nat) : Fr × List (Int × List Ln) × Int :=
  if 1048576 < l.length then (⟨[], [], [], 0⟩, [], 2) else if l.length < 4 then (⟨[], [], [], 0⟩, [], 3) else if l.take 4 ≠ [84, 82, 80, 49] then (⟨[], [], [], 0⟩, [], 1)
  else if decE (rbd ⟨l.drop 4, 0⟩) ≠ 0 then (⟨[], [], [], 0⟩, [], decE (rbd ⟨l.drop 4, 0⟩)) else (frOf (rbd ⟨l.drop 4, 0⟩).1, (rbd ⟨l.drop 4, 0⟩).1.2.2.2.2, 0)
theorem encB_drop (f : Fr) (js : List (Int × List Ln)) (t : List Nat) : (encB f js ++ t).take 4 = [84, 82, 80, 49] ∧ (encB f js ++ t).drop 4 = encBd (bdOf f js) ++ t ∧ 4 ≤ (encB f js ++ t).length := by
  unfold encB
  refine ⟨rfl, rfl, ?_⟩
  simp
theorem encB_lt (f : Fr) (js : List (Int × List Ln)) : ∀ c ∈ encB f js, c < 256 := fun c hc => by
  unfold encB at hc
  rcases List.mem_append.1 hc with hc | hc
  · simp at hc; omega
  · exact cod_bd.lt _ c hc
/-- What is written is read as it was. -/
theorem dec_enc {f : Fr} {js : List (Int × List Ln)} (h : OkBd (bdOf f js)) (hc : chkB f js = 0) (hl : (encB f js).length ≤ 1048576) : decB (encB f js) = (f, js, 0) := by
  obtain ⟨e1, e2, e3⟩ := encB_drop f js []
  rw [List.append_nil] at e1 e2 e3
  rw [List.append_nil] at e2
  have e4 := cod_bd.fwd (bdOf f js) [] h
  rw [List.append_nil] at e4
  have e5 : decE (bdOf f js, ⟨[], 0⟩) = 0 := by
    unfold decE
    rw [if_neg (by simp), if_neg (by simp)]
    exact hc
  unfold decB
  rw [if_neg (by omega), if_neg (by omega), e1, if_neg (by simp), e2, e4, e5, if_neg (by simp)]
  rfl
/-- With more behind it it isn't one's. -/
theorem dec_more {f : Fr} {js : List (Int × List Ln)} {t : List Nat} (h : OkBd (bdOf f js)) (ht : t ≠ []) (hl : (encB f js ++ t).length ≤ 1048576) : decB (encB f js ++ t) = (⟨[], [], [], 0⟩, [], 4) := by
  obtain ⟨e1, e2, e3⟩ := encB_drop f js t
  have e4 := cod_bd.fwd (bdOf f js) t h
  have e5 : decE (bdOf f js, ⟨t, 0⟩) = 4 := by
    unfold decE
    rw [if_neg (by simp), if_pos ht]
  unfold decB
  rw [if_neg (by omega), if_neg (by omega), e1, if_neg (by simp), e2, e4, e5, if_pos (by simp)]
/-- What is read was written. -/
theorem enc_dec {l : List Nat} (hb : ∀ c ∈ l, c < 256) (h : (decB l).2.2 = 0) : encB (decB l).1 (decB l).2.1 = l ∧ OkBd (bdOf (decB l).1 (decB l).2.1) ∧ chkB (decB l).1 (decB l).2.1 = 0 ∧ l.length ≤ 1048576 := by
  unfold decB at h ⊢
  split at h
  · simp at h
  · rename_i h1
    rw [if_neg h1]
    split at h
    · simp at h
    · rename_i h2
      rw [if_neg h2]
      split at h
      · simp at h
      · rename_i h3
        rw [if_neg h3]
        generalize hp : rbd ⟨l.drop 4, 0⟩ = p at h ⊢
        split at h
        · rename_i h4; exact absurd h h4
        · rename_i h4
          rw [if_neg h4]
          have h4' : decE p = 0 := by simpa using h4
          unfold decE at h4'
          split at h4'
          · rename_i h6; exact absurd h4' h6
          · rename_i h6
            split at h4'
            · simp at h4'
            · rename_i h7
              have h6' : p.2.c = 0 := by simpa using h6
              have h7' : p.2.b = [] := by simpa using h7
              have hbk := cod_bd.back ⟨l.drop 4, 0⟩ (fun c hc => hb c (List.mem_of_mem_drop hc)) (by rw [hp]; exact h6')
              rw [hp] at hbk
              obtain ⟨_, g2, g3⟩ := hbk
              rw [h7', List.append_nil] at g2
              refine ⟨?_, g3, h4', by omega⟩
              unfold encB
              have h3' : l.take 4 = [84, 82, 80, 49] := by simpa using h3
              show [84, 82, 80, 49] ++ encBd p.1 = l
              rw [← g2, ← h3']
              exact List.take_append_drop 4 l
/-- Two books that may be have the same bytes just if they are the same. -/
theorem enc_inj {f g : Fr} {js ks : List (Int × List Ln)} (h : OkBd (bdOf f js)) (k : OkBd (bdOf g ks)) (e : encB f js = encB g ks) : f = g ∧ js = ks := by
  have e' : encBd (bdOf f js) = encBd (bdOf g ks) := List.append_cancel_left e
  have h1 := cod_bd.fwd _ [] h
  have h2 := cod_bd.fwd _ [] k
  rw [e'] at h1
  rw [h1] at h2
  have h3 : bdOf f js = bdOf g ks := congrArg Prod.fst h2
  unfold bdOf at h3
  simp only [Prod.mk.injEq] at h3
  obtain ⟨a, b, c, d, e9⟩ := h3
  obtain ⟨_, _, _, _⟩ := f
  obtain ⟨_, _, _, _⟩ := g
  simp only at a b c d
  subst a b c d
  exact ⟨rfl, e9⟩
/-- No beginning of a book's bytes is one's. -/
theorem dec_cut {f : Fr} {js : List (Int × List Ln)} (h : OkBd (bdOf f js)) {k : Nat} (hk : k < (encB f js).length) : (decB ((encB f js).take k)).2.2 ≠ 0 := by
  intro h0
  have hb : ∀ c ∈ (encB f js).take k, c < 256 := fun c hc => encB_lt f js c (List.mem_of_mem_take hc)
  obtain ⟨e1, e2, _, _⟩ := enc_dec hb h0
  generalize (decB ((encB f js).take k)).1 = g at e1 e2
  generalize (decB ((encB f js).take k)).2.1 = ks at e1 e2
  have e3 : encB f js = encB g ks ++ (encB f js).drop k := by
    rw [e1]; exact (List.take_append_drop k _).symm
  have e4 : encBd (bdOf f js) = encBd (bdOf g ks) ++ (encB f js).drop k := by
    have h9 : [84, 82, 80, 49] ++ encBd (bdOf f js) = [84, 82, 80, 49] ++ (encBd (bdOf g ks) ++ (encB f js).drop k) := by
      rw [← List.append_assoc]; exact e3
    exact List.append_cancel_left h9
  have h1 := cod_bd.fwd _ [] h
  have h2 := cod_bd.fwd _ ((encB f js).drop k) e2
  rw [List.append_nil, e4] at h1
  rw [h1] at h2
  have h3 : (encB f js).drop k = [] := (congrArg (fun p => p.2.b) h2).symm
  have h4 := congrArg List.length h3
  rw [List.length_drop] at h4
  simp at h4
  omega
end Go.Proofs.YtafmakhhdinknaaGreatDoor
/- Books that may be, as bytes (law 11): they are within what is read; how many bytes made books have; a journal less. -/
namespace Go.Proofs.YtafmakhhdinknaaGreatDoor
open Go.RowKit
set_option linter.unusedVariables false
set_option linter.unusedSimpArgs false
theorem chk2_all {d : List Ac} : ∀ {c : List Ac}, chk2 d c = 0 → ∀ a ∈ c, one2 d a = 0
  | [], _, a, ha => by cases ha
  | x :: r, h, a, ha => by
    unfold chk2 at h
    split at h
    · rename_i h1; exact absurd h h1
    · rename_i h1
      rcases List.mem_cons.1 ha with rfl | ha
      · simpa using h1
      · exact chk2_all h a ha
theorem chkU1_all : ∀ {l : List Nat} {h : Nat}, chkU1 h l = 0 → ∀ x ∈ l, x ≤ 999
  | [], _, _, x, hx => by cases hx
  | a :: r, h, hc, x, hx => by
    unfold chkU1 at hc
    split at hc
    · omega
    · split at hc
      · omega
      · rcases List.mem_cons.1 hx with rfl | hx
        · omega
        · exact chkU1_all hc x hx
theorem chkD1_all : ∀ {l : List Int} {p : Option Int}, chkD1 p l = 0 → ∀ x ∈ l, -719162 ≤ x ∧ x ≤ 2932896
  | [], _, _, x, hx => by cases hx
  | a :: r, p, hc, x, hx => by
    unfold chkD1 at hc
    split at hc
    · omega
    · split at hc
      · omega
      · rcases List.mem_cons.1 hx with rfl | hx
        · omega
        · exact chkD1_all hc x hx
theorem chkA_ok {c : List Ac} (h : chkA c = 0) : c.length ≤ 200 ∧ ∀ a ∈ c, OkA a := by
  unfold chkA at h
  split at h
  · omega
  · split at h
    · rename_i h1; exact absurd h h1
    · rename_i h0 h1
      have h1' : chk1 0 c = 0 := by simpa using h1
      obtain ⟨_, h3⟩ := chk1_rise h1'
      refine ⟨by omega, fun a ha => ?_⟩
      obtain ⟨⟨_, g1⟩, _, g3, g4⟩ := one1_zero.1 (h3 a ha).2
      have g2 := chk2_all h a ha
      refine ⟨g1, ?_, by omega, ?_⟩
      · unfold nameB at g3
        simp only [Bool.and_eq_true, decide_eq_true_eq] at g3
        have h5 := g3.1.1.1.2
        rw [ByteArray.toList_eq, Array.length_toList] at h5
        have h6 : a.name.data.size = a.name.size := rfl
        omega
      · unfold one2 at g2
        split at g2
        · omega
        · split at g2
          · simp at g2
          · rename_i p hp
            obtain ⟨e1, e2⟩ := getA_some hp
            obtain ⟨⟨_, g5⟩, _⟩ := one1_zero.1 (h3 p e1).2
            omega
theorem chkU_all {u : List Nat} (h : chkU u = 0) : u.length ≤ 40 ∧ ∀ x ∈ u, x ≤ 999 := by
  unfold chkU at h
  split at h
  · omega
  · exact ⟨by omega, chkU1_all h⟩
theorem chkD_all {S : List Int} {E : Int} (h : chkD S E = 0) : S.length ≤ 60 ∧ (∀ x ∈ S, -719162 ≤ x ∧ x ≤ 2932896) ∧ -719162 ≤ E ∧ E ≤ 2932896 := by
  unfold chkD at h
  split at h
  · omega
  · have := chkD1_all h
    exact ⟨by omega, fun x hx => this x (List.mem_append_left _ hx), this E (List.mem_append_right _ (by simp))⟩
theorem chkJs_all {f : Fr} : ∀ {js : List (Int × List Ln)} {p : Option Int}, chkJs f p js = 0 → ∀ j ∈ js, chkJ j.1 j.2 = 0 ∧ j.2.all (hasF f) = true
  | [], _, _, j, hj => by cases hj
  | a :: r, p, h, j, hj => by
    unfold chkJs at h
    split at h
    · rename_i h1; exact absurd h h1
    · rename_i h1
      split at h
      · simp at h
      · split at h
        · simp at h
        · split at h
          · simp at h
          · rename_i h4
            rcases List.mem_cons.1 hj with rfl | hj
            · exact ⟨by simpa using h1, by simpa using h4⟩
            · exact chkJs_all h j hj
/-- A book that may be is within what is read. -/
theorem okBd_of {f : Fr} {js : List (Int × List Ln)} (h : chkB f js = 0) : OkBd (bdOf f js) := by
  unfold chkB at h
  split at h
  · rename_i h1; exact absurd h h1
  · rename_i h1
    have hF : chkF f = 0 := by simpa using h1
    split at h
    · simp at h
    · rename_i h2
      unfold chkF at hF
      split at hF
      · rename_i h3; exact absurd hF h3
      · rename_i h3
        split at hF
        · rename_i h4; exact absurd hF h4
        · rename_i h4
          obtain ⟨a1, a2⟩ := chkA_ok (by simpa using h3 : chkA f.C = 0)
          obtain ⟨u1, u2⟩ := chkU_all (by simpa using h4 : chkU f.U = 0)
          obtain ⟨d1, d2, d3⟩ := chkD_all hF
          refine ⟨⟨a1, a2⟩, ⟨u1, u2⟩, ⟨d1, fun x hx => by have := d2 x hx; omega⟩, ⟨by show -2147483648 ≤ f.E; omega, by show f.E ≤ 2147483647; omega⟩, ⟨by show js.length ≤ 2000; omega, fun j hj => ?_⟩⟩
          obtain ⟨j1, j2⟩ := chkJs_all h j hj
          unfold chkJ at j1
          split at j1
          · simp at j1
          · split at j1
            · simp at j1
            · refine ⟨by omega, by omega, fun l hl => ?_⟩
              have h5 := List.all_eq_true.1 j2 l hl
              unfold hasF at h5
              simp only [Bool.and_eq_true, List.any_eq_true, Bool.or_eq_true, beq_iff_eq] at h5
              obtain ⟨⟨⟨a, ha, e1⟩, ⟨n, hn, e2⟩⟩, e3⟩ := h5
              have g1 := (a2 a ha).1
              have g2 := u2 n hn
              refine ⟨by omega, by omega, ?_⟩
              rcases e3 with e3 | ⟨m, hm, e3⟩
              · omega
              · have := u2 m hm
                omega
theorem flat_le {α : Type} (g : α → List Nat) (m : Nat) : ∀ xs : List α, (∀ x ∈ xs, (g x).length ≤ m) → (xs.flatMap g).length ≤ xs.length * m
  | [], _ => by simp
  | x :: r, h => by
    rw [List.flatMap_cons, List.length_append, List.length_cons, Nat.succ_mul]
    have := h x (List.mem_cons_self ..)
    have := flat_le g m r (fun y hy => h y (List.mem_cons_of_mem _ hy))
    omega
theorem encL_le {α : Type} (g : α → List Nat) (m : Nat) (xs : List α) (h : ∀ x ∈ xs, (g x).length ≤ m) (hl : xs.length ≤ 2000) : (encL g xs).length ≤ 10 + xs.length * m := by
  unfold encL
  rw [List.length_append]
  have := numB_len10 (n := xs.length) (by omega)
  have := flat_le g m xs h
  omega
theorem sigB_len {z : Int} (h : -9223372036854775808 ≤ z ∧ z ≤ 9223372036854775807) : (sigB z).length ≤ 10 := numB_len10 (sigN_lt h)
theorem encA_len {a : Ac} (h : OkA a) : (encA a).length ≤ 70 := by
  obtain ⟨h1, h2, h3, h4⟩ := h
  unfold encA encN
  simp only [List.length_append, nameL_len]
  have := numB_len10 (n := a.code) (by omega)
  have := numB_len10 (n := a.name.size) (by omega)
  have := numB_len10 (n := a.kind) (by omega)
  have := numB_len10 (n := a.par) (by omega)
  omega
theorem encLn_len {l : Ln} (h : OkLn l) : (encLn l).length ≤ 40 := by
  obtain ⟨h1, h2, h3⟩ := h
  unfold encLn
  simp only [List.length_append]
  have := numB_len10 (n := l.acc) (by omega)
  have := numB_len10 (n := l.ent.n) (by omega)
  have := numB_len10 (n := l.ctr) (by omega)
  have := sigB_len l.hm
  omega
/-- A book of few journals has few bytes. -/
theorem encB_len {f : Fr} {js : List (Int × List Ln)} (h : OkBd (bdOf f js)) (hj : js.length ≤ 100) : (encB f js).length ≤ 300000 := by
  obtain ⟨⟨c1, c2⟩, ⟨u1, u2⟩, ⟨s1, s2⟩, ⟨e1, e2⟩, ⟨j1, j2⟩⟩ := h
  simp only [bdOf] at c1 c2 u1 u2 s1 s2 e1 e2 j1 j2
  unfold encB encBd bdOf
  simp only [List.length_append]
  have a1 := encL_le encA 70 f.C (fun x hx => encA_len (c2 x hx)) (by omega)
  have a2 := encL_le numB 10 f.U (fun x hx => numB_len10 (by have := u2 x hx; omega)) (by omega)
  have a3 := encL_le sigB 10 f.S (fun x hx => sigB_len (by have := s2 x hx; omega)) (by omega)
  have a4 := sigB_len (z := f.E) (by omega)
  have a5 := encL_le encJ 2420 js (fun x hx => by
    obtain ⟨g1, g2, g3⟩ := j2 x hx
    unfold encJ
    rw [List.length_append]
    have := sigB_len (z := x.1) (by omega)
    have := encL_le encLn 40 x.2 (fun l hl => encLn_len (g3 l hl)) (by omega)
    have : x.2.length * 40 ≤ 60 * 40 := Nat.mul_le_mul_right _ g2
    omega) j1
  have b1 : f.C.length * 70 ≤ 200 * 70 := Nat.mul_le_mul_right _ c1
  have b2 : f.U.length * 10 ≤ 40 * 10 := Nat.mul_le_mul_right _ u1
  have b3 : f.S.length * 10 ≤ 60 * 10 := Nat.mul_le_mul_right _ s1
  have b5 : js.length * 2420 ≤ 100 * 2420 := Nat.mul_le_mul_right _ hj
  simp only [List.length_cons, List.length_nil]
  omega
/-- A frame's bytes, ahead of how many journals there are. -/
def encFr (f : Fr) : List Nat := [84, 82, 80, 49] ++ (encL encA f.C ++ (encL numB f.U ++ (encL sigB f.S ++ sigB f.E)))
theorem encB_eq (f : Fr) (js : List (Int × List Ln)) : encB f js = encFr f ++ (numB js.length ++ js.flatMap encJ) := by
  unfold encB encBd bdOf encFr
  simp only [encL, List.append_assoc]
theorem encB_few {f : Fr} {js : List (Int × List Ln)} (h : js.length < 128) : encB f js = encFr f ++ (js.length :: js.flatMap encJ) := by
  rw [encB_eq, numB_small h]; rfl
theorem encFr_len (f : Fr) : 3 < (encFr f).length := by
  unfold encFr
  rw [List.length_append]
  have : 0 < (encL encA f.C ++ (encL numB f.U ++ (encL sigB f.S ++ sigB f.E))).length := by
    rw [List.length_append]
    have : 0 < (encL encA f.C).length := by
      unfold encL
      rw [List.length_append]
      have := numB_pos f.C.length
      omega
    omega
  simp only [List.length_cons, List.length_nil]
  omega
/-- With a journal less: what law CodecGrows looks at. -/
theorem grows11 {f : Fr} {js : List (Int × List Ln)} {j : Int × List Ln} (hl : js.length + 1 < 128) :
    (encB f []).length = (encFr f).length + 1 ∧ (encB f js).length < (encB f (js ++ [j])).length ∧ (encFr f).length < (encB f js).length ∧ (encFr f).length < (encB f (js ++ [j])).length ∧
    (encB f (js ++ [j])).take (encFr f).length = (encB f []).take (encFr f).length ∧ (encB f js).take (encFr f).length = (encB f []).take (encFr f).length ∧
    ((encB f (js ++ [j])).take (encB f js).length).drop ((encFr f).length + 1) = (encB f js).drop ((encFr f).length + 1) := by
  have e0 : encB f [] = encFr f ++ [0] := by rw [encB_few (by simp)]; rfl
  have e1 : encB f js = encFr f ++ (js.length :: js.flatMap encJ) := encB_few (by omega)
  have e2 : encB f (js ++ [j]) = encFr f ++ ((js.length + 1) :: (js.flatMap encJ ++ encJ j)) := by
    rw [encB_few (by rw [List.length_append]; exact hl), List.flatMap_append, List.length_append]
    simp
  have hj : 0 < (encJ j).length := by
    unfold encJ sigB
    rw [List.length_append]
    have := numB_pos (sigN j.1)
    omega
  rw [e0, e1, e2]
  refine ⟨by simp, by simp only [List.length_append, List.length_cons]; omega, by simp, by simp, by rw [List.take_left, List.take_left], by rw [List.take_left, List.take_left], ?_⟩
  have h1 : (encFr f ++ (js.length :: js.flatMap encJ)).drop ((encFr f).length + 1) = js.flatMap encJ := by
    rw [← List.drop_drop, List.drop_left]; rfl
  rw [h1, List.take_append]
  have h2 : (encFr f ++ (js.length :: js.flatMap encJ)).length - (encFr f).length = (js.flatMap encJ).length + 1 := by
    simp only [List.length_append, List.length_cons]; omega
  rw [h2, List.take_of_length_le (by simp only [List.length_append, List.length_cons]; omega), List.take_succ_cons, List.take_left, ← List.drop_drop, List.drop_left]
  rfl
end Go.Proofs.YtafmakhhdinknaaGreatDoor
/- How much a book holds that is written (law 11): more than one that may be. -/
namespace Go.Proofs.YtafmakhhdinknaaGreatDoor
open Go.RowKit
set_option linter.unusedVariables false
set_option linter.unusedSimpArgs false
def OkAw (a : Ac) : Prop := a.code ≤ 4294967295 ∧ a.name.size ≤ 30 ∧ a.kind ≤ 255 ∧ a.par ≤ 4294967295
def OkLw (l : Ln) : Prop := l.acc ≤ 4294967295 ∧ l.ent.n ≤ 65535 ∧ l.ctr ≤ 65535
def OkJw (j : Int × List Ln) : Prop := (-2147483648 ≤ j.1 ∧ j.1 ≤ 2147483647) ∧ j.2.length ≤ 100 ∧ ∀ l ∈ j.2, OkLw l
def OkBw (p : Bd) : Prop := (p.1.length ≤ 300 ∧ ∀ x ∈ p.1, OkAw x) ∧ (p.2.1.length ≤ 100 ∧ ∀ x ∈ p.2.1, x ≤ 65535) ∧ (p.2.2.1.length ≤ 100 ∧ ∀ x ∈ p.2.2.1, -2147483648 ≤ x ∧ x ≤ 2147483647) ∧ (-2147483648 ≤ p.2.2.2.1 ∧ p.2.2.2.1 ≤ 2147483647) ∧ (p.2.2.2.2.length ≤ 2000 ∧ ∀ x ∈ p.2.2.2.2, OkJw x)
theorem okLw (l : Ln) : OkLw l := ⟨by have := l.ha; omega, by have := l.ent.h; omega, by have := l.hc; omega⟩
theorem okAw {a : Ac} (h : a.name.size ≤ 30) : OkAw a := ⟨by have := a.hc; omega, h, by have := a.hk; omega, by have := a.hp; omega⟩
theorem OkBd.wide {p : Bd} (h : OkBd p) : OkBw p := by
  obtain ⟨⟨c1, c2⟩, ⟨u1, u2⟩, ⟨s1, s2⟩, ⟨e1, e2⟩, ⟨j1, j2⟩⟩ := h
  exact ⟨⟨by omega, fun x hx => okAw (c2 x hx).2.1⟩, ⟨by omega, fun x hx => by have := u2 x hx; omega⟩, ⟨by omega, s2⟩, ⟨e1, e2⟩, ⟨j1, fun x hx => ⟨(j2 x hx).1, by have := (j2 x hx).2.1; omega, fun l _ => okLw l⟩⟩⟩
/-- A way of bytes for wide books: every byte is below 256, there are not too many. -/
theorem encAw_len {a : Ac} (h : OkAw a) : (encA a).length ≤ 70 := by
  obtain ⟨h1, h2, h3, h4⟩ := h
  unfold encA encN
  simp only [List.length_append, nameL_len]
  have := numB_len10 (n := a.code) (by omega)
  have := numB_len10 (n := a.name.size) (by omega)
  have := numB_len10 (n := a.kind) (by omega)
  have := numB_len10 (n := a.par) (by omega)
  omega
theorem encLw_len (l : Ln) : (encLn l).length ≤ 40 := by
  obtain ⟨h1, h2, h3⟩ := okLw l
  unfold encLn
  simp only [List.length_append]
  have := numB_len10 (n := l.acc) (by omega)
  have := numB_len10 (n := l.ent.n) (by omega)
  have := numB_len10 (n := l.ctr) (by omega)
  have := sigB_len l.hm
  omega
theorem encJw_len {j : Int × List Ln} (h : OkJw j) : (encJ j).length ≤ 4020 := by
  obtain ⟨g1, g2, g3⟩ := h
  unfold encJ
  rw [List.length_append]
  have := sigB_len (z := j.1) (by omega)
  have := encL_le encLn 40 j.2 (fun l hl => encLw_len l) (by omega)
  have : j.2.length * 40 ≤ 100 * 40 := Nat.mul_le_mul_right _ g2
  omega
theorem encBw_len {f : Fr} {js : List (Int × List Ln)} (h : OkBw (bdOf f js)) : (encB f js).length ≤ 9000000 := by
  obtain ⟨⟨c1, c2⟩, ⟨u1, u2⟩, ⟨s1, s2⟩, ⟨e1, e2⟩, ⟨j1, j2⟩⟩ := h
  simp only [bdOf] at c1 c2 u1 u2 s1 s2 e1 e2 j1 j2
  unfold encB encBd bdOf
  simp only [List.length_append]
  have a1 := encL_le encA 70 f.C (fun x hx => encAw_len (c2 x hx)) (by omega)
  have a2 := encL_le numB 10 f.U (fun x hx => numB_len10 (by have := u2 x hx; omega)) (by omega)
  have a3 := encL_le sigB 10 f.S (fun x hx => sigB_len (by have := s2 x hx; omega)) (by omega)
  have a4 := sigB_len (z := f.E) (by omega)
  have a5 := encL_le encJ 4020 js (fun x hx => encJw_len (j2 x hx)) j1
  have b1 : f.C.length * 70 ≤ 300 * 70 := Nat.mul_le_mul_right _ c1
  have b2 : f.U.length * 10 ≤ 100 * 10 := Nat.mul_le_mul_right _ u1
  have b3 : f.S.length * 10 ≤ 100 * 10 := Nat.mul_le_mul_right _ s1
  have b5 : js.length * 4020 ≤ 2000 * 4020 := Nat.mul_le_mul_right _ j1
  simp only [List.length_cons, List.length_nil]
  omega
end Go.Proofs.YtafmakhhdinknaaGreatDoor

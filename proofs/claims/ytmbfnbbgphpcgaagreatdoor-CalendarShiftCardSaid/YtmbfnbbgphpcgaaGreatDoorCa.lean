/- Accounts and charts in plain words: find, ways, what may be, what the law's charts are made of. -/
import Derived.WalkKit
namespace Go.Proofs.YtmbfnbbgphpcgaaGreatDoor
open Go.RowKit
set_option linter.unusedVariables false
set_option linter.unusedSimpArgs false
/-- An account. -/
structure Ac where
  code : Nat
  name : ByteArray
  kind : Nat
  par : Nat
  hc : code < 4294967296
  hk : kind < 256
  hp : par < 4294967296
  hn : name.size ≤ 9223372036854775807
theorem Ac.eq_of {x y : Ac} (h1 : x.code = y.code) (h2 : x.name = y.name) (h3 : x.kind = y.kind) (h4 : x.par = y.par) : x = y := by
  obtain ⟨a, e, p, q, _, _, _, _⟩ := x
  obtain ⟨a', e', p', q', _, _, _, _⟩ := y
  simp only at h1 h2 h3 h4
  subst h1 h2 h3 h4
  rfl
instance : Inhabited Ac := ⟨⟨0, ⟨#[]⟩, 0, 0, by omega, by omega, by omega, by decide⟩⟩
/-- An account's cells; as a value. -/
def cc (x : Ac) : List Value := [.int .u32 (x.code : Int), .string x.name, .int .u8 (x.kind : Int), .int .u32 (x.par : Int)]
def cv (x : Ac) : Value := .agg #[.int .u32 (x.code : Int), .string x.name, .int .u8 (x.kind : Int), .int .u32 (x.par : Int)]
theorem cc_len (x : Ac) : (cc x).length = 4 := rfl
theorem cc_one (x : Ac) : ∀ v ∈ cc x, v.oneCell' = true := fun v hv => by simp [cc] at hv; rcases hv with rfl | rfl | rfl | rfl <;> rfl
/-- Are two accounts alike? -/
def sameA (x y : Ac) : Bool := x.code == y.code && (x.name.toList == y.name.toList && (x.kind == y.kind && x.par == y.par))
theorem toList_inj {a b : ByteArray} (h : a.toList = b.toList) : a = b := by
  rw [ByteArray.toList_eq, ByteArray.toList_eq] at h
  obtain ⟨⟨x⟩⟩ := a
  obtain ⟨⟨y⟩⟩ := b
  simp only at h
  subst h
  rfl
theorem sameA_iff {x y : Ac} : sameA x y = true ↔ x = y := by
  unfold sameA
  simp only [Bool.and_eq_true, beq_iff_eq]
  exact ⟨fun ⟨h1, h2, h3, h4⟩ => Ac.eq_of h1 (toList_inj h2) h3 h4, fun h => by subst h; simp⟩
instance : DecidableEq Ac := fun x y => if h : sameA x y = true then .isTrue (sameA_iff.1 h) else .isFalse fun e => h (sameA_iff.2 e)
/-- The account of a code. -/
def getA (c : List Ac) (n : Nat) : Option Ac := c.find? (fun a => a.code == n)
/-- How many codes are below one. -/
def belowA (c : List Ac) (n : Nat) : Nat := c.countP (fun a => decide (a.code < n))
/-- Codes rise. -/
def RiseA (c : List Ac) : Prop := c.Pairwise (fun a b => a.code < b.code)
/-- A way, of so many at most. -/
def wayF : Nat → List Ac → Nat → List Nat
  | 0, _, _ => []
  | k + 1, c, n => match getA c n with
    | none => []
    | some a => n :: wayF k c a.par
/-- Whose parent is one. -/
def kidsA (c : List Ac) (n : Nat) : List Nat := (c.filter (fun a => a.par == n)).map Ac.code
/-- May a character stand in a name? -/
def signB (b : UInt8) : Bool := (decide (97 ≤ b.toNat) && decide (b.toNat ≤ 122)) || (decide (65 ≤ b.toNat) && decide (b.toNat ≤ 90)) || (decide (48 ≤ b.toNat) && decide (b.toNat ≤ 57)) || b.toNat == 32 || b.toNat == 46
/-- May it be a name? -/
def nameB (l : List UInt8) : Bool := decide (0 < l.length) && decide (l.length < 31) && l.all signB && !(l.headD 0 == 32) && !(l.getLastD 0 == 32)
/-- What is wrong with an account behind a code, wherever it lies. -/
def one1 (h : Nat) (a : Ac) : Int := if a.code = 0 ∨ 999999 < a.code then 5 else if a.code ≤ h then 6 else if nameB a.name.toList = false then 10 else if 5 ≤ a.kind then 9 else 0
def chk1 : Nat → List Ac → Int
  | _, [] => 0
  | h, a :: r => if one1 h a ≠ 0 then one1 h a else chk1 a.code r
/-- What is wrong with where an account lies. -/
def one2 (c : List Ac) (a : Ac) : Int := if a.par = 0 then 0 else match getA c a.par with
  | none => 8
  | some p => if p.kind ≠ a.kind then 9 else if 12 < (wayF 13 c a.code).length then 11 else 0
def chk2 (c : List Ac) : List Ac → Int
  | [] => 0
  | a :: r => if one2 c a ≠ 0 then one2 c a else chk2 c r
/-- May it be a chart? -/
def chkA (c : List Ac) : Int := if 200 < c.length then 2 else if chk1 0 c ≠ 0 then chk1 0 c else chk2 c c
theorem one1_zero {h : Nat} {a : Ac} : one1 h a = 0 ↔ (0 < a.code ∧ a.code ≤ 999999) ∧ h < a.code ∧ nameB a.name.toList = true ∧ a.kind < 5 := by
  unfold one1
  split
  · constructor
    · intro h; omega
    · rintro ⟨h1, _⟩; omega
  · split
    · constructor
      · intro h; omega
      · rintro ⟨_, h1, _⟩; omega
    · split
      · rename_i h3
        constructor
        · intro h; omega
        · rintro ⟨_, _, h1, _⟩; rw [h3] at h1; cases h1
      · rename_i h1 h2 h3
        split
        · constructor
          · intro h; omega
          · rintro ⟨_, _, _, h4⟩; omega
        · simp only [Bool.not_eq_false] at h3
          constructor
          · intro _; exact ⟨by omega, by omega, h3, by omega⟩
          · intro _; rfl
theorem chk1_rise : ∀ {h : Nat} {c : List Ac}, chk1 h c = 0 → RiseA c ∧ ∀ a ∈ c, h < a.code ∧ one1 0 a = 0
  | h, [], _ => ⟨List.Pairwise.nil, fun a ha => by cases ha⟩
  | h, a :: r, e => by
    unfold chk1 at e
    split at e
    · contradiction
    · rename_i h1
      simp only [ne_eq, Decidable.not_not] at h1
      obtain ⟨h2, h3⟩ := chk1_rise e
      have h1' := one1_zero.1 h1
      refine ⟨List.Pairwise.cons (fun b hb => (h3 b hb).1) h2, fun b hb => ?_⟩
      rcases List.mem_cons.1 hb with rfl | hb
      · exact ⟨h1'.2.1, one1_zero.2 ⟨h1'.1, h1'.1.1, h1'.2.2⟩⟩
      · exact ⟨Nat.lt_trans h1'.2.1 (h3 b hb).1, (h3 b hb).2⟩
theorem getA_some {c : List Ac} {n : Nat} {a : Ac} (h : getA c n = some a) : a ∈ c ∧ a.code = n := by
  unfold getA at h
  exact ⟨List.mem_of_find?_eq_some h, by simpa using List.find?_some h⟩
theorem getA_none {c : List Ac} {n : Nat} : getA c n = none ↔ ∀ a ∈ c, a.code ≠ n := by
  unfold getA
  rw [List.find?_eq_none]
  simp
theorem RiseA.inj {c : List Ac} (h : RiseA c) {a b : Ac} (ha : a ∈ c) (hb : b ∈ c) (e : a.code = b.code) : a = b := by
  induction c with
  | nil => cases ha
  | cons x r ih =>
    obtain ⟨h1, h2⟩ := List.pairwise_cons.1 h
    rcases List.mem_cons.1 ha with rfl | ha' <;> rcases List.mem_cons.1 hb with rfl | hb'
    · rfl
    · have := h1 b hb'; omega
    · have := h1 a ha'; omega
    · exact ih h2 ha' hb'
theorem getA_mem {c : List Ac} (h : RiseA c) {a : Ac} (ha : a ∈ c) : getA c a.code = some a := by
  cases e : getA c a.code with
  | none => exact absurd rfl (getA_none.1 e a ha)
  | some b => obtain ⟨h1, h2⟩ := getA_some e; rw [h.inj h1 ha h2]
theorem wayF_len (k : Nat) (c : List Ac) (n : Nat) : (wayF k c n).length ≤ k := by
  induction k generalizing n with
  | zero => simp [wayF]
  | succ k ih =>
    unfold wayF
    split
    · simp
    · rename_i a _
      simp only [List.length_cons]
      have := ih a.par
      omega
theorem wayF_some {c : List Ac} {n : Nat} {a : Ac} (e : getA c n = some a) (k : Nat) : wayF (k + 1) c n = n :: wayF k c a.par := by
  simp only [wayF, e]
theorem wayF_none {c : List Ac} {n : Nat} (e : getA c n = none) (k : Nat) : wayF k c n = [] := by
  cases k with
  | zero => rfl
  | succ k => simp only [wayF, e]
/-- A way that ends is the same with more room. -/
theorem wayF_room {k : Nat} {c : List Ac} {n : Nat} (h : (wayF k c n).length < k) : wayF (k + 1) c n = wayF k c n := by
  induction k generalizing n with
  | zero => simp at h
  | succ k ih =>
    cases e : getA c n with
    | none => rw [wayF_none e, wayF_none e]
    | some a =>
      rw [wayF_some e, wayF_some e]
      rw [wayF_some e] at h
      rw [ih (by simpa using h)]
theorem wayF_room' {k m : Nat} {c : List Ac} {n : Nat} (h : (wayF k c n).length < k) : wayF (k + m) c n = wayF k c n := by
  induction m with
  | zero => rfl
  | succ m ih => rw [← Nat.add_assoc, wayF_room (by rw [ih]; omega), ih]
theorem wayF_zero {c : List Ac} (h : ∀ a ∈ c, 0 < a.code) (k : Nat) : wayF k c 0 = [] := by
  exact wayF_none (getA_none.2 fun a ha => by have := h a ha; omega) k
/-- Below: the place of a code in codes that rise. -/
theorem belowA_lt {c : List Ac} (h : RiseA c) : ∀ (i : Nat) (a : Ac), c[i]? = some a → ∀ n, (i < belowA c n ↔ a.code < n) := by
  induction c with
  | nil => intro i a e; simp at e
  | cons x r ih =>
    obtain ⟨h1, h2⟩ := List.pairwise_cons.1 h
    intro i a e n
    unfold belowA
    rw [List.countP_cons]
    have hz : ¬ x.code < n → r.countP (fun a => decide (a.code < n)) = 0 := fun hx => by
      rw [List.countP_eq_zero]
      intro b hb
      have := h1 b hb
      simp; omega
    cases i with
    | zero =>
      simp only [List.getElem?_cons_zero, Option.some.injEq] at e
      subst e
      by_cases hx : x.code < n
      · simp [hx]
      · simp [hx, hz hx]
    | succ i =>
      simp only [List.getElem?_cons_succ] at e
      have ih' := ih h2 i a e n
      unfold belowA at ih'
      have ha : x.code < a.code := h1 a (List.mem_of_getElem? e)
      by_cases hx : x.code < n
      · simp [hx]; exact ih'
      · simp [hx, hz hx]; omega
theorem belowA_le (c : List Ac) (n : Nat) : belowA c n ≤ c.length := List.countP_le_length
end Go.Proofs.YtmbfnbbgphpcgaaGreatDoor

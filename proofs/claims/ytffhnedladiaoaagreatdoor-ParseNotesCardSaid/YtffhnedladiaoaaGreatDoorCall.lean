/- Accounts and charts in plain words: find, ways, what may be, what the law's charts are made of. -/
import Derived.WalkKit
import Derived.Carry
import Derived.Deep.Slices
import Derived.Laws.OwnMore
import Derived.Deep.Heap
import Derived.Maps.AppendAt
namespace Go.Proofs.YtffhnedladiaoaaGreatDoor
open Go.RowKit
set_option linter.unusedVariables false
set_option linter.unusedSimpArgs false
/-- An account. -/
structure Ac where
  code : Nat
  name : ByteArray
  kind : Nat
  par : Nat
  hc : code < 4294967296
  hk : kind < 256
  hp : par < 4294967296
  hn : name.size ≤ 9223372036854775807
theorem Ac.eq_of {x y : Ac} (h1 : x.code = y.code) (h2 : x.name = y.name) (h3 : x.kind = y.kind) (h4 : x.par = y.par) : x = y := by
  obtain ⟨a, e, p, q, _, _, _, _⟩ := x
  obtain ⟨a', e', p', q', _, _, _, _⟩ := y
  simp only at h1 h2 h3 h4
  subst h1 h2 h3 h4
  rfl
instance : Inhabited Ac := ⟨⟨0, ⟨#[]⟩, 0, 0, by omega, by omega, by omega, by decide⟩⟩
/-- An account's cells; as a value. -/
def cc (x : Ac) : List Value := [.int .u32 (x.code : Int), .string x.name, .int .u8 (x.kind : Int), .int .u32 (x.par : Int)]
def cv (x : Ac) : Value := .agg #[.int .u32 (x.code : Int), .string x.name, .int .u8 (x.kind : Int), .int .u32 (x.par : Int)]
theorem cc_len (x : Ac) : (cc x).length = 4 := rfl
theorem cc_one (x : Ac) : ∀ v ∈ cc x, v.oneCell' = true := fun v hv => by simp [cc] at hv; rcases hv with rfl | rfl | rfl | rfl <;> rfl
/-- Are two accounts alike? -/
def sameA (x y : Ac) : Bool := x.code == y.code && (x.name.toList == y.name.toList && (x.kind == y.kind && x.par == y.par))
theorem toList_inj {a b : ByteArray} (h : a.toList = b.toList) : a = b := by
  rw [ByteArray.toList_eq, ByteArray.toList_eq] at h
  obtain ⟨⟨x⟩⟩ := a
  obtain ⟨⟨y⟩⟩ := b
  simp only at h
  subst h
  rfl
theorem sameA_iff {x y : Ac} : sameA x y = true ↔ x = y := by
  unfold sameA
  simp only [Bool.and_eq_true, beq_iff_eq]
  exact ⟨fun ⟨h1, h2, h3, h4⟩ => Ac.eq_of h1 (toList_inj h2) h3 h4, fun h => by subst h; simp⟩
instance : DecidableEq Ac := fun x y => if h : sameA x y = true then .isTrue (sameA_iff.1 h) else .isFalse fun e => h (sameA_iff.2 e)
/-- The account of a code. -/
def getA (c : List Ac) (n : Nat) : Option Ac := c.find? (fun a => a.code == n)
/-- How many codes are below one. -/
def belowA (c : List Ac) (n : Nat) : Nat := c.countP (fun a => decide (a.code < n))
/-- Codes rise. -/
def RiseA (c : List Ac) : Prop := c.Pairwise (fun a b => a.code < b.code)
/-- A way, of so many at most. -/
def wayF : Nat → List Ac → Nat → List Nat
  | 0, _, _ => []
  | k + 1, c, n => match getA c n with
    | none => []
    | some a => n :: wayF k c a.par
/-- Whose parent is one. -/
def kidsA (c : List Ac) (n : Nat) : List Nat := (c.filter (fun a => a.par == n)).map Ac.code
/-- May a character stand in a name? -/
def signB (b : UInt8) : Bool := (decide (97 ≤ b.toNat) && decide (b.toNat ≤ 122)) || (decide (65 ≤ b.toNat) && decide (b.toNat ≤ 90)) || (decide (48 ≤ b.toNat) && decide (b.toNat ≤ 57)) || b.toNat == 32 || b.toNat == 46
/-- May it be a name? -/
def nameB (l : List UInt8) : Bool := decide (0 < l.length) && decide (l.length < 31) && l.all signB && !(l.headD 0 == 32) && !(l.getLastD 0 == 32)
/-- What is wrong with an account behind a code, wherever it lies. -/
def one1 (h : Nat) (a : Ac) : Int := if a.code = 0 ∨ 999999 < a.code then 5 else if a.code ≤ h then 6 else if nameB a.name.toList = false then 10 else if 5 ≤ a.kind then 9 else 0
def chk1 : Nat → List Ac → Int
  | _, [] => 0
  | h, a :: r => if one1 h a ≠ 0 then one1 h a else chk1 a.code r
/-- What is wrong with where an account lies. -/
def one2 (c : List Ac) (a : Ac) : Int := if a.par = 0 then 0 else match getA c a.par with
  | none => 8
  | some p => if p.kind ≠ a.kind then 9 else if 12 < (wayF 13 c a.code).length then 11 else 0
def chk2 (c : List Ac) : List Ac → Int
  | [] => 0
  | a :: r => if one2 c a ≠ 0 then one2 c a else chk2 c r
/-- May it be a chart? -/
def chkA (c : List Ac) : Int := if 200 < c.length then 2 else if chk1 0 c ≠ 0 then chk1 0 c else chk2 c c
theorem one1_zero {h : Nat} {a : Ac} : one1 h a = 0 ↔ (0 < a.code ∧ a.code ≤ 999999) ∧ h < a.code ∧ nameB a.name.toList = true ∧ a.kind < 5 := by
  unfold one1
  split
  · constructor
    · intro h; omega
    · rintro ⟨h1, _⟩; omega
  · split
    · constructor
      · intro h; omega
      · rintro ⟨_, h1, _⟩; omega
    · split
      · rename_i h3
        constructor
        · intro h; omega
        · rintro ⟨_, _, h1, _⟩; rw [h3] at h1; cases h1
      · rename_i h1 h2 h3
        split
        · constructor
          · intro h; omega
          · rintro ⟨_, _, _, h4⟩; omega
        · simp only [Bool.not_eq_false] at h3
          constructor
          · intro _; exact ⟨by omega, by omega, h3, by omega⟩
          · intro _; rfl
theorem chk1_rise : ∀ {h : Nat} {c : List Ac}, chk1 h c = 0 → RiseA c ∧ ∀ a ∈ c, h < a.code ∧ one1 0 a = 0
  | h, [], _ => ⟨List.Pairwise.nil, fun a ha => by cases ha⟩
  | h, a :: r, e => by
    unfold chk1 at e
    split at e
    · contradiction
    · rename_i h1
      simp only [ne_eq, Decidable.not_not] at h1
      obtain ⟨h2, h3⟩ := chk1_rise e
      have h1' := one1_zero.1 h1
      refine ⟨List.Pairwise.cons (fun b hb => (h3 b hb).1) h2, fun b hb => ?_⟩
      rcases List.mem_cons.1 hb with rfl | hb
      · exact ⟨h1'.2.1, one1_zero.2 ⟨h1'.1, h1'.1.1, h1'.2.2⟩⟩
      · exact ⟨Nat.lt_trans h1'.2.1 (h3 b hb).1, (h3 b hb).2⟩
theorem getA_some {c : List Ac} {n : Nat} {a : Ac} (h : getA c n = some a) : a ∈ c ∧ a.code = n := by
  unfold getA at h
  exact ⟨List.mem_of_find?_eq_some h, by simpa using List.find?_some h⟩
theorem getA_none {c : List Ac} {n : Nat} : getA c n = none ↔ ∀ a ∈ c, a.code ≠ n := by
  unfold getA
  rw [List.find?_eq_none]
  simp
theorem RiseA.inj {c : List Ac} (h : RiseA c) {a b : Ac} (ha : a ∈ c) (hb : b ∈ c) (e : a.code = b.code) : a = b := by
  induction c with
  | nil => cases ha
  | cons x r ih =>
    obtain ⟨h1, h2⟩ := List.pairwise_cons.1 h
    rcases List.mem_cons.1 ha with rfl | ha' <;> rcases List.mem_cons.1 hb with rfl | hb'
    · rfl
    · have := h1 b hb'; omega
    · have := h1 a ha'; omega
    · exact ih h2 ha' hb'
theorem getA_mem {c : List Ac} (h : RiseA c) {a : Ac} (ha : a ∈ c) : getA c a.code = some a := by
  cases e : getA c a.code with
  | none => exact absurd rfl (getA_none.1 e a ha)
  | some b => obtain ⟨h1, h2⟩ := getA_some e; rw [h.inj h1 ha h2]
theorem wayF_len (k : Nat) (c : List Ac) (n : Nat) : (wayF k c n).length ≤ k := by
  induction k generalizing n with
  | zero => simp [wayF]
  | succ k ih =>
    unfold wayF
    split
    · simp
    · rename_i a _
      simp only [List.length_cons]
      have := ih a.par
      omega
theorem wayF_some {c : List Ac} {n : Nat} {a : Ac} (e : getA c n = some a) (k : Nat) : wayF (k + 1) c n = n :: wayF k c a.par := by
  simp only [wayF, e]
theorem wayF_none {c : List Ac} {n : Nat} (e : getA c n = none) (k : Nat) : wayF k c n = [] := by
  cases k with
  | zero => rfl
  | succ k => simp only [wayF, e]
/-- A way that ends is the same with more room. -/
theorem wayF_room {k : Nat} {c : List Ac} {n : Nat} (h : (wayF k c n).length < k) : wayF (k + 1) c n = wayF k c n := by
  induction k generalizing n with
  | zero => simp at h
  | succ k ih =>
    cases e : getA c n with
    | none => rw [wayF_none e, wayF_none e]
    | some a =>
      rw [wayF_some e, wayF_some e]
      rw [wayF_some e] at h
      rw [ih (by simpa using h)]
theorem wayF_room' {k m : Nat} {c : List Ac} {n : Nat} (h : (wayF k c n).length < k) : wayF (k + m) c n = wayF k c n := by
  induction m with
  | zero => rfl
  | succ m ih => rw [← Nat.add_assoc, wayF_room (by rw [ih]; omega), ih]
theorem wayF_zero {c : List Ac} (h : ∀ a ∈ c, 0 < a.code) (k : Nat) : wayF k c 0 = [] := by
  exact wayF_none (getA_none.2 fun a ha => by have := h a ha; omega) k
/-- Below: the place of a code in codes that rise. -/
theorem belowA_lt {c : List Ac} (h : RiseA c) : ∀ (i : Nat) (a : Ac), c[i]? = some a → ∀ n, (i < belowA c n ↔ a.code < n) := by
  induction c with
  | nil => intro i a e; simp at e
  | cons x r ih =>
    obtain ⟨h1, h2⟩ := List.pairwise_cons.1 h
    intro i a e n
    unfold belowA
    rw [List.countP_cons]
    have hz : ¬ x.code < n → r.countP (fun a => decide (a.code < n)) = 0 := fun hx => by
      rw [List.countP_eq_zero]
      intro b hb
      have := h1 b hb
      simp; omega
    cases i with
    | zero =>
      simp only [List.getElem?_cons_zero, Option.some.injEq] at e
      subst e
      by_cases hx : x.code < n
      · simp [hx]
      · simp [hx, hz hx]
    | succ i =>
      simp only [List.getElem?_cons_succ] at e
      have ih' := ih h2 i a e n
      unfold belowA at ih'
      have ha : x.code < a.code := h1 a (List.mem_of_getElem? e)
      by_cases hx : x.code < n
      · simp [hx]; exact ih'
      · simp [hx, hz hx]; omega
theorem belowA_le (c : List Ac) (n : Nat) : belowA c n ≤ c.length := List.countP_le_length
end Go.Proofs.YtffhnedladiaoaaGreatDoor
/- The charts that law 6 makes: what they hold. -/
namespace Go.Proofs.YtffhnedladiaoaaGreatDoor
open Go.RowKit
set_option linter.unusedVariables false
set_option linter.unusedSimpArgs false
/-- Four small numbers. -/
structure Qt where
  code : Nat
  kind : Nat
  par : Nat
  name : Nat
  h1 : code < 256
  h2 : kind < 256
  h3 : par < 256
  h4 : name < 256
instance : Inhabited Qt := ⟨⟨0, 0, 0, 0, by omega, by omega, by omega, by omega⟩⟩
def qc (x : Qt) : List Value := [.int .u8 (x.code : Int), .int .u8 (x.kind : Int), .int .u8 (x.par : Int), .int .u8 (x.name : Int)]
theorem qc_len (x : Qt) : (qc x).length = 4 := rfl
/-- The five names. -/
def nm5 : Nat → ByteArray
  | 0 => ⟨#[67, 97, 115, 104]⟩
  | 1 => ⟨#[97]⟩
  | 2 => ⟨#[66, 97, 110, 107, 32, 49]⟩
  | 3 => ⟨#[76, 111, 115, 115, 46, 120]⟩
  | _ => ⟨#[49, 50, 51, 52, 53, 54, 55, 56, 57, 48, 49, 50, 51, 52, 53, 54, 55, 56, 57, 48, 49, 50, 51, 52, 53, 54, 55, 56, 57, 48]⟩
theorem nm5_size : ∀ n, (nm5 n).size ≤ 9223372036854775807
  | 0 => by decide
  | 1 => by decide
  | 2 => by decide
  | 3 => by decide
  | n + 4 => by show (nm5 4).size ≤ _; decide
theorem nm5_ok : ∀ n, nameB (nm5 n).toList = true
  | 0 => by rw [ByteArray.toList_eq]; decide +kernel
  | 1 => by rw [ByteArray.toList_eq]; decide +kernel
  | 2 => by rw [ByteArray.toList_eq]; decide +kernel
  | 3 => by rw [ByteArray.toList_eq]; decide +kernel
  | n + 4 => by show nameB (nm5 4).toList = true; rw [ByteArray.toList_eq]; decide +kernel
/-- A new account, ahead of where it lies. -/
def bareA (n : Nat) (x : Qt) : Ac := ⟨(n + 1 + x.code % 4) % 4294967296, nm5 (x.name % 5), x.kind % 5, 0, Nat.mod_lt _ (by omega), by omega, by omega, nm5_size _⟩
/-- An account within another one. -/
def Ac.inA (a p : Ac) : Ac := ⟨a.code, a.name, p.kind, p.code, a.hc, p.hk, p.hc, a.hn⟩
def newA (c : List Ac) (n : Nat) (x : Qt) : Ac :=
  if 0 < c.length ∧ 0 < x.par % 3 then
    match c[x.par % c.length]? with
    | none => bareA n x
    | some p => if (wayF 13 c p.code).length < 11 then (bareA n x).inA p else bareA n x
  else bareA n x
/-- Behind so many of them: the chart, the last code. -/
def stI (l : List Qt) : Nat → List Ac × Nat
  | 0 => ([], 0)
  | i + 1 => match l[i]? with
    | none => stI l i
    | some x => ((stI l i).1 ++ [newA (stI l i).1 (stI l i).2 x], (stI l i).2 + 1 + x.code % 4)
/-- The chart that is made. -/
def mkC (l : List Qt) : List Ac := (stI l (min 40 l.length)).1
/-- What such a chart holds. -/
structure Made (c : List Ac) (n : Nat) : Prop where
  rise : RiseA c
  pos : ∀ a ∈ c, 0 < a.code ∧ a.code ≤ n
  name : ∀ a ∈ c, nameB a.name.toList = true
  kind : ∀ a ∈ c, a.kind < 5
  up : ∀ a ∈ c, a.par = 0 ∨ ∃ p ∈ c, p.code = a.par ∧ p.kind = a.kind ∧ p.code < a.code
  deep : ∀ a ∈ c, (wayF 13 c a.code).length ≤ 11
theorem wayF_mono (k : Nat) (c : List Ac) (n : Nat) : (wayF k c n).length ≤ (wayF (k + 1) c n).length := by
  induction k generalizing n with
  | zero => simp [wayF]
  | succ k ih =>
    cases e : getA c n with
    | none => rw [wayF_none e, wayF_none e]; exact Nat.le_refl _
    | some a => rw [wayF_some e, wayF_some e]; simp only [List.length_cons]; have := ih a.par; omega
theorem getA_app {c : List Ac} {a : Ac} {n : Nat} (h : ∃ b ∈ c, b.code = n) : getA (c ++ [a]) n = getA c n := by
  unfold getA
  rw [List.find?_append]
  obtain ⟨b, hb, e⟩ := h
  have : (c.find? (fun a => a.code == n)).isSome := by rw [List.find?_isSome]; exact ⟨b, hb, by simp [e]⟩
  obtain ⟨x, hx⟩ := Option.isSome_iff_exists.1 this
  rw [hx]; rfl
theorem wayF_app {c : List Ac} {a : Ac} (hp : ∀ b ∈ c, 0 < b.code) (ha : 0 < a.code) (hu : ∀ b ∈ c, b.par = 0 ∨ ∃ p ∈ c, p.code = b.par) : ∀ (k n : Nat), (n = 0 ∨ ∃ b ∈ c, b.code = n) → wayF k (c ++ [a]) n = wayF k c n
  | 0, n, _ => rfl
  | k + 1, n, h => by
    rcases h with rfl | h
    · rw [wayF_zero hp, wayF_zero]
      intro b hb
      rcases List.mem_append.1 hb with h | h
      · exact hp b h
      · simp at h; subst h; exact ha
    · have e1 := getA_app (a := a) h
      cases e : getA c n with
      | none => rw [wayF_none e, wayF_none (by rw [e1, e])]
      | some b =>
        rw [wayF_some e, wayF_some (by rw [e1, e])]
        rw [wayF_app hp ha hu k b.par (hu b (getA_some e).1)]
theorem Made.nil : Made [] 0 := ⟨List.Pairwise.nil, by simp, by simp, by simp, by simp, by simp⟩
theorem Made.up' {c : List Ac} {n : Nat} (h : Made c n) : ∀ b ∈ c, b.par = 0 ∨ ∃ p ∈ c, p.code = b.par := fun b hb => (h.up b hb).imp id fun ⟨p, h1, h2, _⟩ => ⟨p, h1, h2⟩
/-- With one more behind, in none or in one that is there, not too deep. -/
theorem Made.more {c : List Ac} {n m : Nat} (h : Made c n) {a : Ac} (hn : n < a.code) (hm : a.code ≤ m) (h1 : nameB a.name.toList = true) (h2 : a.kind < 5)
    (h3 : a.par = 0 ∨ ∃ p ∈ c, p.code = a.par ∧ p.kind = a.kind ∧ (wayF 13 c p.code).length < 11) : Made (c ++ [a]) m := by
  have hp : ∀ b ∈ c, 0 < b.code := fun b hb => (h.pos b hb).1
  have ha : 0 < a.code := by omega
  have hw := wayF_app hp ha h.up'
  refine ⟨?_, ?_, ?_, ?_, ?_, ?_⟩
  · refine List.pairwise_append.2 ⟨h.rise, List.pairwise_singleton _ _, fun x hx y hy => ?_⟩
    simp at hy; subst hy
    have := (h.pos x hx).2; omega
  · intro b hb
    rcases List.mem_append.1 hb with hb | hb
    · have := h.pos b hb; omega
    · simp at hb; subst hb; omega
  · intro b hb
    rcases List.mem_append.1 hb with hb | hb
    · exact h.name b hb
    · simp at hb; subst hb; exact h1
  · intro b hb
    rcases List.mem_append.1 hb with hb | hb
    · exact h.kind b hb
    · simp at hb; subst hb; exact h2
  · intro b hb
    rcases List.mem_append.1 hb with hb | hb
    · rcases h.up b hb with e | ⟨p, hp, e1, e2, e3⟩
      · exact .inl e
      · exact .inr ⟨p, List.mem_append_left _ hp, e1, e2, e3⟩
    · simp at hb; subst hb
      rcases h3 with e | ⟨p, hp, e1, e2, e3⟩
      · exact .inl e
      · exact .inr ⟨p, List.mem_append_left _ hp, e1, e2, by have := (h.pos p hp).2; omega⟩
  · intro b hb
    rcases List.mem_append.1 hb with hb | hb
    · rw [hw 13 b.code (.inr ⟨b, hb, rfl⟩)]; exact h.deep b hb
    · simp at hb; subst hb
      have hg : getA (c ++ [b]) b.code = some b := by
        unfold getA
        rw [List.find?_append]
        have : c.find? (fun a => a.code == b.code) = none := getA_none.2 fun x hx e => by have := (h.pos x hx).2; omega
        rw [this]; simp
      rw [wayF_some hg, List.length_cons]
      rcases h3 with e | ⟨p, hpc, e1, e2, e3⟩
      · rw [e, hw 12 0 (.inl rfl), wayF_zero hp]; simp
      · rw [← e1, hw 12 p.code (.inr ⟨p, hpc, rfl⟩)]
        have : (wayF 12 c p.code).length ≤ (wayF 13 c p.code).length := wayF_mono 12 c p.code
        omega
theorem stI_made (l : List Qt) : ∀ i, i ≤ 40 → Made (stI l i).1 (stI l i).2 ∧ (stI l i).2 ≤ 4 * i ∧ (stI l i).1.length ≤ i
  | 0, _ => ⟨Made.nil, by simp [stI], by simp [stI]⟩
  | i + 1, hi => by
    obtain ⟨h1, h2, h3⟩ := stI_made l i (by omega)
    unfold stI
    split
    · exact ⟨h1, by omega, by omega⟩
    · rename_i x hx
      have hx4 : x.code % 4 < 4 := Nat.mod_lt _ (by omega)
      have hcode : (bareA (stI l i).2 x).code = (stI l i).2 + 1 + x.code % 4 := by unfold bareA; simp only; omega
      have hbare : Made ((stI l i).1 ++ [bareA (stI l i).2 x]) ((stI l i).2 + 1 + x.code % 4) := h1.more (by omega) (by omega) (nm5_ok _) (Nat.mod_lt _ (by omega)) (.inl rfl)
      refine ⟨?_, by simp only; omega, by simp only [List.length_append, List.length_cons, List.length_nil]; omega⟩
      unfold newA
      split
      · split
        · exact hbare
        · rename_i p hp
          split
          · rename_i hd
            have hpm : p ∈ (stI l i).1 := List.mem_of_getElem? hp
            exact h1.more (by show _ < (bareA (stI l i).2 x).code; omega) (by show (bareA (stI l i).2 x).code ≤ _; omega) (nm5_ok _) (h1.kind p hpm) (.inr ⟨p, hpm, rfl, rfl, hd⟩)
          · exact hbare
      · exact hbare
theorem mkC_made (l : List Qt) : Made (mkC l) 160 ∧ (mkC l).length ≤ 40 := by
  obtain ⟨h1, h2, h3⟩ := stI_made l (min 40 l.length) (by omega)
  refine ⟨?_, by unfold mkC; omega⟩
  exact ⟨h1.rise, fun a ha => by have := h1.pos a ha; omega, h1.name, h1.kind, h1.up, h1.deep⟩
theorem chk1_zero : ∀ {h : Nat} {c : List Ac}, RiseA c → (∀ a ∈ c, h < a.code ∧ one1 0 a = 0) → chk1 h c = 0
  | _, [], _, _ => rfl
  | h, a :: r, hr, ha => by
    obtain ⟨h1, h2⟩ := List.pairwise_cons.1 hr
    obtain ⟨g1, g2⟩ := ha a (List.mem_cons_self ..)
    have g3 := one1_zero.1 g2
    have e : one1 h a = 0 := one1_zero.2 ⟨g3.1, g1, g3.2.2⟩
    unfold chk1
    rw [e]
    simp only [ne_eq, not_true_eq_false, if_false]
    exact chk1_zero h2 fun b hb => ⟨h1 b hb, (ha b (List.mem_cons_of_mem _ hb)).2⟩
theorem chk2_zero {c : List Ac} : ∀ {r : List Ac}, (∀ a ∈ r, one2 c a = 0) → chk2 c r = 0
  | [], _ => rfl
  | a :: r, h => by
    unfold chk2
    rw [h a (List.mem_cons_self ..)]
    simp only [ne_eq, not_true_eq_false, if_false]
    exact chk2_zero fun b hb => h b (List.mem_cons_of_mem _ hb)
theorem Made.chk {c : List Ac} {n : Nat} (h : Made c n) (hn : n ≤ 999999) (hl : c.length ≤ 200) : chkA c = 0 := by
  have e1 : chk1 0 c = 0 := chk1_zero h.rise fun a ha => ⟨(h.pos a ha).1, one1_zero.2 ⟨⟨(h.pos a ha).1, by have := (h.pos a ha).2; omega⟩, (h.pos a ha).1, h.name a ha, h.kind a ha⟩⟩
  have e2 : chk2 c c = 0 := chk2_zero fun a ha => by
    unfold one2
    split
    · rfl
    · rename_i h0
      rcases h.up a ha with e | ⟨p, hp, e1, e2, e3⟩
      · contradiction
      · rw [← e1, getA_mem h.rise hp]
        simp only
        rw [if_neg (by omega), if_neg (by have := h.deep a ha; omega)]
  unfold chkA
  rw [if_neg (by omega), e1, e2]; simp
theorem mkC_chk (l : List Qt) : chkA (mkC l) = 0 := (mkC_made l).1.chk (by omega) (by have := (mkC_made l).2; omega)
/-- Each code on a way is at most that of its first; each is there, of its kind. -/
theorem Made.on_way {c : List Ac} {n : Nat} (h : Made c n) : ∀ (k : Nat) (a : Ac), a ∈ c → ∀ m ∈ wayF k c a.code, m ≤ a.code ∧ ∃ b ∈ c, b.code = m ∧ b.kind = a.kind
  | 0, a, _, m, hm => by simp [wayF] at hm
  | k + 1, a, ha, m, hm => by
    rw [wayF_some (getA_mem h.rise ha)] at hm
    rcases List.mem_cons.1 hm with rfl | hm
    · exact ⟨Nat.le_refl _, a, ha, rfl, rfl⟩
    · rcases h.up a ha with e | ⟨p, hp, e1, e2, e3⟩
      · rw [e, wayF_zero fun b hb => (h.pos b hb).1] at hm; cases hm
      · rw [← e1] at hm
        obtain ⟨g1, b, g2, g3, g4⟩ := h.on_way k p hp m hm
        exact ⟨by omega, b, g2, g3, by rw [g4, e2]⟩
/-- The way of what lies in another one goes on by that one's. -/
theorem Made.way_par {c : List Ac} {n : Nat} (h : Made c n) {a : Ac} (ha : a ∈ c) : wayF 13 c a.code = a.code :: wayF 13 c a.par := by
  have e := wayF_some (getA_mem h.rise ha) 12
  rw [e]
  congr 1
  have hd := h.deep a ha
  rw [e, List.length_cons] at hd
  exact (wayF_room (by omega)).symm
end Go.Proofs.YtffhnedladiaoaaGreatDoor
/- Slices of records in memory, whatever the record: what a call owns, parts of one, one that came in. -/
namespace Go.Proofs.YtffhnedladiaoaaGreatDoor
open Go.RowKit
set_option linter.unusedVariables false
set_option linter.unusedSimpArgs false
section
variable {α : Type}
/-- A slice of records of k cells each, in memory that is there. -/
def Recs (enc : α → List Value) (k : Nat) (w : World) (v : Value) (xs : List α) : Prop :=
  (∃ r cap, v = .slice r 0 cap ∧ xs = []) ∨ ∃ g off cap, v = .slice (some ⟨g, off, none⟩) xs.length cap ∧ g < w.heap.size ∧ xs.length ≤ 9223372036854775807 ∧ xs.length ≤ cap ∧
    ∀ i x, xs[i]? = some x → ∀ j u, (enc x)[j]? = some u → w.cell? ⟨g, off + i * k + j, none⟩ = some u
theorem Recs.stay {enc : α → List Value} {k : Nat} {w w' : World} {v : Value} {xs : List α} (h : Recs enc k w v xs) (hb : Below w.heap.size w w') : Recs enc k w' v xs := by
  rcases h with h | ⟨g, off, cap, h1, h2, h3, h4, h5⟩
  · exact .inl h
  · exact .inr ⟨g, off, cap, h1, Nat.lt_of_lt_of_le h2 hb.size, h3, h4, fun i x hx j u hu => by rw [hb.cell (p := ⟨g, off + i * k + j, none⟩) h2]; exact h5 i x hx j u hu⟩
/-- The cells of a row of records of one length. -/
theorem flat_get {enc : α → List Value} {k : Nat} (hk : ∀ x, (enc x).length = k) : ∀ {xs : List α} {i j : Nat} {x : α} {u : Value}, xs[i]? = some x → (enc x)[j]? = some u → (xs.flatMap enc)[i * k + j]? = some u
  | [], i, j, x, u, h, _ => by simp at h
  | y :: r, 0, j, x, u, h, hu => by
    simp only [List.getElem?_cons_zero, Option.some.injEq] at h
    subst h
    have hj : j < (enc y).length := (List.getElem?_eq_some_iff.1 hu).1
    rw [List.flatMap_cons, Nat.zero_mul, Nat.zero_add, List.getElem?_append_left hj]
    exact hu
  | y :: r, i + 1, j, x, u, h, hu => by
    simp only [List.getElem?_cons_succ] at h
    rw [List.flatMap_cons, List.getElem?_append_right (by rw [hk, Nat.add_mul]; omega), hk, show (i + 1) * k + j - k = i * k + j by rw [Nat.add_mul]; omega]
    exact flat_get hk h hu
theorem flat_len {enc : α → List Value} {k : Nat} (hk : ∀ x, (enc x).length = k) : ∀ xs : List α, (xs.flatMap enc).length = xs.length * k
  | [] => by simp
  | y :: r => by rw [List.flatMap_cons, List.length_append, hk, flat_len hk r, List.length_cons, Nat.add_mul]; omega
end
theorem box_cell (w : World) (c : Array Value) (T : TypeId) (j : Nat) (v : Value) (hv : c[j]? = some v) : (w.alloc (.cells c T)).cell? ⟨w.heap.size, j, none⟩ = some v := by simp [hv]
/-- The record at an index: its slice's address, its cells. -/
theorem Recs.at {α : Type} {enc : α → List Value} {k : Nat} {w : World} {r : Option Addr} {n cap : Nat} {xs : List α} (h : Recs enc k w (.slice r n cap) xs) {i : Nat} {x : α} (hx : xs[i]? = some x) :
    ∃ g off, r = some ⟨g, off, none⟩ ∧ g < w.heap.size ∧ ∀ j u, (enc x)[j]? = some u → w.cell? ⟨g, off + i * k + j, none⟩ = some u := by
  rcases h with ⟨r', cap', h1, h2⟩ | ⟨g, off, cap', h1, h2, h3, h4, h5⟩
  · rw [h2] at hx; simp at hx
  · cases h1
    exact ⟨g, off, rfl, h2, fun j u hu => h5 i x hx j u hu⟩
theorem Recs.form {α : Type} {enc : α → List Value} {k : Nat} {w : World} {v : Value} {xs : List α} (h : Recs enc k w v xs) : ∃ r cap, v = .slice r xs.length cap ∧ xs.length ≤ 9223372036854775807 := by
  rcases h with ⟨r', cap', h1, h2⟩ | ⟨g, off, cap', h1, h2, h3, h4, h5⟩
  · rw [h2]; exact ⟨r', cap', h1, by simp⟩
  · exact ⟨_, cap', h1, h3⟩
theorem flat_one {α : Type} {enc : α → List Value} (h : ∀ x, ∀ v ∈ enc x, v.oneCell' = true) (xs : List α) : ∀ v ∈ xs.flatMap enc, v.oneCell' = true := fun v hv => by
  obtain ⟨x, _, hx⟩ := List.mem_flatMap.1 hv
  exact h x v hx
/-- All cells of a row of records, one after another. -/
theorem recs_flat {α : Type} {enc : α → List Value} {k : Nat} (hk : ∀ x, (enc x).length = k) (hk0 : 0 < k) {w : World} {g off n cap : Nat} {xs : List α} (h : Recs enc k w (.slice (some ⟨g, off, none⟩) n cap) xs) : ∀ j u, (xs.flatMap enc)[j]? = some u → w.cell? ⟨g, off + j, none⟩ = some u := by
  intro j u hu
  have hj : j < xs.length * k := by have := (List.getElem?_eq_some_iff.1 hu).1; rwa [flat_len hk] at this
  have hi : j / k < xs.length := (Nat.div_lt_iff_lt_mul hk0).2 hj
  have hm : j % k < k := Nat.mod_lt _ hk0
  have ex : xs[j / k]? = some xs[j / k] := List.getElem?_eq_getElem hi
  have hl : j % k < (enc xs[j / k]).length := by rw [hk]; exact hm
  have eu : (enc xs[j / k])[j % k]? = some (enc xs[j / k])[j % k] := List.getElem?_eq_getElem hl
  have hf := flat_get hk ex eu
  have hd : j / k * k + j % k = j := by rw [Nat.mul_comm]; exact Nat.div_add_mod j k
  rw [hd, hu] at hf
  obtain ⟨g', off', e, _, hc⟩ := h.at ex
  cases e
  have := hc _ _ eu
  rw [Nat.add_assoc, hd] at this
  rw [this, hf]
theorem grownBy_below {w w' : World} {m B : Nat} (hg : w.grownBy w' (some m)) (hB : B ≤ m) (hw : B ≤ w.heap.size) : Below B w w' := (Below.refl B w).grown hg hw (fun k hk => by cases hk; exact hB)
/-- A row that a call owns, read as records. -/
theorem recs_of_owns {α : Type} {enc : α → List Value} {k : Nat} (hk : ∀ x, (enc x).length = k) {w : World} {base n : Nat} {e : TypeId} {v : Value} {xs : List α} (h : w.ownsRow base e k v n (xs.flatMap enc)) (hn : n = xs.length) (hm : n ≤ 1000) : Recs enc k w v xs := by
  have hcl := h.lt
  rcases h.2 with ⟨rfl, h0⟩ | ⟨g, cap, cur, rfl, hb, hg, hnc, hcm, _⟩
  · have : xs = [] := List.eq_nil_of_length_eq_zero (by omega)
    subst this
    exact .inl ⟨_, _, rfl, rfl⟩
  · have hc := h.cells (g := g) rfl
    refine .inr ⟨g, 0, cap, by rw [hn], (hcl g rfl).2, by omega, by omega, fun i x hx j u hu => ?_⟩
    have := hc _ _ (flat_get hk hx hu)
    rw [Nat.zero_add]
    have e0 : (⟨g, 0, none⟩ : Addr).add (i * k + j) = ⟨g, i * k + j, none⟩ := by simp [Addr.add]; intro h1 h2; omega
    rw [e0] at this
    exact this
theorem Recs.drop {α : Type} {enc : α → List Value} {k : Nat} {w : World} {g off n cap : Nat} {xs : List α} (h : Recs enc k w (.slice (some ⟨g, off, none⟩) n cap) xs) (hg : g < w.heap.size) (hn : n = xs.length) (hc : n ≤ cap) (hm : n ≤ 1000) (i : Nat) (hi : i ≤ n) : Recs enc k w (.slice (some ⟨g, off + i * k, none⟩) (n - i) (cap - i)) (xs.drop i) := by
  refine .inr ⟨g, off + i * k, cap - i, by rw [List.length_drop, hn], hg, by rw [List.length_drop]; omega, by rw [List.length_drop]; omega, fun j x hx l u hu => ?_⟩
  rw [List.getElem?_drop] at hx
  obtain ⟨g', off', e, _, hcc⟩ := h.at hx
  cases e
  have := hcc l u hu
  rw [Nat.add_mul] at this
  rw [show off + i * k + j * k + l = off + (i * k + j * k) + l by omega]
  exact this
theorem Recs.take {α : Type} {enc : α → List Value} {k : Nat} {w : World} {g off n cap : Nat} {xs : List α} (h : Recs enc k w (.slice (some ⟨g, off, none⟩) n cap) xs) (hg : g < w.heap.size) (hn : n = xs.length) (hc : n ≤ cap) (hm : n ≤ 1000) (i : Nat) (hi : i ≤ n) : Recs enc k w (.slice (some ⟨g, off, none⟩) i cap) (xs.take i) := by
  have hl : (xs.take i).length = i := by rw [List.length_take]; omega
  refine .inr ⟨g, off, cap, by rw [hl], hg, by rw [hl]; omega, by rw [hl]; omega, fun j x hx l u hu => ?_⟩
  have hx' : xs[j]? = some x := by
    rw [List.getElem?_take] at hx
    split at hx
    · exact hx
    · cases hx
  obtain ⟨g', off', e, _, hcc⟩ := h.at hx'
  cases e
  exact hcc l u hu
theorem Recs.grown {α : Type} {enc : α → List Value} {k : Nat} {w w' : World} {g o n cap m : Nat} {xs : List α} (h : Recs enc k w (.slice (some ⟨g, o, none⟩) n cap) xs) (hg : w.grownBy w' (some m)) (hne : g ≠ m) : Recs enc k w' (.slice (some ⟨g, o, none⟩) n cap) xs := by
  rcases h with ⟨r', cap', h1, h2⟩ | ⟨g', off, cap', h1, h2, h3, h4, h5⟩
  · exact .inl ⟨r', cap', h1, h2⟩
  · cases h1
    exact .inr ⟨g, o, cap, rfl, Nat.lt_of_lt_of_le h2 hg.size, h3, h4, fun i x hx j u hu => hg.cell (h5 i x hx j u hu) (fun e => hne (Option.some.inj e))⟩
theorem owns_form {w : World} {base : Nat} {e : TypeId} {size : Nat} {v : Value} {n : Nat} {xs : List Value} (h : w.ownsRow base e size v n xs) : ∃ r cap, v = .slice r n cap := by
  rcases h.2 with ⟨rfl, h0⟩ | ⟨g, cap, cur, rfl, _⟩
  · subst h0; exact ⟨_, _, rfl⟩
  · exact ⟨_, _, rfl⟩
theorem cells_new (w : World) (cs : List Value) (T : TypeId) : ∀ j u, cs[j]? = some u → (w.alloc (.cells cs.toArray T)).cell? ((⟨w.heap.size, 0, none⟩ : Addr).add j) = some u := fun j u hu => by
  have e : (⟨w.heap.size, 0, none⟩ : Addr).add j = ⟨w.heap.size, j, none⟩ := by unfold Addr.add; split <;> simp_all
  rw [e]
  exact box_cell w cs.toArray T j u (by simpa using hu)
theorem flat_snoc {α : Type} (enc : α → List Value) (xs : List α) (x : α) : (xs ++ [x]).flatMap enc = xs.flatMap enc ++ enc x := by simp
end Go.Proofs.YtffhnedladiaoaaGreatDoor
/- Rows of one's own: apart from one another, in a world that has grown; blocks known whole. -/
namespace Go.Proofs.YtffhnedladiaoaaGreatDoor
open Go.RowKit
set_option linter.unusedVariables false
set_option linter.unusedSimpArgs false
theorem owns_below {w w' : World} {base : Nat} {e : TypeId} {size : Nat} {v : Value} {n : Nat} {xs : List Value} (h : w.ownsRow base e size v n xs) (hb : Below w.heap.size w w') : w'.ownsRow base e size v n xs :=
  h.kept (row := none) ⟨hb.os, hb.tape, hb.output, hb.size, fun k hk _ => hb.block k hk⟩ (by
    cases hv : v.ownBlock with
    | none => exact .inl rfl
    | some k => exact .inr (by simp))
theorem owns_far {w : World} {base : Nat} {e : TypeId} {size : Nat} {r : Option Addr} {n cap m : Nat} {xs : List Value} (h : w.ownsRow base e size (.slice r n cap) n xs) (hm : m < base ∨ w.heap.size ≤ m) : (Value.slice r n cap).ownBlock ≠ some m := fun e => by
  have := h.lt m e
  omega
theorem owns_mono {w : World} {base base' : Nat} {e : TypeId} {size : Nat} {v : Value} {n : Nat} {xs : List Value} (h : w.ownsRow base e size v n xs) (hb : base' ≤ base) : w.ownsRow base' e size v n xs := by
  refine ⟨h.1, ?_⟩
  rcases h.2 with h0 | ⟨g, cap, cur, h1, h2, h3⟩
  · exact .inl h0
  · exact .inr ⟨g, cap, cur, h1, Nat.le_trans hb h2, h3⟩
theorem owns_type_far {w : World} {base : Nat} {e T : TypeId} {size : Nat} {r : Option Addr} {n cap g : Nat} {xs : List Value} {c : Array Value} (h : w.ownsRow base e size (.slice r n cap) n xs) (hg : w.heap[g]? = some (.cells c T (0, 0))) (hne : e ≠ T) : (Value.slice r n cap).ownBlock ≠ some g := fun he => by
  rcases h.2 with ⟨h1, _⟩ | ⟨k, cp, cur, h1, _, h2, _⟩
  · cases h1; cases he
  · cases h1
    cases he
    rw [h2] at hg
    injection hg with hg
    injection hg with _ h3
    exact hne h3
/-- A box that is only read. -/
structure RBox (w : World) (b : Nat) (cs : List Value) : Prop where
  size : b < w.heap.size
  at_ : ∀ j v, cs[j]? = some v → w.cell? ⟨b, j, none⟩ = some v
theorem RBox.new (w : World) (cs : List Value) (T : TypeId) : RBox (w.alloc (.cells cs.toArray T)) w.heap.size cs :=
  ⟨by simp, fun j v h => box_cell w _ T j v (by simpa using h)⟩
theorem RBox.stay {w w' : World} {b : Nat} {cs : List Value} (h : RBox w b cs) (hb : Below w.heap.size w w') : RBox w' b cs :=
  ⟨Nat.lt_of_lt_of_le h.size hb.size, fun j v hj => (hb.cell (p := ⟨b, j, none⟩) h.size).trans (h.at_ j v hj)⟩
theorem RBox.alloc {w : World} {b : Nat} {cs : List Value} (h : RBox w b cs) (o : Obj) : RBox (w.alloc o) b cs := h.stay ((Below.refl _ _).alloc (Nat.le_refl _) o)
/-- A block known whole. -/
def HBox (w : World) (b : Nat) (cs : List Value) (T : TypeId) : Prop := w.heap[b]? = some (.cells cs.toArray T (0, 0))
theorem HBox.new (w : World) (cs : List Value) (T : TypeId) : HBox (w.alloc (.cells cs.toArray T)) w.heap.size cs T := heap_alloc_new w _
theorem HBox.size {w : World} {b : Nat} {cs : List Value} {T : TypeId} (h : HBox w b cs T) : b < w.heap.size := (Array.getElem?_eq_some_iff.1 h).1
theorem HBox.cell {w : World} {b : Nat} {cs : List Value} {T : TypeId} (h : HBox w b cs T) {j : Nat} {v : Value} (hj : cs[j]? = some v) : w.cell? ⟨b, j, none⟩ = some v := by
  have h' : w.heap[b]? = some (.cells cs.toArray T (0, 0)) := h
  simp [World.cell?, h', hj]
theorem HBox.frozen {w : World} {b : Nat} {cs : List Value} {T : TypeId} (h : HBox w b cs T) (j : Nat) : w.frozen? ⟨b, j, none⟩ = false := by
  have h' : w.heap[b]? = some (.cells cs.toArray T (0, 0)) := h
  simp [World.frozen?, h']
theorem HBox.stay {w w' : World} {b : Nat} {cs : List Value} {T : TypeId} (h : HBox w b cs T) (hb : Below w.heap.size w w') : HBox w' b cs T := (hb.block b h.size).trans h
theorem HBox.alloc {w : World} {b : Nat} {cs : List Value} {T : TypeId} (h : HBox w b cs T) (o : Obj) : HBox (w.alloc o) b cs T := h.stay ((Below.refl _ _).alloc (Nat.le_refl _) o)
theorem HBox.grown {w w' : World} {b : Nat} {cs : List Value} {T : TypeId} {row : Option Nat} (h : HBox w b cs T) (hg : w.grownBy w' row) (hne : some b ≠ row) : HBox w' b cs T := (hg.block b h.size hne).trans h
theorem HBox.set {w : World} {b : Nat} {cs : List Value} {T : TypeId} (h : HBox w b cs T) (j : Nat) (u : Value) : HBox (w.setCell ⟨b, j, none⟩ u) b (cs.set j u) T := by
  have h' : w.heap[b]? = some (.cells cs.toArray T (0, 0)) := h
  unfold HBox
  simp only [World.setCell, Array.getElem?_modify, h', if_true]
  simp
theorem HBox.far {w : World} {b : Nat} {cs : List Value} {T e : TypeId} {base size : Nat} {r : Option Addr} {n cap : Nat} {xs : List Value} (h : HBox w b cs T) (ho : w.ownsRow base e size (.slice r n cap) n xs) (hne : e ≠ T) : (Value.slice r n cap).ownBlock ≠ some b := owns_type_far ho h hne
/-- Two rows of unlike types are apart. -/
theorem owns_apart {w : World} {base base' : Nat} {e e' : TypeId} {size size' : Nat} {v v' : Value} {n n' : Nat} {xs xs' : List Value} (h : w.ownsRow base e size v n xs) (h' : w.ownsRow base' e' size' v' n' xs') (hne : e ≠ e') : v.ownBlock = none ∨ v.ownBlock ≠ v'.ownBlock := by
  rcases h.2 with ⟨h1, _⟩ | ⟨k, cp, cur, h1, _, h2, _⟩
  · subst h1; exact .inl rfl
  · subst h1
    refine .inr ?_
    rcases h'.2 with ⟨g1, _⟩ | ⟨k', cp', cur', g1, _, g2, _⟩
    · subst g1
      intro he
      cases he
    · subst g1
      intro he
      have e : k = k' := Option.some.inj he
      subst e
      rw [h2] at g2
      injection g2 with g2
      injection g2 with _ h3
      exact hne h3
theorem grownBy_set (w : World) (a : Addr) (u : Value) : w.grownBy (w.setCell a u) (some a.block) :=
  ⟨rfl, rfl, rfl, by simp, fun k hk hne => by
    have h : k ≠ a.block := fun e => hne (by rw [e])
    simp only [World.setCell, Array.getElem?_modify]
    rw [if_neg (fun e => h e.symm)]⟩
theorem RBox.grown {w w' : World} {b : Nat} {cs : List Value} {row : Option Nat} (h : RBox w b cs) (hg : w.grownBy w' row) (hne : some b ≠ row) : RBox w' b cs :=
  ⟨Nat.lt_of_lt_of_le h.size hg.size, fun j v hj => (World.cell?_of_block (a := ⟨b, j, none⟩) (hg.block b h.size hne)).trans (h.at_ j v hj)⟩
theorem grown_sets (w : World) (b : Nat) (d0 d1 d2 d3 : Value) : w.grownBy ((((w.setCell ⟨b, 0, none⟩ d0).setCell ⟨b, 1, none⟩ d1).setCell ⟨b, 2, none⟩ d2).setCell ⟨b, 3, none⟩ d3) (some b) :=
  (((grownBy_set w ⟨b, 0, none⟩ d0).trans (grownBy_set _ ⟨b, 1, none⟩ d1)).trans (grownBy_set _ ⟨b, 2, none⟩ d2)).trans (grownBy_set _ ⟨b, 3, none⟩ d3)
theorem owns_box_far {w : World} {base g : Nat} {e T : TypeId} {size n : Nat} {v : Value} {xs cs : List Value} (h : w.ownsRow base e size v n xs) (hg : HBox w g cs T) (hne : e ≠ T) : v.ownBlock = none ∨ v.ownBlock ≠ some g := by
  obtain ⟨r, cap, rfl⟩ := owns_form h
  exact .inr (owns_type_far h hg hne)
theorem HBox.set5 {w : World} {b : Nat} {c0 c1 c2 c3 c4 : Value} {T : TypeId} (h : HBox w b [c0, c1, c2, c3, c4] T) (d0 d1 d2 d3 d4 : Value) : HBox (((((w.setCell ⟨b, 0, none⟩ d0).setCell ⟨b, 1, none⟩ d1).setCell ⟨b, 2, none⟩ d2).setCell ⟨b, 3, none⟩ d3).setCell ⟨b, 4, none⟩ d4) b [d0, d1, d2, d3, d4] T :=
  ((((h.set 0 d0).set 1 d1).set 2 d2).set 3 d3).set 4 d4
theorem grown_sets5 (w : World) (b : Nat) (d0 d1 d2 d3 d4 : Value) : w.grownBy (((((w.setCell ⟨b, 0, none⟩ d0).setCell ⟨b, 1, none⟩ d1).setCell ⟨b, 2, none⟩ d2).setCell ⟨b, 3, none⟩ d3).setCell ⟨b, 4, none⟩ d4) (some b) :=
  (grown_sets w b d0 d1 d2 d3).trans (grownBy_set _ ⟨b, 4, none⟩ d4)
end Go.Proofs.YtffhnedladiaoaaGreatDoor

/- Accounts and charts in plain words: find, ways, what may be, what the law's charts are made of. -/
import Derived.WalkKit
import Derived.Carry
import Derived.Deep.Slices
import Derived.Laws.OwnMore
import Derived.Deep.Heap
import Derived.Maps.AppendAt
namespace Go.Proofs.YtffhnedladiaoaaGreatDoor
open Go.RowKit
set_option linter.unusedVariables false
set_option linter.unusedSimpArgs false
/-- An account. -/
structure Ac where
  code : Nat
  name : ByteArray
  kind : Nat
  par : Nat
  hc : code < 4294967296
  hk : kind < 256
  hp : par < 4294967296
  hn : name.size ≤ 9223372036854775807
theorem Ac.eq_of {x y : Ac} (h1 : x.code = y.code) (h2 : x.name = y.name) (h3 : x.kind = y.kind) (h4 : x.par = y.par) : x = y := by
  obtain ⟨a, e, p, q, _, _, _, _⟩ := x
  obtain ⟨a', e', p', q', _, _, _, _⟩ := y
  simp only at h1 h2 h3 h4
  subst h1 h2 h3 h4
  rfl
instance : Inhabited Ac := ⟨⟨0, ⟨#[]⟩, 0, 0, by omega, by omega, by omega, by decide⟩⟩
/-- An account's cells; as a value. -/
def cc (x : Ac) : List Value := [.int .u32 (x.code : Int), .string x.name, .int .u8 (x.kind : Int), .int .u32 (x.par : Int)]
def cv (x : Ac) : Value := .agg #[.int .u32 (x.code : Int), .string x.name, .int .u8 (x.kind : Int), .int .u32 (x.par : Int)]
/-- Are two accounts alike? -/
def sameA (x y : Ac) : Bool := x.code == y.code && (x.name.toList == y.name.toList && (x.kind == y.kind && x.par == y.par))
theorem toList_inj {a b : ByteArray} (h : a.toList = b.toList) : a = b := by
  rw [ByteArray.toList_eq, ByteArray.toList_eq] at h
  obtain ⟨⟨x⟩⟩ := a
  obtain ⟨⟨y⟩⟩ := b
  simp only at h
  subst h
  rfl
theorem sameA_iff {x y : Ac} : sameA x y = true ↔ x = y := by
  unfold sameA
  simp only [Bool.and_eq_true, beq_iff_eq]
  exact ⟨fun ⟨h1, h2, h3, h4⟩ => Ac.eq_of h1 (toList_inj h2) h3 h4, fun h => by subst h; simp⟩
instance : DecidableEq Ac := fun x y => if h : sameA x y = true then .isTrue (sameA_iff.1 h) else .isFalse fun e => h (sameA_iff.2 e)
/-- The account of a code. -/
def getA (c : List Ac) (n : Nat) : Option Ac := c.find? (fun a => a.code == n)
/-- Codes rise. -/
def RiseA (c : List Ac) : Prop := c.Pairwise (fun a b => a.code < b.code)
/-- A way, of so many at most. -/
def wayF : Nat → List Ac → Nat → List Nat
  | 0, _, _ => []
  | k + 1, c, n => match getA c n with
    | none => []
    | some a => n :: wayF k c a.par
/-- May a character stand in a name? -/
def signB (b : UInt8) : Bool := (decide (97 ≤ b.toNat) && decide (b.toNat ≤ 122)) || (decide (65 ≤ b.toNat) && decide (b.toNat ≤ 90)) || (decide (48 ≤ b.toNat) && decide (b.toNat ≤ 57)) || b.toNat == 32 || b.toNat == 46
/-- May it be a name? -/
def nameB (l : List UInt8) : Bool := decide (0 < l.length) && decide (l.length < 31) && l.all signB && !(l.headD 0 == 32) && !(l.getLastD 0 == 32)
theorem getA_some {c : List Ac} {n : Nat} {a : Ac} (h : getA c n = some a) : a ∈ c ∧ a.code = n := by
  unfold getA at h
  exact ⟨List.mem_of_find?_eq_some h, by simpa using List.find?_some h⟩
theorem getA_none {c : List Ac} {n : Nat} : getA c n = none ↔ ∀ a ∈ c, a.code ≠ n := by
  unfold getA
  rw [List.find?_eq_none]
  simp
theorem RiseA.inj {c : List Ac} (h : RiseA c) {a b : Ac} (ha : a ∈ c) (hb : b ∈ c) (e : a.code = b.code) : a = b := by
  induction c with
  | nil => cases ha
  | cons x r ih =>
    obtain ⟨h1, h2⟩ := List.pairwise_cons.1 h
    rcases List.mem_cons.1 ha with rfl | ha' <;> rcases List.mem_cons.1 hb with rfl | hb'
    · rfl
    · have := h1 b hb'; omega
    · have := h1 a ha'; omega
    · exact ih h2 ha' hb'
theorem wayF_some {c : List Ac} {n : Nat} {a : Ac} (e : getA c n = some a) (k : Nat) : wayF (k + 1) c n = n :: wayF k c a.par := by
  simp only [wayF, e]
theorem wayF_none {c : List Ac} {n : Nat} (e : getA c n = none) (k : Nat) : wayF k c n = [] := by
  cases k with
  | zero => rfl
  | succ k => simp only [wayF, e]
theorem wayF_zero {c : List Ac} (h : ∀ a ∈ c, 0 < a.code) (k : Nat) : wayF k c 0 = [] := by
  exact wayF_none (getA_none.2 fun a ha => by have := h a ha; omega) k
end Go.Proofs.YtffhnedladiaoaaGreatDoor
/- The charts that law 6 makes: what they hold. -/
namespace Go.Proofs.YtffhnedladiaoaaGreatDoor
open Go.RowKit
set_option linter.unusedVariables false
set_option linter.unusedSimpArgs false
/-- Four small numbers. -/
structure Qt where
  code : Nat
  kind : Nat
  par : Nat
  name : Nat
  h1 : code < 256
  h2 : kind < 256
  h3 : par < 256
  h4 : name < 256
instance : Inhabited Qt := ⟨⟨0, 0, 0, 0, by omega, by omega, by omega, by omega⟩⟩
/-- The five names. -/
def nm5 : Nat → ByteArray
  | 0 => ⟨#[67, 97, 115, 104]⟩
  | 1 => ⟨#[97]⟩
  | 2 => ⟨#[66, 97, 110, 107, 32, 49]⟩
  | 3 => ⟨#[76, 111, 115, 115, 46, 120]⟩
  | _ => ⟨#[49, 50, 51, 52, 53, 54, 55, 56, 57, 48, 49, 50, 51, 52, 53, 54, 55, 56, 57, 48, 49, 50, 51, 52, 53, 54, 55, 56, 57, 48]⟩
/-- What such a chart holds. -/
structure Made (c : List Ac) (n : Nat) : Prop where
  rise : RiseA c
  pos : ∀ a ∈ c, 0 < a.code ∧ a.code ≤ n
  name : ∀ a ∈ c, nameB a.name.toList = true
  kind : ∀ a ∈ c, a.kind < 5
  up : ∀ a ∈ c, a.par = 0 ∨ ∃ p ∈ c, p.code = a.par ∧ p.kind = a.kind ∧ p.code < a.code
  deep : ∀ a ∈ c, (wayF 13 c a.code).length ≤ 11
theorem wayF_mono (k : Nat) (c : List Ac) (n : Nat) : (wayF k c n).length ≤ (wayF (k + 1) c n).length := by
  induction k generalizing n with
  | zero => simp [wayF]
  | succ k ih =>
    cases e : getA c n with
    | none => rw [wayF_none e, wayF_none e]; exact Nat.le_refl _
    | some a => rw [wayF_some e, wayF_some e]; simp only [List.length_cons]; have := ih a.par; omega
theorem getA_app {c : List Ac} {a : Ac} {n : Nat} (h : ∃ b ∈ c, b.code = n) : getA (c ++ [a]) n = getA c n := by
  unfold getA
  rw [List.find?_append]
  obtain ⟨b, hb, e⟩ := h
  have : (c.find? (fun a => a.code == n)).isSome := by rw [List.find?_isSome]; exact ⟨b, hb, by simp [e]⟩
  obtain ⟨x, hx⟩ := Option.isSome_iff_exists.1 this
  rw [hx]; rfl
theorem wayF_app {c : List Ac} {a : Ac} (hp : ∀ b ∈ c, 0 < b.code) (ha : 0 < a.code) (hu : ∀ b ∈ c, b.par = 0 ∨ ∃ p ∈ c, p.code = b.par) : ∀ (k n : Nat), (n = 0 ∨ ∃ b ∈ c, b.code = n) → wayF k (c ++ [a]) n = wayF k c n
  | 0, n, _ => rfl
  | k + 1, n, h => by
    rcases h with rfl | h
    · rw [wayF_zero hp, wayF_zero]
      intro b hb
      rcases List.mem_append.1 hb with h | h
      · exact hp b h
      · simp at h; subst h; exact ha
    · have e1 := getA_app (a := a) h
      cases e : getA c n with
      | none => rw [wayF_none e, wayF_none (by rw [e1, e])]
      | some b =>
        rw [wayF_some e, wayF_some (by rw [e1, e])]
        rw [wayF_app hp ha hu k b.par (hu b (getA_some e).1)]
theorem Made.nil : Made [] 0 := ⟨List.Pairwise.nil, by simp, by simp, by simp, by simp, by simp⟩
theorem Made.up' {c : List Ac} {n : Nat} (h : Made c n) : ∀ b ∈ c, b.par = 0 ∨ ∃ p ∈ c, p.code = b.par := fun b hb => (h.up b hb).imp id fun ⟨p, h1, h2, _⟩ => ⟨p, h1, h2⟩
/-- With one more behind, in none or in one that is there, not too deep. -/
theorem Made.more {c : List Ac} {n m : Nat} (h : Made c n) {a : Ac} (hn : n < a.code) (hm : a.code ≤ m) (h1 : nameB a.name.toList = true) (h2 : a.kind < 5)
    (h3 : a.par = 0 ∨ ∃ p ∈ c, p.code = a.par ∧ p.kind = a.kind ∧ (wayF 13 c p.code).length < 11) : Made (c ++ [a]) m := by
  have hp : ∀ b ∈ c, 0 < b.code := fun b hb => (h.pos b hb).1
  have ha : 0 < a.code := by omega
  have hw := wayF_app hp ha h.up'
  refine ⟨?_, ?_, ?_, ?_, ?_, ?_⟩
  · refine List.pairwise_append.2 ⟨h.rise, List.pairwise_singleton _ _, fun x hx y hy => ?_⟩
    simp at hy; subst hy
    have := (h.pos x hx).2; omega
  · intro b hb
    rcases List.mem_append.1 hb with hb | hb
    · have := h.pos b hb; omega
    · simp at hb; subst hb; omega
  · intro b hb
    rcases List.mem_append.1 hb with hb | hb
    · exact h.name b hb
    · simp at hb; subst hb; exact h1
  · intro b hb
    rcases List.mem_append.1 hb with hb | hb
    · exact h.kind b hb
    · simp at hb; subst hb; exact h2
  · intro b hb
    rcases List.mem_append.1 hb with hb | hb
    · rcases h.up b hb with e | ⟨p, hp, e1, e2, e3⟩
      · exact .inl e
      · exact .inr ⟨p, List.mem_append_left _ hp, e1, e2, e3⟩
    · simp at hb; subst hb
      rcases h3 with e | ⟨p, hp, e1, e2, e3⟩
      · exact .inl e
      · exact .inr ⟨p, List.mem_append_left _ hp, e1, e2, by have := (h.pos p hp).2; omega⟩
  · intro b hb
    rcases List.mem_append.1 hb with hb | hb
    · rw [hw 13 b.code (.inr ⟨b, hb, rfl⟩)]; exact h.deep b hb
    · simp at hb; subst hb
      have hg : getA (c ++ [b]) b.code = some b := by
        unfold getA
        rw [List.find?_append]
        have : c.find? (fun a => a.code == b.code) = none := getA_none.2 fun x hx e => by have := (h.pos x hx).2; omega
        rw [this]; simp
      rw [wayF_some hg, List.length_cons]
      rcases h3 with e | ⟨p, hpc, e1, e2, e3⟩
      · rw [e, hw 12 0 (.inl rfl), wayF_zero hp]; simp
      · rw [← e1, hw 12 p.code (.inr ⟨p, hpc, rfl⟩)]
        have : (wayF 12 c p.code).length ≤ (wayF 13 c p.code).length := wayF_mono 12 c p.code
        omega
end Go.Proofs.YtffhnedladiaoaaGreatDoor
/- Slices of records in memory, whatever the record: what a call owns, parts of one, one that came in. -/
namespace Go.Proofs.YtffhnedladiaoaaGreatDoor
open Go.RowKit
set_option linter.unusedVariables false
set_option linter.unusedSimpArgs false
section
variable {α : Type}
/-- A slice of records of k cells each, in memory that is there. -/
def Recs (enc : α → List Value) (k : Nat) (w : World) (v : Value) (xs : List α) : Prop :=
  (∃ r cap, v = .slice r 0 cap ∧ xs = []) ∨ ∃ g off cap, v = .slice (some ⟨g, off, none⟩) xs.length cap ∧ g < w.heap.size ∧ xs.length ≤ 9223372036854775807 ∧ xs.length ≤ cap ∧
    ∀ i x, xs[i]? = some x → ∀ j u, (enc x)[j]? = some u → w.cell? ⟨g, off + i * k + j, none⟩ = some u
theorem Recs.stay {enc : α → List Value} {k : Nat} {w w' : World} {v : Value} {xs : List α} (h : Recs enc k w v xs) (hb : Below w.heap.size w w') : Recs enc k w' v xs := by
  rcases h with h | ⟨g, off, cap, h1, h2, h3, h4, h5⟩
  · exact .inl h
  · exact .inr ⟨g, off, cap, h1, Nat.lt_of_lt_of_le h2 hb.size, h3, h4, fun i x hx j u hu => by rw [hb.cell (p := ⟨g, off + i * k + j, none⟩) h2]; exact h5 i x hx j u hu⟩
/-- The cells of a row of records of one length. -/
theorem flat_get {enc : α → List Value} {k : Nat} (hk : ∀ x, (enc x).length = k) : ∀ {xs : List α} {i j : Nat} {x : α} {u : Value}, xs[i]? = some x → (enc x)[j]? = some u → (xs.flatMap enc)[i * k + j]? = some u
  | [], i, j, x, u, h, _ => by simp at h
  | y :: r, 0, j, x, u, h, hu => by
    simp only [List.getElem?_cons_zero, Option.some.injEq] at h
    subst h
    have hj : j < (enc y).length := (List.getElem?_eq_some_iff.1 hu).1
    rw [List.flatMap_cons, Nat.zero_mul, Nat.zero_add, List.getElem?_append_left hj]
    exact hu
  | y :: r, i + 1, j, x, u, h, hu => by
    simp only [List.getElem?_cons_succ] at h
    rw [List.flatMap_cons, List.getElem?_append_right (by rw [hk, Nat.add_mul]; omega), hk, show (i + 1) * k + j - k = i * k + j by rw [Nat.add_mul]; omega]
    exact flat_get hk h hu
theorem flat_len {enc : α → List Value} {k : Nat} (hk : ∀ x, (enc x).length = k) : ∀ xs : List α, (xs.flatMap enc).length = xs.length * k
  | [] => by simp
  | y :: r => by rw [List.flatMap_cons, List.length_append, hk, flat_len hk r, List.length_cons, Nat.add_mul]; omega
end
theorem box_cell (w : World) (c : Array Value) (T : TypeId) (j : Nat) (v : Value) (hv : c[j]? = some v) : (w.alloc (.cells c T)).cell? ⟨w.heap.size, j, none⟩ = some v := by simp [hv]
/-- The record at an index: its slice's address, its cells. -/
theorem Recs.at {α : Type} {enc : α → List Value} {k : Nat} {w : World} {r : Option Addr} {n cap : Nat} {xs : List α} (h : Recs enc k w (.slice r n cap) xs) {i : Nat} {x : α} (hx : xs[i]? = some x) :
    ∃ g off, r = some ⟨g, off, none⟩ ∧ g < w.heap.size ∧ ∀ j u, (enc x)[j]? = some u → w.cell? ⟨g, off + i * k + j, none⟩ = some u := by
  rcases h with ⟨r', cap', h1, h2⟩ | ⟨g, off, cap', h1, h2, h3, h4, h5⟩
  · rw [h2] at hx; simp at hx
  · cases h1
    exact ⟨g, off, rfl, h2, fun j u hu => h5 i x hx j u hu⟩
theorem Recs.form {α : Type} {enc : α → List Value} {k : Nat} {w : World} {v : Value} {xs : List α} (h : Recs enc k w v xs) : ∃ r cap, v = .slice r xs.length cap ∧ xs.length ≤ 9223372036854775807 := by
  rcases h with ⟨r', cap', h1, h2⟩ | ⟨g, off, cap', h1, h2, h3, h4, h5⟩
  · rw [h2]; exact ⟨r', cap', h1, by simp⟩
  · exact ⟨_, cap', h1, h3⟩
theorem flat_one {α : Type} {enc : α → List Value} (h : ∀ x, ∀ v ∈ enc x, v.oneCell' = true) (xs : List α) : ∀ v ∈ xs.flatMap enc, v.oneCell' = true := fun v hv => by
  obtain ⟨x, _, hx⟩ := List.mem_flatMap.1 hv
  exact h x v hx
/-- All cells of a row of records, one after another. -/
theorem recs_flat {α : Type} {enc : α → List Value} {k : Nat} (hk : ∀ x, (enc x).length = k) (hk0 : 0 < k) {w : World} {g off n cap : Nat} {xs : List α} (h : Recs enc k w (.slice (some ⟨g, off, none⟩) n cap) xs) : ∀ j u, (xs.flatMap enc)[j]? = some u → w.cell? ⟨g, off + j, none⟩ = some u := by
  intro j u hu
  have hj : j < xs.length * k := by have := (List.getElem?_eq_some_iff.1 hu).1; rwa [flat_len hk] at this
  have hi : j / k < xs.length := (Nat.div_lt_iff_lt_mul hk0).2 hj
  have hm : j % k < k := Nat.mod_lt _ hk0
  have ex : xs[j / k]? = some xs[j / k] := List.getElem?_eq_getElem hi
  have hl : j % k < (enc xs[j / k]).length := by rw [hk]; exact hm
  have eu : (enc xs[j / k])[j % k]? = some (enc xs[j / k])[j % k] := List.getElem?_eq_getElem hl
  have hf := flat_get hk ex eu
  have hd : j / k * k + j % k = j := by rw [Nat.mul_comm]; exact Nat.div_add_mod j k
  rw [hd, hu] at hf
  obtain ⟨g', off', e, _, hc⟩ := h.at ex
  cases e
  have := hc _ _ eu
  rw [Nat.add_assoc, hd] at this
  rw [this, hf]
theorem grownBy_below {w w' : World} {m B : Nat} (hg : w.grownBy w' (some m)) (hB : B ≤ m) (hw : B ≤ w.heap.size) : Below B w w' := (Below.refl B w).grown hg hw (fun k hk => by cases hk; exact hB)
/-- A row that a call owns, read as records. -/
theorem recs_of_owns {α : Type} {enc : α → List Value} {k : Nat} (hk : ∀ x, (enc x).length = k) {w : World} {base n : Nat} {e : TypeId} {v : Value} {xs : List α} (h : w.ownsRow base e k v n (xs.flatMap enc)) (hn : n = xs.length) (hm : n ≤ 1000) : Recs enc k w v xs := by
  have hcl := h.lt
  rcases h.2 with ⟨rfl, h0⟩ | ⟨g, cap, cur, rfl, hb, hg, hnc, hcm, _⟩
  · have : xs = [] := List.eq_nil_of_length_eq_zero (by omega)
    subst this
    exact .inl ⟨_, _, rfl, rfl⟩
  · have hc := h.cells (g := g) rfl
    refine .inr ⟨g, 0, cap, by rw [hn], (hcl g rfl).2, by omega, by omega, fun i x hx j u hu => ?_⟩
    have := hc _ _ (flat_get hk hx hu)
    rw [Nat.zero_add]
    have e0 : (⟨g, 0, none⟩ : Addr).add (i * k + j) = ⟨g, i * k + j, none⟩ := by simp [Addr.add]; intro h1 h2; omega
    rw [e0] at this
    exact this
theorem Recs.drop {α : Type} {enc : α → List Value} {k : Nat} {w : World} {g off n cap : Nat} {xs : List α} (h : Recs enc k w (.slice (some ⟨g, off, none⟩) n cap) xs) (hg : g < w.heap.size) (hn : n = xs.length) (hc : n ≤ cap) (hm : n ≤ 1000) (i : Nat) (hi : i ≤ n) : Recs enc k w (.slice (some ⟨g, off + i * k, none⟩) (n - i) (cap - i)) (xs.drop i) := by
  refine .inr ⟨g, off + i * k, cap - i, by rw [List.length_drop, hn], hg, by rw [List.length_drop]; omega, by rw [List.length_drop]; omega, fun j x hx l u hu => ?_⟩
  rw [List.getElem?_drop] at hx
  obtain ⟨g', off', e, _, hcc⟩ := h.at hx
  cases e
  have := hcc l u hu
  rw [Nat.add_mul] at this
  rw [show off + i * k + j * k + l = off + (i * k + j * k) + l by omega]
  exact this
theorem Recs.take {α : Type} {enc : α → List Value} {k : Nat} {w : World} {g off n cap : Nat} {xs : List α} (h : Recs enc k w (.slice (some ⟨g, off, none⟩) n cap) xs) (hg : g < w.heap.size) (hn : n = xs.length) (hc : n ≤ cap) (hm : n ≤ 1000) (i : Nat) (hi : i ≤ n) : Recs enc k w (.slice (some ⟨g, off, none⟩) i cap) (xs.take i) := by
  have hl : (xs.take i).length = i := by rw [List.length_take]; omega
  refine .inr ⟨g, off, cap, by rw [hl], hg, by rw [hl]; omega, by rw [hl]; omega, fun j x hx l u hu => ?_⟩
  have hx' : xs[j]? = some x := by
    rw [List.getElem?_take] at hx
    split at hx
    · exact hx
    · cases hx
  obtain ⟨g', off', e, _, hcc⟩ := h.at hx'
  cases e
  exact hcc l u hu
theorem Recs.grown {α : Type} {enc : α → List Value} {k : Nat} {w w' : World} {g o n cap m : Nat} {xs : List α} (h : Recs enc k w (.slice (some ⟨g, o, none⟩) n cap) xs) (hg : w.grownBy w' (some m)) (hne : g ≠ m) : Recs enc k w' (.slice (some ⟨g, o, none⟩) n cap) xs := by
  rcases h with ⟨r', cap', h1, h2⟩ | ⟨g', off, cap', h1, h2, h3, h4, h5⟩
  · exact .inl ⟨r', cap', h1, h2⟩
  · cases h1
    exact .inr ⟨g, o, cap, rfl, Nat.lt_of_lt_of_le h2 hg.size, h3, h4, fun i x hx j u hu => hg.cell (h5 i x hx j u hu) (fun e => hne (Option.some.inj e))⟩
theorem owns_form {w : World} {base : Nat} {e : TypeId} {size : Nat} {v : Value} {n : Nat} {xs : List Value} (h : w.ownsRow base e size v n xs) : ∃ r cap, v = .slice r n cap := by
  rcases h.2 with ⟨rfl, h0⟩ | ⟨g, cap, cur, rfl, _⟩
  · subst h0; exact ⟨_, _, rfl⟩
  · exact ⟨_, _, rfl⟩
theorem cells_new (w : World) (cs : List Value) (T : TypeId) : ∀ j u, cs[j]? = some u → (w.alloc (.cells cs.toArray T)).cell? ((⟨w.heap.size, 0, none⟩ : Addr).add j) = some u := fun j u hu => by
  have e : (⟨w.heap.size, 0, none⟩ : Addr).add j = ⟨w.heap.size, j, none⟩ := by unfold Addr.add; split <;> simp_all
  rw [e]
  exact box_cell w cs.toArray T j u (by simpa using hu)
theorem flat_snoc {α : Type} (enc : α → List Value) (xs : List α) (x : α) : (xs ++ [x]).flatMap enc = xs.flatMap enc ++ enc x := by simp
end Go.Proofs.YtffhnedladiaoaaGreatDoor
/- Rows of one's own: apart from one another, in a world that has grown; blocks known whole. -/
namespace Go.Proofs.YtffhnedladiaoaaGreatDoor
open Go.RowKit
set_option linter.unusedVariables false
set_option linter.unusedSimpArgs false
theorem owns_below {w w' : World} {base : Nat} {e : TypeId} {size : Nat} {v : Value} {n : Nat} {xs : List Value} (h : w.ownsRow base e size v n xs) (hb : Below w.heap.size w w') : w'.ownsRow base e size v n xs :=
  h.kept (row := none) ⟨hb.os, hb.tape, hb.output, hb.size, fun k hk _ => hb.block k hk⟩ (by
    cases hv : v.ownBlock with
    | none => exact .inl rfl
    | some k => exact .inr (by simp))
theorem owns_far {w : World} {base : Nat} {e : TypeId} {size : Nat} {r : Option Addr} {n cap m : Nat} {xs : List Value} (h : w.ownsRow base e size (.slice r n cap) n xs) (hm : m < base ∨ w.heap.size ≤ m) : (Value.slice r n cap).ownBlock ≠ some m := fun e => by
  have := h.lt m e
  omega
theorem owns_mono {w : World} {base base' : Nat} {e : TypeId} {size : Nat} {v : Value} {n : Nat} {xs : List Value} (h : w.ownsRow base e size v n xs) (hb : base' ≤ base) : w.ownsRow base' e size v n xs := by
  refine ⟨h.1, ?_⟩
  rcases h.2 with h0 | ⟨g, cap, cur, h1, h2, h3⟩
  · exact .inl h0
  · exact .inr ⟨g, cap, cur, h1, Nat.le_trans hb h2, h3⟩
theorem owns_type_far {w : World} {base : Nat} {e T : TypeId} {size : Nat} {r : Option Addr} {n cap g : Nat} {xs : List Value} {c : Array Value} (h : w.ownsRow base e size (.slice r n cap) n xs) (hg : w.heap[g]? = some (.cells c T (0, 0))) (hne : e ≠ T) : (Value.slice r n cap).ownBlock ≠ some g := fun he => by
  rcases h.2 with ⟨h1, _⟩ | ⟨k, cp, cur, h1, _, h2, _⟩
  · cases h1; cases he
  · cases h1
    cases he
    rw [h2] at hg
    injection hg with hg
    injection hg with _ h3
    exact hne h3
/-- A box that is only read. -/
structure RBox (w : World) (b : Nat) (cs : List Value) : Prop where
  size : b < w.heap.size
  at_ : ∀ j v, cs[j]? = some v → w.cell? ⟨b, j, none⟩ = some v
theorem RBox.new (w : World) (cs : List Value) (T : TypeId) : RBox (w.alloc (.cells cs.toArray T)) w.heap.size cs :=
  ⟨by simp, fun j v h => box_cell w _ T j v (by simpa using h)⟩
theorem RBox.stay {w w' : World} {b : Nat} {cs : List Value} (h : RBox w b cs) (hb : Below w.heap.size w w') : RBox w' b cs :=
  ⟨Nat.lt_of_lt_of_le h.size hb.size, fun j v hj => (hb.cell (p := ⟨b, j, none⟩) h.size).trans (h.at_ j v hj)⟩
theorem RBox.alloc {w : World} {b : Nat} {cs : List Value} (h : RBox w b cs) (o : Obj) : RBox (w.alloc o) b cs := h.stay ((Below.refl _ _).alloc (Nat.le_refl _) o)
/-- A block known whole. -/
def HBox (w : World) (b : Nat) (cs : List Value) (T : TypeId) : Prop := w.heap[b]? = some (.cells cs.toArray T (0, 0))
theorem HBox.new (w : World) (cs : List Value) (T : TypeId) : HBox (w.alloc (.cells cs.toArray T)) w.heap.size cs T := heap_alloc_new w _
theorem HBox.size {w : World} {b : Nat} {cs : List Value} {T : TypeId} (h : HBox w b cs T) : b < w.heap.size := (Array.getElem?_eq_some_iff.1 h).1
theorem HBox.cell {w : World} {b : Nat} {cs : List Value} {T : TypeId} (h : HBox w b cs T) {j : Nat} {v : Value} (hj : cs[j]? = some v) : w.cell? ⟨b, j, none⟩ = some v := by
  have h' : w.heap[b]? = some (.cells cs.toArray T (0, 0)) := h
  simp [World.cell?, h', hj]
theorem HBox.frozen {w : World} {b : Nat} {cs : List Value} {T : TypeId} (h : HBox w b cs T) (j : Nat) : w.frozen? ⟨b, j, none⟩ = false := by
  have h' : w.heap[b]? = some (.cells cs.toArray T (0, 0)) := h
  simp [World.frozen?, h']
theorem HBox.stay {w w' : World} {b : Nat} {cs : List Value} {T : TypeId} (h : HBox w b cs T) (hb : Below w.heap.size w w') : HBox w' b cs T := (hb.block b h.size).trans h
theorem HBox.alloc {w : World} {b : Nat} {cs : List Value} {T : TypeId} (h : HBox w b cs T) (o : Obj) : HBox (w.alloc o) b cs T := h.stay ((Below.refl _ _).alloc (Nat.le_refl _) o)
theorem HBox.grown {w w' : World} {b : Nat} {cs : List Value} {T : TypeId} {row : Option Nat} (h : HBox w b cs T) (hg : w.grownBy w' row) (hne : some b ≠ row) : HBox w' b cs T := (hg.block b h.size hne).trans h
theorem HBox.set {w : World} {b : Nat} {cs : List Value} {T : TypeId} (h : HBox w b cs T) (j : Nat) (u : Value) : HBox (w.setCell ⟨b, j, none⟩ u) b (cs.set j u) T := by
  have h' : w.heap[b]? = some (.cells cs.toArray T (0, 0)) := h
  unfold HBox
  simp only [World.setCell, Array.getElem?_modify, h', if_true]
  simp
theorem HBox.far {w : World} {b : Nat} {cs : List Value} {T e : TypeId} {base size : Nat} {r : Option Addr} {n cap : Nat} {xs : List Value} (h : HBox w b cs T) (ho : w.ownsRow base e size (.slice r n cap) n xs) (hne : e ≠ T) : (Value.slice r n cap).ownBlock ≠ some b := owns_type_far ho h hne
/-- Two rows of unlike types are apart. -/
theorem owns_apart {w : World} {base base' : Nat} {e e' : TypeId} {size size' : Nat} {v v' : Value} {n n' : Nat} {xs xs' : List Value} (h : w.ownsRow base e size v n xs) (h' : w.ownsRow base' e' size' v' n' xs') (hne : e ≠ e') : v.ownBlock = none ∨ v.ownBlock ≠ v'.ownBlock := by
  rcases h.2 with ⟨h1, _⟩ | ⟨k, cp, cur, h1, _, h2, _⟩
  · subst h1; exact .inl rfl
  · subst h1
    refine .inr ?_
    rcases h'.2 with ⟨g1, _⟩ | ⟨k', cp', cur', g1, _, g2, _⟩
    · subst g1
      intro he
      cases he
    · subst g1
      intro he
      have e : k = k' := Option.some.inj he
      subst e
      rw [h2] at g2
      injection g2 with g2
      injection g2 with _ h3
      exact hne h3
theorem grownBy_set (w : World) (a : Addr) (u : Value) : w.grownBy (w.setCell a u) (some a.block) :=
  ⟨rfl, rfl, rfl, by simp, fun k hk hne => by
    have h : k ≠ a.block := fun e => hne (by rw [e])
    simp only [World.setCell, Array.getElem?_modify]
    rw [if_neg (fun e => h e.symm)]⟩
theorem RBox.grown {w w' : World} {b : Nat} {cs : List Value} {row : Option Nat} (h : RBox w b cs) (hg : w.grownBy w' row) (hne : some b ≠ row) : RBox w' b cs :=
  ⟨Nat.lt_of_lt_of_le h.size hg.size, fun j v hj => (World.cell?_of_block (a := ⟨b, j, none⟩) (hg.block b h.size hne)).trans (h.at_ j v hj)⟩
theorem grown_sets (w : World) (b : Nat) (d0 d1 d2 d3 : Value) : w.grownBy ((((w.setCell ⟨b, 0, none⟩ d0).setCell ⟨b, 1, none⟩ d1).setCell ⟨b, 2, none⟩ d2).setCell ⟨b, 3, none⟩ d3) (some b) :=
  (((grownBy_set w ⟨b, 0, none⟩ d0).trans (grownBy_set _ ⟨b, 1, none⟩ d1)).trans (grownBy_set _ ⟨b, 2, none⟩ d2)).trans (grownBy_set _ ⟨b, 3, none⟩ d3)
theorem HBox.set5 {w : World} {b : Nat} {c0 c1 c2 c3 c4 : Value} {T : TypeId} (h : HBox w b [c0, c1, c2, c3, c4] T) (d0 d1 d2 d3 d4 : Value) : HBox (((((w.setCell ⟨b, 0, none⟩ d0).setCell ⟨b, 1, none⟩ d1).setCell ⟨b, 2, none⟩ d2).setCell ⟨b, 3, none⟩ d3).setCell ⟨b, 4, none⟩ d4) b [d0, d1, d2, d3, d4] T :=
  ((((h.set 0 d0).set 1 d1).set 2 d2).set 3 d3).set 4 d4
theorem grown_sets5 (w : World) (b : Nat) (d0 d1 d2 d3 d4 : Value) : w.grownBy (((((w.setCell ⟨b, 0, none⟩ d0).setCell ⟨b, 1, none⟩ d1).setCell ⟨b, 2, none⟩ d2).setCell ⟨b, 3, none⟩ d3).setCell ⟨b, 4, none⟩ d4) (some b) :=
  (grown_sets w b d0 d1 d2 d3).trans (grownBy_set _ ⟨b, 4, none⟩ d4)
end Go.Proofs.YtffhnedladiaoaaGreatDoor

/- Calendars in plain words: what law 8 makes, in which period a day is, what may be. -/
import Derived.WalkKit
namespace Go.Proofs.YtmbfnbbgphpcgaaGreatDoor
open Go.RowKit
set_option linter.unusedVariables false
set_option linter.unusedSimpArgs false
/-- A day's cell. -/
def dcl (n : Int) : List Value := [.int .i32 n]
theorem dcl_len (n : Int) : (dcl n).length = 1 := rfl
theorem dcl_one (n : Int) : ∀ v ∈ dcl n, v.oneCell' = true := fun v hv => by simp [dcl] at hv; subst hv; rfl
def RiseD (l : List Int) : Prop := l.Pairwise (fun a b => a < b)
/-- The starts that law 8 makes of a first day and how long periods are; the last one's start. -/
def rowD : Int → List Nat → List Int
  | d, [] => [d]
  | d, n :: r => d :: rowD (d + (1 + (n % 40 : Nat))) r
def lastD : Int → List Nat → Int
  | d, [] => d
  | d, n :: r => lastD (d + (1 + (n % 40 : Nat))) r
theorem rowD_snoc : ∀ (d : Int) (l : List Nat) (n : Nat), rowD d (l ++ [n]) = rowD d l ++ [lastD d l + (1 + (n % 40 : Nat))]
  | d, [], n => rfl
  | d, m :: r, n => by rw [List.cons_append, rowD, rowD_snoc, rowD, lastD]; rfl
theorem lastD_snoc : ∀ (d : Int) (l : List Nat) (n : Nat), lastD d (l ++ [n]) = lastD d l + (1 + (n % 40 : Nat))
  | d, [], n => rfl
  | d, m :: r, n => by rw [List.cons_append, lastD, lastD_snoc, lastD]
theorem rowD_len : ∀ (d : Int) (l : List Nat), (rowD d l).length = l.length + 1
  | d, [] => rfl
  | d, n :: r => by rw [rowD, List.length_cons, rowD_len, List.length_cons]
theorem lastD_le : ∀ (d : Int) (l : List Nat), d ≤ lastD d l ∧ lastD d l ≤ d + 40 * l.length
  | d, [] => by simp [lastD]
  | d, n :: r => by
    have := lastD_le (d + (1 + (n % 40 : Nat))) r
    have h : n % 40 < 40 := Nat.mod_lt _ (by omega)
    rw [lastD, List.length_cons]
    omega
theorem rowD_mem : ∀ (d : Int) (l : List Nat), ∀ x ∈ rowD d l, d ≤ x ∧ x ≤ lastD d l
  | d, [], x, h => by simp [rowD] at h; subst h; simp [lastD]
  | d, n :: r, x, h => by
    rw [rowD] at h
    have h1 := lastD_le (d + (1 + (n % 40 : Nat))) r
    rw [lastD]
    rcases List.mem_cons.1 h with rfl | h
    · omega
    · have := rowD_mem _ _ x h
      omega
theorem rowD_rise : ∀ (d : Int) (l : List Nat), RiseD (rowD d l)
  | d, [] => List.Pairwise.cons (fun b hb => by cases hb) List.Pairwise.nil
  | d, n :: r => by
    rw [rowD]
    refine List.Pairwise.cons (fun b hb => ?_) (rowD_rise _ r)
    have := rowD_mem _ _ b hb
    omega
theorem rowD_head (d : Int) (l : List Nat) : (rowD d l)[0]? = some d := by cases l <;> rfl
theorem rowD_last : ∀ (d : Int) (l : List Nat), (rowD d l)[l.length]? = some (lastD d l)
  | d, [] => rfl
  | d, n :: r => by rw [rowD, lastD, List.length_cons, List.getElem?_cons_succ, rowD_last]
/-- Law 8's calendar: its starts, its end. -/
def mkS (d : Int) (l : List Nat) : List Int := rowD d (l.take 12)
def mkE (d : Int) (l : List Nat) : Int := lastD d (l.take 12) + 31
theorem mkS_len (d : Int) (l : List Nat) : (mkS d l).length = min 12 l.length + 1 := by unfold mkS; rw [rowD_len, List.length_take]
theorem mkS_rise (d : Int) (l : List Nat) : RiseD (mkS d l) := rowD_rise _ _
theorem mkS_mem {d : Int} {l : List Nat} {x : Int} (h : x ∈ mkS d l) : d ≤ x ∧ x < mkE d l ∧ x ≤ d + 480 := by
  have h1 := rowD_mem _ _ x h
  have h2 := lastD_le d (l.take 12)
  have h3 : (l.take 12).length ≤ 12 := by rw [List.length_take]; omega
  unfold mkE
  omega
theorem mkE_le (d : Int) (l : List Nat) : d + 31 ≤ mkE d l ∧ mkE d l ≤ d + 511 := by
  have h2 := lastD_le d (l.take 12)
  have h3 : (l.take 12).length ≤ 12 := by rw [List.length_take]; omega
  unfold mkE
  omega
theorem mkS_head (d : Int) (l : List Nat) : (mkS d l)[0]? = some d := rowD_head _ _
/-- How many starts are no later than a day; in which period it is. -/
def cntD (S : List Int) (d : Int) : Nat := (S.filter (fun s => decide (s ≤ d))).length
def perD (S : List Int) (E d : Int) : Option Nat := if d < E ∧ 0 < cntD S d then some (cntD S d - 1) else none
def perI (S : List Int) (E d : Int) : Int := if d < E ∧ 0 < cntD S d then (cntD S d : Int) - 1 else -1
theorem cnt_nil (d : Int) : cntD [] d = 0 := rfl
theorem cnt_cons (a : Int) (r : List Int) (d : Int) : cntD (a :: r) d = (if a ≤ d then 1 else 0) + cntD r d := by
  unfold cntD
  by_cases h : a ≤ d
  · rw [List.filter_cons_of_pos (by simpa using h), List.length_cons, if_pos h]; omega
  · rw [List.filter_cons_of_neg (by simpa using h), if_neg h]; omega
theorem cnt_le (S : List Int) (d : Int) : cntD S d ≤ S.length := List.length_filter_le _ _
theorem cnt_zero {S : List Int} {d : Int} (h : ∀ x ∈ S, d < x) : cntD S d = 0 := by
  unfold cntD
  rw [List.filter_eq_nil_iff.2 (by intro a ha; have := h a ha; simp; omega)]; rfl
theorem cnt_all {S : List Int} {d : Int} (h : ∀ x ∈ S, x ≤ d) : cntD S d = S.length := by
  unfold cntD
  rw [List.filter_eq_self.2 (by intro a ha; have := h a ha; simpa using this)]
/-- Of rising starts those no later than a day are the first ones. -/
theorem cnt_iff : ∀ {S : List Int} {d : Int}, RiseD S → ∀ {i : Nat} {s : Int}, S[i]? = some s → (s ≤ d ↔ i < cntD S d)
  | [], d, _, i, s, h => by simp at h
  | a :: r, d, hr, 0, s, h => by
    simp only [List.getElem?_cons_zero, Option.some.injEq] at h
    subst h
    rw [cnt_cons]
    by_cases h : a ≤ d
    · rw [if_pos h]; exact ⟨fun _ => by omega, fun _ => h⟩
    · rw [if_neg h, cnt_zero fun x hx => by have := (List.pairwise_cons.1 hr).1 x hx; omega]
      exact ⟨fun g => absurd g h, fun g => by omega⟩
  | a :: r, d, hr, i + 1, s, h => by
    simp only [List.getElem?_cons_succ] at h
    obtain ⟨h1, h2⟩ := List.pairwise_cons.1 hr
    have ih := cnt_iff (d := d) h2 h
    have hlt := h1 s (List.mem_of_getElem? h)
    rw [cnt_cons]
    by_cases g : a ≤ d
    · rw [if_pos g, ih]; omega
    · rw [if_neg g, cnt_zero fun x hx => by have := h1 x hx; omega]
      exact ⟨fun e => by omega, fun e => by omega⟩
/-- The next day's count is one more at most, just if a start is that day. -/
theorem cnt_next : ∀ {S : List Int} (d : Int), RiseD S → cntD S d ≤ cntD S (d + 1) ∧ cntD S (d + 1) ≤ cntD S d + 1
  | [], d, _ => by simp [cnt_nil]
  | a :: r, d, h => by
    obtain ⟨h1, h2⟩ := List.pairwise_cons.1 h
    have ih := cnt_next d h2
    rw [cnt_cons, cnt_cons]
    by_cases g : a ≤ d
    · rw [if_pos g, if_pos (by omega)]; omega
    · rw [if_neg g]
      have e0 : cntD r d = 0 := cnt_zero fun x hx => by have := h1 x hx; omega
      have e1 : cntD r (d + 1) = 0 := cnt_zero fun x hx => by have := h1 x hx; omega
      rw [e0, e1]
      split <;> omega
theorem cnt_shift : ∀ (S : List Int) (d b : Int), cntD (S.map (· + b)) (d + b) = cntD S d
  | [], _, _ => rfl
  | a :: r, d, b => by
    rw [List.map_cons, cnt_cons, cnt_cons, cnt_shift]
    by_cases h : a ≤ d
    · rw [if_pos h, if_pos (by omega)]
    · rw [if_neg h, if_neg (by omega)]
theorem per_shift (S : List Int) (E d b : Int) : perI (S.map (· + b)) (E + b) (d + b) = perI S E d := by
  unfold perI
  rw [cnt_shift]
  by_cases h : d < E
  · have : d + b < E + b := by omega
    simp [h, this]
  · have : ¬ d + b < E + b := by omega
    simp [h, this]
/-- What is wrong with days behind one; with a calendar. -/
def chkD1 : Option Int → List Int → Int
  | _, [] => 0
  | p, a :: r => if a < -719162 ∨ 2932896 < a then 13 else if (∃ b, p = some b ∧ a ≤ b) then 6 else chkD1 (some a) r
def chkD (S : List Int) (E : Int) : Int := if S.length < 1 ∨ 60 < S.length then 2 else chkD1 none (S ++ [E])
theorem chkD1_ok : ∀ {l : List Int} {p : Option Int}, RiseD l → (∀ x ∈ l, -719162 ≤ x ∧ x ≤ 2932896 ∧ ∀ b, p = some b → b < x) → chkD1 p l = 0
  | [], _, _, _ => rfl
  | a :: r, p, hr, ha => by
    obtain ⟨h1, h2⟩ := List.pairwise_cons.1 hr
    have h3 := ha a (List.mem_cons_self ..)
    unfold chkD1
    rw [if_neg (by omega), if_neg (by rintro ⟨b, e, h⟩; have := h3.2.2 b e; omega)]
    refine chkD1_ok h2 fun x hx => ?_
    have := ha x (List.mem_cons_of_mem _ hx)
    exact ⟨this.1, this.2.1, fun b e => by cases e; exact h1 x hx⟩
theorem chkD_ok {S : List Int} {E : Int} (h0 : 1 ≤ S.length) (h6 : S.length ≤ 60) (hr : RiseD S) (hE : ∀ x ∈ S, -719162 ≤ x ∧ x < E) (hE2 : E ≤ 2932896) : chkD S E = 0 := by
  unfold chkD
  rw [if_neg (by omega)]
  refine chkD1_ok (List.pairwise_append.2 ⟨hr, by simp, fun a ha b hb => ?_⟩) fun x hx => ?_
  · simp at hb; subst hb; exact (hE a ha).2
  · rcases List.mem_append.1 hx with h | h
    · have := hE x h; exact ⟨this.1, by omega, fun b e => by cases e⟩
    · simp at h
      subst h
      obtain ⟨y, hy⟩ : ∃ y, y ∈ S := ⟨S[0]'(by omega), List.getElem_mem _⟩
      have := hE y hy
      exact ⟨by omega, by omega, fun b e => by cases e⟩
theorem mk_ok (d : Int) (l : List Nat) (h : -719162 ≤ d) (h2 : d ≤ 2900000) : chkD (mkS d l) (mkE d l) = 0 := by
  have h3 := mkE_le d l
  refine chkD_ok (by rw [mkS_len]; omega) (by rw [mkS_len]; omega) (mkS_rise d l) (fun x hx => ?_) (by omega)
  have := mkS_mem hx
  omega
end Go.Proofs.YtmbfnbbgphpcgaaGreatDoor

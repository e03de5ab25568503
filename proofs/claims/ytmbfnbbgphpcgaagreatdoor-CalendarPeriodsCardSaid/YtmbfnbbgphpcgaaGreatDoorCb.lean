/- The charts that law 6 makes: what they hold. -/
import Derived.Test.YtmbfnbbgphpcgaaGreatDoorCa
namespace Go.Proofs.YtmbfnbbgphpcgaaGreatDoor
open Go.RowKit
set_option linter.unusedVariables false
set_option linter.unusedSimpArgs false
/-- Four small numbers. -/
structure Qt where
  code : Nat
  kind : Nat
  par : Nat
  name : Nat
  h1 : code < 256
  h2 : kind < 256
  h3 : par < 256
  h4 : name < 256
instance : Inhabited Qt := ⟨⟨0, 0, 0, 0, by omega, by omega, by omega, by omega⟩⟩
def qc (x : Qt) : List Value := [.int .u8 (x.code : Int), .int .u8 (x.kind : Int), .int .u8 (x.par : Int), .int .u8 (x.name : Int)]
theorem qc_len (x : Qt) : (qc x).length = 4 := rfl
/-- The five names. -/
def nm5 : Nat → ByteArray
  | 0 => ⟨#[67, 97, 115, 104]⟩
  | 1 => ⟨#[97]⟩
  | 2 => ⟨#[66, 97, 110, 107, 32, 49]⟩
  | 3 => ⟨#[76, 111, 115, 115, 46, 120]⟩
  | _ => ⟨#[49, 50, 51, 52, 53, 54, 55, 56, 57, 48, 49, 50, 51, 52, 53, 54, 55, 56, 57, 48, 49, 50, 51, 52, 53, 54, 55, 56, 57, 48]⟩
theorem nm5_size : ∀ n, (nm5 n).size ≤ 9223372036854775807
  | 0 => by decide
  | 1 => by decide
  | 2 => by decide
  | 3 => by decide
  | n + 4 => by show (nm5 4).size ≤ _; decide
theorem nm5_ok : ∀ n, nameB (nm5 n).toList = true
  | 0 => by rw [ByteArray.toList_eq]; decide +kernel
  | 1 => by rw [ByteArray.toList_eq]; decide +kernel
  | 2 => by rw [ByteArray.toList_eq]; decide +kernel
  | 3 => by rw [ByteArray.toList_eq]; decide +kernel
  | n + 4 => by show nameB (nm5 4).toList = true; rw [ByteArray.toList_eq]; decide +kernel
/-- A new account, ahead of where it lies. -/
def bareA (n : Nat) (x : Qt) : Ac := ⟨(n + 1 + x.code % 4) % 4294967296, nm5 (x.name % 5), x.kind % 5, 0, Nat.mod_lt _ (by omega), by omega, by omega, nm5_size _⟩
/-- An account within another one. -/
def Ac.inA (a p : Ac) : Ac := ⟨a.code, a.name, p.kind, p.code, a.hc, p.hk, p.hc, a.hn⟩
def newA (c : List Ac) (n : Nat) (x : Qt) : Ac :=
  if 0 < c.length ∧ 0 < x.par % 3 then
    match c[x.par % c.length]? with
    | none => bareA n x
    | some p => if (wayF 13 c p.code).length < 11 then (bareA n x).inA p else bareA n x
  else bareA n x
/-- Behind so many of them: the chart, the last code. -/
def stI (l : List Qt) : Nat → List Ac × Nat
  | 0 => ([], 0)
  | i + 1 => match l[i]? with
    | none => stI l i
    | some x => ((stI l i).1 ++ [newA (stI l i).1 (stI l i).2 x], (stI l i).2 + 1 + x.code % 4)
/-- The chart that is made. -/
def mkC (l : List Qt) : List Ac := (stI l (min 40 l.length)).1
/-- What such a chart holds. -/
structure Made (c : List Ac) (n : Nat) : Prop where
  rise : RiseA c
  pos : ∀ a ∈ c, 0 < a.code ∧ a.code ≤ n
  name : ∀ a ∈ c, nameB a.name.toList = true
  kind : ∀ a ∈ c, a.kind < 5
  up : ∀ a ∈ c, a.par = 0 ∨ ∃ p ∈ c, p.code = a.par ∧ p.kind = a.kind ∧ p.code < a.code
  deep : ∀ a ∈ c, (wayF 13 c a.code).length ≤ 11
theorem wayF_mono (k : Nat) (c : List Ac) (n : Nat) : (wayF k c n).length ≤ (wayF (k + 1) c n).length := by
  induction k generalizing n with
  | zero => simp [wayF]
  | succ k ih =>
    cases e : getA c n with
    | none => rw [wayF_none e, wayF_none e]; exact Nat.le_refl _
    | some a => rw [wayF_some e, wayF_some e]; simp only [List.length_cons]; have := ih a.par; omega
theorem getA_app {c : List Ac} {a : Ac} {n : Nat} (h : ∃ b ∈ c, b.code = n) : getA (c ++ [a]) n = getA c n := by
  unfold getA
  rw [List.find?_append]
  obtain ⟨b, hb, e⟩ := h
  have : (c.find? (fun a => a.code == n)).isSome := by rw [List.find?_isSome]; exact ⟨b, hb, by simp [e]⟩
  obtain ⟨x, hx⟩ := Option.isSome_iff_exists.1 this
  rw [hx]; rfl
theorem wayF_app {c : List Ac} {a : Ac} (hp : ∀ b ∈ c, 0 < b.code) (ha : 0 < a.code) (hu : ∀ b ∈ c, b.par = 0 ∨ ∃ p ∈ c, p.code = b.par) : ∀ (k n : Nat), (n = 0 ∨ ∃ b ∈ c, b.code = n) → wayF k (c ++ [a]) n = wayF k c n
  | 0, n, _ => rfl
  | k + 1, n, h => by
    rcases h with rfl | h
    · rw [wayF_zero hp, wayF_zero]
      intro b hb
      rcases List.mem_append.1 hb with h | h
      · exact hp b h
      · simp at h; subst h; exact ha
    · have e1 := getA_app (a := a) h
      cases e : getA c n with
      | none => rw [wayF_none e, wayF_none (by rw [e1, e])]
      | some b =>
        rw [wayF_some e, wayF_some (by rw [e1, e])]
        rw [wayF_app hp ha hu k b.par (hu b (getA_some e).1)]
theorem Made.nil : Made [] 0 := ⟨List.Pairwise.nil, by simp, by simp, by simp, by simp, by simp⟩
theorem Made.up' {c : List Ac} {n : Nat} (h : Made c n) : ∀ b ∈ c, b.par = 0 ∨ ∃ p ∈ c, p.code = b.par := fun b hb => (h.up b hb).imp id fun ⟨p, h1, h2, _⟩ => ⟨p, h1, h2⟩
/-- With one more behind, in none or in one that is there, not too deep. -/
theorem Made.more {c : List Ac} {n m : Nat} (h : Made c n) {a : Ac} (hn : n < a.code) (hm : a.code ≤ m) (h1 : nameB a.name.toList = true) (h2 : a.kind < 5)
    (h3 : a.par = 0 ∨ ∃ p ∈ c, p.code = a.par ∧ p.kind = a.kind ∧ (wayF 13 c p.code).length < 11) : Made (c ++ [a]) m := by
  have hp : ∀ b ∈ c, 0 < b.code := fun b hb => (h.pos b hb).1
  have ha : 0 < a.code := by omega
  have hw := wayF_app hp ha h.up'
  refine ⟨?_, ?_, ?_, ?_, ?_, ?_⟩
  · refine List.pairwise_append.2 ⟨h.rise, List.pairwise_singleton _ _, fun x hx y hy => ?_⟩
    simp at hy; subst hy
    have := (h.pos x hx).2; omega
  · intro b hb
    rcases List.mem_append.1 hb with hb | hb
    · have := h.pos b hb; omega
    · simp at hb; subst hb; omega
  · intro b hb
    rcases List.mem_append.1 hb with hb | hb
    · exact h.name b hb
    · simp at hb; subst hb; exact h1
  · intro b hb
    rcases List.mem_append.1 hb with hb | hb
    · exact h.kind b hb
    · simp at hb; subst hb; exact h2
  · intro b hb
    rcases List.mem_append.1 hb with hb | hb
    · rcases h.up b hb with e | ⟨p, hp, e1, e2, e3⟩
      · exact .inl e
      · exact .inr ⟨p, List.mem_append_left _ hp, e1, e2, e3⟩
    · simp at hb; subst hb
      rcases h3 with e | ⟨p, hp, e1, e2, e3⟩
      · exact .inl e
      · exact .inr ⟨p, List.mem_append_left _ hp, e1, e2, by have := (h.pos p hp).2; omega⟩
  · intro b hb
    rcases List.mem_append.1 hb with hb | hb
    · rw [hw 13 b.code (.inr ⟨b, hb, rfl⟩)]; exact h.deep b hb
    · simp at hb; subst hb
      have hg : getA (c ++ [b]) b.code = some b := by
        unfold getA
        rw [List.find?_append]
        have : c.find? (fun a => a.code == b.code) = none := getA_none.2 fun x hx e => by have := (h.pos x hx).2; omega
        rw [this]; simp
      rw [wayF_some hg, List.length_cons]
      rcases h3 with e | ⟨p, hpc, e1, e2, e3⟩
      · rw [e, hw 12 0 (.inl rfl), wayF_zero hp]; simp
      · rw [← e1, hw 12 p.code (.inr ⟨p, hpc, rfl⟩)]
        have : (wayF 12 c p.code).length ≤ (wayF 13 c p.code).length := wayF_mono 12 c p.code
        omega
theorem stI_made (l : List Qt) : ∀ i, i ≤ 40 → Made (stI l i).1 (stI l i).2 ∧ (stI l i).2 ≤ 4 * i ∧ (stI l i).1.length ≤ i
  | 0, _ => ⟨Made.nil, by simp [stI], by simp [stI]⟩
  | i + 1, hi => by
    obtain ⟨h1, h2, h3⟩ := stI_made l i (by omega)
    unfold stI
    split
    · exact ⟨h1, by omega, by omega⟩
    · rename_i x hx
      have hx4 : x.code % 4 < 4 := Nat.mod_lt _ (by omega)
      have hcode : (bareA (stI l i).2 x).code = (stI l i).2 + 1 + x.code % 4 := by unfold bareA; simp only; omega
      have hbare : Made ((stI l i).1 ++ [bareA (stI l i).2 x]) ((stI l i).2 + 1 + x.code % 4) := h1.more (by omega) (by omega) (nm5_ok _) (Nat.mod_lt _ (by omega)) (.inl rfl)
      refine ⟨?_, by simp only; omega, by simp only [List.length_append, List.length_cons, List.length_nil]; omega⟩
      unfold newA
      split
      · split
        · exact hbare
        · rename_i p hp
          split
          · rename_i hd
            have hpm : p ∈ (stI l i).1 := List.mem_of_getElem? hp
            exact h1.more (by show _ < (bareA (stI l i).2 x).code; omega) (by show (bareA (stI l i).2 x).code ≤ _; omega) (nm5_ok _) (h1.kind p hpm) (.inr ⟨p, hpm, rfl, rfl, hd⟩)
          · exact hbare
      · exact hbare
theorem mkC_made (l : List Qt) : Made (mkC l) 160 ∧ (mkC l).length ≤ 40 := by
  obtain ⟨h1, h2, h3⟩ := stI_made l (min 40 l.length) (by omega)
  refine ⟨?_, by unfold mkC; omega⟩
  exact ⟨h1.rise, fun a ha => by have := h1.pos a ha; omega, h1.name, h1.kind, h1.up, h1.deep⟩
theorem chk1_zero : ∀ {h : Nat} {c : List Ac}, RiseA c → (∀ a ∈ c, h < a.code ∧ one1 0 a = 0) → chk1 h c = 0
  | _, [], _, _ => rfl
  | h, a :: r, hr, ha => by
    obtain ⟨h1, h2⟩ := List.pairwise_cons.1 hr
    obtain ⟨g1, g2⟩ := ha a (List.mem_cons_self ..)
    have g3 := one1_zero.1 g2
    have e : one1 h a = 0 := one1_zero.2 ⟨g3.1, g1, g3.2.2⟩
    unfold chk1
    rw [e]
    simp only [ne_eq, not_true_eq_false, if_false]
    exact chk1_zero h2 fun b hb => ⟨h1 b hb, (ha b (List.mem_cons_of_mem _ hb)).2⟩
theorem chk2_zero {c : List Ac} : ∀ {r : List Ac}, (∀ a ∈ r, one2 c a = 0) → chk2 c r = 0
  | [], _ => rfl
  | a :: r, h => by
    unfold chk2
    rw [h a (List.mem_cons_self ..)]
    simp only [ne_eq, not_true_eq_false, if_false]
    exact chk2_zero fun b hb => h b (List.mem_cons_of_mem _ hb)
theorem Made.chk {c : List Ac} {n : Nat} (h : Made c n) (hn : n ≤ 999999) (hl : c.length ≤ 200) : chkA c = 0 := by
  have e1 : chk1 0 c = 0 := chk1_zero h.rise fun a ha => ⟨(h.pos a ha).1, one1_zero.2 ⟨⟨(h.pos a ha).1, by have := (h.pos a ha).2; omega⟩, (h.pos a ha).1, h.name a ha, h.kind a ha⟩⟩
  have e2 : chk2 c c = 0 := chk2_zero fun a ha => by
    unfold one2
    split
    · rfl
    · rename_i h0
      rcases h.up a ha with e | ⟨p, hp, e1, e2, e3⟩
      · contradiction
      · rw [← e1, getA_mem h.rise hp]
        simp only
        rw [if_neg (by omega), if_neg (by have := h.deep a ha; omega)]
  unfold chkA
  rw [if_neg (by omega), e1, e2]; simp
theorem mkC_chk (l : List Qt) : chkA (mkC l) = 0 := (mkC_made l).1.chk (by omega) (by have := (mkC_made l).2; omega)
/-- Each code on a way is at most that of its first; each is there, of its kind. -/
theorem Made.on_way {c : List Ac} {n : Nat} (h : Made c n) : ∀ (k : Nat) (a : Ac), a ∈ c → ∀ m ∈ wayF k c a.code, m ≤ a.code ∧ ∃ b ∈ c, b.code = m ∧ b.kind = a.kind
  | 0, a, _, m, hm => by simp [wayF] at hm
  | k + 1, a, ha, m, hm => by
    rw [wayF_some (getA_mem h.rise ha)] at hm
    rcases List.mem_cons.1 hm with rfl | hm
    · exact ⟨Nat.le_refl _, a, ha, rfl, rfl⟩
    · rcases h.up a ha with e | ⟨p, hp, e1, e2, e3⟩
      · rw [e, wayF_zero fun b hb => (h.pos b hb).1] at hm; cases hm
      · rw [← e1] at hm
        obtain ⟨g1, b, g2, g3, g4⟩ := h.on_way k p hp m hm
        exact ⟨by omega, b, g2, g3, by rw [g4, e2]⟩
/-- The way of what lies in another one goes on by that one's. -/
theorem Made.way_par {c : List Ac} {n : Nat} (h : Made c n) {a : Ac} (ha : a ∈ c) : wayF 13 c a.code = a.code :: wayF 13 c a.par := by
  have e := wayF_some (getA_mem h.rise ha) 12
  rw [e]
  congr 1
  have hd := h.deep a ha
  rw [e, List.length_cons] at hd
  exact (wayF_room (by omega)).symm
end Go.Proofs.YtmbfnbbgphpcgaaGreatDoor

/- A region that draws its order, whose last operation waits for all others, and whose others are quiet in a class of worlds: one walk of the lexical order serves every order; the last operation is met once, in whatever world of the class. Speaks of any program. -/
import Derived.Deep.Quiet
import Derived.Deep.QuietTactic
import Derived.StillTail
import Derived.Lib.QuietBelow
import Derived.BigQuiet
namespace Go.Proofs.YtmpefjnfelfnfaaGreatDoor
open Go.Sort
set_option linter.unusedVariables false
set_option linter.unusedSimpArgs false
section
variable {P : Program} {ops : Array Oper} {md : Region.Mode} {C : World → Prop} {n : Nat}
/-- What may come up now, the last operation left out. -/
def readyBut (md : Region.Mode) (ops : Array Oper) (n : Nat) (listed : Array Bool) : List Nat := (Region.ready md ops listed).filter (fun j => j != n)
theorem mem_readyBut {j : Nat} {listed : Array Bool} : j ∈ readyBut md ops n listed ↔ j ∈ Region.ready md ops listed ∧ j ≠ n := by
  unfold readyBut; rw [List.mem_filter]; simp
theorem readyBut_mono {i j : Nat} {listed : Array Bool} (hj : j ∈ readyBut md ops n listed) (hne : j ≠ i) : j ∈ readyBut md ops n (listed.setIfInBounds i true) :=
  mem_readyBut.2 ⟨ready_mono (mem_readyBut.1 hj).1 hne, (mem_readyBut.1 hj).2⟩
/-- Whatever order is picked from here on, up to the last operation. -/
def wpAnyT (P : Program) (md : Region.Mode) (ops : Array Oper) (C : World → Prop) (n : Nat) (Q : Act → Prop) : Nat → Array Bool → Act → Prop
  | 0, listed, a => readyBut md ops n listed = [] ∧ Q a
  | fuel + 1, listed, a => (readyBut md ops n listed = [] → Q a) ∧ ∀ i ∈ readyBut md ops n listed, qOp P ops C i (wpAnyT P md ops C n Q fuel (listed.setIfInBounds i true)) a
theorem wpAnyT_first {Q : Act → Prop} {i : Nat} {oi : Oper} {v : Value} (hi : ops[i]? = some oi) (hsel : ∀ (j : Nat) (o : Oper) cs b, ops[j]? = some o → o.op ≠ .select cs b) :
    ∀ (fuel : Nat) (listed : Array Bool) (a : Act),
      (∀ j oj, ops[j]? = some oj → j ≠ i → listed.getD j true = false → (∀ e ∈ oj.after, Region.binds md e = true → e.on ≠ i) → oi.apart ops oj = true) →
      i ∈ readyBut md ops n listed → YieldsIn P ops C oi v a →
      wpAnyT P md ops C n Q fuel (listed.setIfInBounds i true) (a.put oi.dst v) → wpAnyT P md ops C n Q (fuel + 1) listed a := by
  intro fuel
  induction fuel with
  | zero =>
    intro listed a _ hr hy H
    refine ⟨fun h => (by rw [h] at hr; cases hr), fun j hj => ?_⟩
    by_cases hji : j = i
    · subst hji; exact hy.qOp hi H
    · have := readyBut_mono hj hji
      rw [H.1] at this
      cases this
  | succ fuel ih =>
    intro listed a hfree hr hy H
    refine ⟨fun h => (by rw [h] at hr; cases hr), fun j hj => ?_⟩
    by_cases hji : j = i
    · subst hji; exact hy.qOp hi H
    · have h1 := H.2 j (readyBut_mono hj hji)
      obtain ⟨hjun, oj, hoj, hall⟩ := mem_ready.1 (mem_readyBut.1 hj).1
      have hnot : ∀ e ∈ oj.after, Region.binds md e = true → e.on ≠ i := fun e he hb heq => by
        have h1 := hall e he hb
        have h0 := (mem_ready.1 (mem_readyBut.1 hr).1).1
        rw [heq] at h1
        rcases Nat.lt_or_ge i listed.size with h' | h'
        · simp [h'] at h0 h1; rw [h0] at h1; cases h1
        · simp [Array.getElem?_eq_none h'] at h1
      have h2 := qOp_put hoj (hfree j oj hoj hji hjun hnot) (fun cs b => hsel i oi cs b hi) (fun cs b => hsel j oj cs b hoj) hy h1
      have hfree' : ∀ k ok, ops[k]? = some ok → k ≠ i → (listed.setIfInBounds j true).getD k true = false →
          (∀ e ∈ ok.after, Region.binds md e = true → e.on ≠ i) → oi.apart ops ok = true := fun k ok hk hki hun hno => by
        refine hfree k ok hk hki ?_ hno
        by_cases hjk : j = k
        · subst hjk; exact hjun
        · rw [getD_set_ne true hjk] at hun; exact hun
      refine qOp_mono (fun a' h3 => ih (listed.setIfInBounds j true) a' hfree' (readyBut_mono hr (Ne.symm hji)) h3.1 ?_) h2
      rw [Array.setIfInBounds_comm _ _ hji]
      exact h3.2
/-- The lexical order, up to the last operation. -/
def lexTo (md : Region.Mode) (ops : Array Oper) (n : Nat) : Nat → Nat → Array Bool → Bool
  | 0, _, listed => (readyBut md ops n listed).isEmpty
  | fuel + 1, k, listed => (readyBut md ops n listed).contains k && Region.free md ops listed k && lexTo md ops n fuel (k + 1) (listed.setIfInBounds k true)
theorem wpAnyT_lex {Q : Act → Prop} (hs : Region.noSelect ops = true) : ∀ (l : List Oper) (k : Nat) (listed : Array Bool) (a : Act), (∀ j, j < l.length → l[j]? = ops[k + j]?) →
    lexTo md ops n l.length k listed = true → wpQuiet P ops C Q l a → wpAnyT P md ops C n Q l.length listed a
  | [], _, _, _, _, hB, h => ⟨by simpa [lexTo] using hB, h⟩
  | o :: l, k, listed, a, hl, hB, h => by
    have h0 : ops[k]? = some o := by simpa using (hl 0 (by simp)).symm
    simp only [List.length_cons, lexTo, Bool.and_eq_true] at hB
    obtain ⟨⟨hr, hf⟩, hB'⟩ := hB
    have hst : qOp P ops C k (wpQuiet P ops C Q l) a := by unfold qOp; simp only [h0]; exact h
    obtain ⟨v, hy, hK⟩ := yieldsIn_of_qOp h0 hst
    exact wpAnyT_first h0 (Region.noSelect_spec hs) l.length listed a (Region.free_spec h0 hf) (by simpa using hr) hy
      (wpAnyT_lex hs l (k + 1) _ _ (fun j hj => by have := hl (j + 1) (by simpa using hj); simpa [Nat.add_assoc, Nat.add_comm 1 j] using this) hB' hK)
/-- Every operation waits for earlier ones alone; the last one for all. -/
def backB (md : Region.Mode) (ops : Array Oper) : Bool := (List.range ops.size).all fun j => match ops[j]? with | some o => o.after.all fun e => !Region.binds md e || decide (e.on < j) | none => true
def sinkB (md : Region.Mode) (ops : Array Oper) (n : Nat) : Bool := (List.range n).all fun i => (List.range (n + 1)).any fun j => decide (i < j) && Region.waitsFor md ops j i
/-- What has come up: with an operation, all that it waits for. -/
def Closed (md : Region.Mode) (ops : Array Oper) (listed : Array Bool) : Prop := ∀ j oj, ops[j]? = some oj → listed.getD j false = true → ∀ e ∈ oj.after, Region.binds md e = true → listed.getD e.on false = true
theorem Closed.set {i : Nat} {listed : Array Bool} (h : Closed md ops listed) (hi : i ∈ Region.ready md ops listed) : Closed md ops (listed.setIfInBounds i true) := by
  obtain ⟨_, oi, hoi, hall⟩ := mem_ready.1 hi
  intro j oj hj hl e he hb
  by_cases hij : i = j
  · subst hij
    have : oj = oi := Option.some.inj (hj.symm.trans hoi)
    subst this
    exact getD_set_true (hall e he hb)
  · rw [getD_set_ne false hij] at hl
    exact getD_set_true (h j oj hj hl e he hb)
theorem backB_spec (h : backB md ops = true) {j : Nat} {o : Oper} (ho : ops[j]? = some o) : ∀ e ∈ o.after, Region.binds md e = true → e.on < j := by
  intro e he hb
  have hj := (Array.getElem?_eq_some_iff.1 ho).1
  have h1 := List.all_eq_true.1 h j (List.mem_range.2 hj)
  simp only [ho] at h1
  have h2 := Array.all_eq_true_iff_forall_mem.1 h1 e he
  simp only [hb, Bool.not_true, Bool.false_or, decide_eq_true_eq] at h2
  exact h2
theorem getD_tf {listed : Array Bool} {i : Nat} (hi : i < listed.size) : listed.getD i false = true ∨ listed.getD i true = false := by
  simp [hi]
/-- Where one of the first m operations has not come up, one of them may come up. -/
theorem progress (hb : backB md ops = true) {listed : Array Bool} (hsz : listed.size = ops.size) : ∀ (m : Nat), m ≤ ops.size → (∃ i, i < m ∧ listed.getD i true = false) → ∃ i, i < m ∧ i ∈ Region.ready md ops listed
  | 0, _, ⟨i, hi, _⟩ => by omega
  | m + 1, hm, ⟨i, hi, hu⟩ => by
    by_cases h : ∃ i, i < m ∧ listed.getD i true = false
    · obtain ⟨j, hj, hr⟩ := progress hb hsz m (by omega) h
      exact ⟨j, by omega, hr⟩
    · have him : i = m := by
        by_cases e : i = m
        · exact e
        · exact absurd ⟨i, by omega, hu⟩ h
      subst him
      refine ⟨i, hi, mem_ready.2 ⟨hu, ops[i], Array.getElem?_eq_getElem (by omega), fun e he hbd => ?_⟩⟩
      have hlt := backB_spec hb (Array.getElem?_eq_getElem (by omega : i < ops.size)) e he hbd
      rcases getD_tf (listed := listed) (i := e.on) (by omega) with h1 | h1
      · exact h1
      · exact absurd ⟨e.on, hlt, h1⟩ h
theorem wpAny_of_tail {Q : Exit → Act → World → Prop} (hb : backB md ops = true) (hk : sinkB md ops n = true) (hn : ops.size = n + 1) :
    ∀ (fuel : Nat) (listed : Array Bool) (a : Act) (w : World), C w → listed.size = ops.size → Closed md ops listed → listed.getD n true = false →
      wpAnyT P md ops C n (fun a' => ∀ w', C w' → wpOp P ops Q n (fun a'' w'' => Q .normal a'' w'') a' w') fuel listed a → wpAny P md ops Q (fuel + 1) listed a w := by
  -- where nothing but the last one may come up, the last one may
  have last : ∀ (listed : Array Bool), listed.size = ops.size → listed.getD n true = false → readyBut md ops n listed = [] → (∀ i, i < n → listed.getD i false = true) ∧ n ∈ Region.ready md ops listed := by
    intro listed hsz hu he
    have hall : ∀ i, i < n → listed.getD i false = true := by
      intro i hi
      rcases getD_tf (listed := listed) (i := i) (by omega) with h1 | h1
      · exact h1
      · exfalso
        obtain ⟨j, hj, hr⟩ := progress hb hsz n (by omega) ⟨i, hi, h1⟩
        have : j ∈ readyBut md ops n listed := mem_readyBut.2 ⟨hr, by omega⟩
        rw [he] at this
        cases this
    refine ⟨hall, mem_ready.2 ⟨hu, ops[n], Array.getElem?_eq_getElem (by omega), fun e he' hbd => ?_⟩⟩
    exact hall _ (backB_spec hb (Array.getElem?_eq_getElem (by omega : n < ops.size)) e he' hbd)
  have done : ∀ (listed : Array Bool), listed.size = ops.size → (∀ i, i < n → listed.getD i false = true) → Region.ready md ops (listed.setIfInBounds n true) = [] := by
    intro listed hsz hall
    rw [List.eq_nil_iff_forall_not_mem]
    intro j hj
    obtain ⟨hu, o, ho, _⟩ := mem_ready.1 hj
    have hjl := (Array.getElem?_eq_some_iff.1 ho).1
    by_cases e : n = j
    · subst e
      simp [show n < listed.size by omega] at hu
    · rw [getD_set_ne true e] at hu
      have := hall j (by omega)
      simp [show j < listed.size by omega] at hu this
      rw [hu] at this; cases this
  have heads : ∀ (listed : Array Bool), Closed md ops listed → n ∈ Region.ready md ops listed → ∀ d i, n - i = d → i < n → listed.getD i false = true := by
    intro listed hcl hr d
    induction d using Nat.strongRecOn with
    | _ d ihd =>
      intro i hd hi
      obtain ⟨_, o, ho, hall⟩ := mem_ready.1 hr
      obtain ⟨j, hj, hj2⟩ := List.any_eq_true.1 (List.all_eq_true.1 hk i (List.mem_range.2 hi))
      simp only [Bool.and_eq_true, decide_eq_true_eq] at hj2
      obtain ⟨oj, hoj, e, he, hbd, hon⟩ := Region.waitsFor_spec hj2.2
      have hjn : j < n + 1 := List.mem_range.1 hj
      rw [← hon]
      by_cases ej : j = n
      · subst ej
        have : oj = o := Option.some.inj (hoj.symm.trans ho)
        subst this
        exact hall e he hbd
      · exact hcl j oj hoj (ihd (n - j) (by omega) j rfl (by omega)) e he hbd
  have empt : ∀ (listed : Array Bool), listed.size = ops.size → (∀ i, i < n → listed.getD i false = true) → readyBut md ops n listed = [] := by
    intro listed hsz hall
    rw [List.eq_nil_iff_forall_not_mem]
    intro j hj
    obtain ⟨hj1, hj2⟩ := mem_readyBut.1 hj
    obtain ⟨hu, o, ho, _⟩ := mem_ready.1 hj1
    have hjl := (Array.getElem?_eq_some_iff.1 ho).1
    have := hall j (by omega)
    simp [show j < listed.size by omega] at hu this
    rw [hu] at this; cases this
  intro fuel
  induction fuel with
  | zero =>
    intro listed a w hC hsz hcl hu H
    obtain ⟨he, hQ⟩ := H
    obtain ⟨hall, hnr⟩ := last listed hsz hu he
    refine ⟨fun h => (by rw [h] at hnr; cases hnr), fun i hi => ?_⟩
    by_cases e : i = n
    · subst e
      exact wpOp_mono (fun a' w' h => ⟨done listed hsz hall, h⟩) (hQ w hC)
    · have : i ∈ readyBut md ops n listed := mem_readyBut.2 ⟨hi, e⟩
      rw [he] at this; cases this
  | succ fuel ih =>
    intro listed a w hC hsz hcl hu H
    refine ⟨fun h => ?_, fun i hi => ?_⟩
    · have he : readyBut md ops n listed = [] := by unfold readyBut; rw [h]; rfl
      have := (last listed hsz hu he).2
      rw [h] at this; cases this
    · by_cases e : i = n
      · subst e
        have hall := fun k hk => heads listed hcl hi _ k rfl hk
        refine wpOp_mono (fun a' w' h => ⟨fun _ => h, fun j hj => ?_⟩) (H.1 (empt listed hsz hall) w hC)
        rw [done listed hsz hall] at hj; cases hj
      · exact wpOp_of_qOp hC (fun a' w' hw' h => ih (listed.setIfInBounds i true) a' w' hw' (by simpa using hsz) (hcl.set hi) (by rw [getD_set_ne true e]; exact hu) h) (H.2 i (mem_readyBut.2 ⟨hi, e⟩))
def tailB (md : Region.Mode) (ops : Array Oper) (n : Nat) : Bool := Region.noSelect ops && decide (ops.size = n + 1) && sinkB md ops n && backB md ops && lexTo md ops n n 0 (Array.replicate ops.size false)
theorem wp_region_tail {id : Nat} {Q : Exit → Act → World → Prop} {a : Act} {w : World} {l : List Oper} (n : Nat) (hm : P.follows .mixedOrders = true) (hB : tailB .any l.toArray n = true) (hC : C { w with drawn := w.drawn + 1 })
    (h : wpQuiet P l.toArray C (fun a' => ∀ w', C w' → wpList P l.toArray Q (l.drop n) a' w') (l.take n) a) : (Code.region id l.toArray true).wp P Q a w := by
  simp only [tailB, Bool.and_eq_true, decide_eq_true_eq] at hB
  obtain ⟨⟨⟨⟨hs, hn⟩, hk⟩, hb⟩, hl⟩ := hB
  have hlen : l.length = n + 1 := by simpa using hn
  refine wp_region_any hm ?_
  rw [hn]
  refine wpAny_of_tail (C := C) hb hk hn n _ a _ hC (by simp [hn]) (fun j oj _ hl => by rw [getD_replicate_false] at hl; cases hl) (by simp) ?_
  have htl : (l.take n).length = n := by simp [hlen]
  have hq : wpQuiet P l.toArray C (fun a' => ∀ w', C w' → wpOp P l.toArray Q n (fun a'' w'' => Q .normal a'' w'') a' w') (l.take n) a := by
    have e : ∀ a' w', wpList P l.toArray Q (l.drop n) a' w' → wpOp P l.toArray Q n (fun a'' w'' => Q .normal a'' w'') a' w' := by
      intro a' w' hh
      have hd : l.drop n = [l[n]'(by omega)] := by
        rw [List.drop_eq_getElem_cons (by omega)]
        congr 1
        exact List.drop_eq_nil_of_le (by omega)
      have ho : l.toArray[n]? = some (l[n]'(by omega)) := by simp [show n < l.length by omega]
      unfold wpOp
      rw [hd] at hh
      simp only [ho]
      unfold wpList at hh
      exact hh
    have mono : ∀ (m : List Oper) (a : Act), wpQuiet P l.toArray C (fun a' => ∀ w', C w' → wpList P l.toArray Q (l.drop n) a' w') m a → wpQuiet P l.toArray C (fun a' => ∀ w', C w' → wpOp P l.toArray Q n (fun a'' w'' => Q .normal a'' w'') a' w') m a := by
      intro m
      induction m with
      | nil => intro a h w' hw'; exact e _ _ (h w' hw')
      | cons o r ih =>
        intro a h
        unfold wpQuiet at h ⊢
        split
        · rename_i hw
          rw [if_pos hw] at h
          exact Oper.quiet_mono (fun a h => ih a h) h
        · rename_i hw
          rw [if_neg hw] at h
          exact ih _ h
    exact mono _ _ h
  have := wpAnyT_lex (n := n) (md := .any) hs (l.take n) 0 (Array.replicate (n + 1) false) a (fun j hj => by simp at hj ⊢; rw [List.getElem?_take, if_pos (by omega)]) (by rw [htl]; rw [hn] at hl; exact hl) hq
  rw [htl] at this
  exact this
/-- The class of worlds behind which nothing but draws and new blocks lie. -/
theorem wp_tail_below {id : Nat} {Q : Exit → Act → World → Prop} {a : Act} {w : World} {l : List Oper} (n : Nat) (hm : P.follows .mixedOrders = true) (hB : tailB .any l.toArray n = true)
    (h : wpQuiet P l.toArray (fun w' => ∃ p : Regrown, w' = grow (redrawn w p.d) p.os) (fun a' => ∀ w', (∃ p : Regrown, w' = grow (redrawn w p.d) p.os) → wpList P l.toArray Q (l.drop n) a' w') (l.take n) a) : (Code.region id l.toArray true).wp P Q a w :=
  wp_region_tail (C := fun w' => ∃ p : Regrown, w' = grow (redrawn w p.d) p.os) n hm hB ⟨⟨w.drawn + 1, #[]⟩, by rw [grow_empty]; rfl⟩ h
end
end Go.Proofs.YtmpefjnfelfnfaaGreatDoor

/- As Tq's law, but that a value need only stay while its operation has been run. A region that draws, one of whose operations is a call that writes: what holds of the world depends on which operations have been run. Speaks of any program. -/
import Derived.Test.YtffhnedladiaoaaGreatDoorZTall
import Derived.Test.YtffhnedladiaoaaGreatDoorZPdx
import Derived.Deep.QuietTactic
import Derived.BigQuiet
import Derived.Test.YtffhnedladiaoaaGreatDoorZPdy
namespace Go.Proofs.YtffhnedladiaoaaGreatDoor
open Go.RowKit
set_option linter.unusedVariables false
set_option linter.unusedSimpArgs false
section
variable {P : Program} {ops : Array Oper} {W W' : World} {k : Nat}
set_option maxHeartbeats 1000000 in
theorem wp_region_part4 {Q : Exit → Act → World → Prop} {id : Nat} {a0 : Act} {w : World} {l : List Oper} (n : Nat) (C : (Nat → Bool) → World → Prop) (R : Nat → Value → World → Prop) (P2 : Nat → Value → Nat → Value → Prop) (hm : P.follows .mixedOrders = true) (hn : n < l.length) (hb : backB .any l.toArray = true) (hB : partB l n = true)
    (hsz : l.all (fun o => match o.dst with | some t => decide (t < a0.tmps.size) | none => true) = true) (h0 : C (fun _ => false) w.drew)
    (step : ∀ (s : Nat → Bool) (a : Act) (w' : World) (i : Nat), i < n → s i = false → (∀ j, depB l i j = true → s j = true) → C s w' → (∀ t, l.all (fun y => y.dst != some t) = true → a.eval (.tmp t) = a0.eval (.tmp t)) → (∀ j t, depB l i j = true → dstB l j = some t → R j (a.eval (.tmp t)) w') →
      wpOp P l.toArray Q i (fun a' w'' => ∃ v, a' = a.put (dstB l i) v ∧ C (fun j => if j = i then true else s j) w'' ∧ R i v w'' ∧ (∀ j u, s j = true → R j u w' → R j u w'') ∧ ∀ j u, j < n → j ≠ i → depB l j i = false → R j u w' → (∀ t, depB l i j = true → dstB l j = some t → a.eval (.tmp t) = u) → P2 j u i v ∧ P2 i v j u) a w')
    (done : ∀ (s : Nat → Bool) (b : Nat → Value) (w' : World), (∀ i, i < n → s i = true) → C s w' → (∀ i, i < n → R i (b i) w') → (∀ i j, i < n → j < n → i ≠ j → P2 i (b i) j (b j)) → wpList P l.toArray Q (l.drop n) (putL (fun _ => true) b 0 (l.take n) a0) w') : (Code.region id l.toArray true).wp P Q a0 w := by
  unfold partB at hB
  simp only [Bool.and_eq_true] at hB
  obtain ⟨⟨⟨hg, hd⟩, hsk⟩, hch⟩ := hB
  have hdn := distB_take n hd
  have hguard : ∀ (i : Nat) (o : Oper), l[i]? = some o → o.guard = none := fun i o ho => by
    have := List.all_eq_true.1 hg o (List.mem_of_getElem? ho)
    simpa using this
  have hz : ∀ (i : Nat) (o : Oper) (t : Tmp), l[i]? = some o → o.dst = some t → t < a0.tmps.size := fun i o t ho ht => by
    have := List.all_eq_true.1 hsz o (List.mem_of_getElem? ho)
    rw [ht] at this
    exact of_decide_eq_true this
  have htk : ∀ (i : Nat), i < n → (l.take n)[i]? = l[i]? := fun i hi => by rw [List.getElem?_take, if_pos hi]
  have hdpo : ∀ (s : Nat → Bool) (i : Nat) (o : Oper), l[i]? = some o → (∀ e ∈ o.after, Region.binds .any e = true → s e.on = true) → ∀ j, depB l i j = true → s j = true ∧ j < i := fun s i o ho hdep j hj => by
    obtain ⟨e, he, hbd, hon⟩ := depB_spec ho hj
    exact ⟨hon ▸ hdep e he hbd, hon ▸ backB_spec hb (by simpa using ho) e he hbd⟩
  refine wp_region_inv (fun s a w' => (∀ i o, l[i]? = some o → s i = true → ∀ e ∈ o.after, Region.binds .any e = true → s e.on = true) ∧
    (((∀ i, n ≤ i → s i = false) ∧ C s w' ∧ ∃ b : Nat → Value, (∀ i, i < n → s i = true → R i (b i) w') ∧ (∀ i j, i < n → j < n → i ≠ j → s i = true → s j = true → P2 i (b i) j (b j)) ∧ a = putL s b 0 (l.take n) a0) ∨ (∃ t, n < t ∧ t ≤ l.length ∧ (∀ i, i < l.length → (s i = true ↔ i < t)) ∧ wpList P l.toArray Q (l.drop t) a w'))) hm hb ⟨fun i o _ h => by simp at h, .inl ⟨fun _ _ => rfl, h0, fun _ => undef, fun i _ h => by simp at h, fun i j _ _ _ h => by simp at h, ?_⟩⟩ ?_ ?_
  · have : ∀ (l : List Oper) (i : Nat) (a : Act), putL (fun _ => false) (fun _ => undef) i l a = a := by
      intro l
      induction l with
      | nil => intro _ _; rfl
      | cons o r ih => intro i a; unfold putL; simp only [Bool.false_eq_true, if_false]; exact ih _ _
    exact (this _ _ _).symm
  · rintro s a w' i o ⟨hcl, hs⟩ ho hsi hdep
    have ho' : l[i]? = some o := by simpa using ho
    have hlt : i < l.length := (List.getElem?_eq_some_iff.1 ho').1
    have hcl' : ∀ j y, l[j]? = some y → (fun j => if j = i then true else s j) j = true → ∀ e ∈ y.after, Region.binds .any e = true → (fun j => if j = i then true else s j) e.on = true := fun j y hj hsj e he hbd => by
      simp only at hsj ⊢
      by_cases hei : e.on = i
      · rw [if_pos hei]
      · rw [if_neg hei]
        by_cases hji : j = i
        · subst hji
          rw [ho'] at hj
          cases hj
          exact hdep e he hbd
        · rw [if_neg hji] at hsj
          exact hcl j y hj hsj e he hbd
    have hwt : ∀ a : Act, Region.wanted o (yielded l.toArray a.tmps) = true := fun a => by simp [Region.wanted, hguard i o ho']
    have hdq := hdpo s i o ho' hdep
    have prev : n < i → s (i - 1) = true := fun h => by
      have h1 := List.all_eq_true.1 hch i (List.mem_range.2 hlt)
      simp only [Bool.or_eq_true, decide_eq_true_eq] at h1
      rcases h1 with h1 | h1
      · omega
      · exact (hdq _ h1).1
    have tail : ∀ (a : Act) (w' : World), wpList P l.toArray Q (l.drop i) a w' → (∀ j, j < l.length → (s j = true ↔ j < i)) → n ≤ i →
        wpOp P l.toArray Q i (fun a' w'' => (∀ j y, l[j]? = some y → (fun j => if j = i then true else s j) j = true → ∀ e ∈ y.after, Region.binds .any e = true → (fun j => if j = i then true else s j) e.on = true) ∧
          (((∀ j, n ≤ j → (fun j => if j = i then true else s j) j = false) ∧ C (fun j => if j = i then true else s j) w'' ∧ ∃ b : Nat → Value, (∀ j, j < n → (fun j => if j = i then true else s j) j = true → R j (b j) w'') ∧ (∀ i' j', i' < n → j' < n → i' ≠ j' → (fun j => if j = i then true else s j) i' = true → (fun j => if j = i then true else s j) j' = true → P2 i' (b i') j' (b j')) ∧ a' = putL (fun j => if j = i then true else s j) b 0 (l.take n) a0) ∨
            (∃ t, n < t ∧ t ≤ l.length ∧ (∀ j, j < l.length → ((fun j => if j = i then true else s j) j = true ↔ j < t)) ∧ wpList P l.toArray Q (l.drop t) a' w''))) a w' := fun a w' hQ hall hni => by
      have hdr : l.drop i = o :: l.drop (i + 1) := by
        obtain ⟨h1, h2⟩ := List.getElem?_eq_some_iff.1 ho'
        rw [List.drop_eq_getElem_cons h1, h2]
      rw [hdr] at hQ
      unfold wpList at hQ
      rw [if_pos (hwt a)] at hQ
      unfold wpOp
      rw [ho]
      simp only
      rw [if_pos (hwt a)]
      rcases hQ with hQ | hQ
      · refine .inl (Oper.wp_mono (fun a' w'' h' => ?_) hQ)
        refine ⟨hcl', .inr ⟨i + 1, by omega, by omega, fun j hj => ?_, h'⟩⟩
        by_cases e : j = i
        · subst e; simp
        · simp only [e, if_false]
          rw [hall j hj]
          omega
      · exact .inr hQ
    rcases hs with ⟨hsn, hC, b, hR, hP, rfl⟩ | ⟨t, hnt, htl, hall, hQ2⟩
    · by_cases hin : n ≤ i
      · have hin : i = n := by
          rcases Nat.lt_or_ge n i with h | h
          · have := prev h
            rw [hsn (i - 1) (by omega)] at this
            cases this
          · omega
        subst hin
        have hall : ∀ d m, i - m = d → m < i → s m = true := by
          intro d
          induction d using Nat.strongRecOn with
          | _ d ih =>
            intro m hd hm
            have h1 := List.all_eq_true.1 hsk m (List.mem_range.2 hm)
            obtain ⟨j, hj, hj2⟩ := List.any_eq_true.1 h1
            simp only [Bool.and_eq_true, decide_eq_true_eq] at hj2
            have hjl := List.mem_range.1 hj
            obtain ⟨y, hy⟩ : ∃ y, l[j]? = some y := ⟨l[j]'(by omega), List.getElem?_eq_getElem (by omega)⟩
            obtain ⟨e, he, hbd, hon⟩ := depB_spec hy hj2.2
            by_cases hji : j = i
            · subst hji
              rw [ho'] at hy
              cases hy
              rw [← hon]
              exact hdep e he hbd
            · have := ih (i - j) (by omega) j rfl (by omega)
              rw [← hon]
              exact hcl j y hy this e he hbd
        have e2 : putL s b 0 (l.take i) a0 = putL (fun _ => true) b 0 (l.take i) a0 := putL_congr_lt _ _ _ fun j _ hj => by
          have hjl : j < i := by have := List.length_take_le i l; omega
          exact ⟨hall _ j rfl hjl, rfl⟩
        have hQ := done s b w' (fun j hj => hall _ j rfl hj) hC (fun j hj => hR j hj (hall _ j rfl hj)) (fun i' j' h1 h2 h3 => hP i' j' h1 h2 h3 (hall _ i' rfl h1) (hall _ j' rfl h2))
        rw [← e2] at hQ
        refine tail _ _ hQ (fun j hj => ?_) (Nat.le_refl _)
        constructor
        · intro h
          rcases Nat.lt_or_ge j i with h' | h'
          · exact h'
          · rw [hsn j h'] at h; cases h
        · intro h; exact hall _ j rfl h
      · have hin' : i < n := by omega
        have edst : dstB l i = o.dst := by unfold dstB; rw [ho']; rfl
        have hnd : ∀ j, s j = true → depB l j i = false := fun j hsj => by
          cases hd : depB l j i with
          | false => rfl
          | true =>
            exfalso
            unfold depB at hd
            cases hy : l[j]? with
            | none => rw [hy] at hd; cases hd
            | some y =>
              rw [hy] at hd
              obtain ⟨e, he, hd⟩ := Array.any_eq_true'.1 hd
              simp only [Bool.and_eq_true, beq_iff_eq] at hd
              have := hcl j y hy hsj e he hd.1
              rw [hd.2, hsi] at this
              cases this
        have hev : ∀ j, ∀ t, depB l i j = true → dstB l j = some t → (putL s b 0 (l.take n) a0).eval (.tmp t) = b j := fun j t hj ht => by
          obtain ⟨hsj, hji⟩ := hdq j hj
          unfold dstB at ht
          cases hy : l[j]? with
          | none => rw [hy] at ht; cases ht
          | some y =>
            rw [hy] at ht
            have := putL_at s b t (l.take n) 0 j a0 y (by rw [htk j (by omega)]; exact hy) ht (by rw [Nat.zero_add]; exact hsj) hdn (hz j y t hy ht)
            rw [this, Nat.zero_add]
        refine wpOp_mono ?_ (step s _ w' i hin' hsi (fun j hj => (hdq j hj).1) hC (fun t ht => ?_) (fun j t hj ht => ?_))
        · rintro a' w'' ⟨v, rfl, hC', hRv, hst, hpv⟩
          refine ⟨hcl', .inl ⟨fun j hj => by simp only; rw [if_neg (by omega)]; exact hsn j hj, hC', fun j => if j = i then v else b j, fun j hj hsj => ?_, fun i' j' hi' hj' hne h1 h2 => ?_, ?_⟩⟩
          · by_cases e : j = i
            · subst e; simp only [if_true]; exact hRv
            · simp only [e, if_false] at hsj ⊢
              exact hst j _ hsj (hR j hj hsj)
          · by_cases e : i' = i
            · subst e
              have e2 : ¬ j' = i' := fun h => hne h.symm
              simp only [e2, if_false, if_true] at h2 ⊢
              exact (hpv j' _ hj' e2 (hnd j' h2) (hR j' hj' h2) (hev j')).2
            · by_cases e2 : j' = i
              · subst e2
                simp only [e, if_false, if_true] at h1 ⊢
                exact (hpv i' _ hi' e (hnd i' h1) (hR i' hi' h1) (hev i')).1
              · simp only [e, e2, if_false] at h1 h2 ⊢
                exact hP i' j' hi' hj' hne h1 h2
          · have h1 := putL_set s b v (l.take n) 0 i a0 o (by rw [htk i hin']; exact ho') (by rw [Nat.zero_add]; exact hsi) hdn
            simp only [Nat.zero_add] at h1
            rw [edst]
            exact h1.symm
        · exact putL_far s b t (l.take n) 0 a0 fun y hy => by
            have := List.all_eq_true.1 ht y (List.mem_of_mem_take hy)
            simpa using this
        · obtain ⟨hsj, hji⟩ := hdq j hj
          unfold dstB at ht
          cases hy : l[j]? with
          | none => rw [hy] at ht; cases ht
          | some y =>
            rw [hy] at ht
            have := putL_at s b t (l.take n) 0 j a0 y (by rw [htk j (by omega)]; exact hy) ht (by rw [Nat.zero_add]; exact hsj) hdn (hz j y t hy ht)
            rw [this, Nat.zero_add]
            exact hR j (by omega) hsj
    · have hit : i = t := by
        have h1 : ¬ i < t := fun h => by rw [(hall i hlt).2 h] at hsi; cases hsi
        rcases Nat.lt_or_ge t i with h | h
        · have h2 := (hall (i - 1) (by omega)).1 (prev (by omega))
          omega
        · omega
      subst hit
      exact tail a w' hQ2 hall (by omega)
  · rintro s a w' ⟨_, hs⟩ hall
    have hall' : ∀ i, i < l.length → s i = true := fun i hi => hall i (by simpa using hi)
    rcases hs with ⟨h, _⟩ | ⟨t, _, htl, h, hq⟩
    · have := hall' n hn
      rw [h n (Nat.le_refl _)] at this; cases this
    · have : t = l.length := by
        rcases Nat.lt_or_ge t l.length with h' | h'
        · have := (h t h').1 (hall' t h')
          omega
        · omega
      rw [this, List.drop_length] at hq
      exact hq
end
end Go.Proofs.YtffhnedladiaoaaGreatDoor
/- Law 14's Q in memory: wrong, is, need, number. -/
namespace Go.Proofs.YtffhnedladiaoaaGreatDoor
open Go.RowKit Go.Lib
set_option linter.unusedVariables false
set_option linter.unusedSimpArgs false
/-- Where the reading stands: what is left, or the first error. -/
abbrev St := Except (Nat × Int) (List Tk)
def stOf {α : Type} : Except (Nat × Int) (α × List Tk) → St
  | .ok a => .ok a.2
  | .error p => .error p
def aft {α : Type} (f : Rd α) : St → Except (Nat × Int) (α × List Tk)
  | .ok l => f l
  | .error p => .error p
def isQ (k : Nat) (s : List UInt8) : St → Bool
  | .ok l => isT k s l
  | .error _ => false
def wrongQ (c : Int) : St → St
  | .ok l => .error (atT l, c)
  | .error p => .error p
def valN : Except (Nat × Int) (Nat × List Tk) → Nat
  | .ok a => a.1
  | .error _ => 0
def valT : Except (Nat × Int) (Tk × List Tk) → Tk
  | .ok a => a.1
  | .error _ => ⟨0, [], 0, 0, 0⟩
/-- Q in memory. -/
def QBx (B : Nat) (w : World) (g : Nat) : St → Prop
  | .ok l => ∃ b off cap, b ≠ g ∧ HBox w g [.slice (some ⟨b, off, none⟩) l.length cap, .int .i64 0, .int .i64 0] 87 ∧ TokB B w b off cap l
  | .error p => p.2 ≠ 0 ∧ ∃ q n cap, HBox w g [.slice q n cap, .int .i64 (p.1 : Int), .int .i64 p.2] 87
structure QR (B : Nat) (w : World) (g : Nat) (st : St) : Prop where
  lt : g < B
  top : B ≤ w.heap.size
  box : QBx B w g st
theorem QR.stay {B : Nat} {w w' : World} {g : Nat} {st : St} (h : QR B w g st) (hw : Below B w w') : QR B w' g st := by
  refine ⟨h.lt, Nat.le_trans h.top hw.size, ?_⟩
  have hb := h.box
  cases st with
  | ok l =>
    obtain ⟨b, off, cap, h1, h2, h3⟩ := hb
    exact ⟨b, off, cap, h1, (hw.block g h.lt).trans h2, h3.stay h.top hw⟩
  | error p =>
    obtain ⟨h1, q, n, cap, h2⟩ := hb
    exact ⟨h1, q, n, cap, (hw.block g h.lt).trans h2⟩
theorem QR.ends {B : Nat} {w : World} {g : Nat} {l : List Tk} (h : QR B w g (.ok l)) : EndsL l := by
  obtain ⟨b, off, cap, h1, h2, h3⟩ := h.box
  exact h3.ends
set_option maxHeartbeats 1000000 in
set_option maxRecDepth 100000 in
theorem wrong_q {B : Nat} {w : World} {g : Nat} {st : St} (h : QR B w g st) {c : Int} (hc : c ≠ 0) :
    Calls Tryz.prog 37 #[.pointer (some ⟨g, 0, none⟩), .int .i64 c] w fun e w' => e = .returned (.tuple #[]) ∧ w.grownBy w' (some g) ∧ QR B w' g (wrongQ c st) := by
  have hB := h.box
  cases st with
  | ok l =>
    obtain ⟨t, r, rfl⟩ := h.ends.form
    obtain ⟨b, off, cap, h1, h2, h3⟩ := hB
    obtain ⟨c0, c1, c2, c3, c4⟩ := tok_cells h3.recs
    have hcap := h3.cap
    have hfew := h3.few
    have x0 := h2.cell (j := 0) rfl
    have x1 := h2.cell (j := 1) rfl
    have x2 := h2.cell (j := 2) rfl
    have f1 := h2.frozen 1
    have f2 := h2.frozen 2
    have hg := h2.size
    simp only [List.length_cons] at x0 hcap hfew
    have HG := Lib.hid (h2.set 1 (.int .i64 (t.at_ : Int)) |>.set 2 (.int .i64 c))
    have HW := Lib.hid ((grownBy_set w ⟨g, 1, none⟩ (.int .i64 (t.at_ : Int))).trans (grownBy_set _ ⟨g, 2, none⟩ (.int .i64 c)))
    have HL := Lib.hid (And.intro h.lt h.top)
    clear h h1 h2 h3
    go_enter Tryz.func37, Tryz.ntmps37
    go_wp2
    go_end0
    exact ⟨rfl, HW.out, HL.out.1, Nat.le_trans HL.out.2 HW.out.size, hc, _, _, _, HG.out⟩
  | error p =>
    obtain ⟨h1, q, n, cap, h2⟩ := hB
    have x2 := h2.cell (j := 2) rfl
    have t0 : (p.2 == 0) = false := by rw [beq_eq_false_iff_ne]; exact h1
    have HH := Lib.hid h
    clear h h1 h2
    go_enter Tryz.func37, Tryz.ntmps37
    go_wp2
    go_end0
    exact ⟨rfl, grown_selfG w _, HH.out⟩
set_option maxHeartbeats 1000000 in
set_option maxRecDepth 100000 in
theorem is_q {B : Nat} {w : World} {g : Nat} {st : St} (h : QR B w g st) (k : Nat) (s : List UInt8) :
    Calls Tryz.prog 38 #[.pointer (some ⟨g, 0, none⟩), .int .i64 (k : Int), .string ⟨s.toArray⟩] w fun e w' => e = .returned (.bool (isQ k s st)) ∧ w' = w := by
  have hB := h.box
  cases st with
  | ok l =>
    obtain ⟨t, r, rfl⟩ := h.ends.form
    obtain ⟨b, off, cap, h1, h2, h3⟩ := hB
    obtain ⟨c0, c1, c2, c3, c4⟩ := tok_cells h3.recs
    have hcap := h3.cap
    have hfew := h3.few
    have x0 := h2.cell (j := 0) rfl
    have x2 := h2.cell (j := 2) rfl
    simp only [List.length_cons] at x0 hcap hfew
    have hR : isQ k s (.ok (t :: r)) = (t.kind == k && (s == [] || t.text == s)) := rfl
    have HR := Lib.hid hR
    obtain ⟨R, hRe⟩ : ∃ R, isQ k s (.ok (t :: r)) = R := ⟨_, rfl⟩
    rw [hRe]
    rw [hRe] at HR
    clear h h1 h2 h3 hR hRe
    by_cases hk : t.kind = k
    · subst hk
      have t1 : ((t.kind : Int) == (t.kind : Int)) = true := by simp
      by_cases hs : s = []
      · subst hs
        have hv := HR.out
        simp at hv
        subst hv
        clear HR
        go_enter Tryz.func38, Tryz.ntmps38
        go_wp2
        go_ret
        exact ⟨rfl, rfl⟩
      · have t2 : (s == []) = false := beq_eq_false_iff_ne.2 hs
        have hv := HR.out
        rw [t2] at hv
        simp only [beq_self_eq_true, Bool.true_and, Bool.false_or] at hv
        have t2' : s.isEmpty = false := by cases s with | nil => exact absurd rfl hs | cons a b => rfl
        subst hv
        clear HR
        go_enter Tryz.func38, Tryz.ntmps38
        go_wp2
        go_ret
        exact ⟨rfl, rfl⟩
    · have t1 : ((t.kind : Int) == (k : Int)) = false := by rw [beq_eq_false_iff_ne]; omega
      have hv := HR.out
      rw [beq_eq_false_iff_ne.2 hk, Bool.false_and] at hv
      subst hv
      clear HR hk
      go_enter Tryz.func38, Tryz.ntmps38
      go_wp2
      go_ret
      exact ⟨rfl, rfl⟩
  | error p =>
    obtain ⟨h1, q, n, cap, h2⟩ := hB
    have x2 := h2.cell (j := 2) rfl
    have t0 : (p.2 == 0) = false := by rw [beq_eq_false_iff_ne]; exact h1
    show Calls _ _ _ w fun e w' => e = .returned (.bool false) ∧ w' = w
    clear h h1 h2
    go_enter Tryz.func38, Tryz.ntmps38
    go_wp2
    go_ret
    exact ⟨rfl, rfl⟩
end Go.Proofs.YtffhnedladiaoaaGreatDoor
/- Law 14's Q in memory: need, number. -/
namespace Go.Proofs.YtffhnedladiaoaaGreatDoor
open Go.RowKit Go.Lib
set_option linter.unusedVariables false
set_option linter.unusedSimpArgs false
theorem needT_of {k : Nat} {s : List UInt8} {t : Tk} {r : List Tk} (h : isT k s (t :: r) = true) : needT k s (t :: r) = .ok (t, r) := by unfold needT; simp only; rw [if_pos h]
theorem needT_not {k : Nat} {s : List UInt8} {t : Tk} {r : List Tk} (h : isT k s (t :: r) = false) : needT k s (t :: r) = .error (t.at_, 1) := by unfold needT; simp only; rw [if_neg (by rw [h]; decide)]
theorem isT_kind {k : Nat} {s : List UInt8} {t : Tk} {r : List Tk} (h : isT k s (t :: r) = true) : t.kind = k := by
  simp only [isT, Bool.and_eq_true, beq_iff_eq] at h
  exact h.1
/-- What need leaves where the token isn't there. -/
theorem aft_not {k : Nat} {s : List UInt8} {st : St} (hne : ∀ l, st = .ok l → ∃ t r, l = t :: r) (h : isQ k s st = false) : stOf (aft (needT k s) st) = wrongQ 1 st ∧ valT (aft (needT k s) st) = ⟨0, [], 0, 0, 0⟩ := by
  cases st with
  | error p => exact ⟨rfl, rfl⟩
  | ok l =>
    obtain ⟨t, r, rfl⟩ := hne l rfl
    have : aft (needT k s) (.ok (t :: r)) = .error (t.at_, 1) := needT_not h
    rw [this]
    exact ⟨rfl, rfl⟩
set_option maxHeartbeats 2000000 in
set_option maxRecDepth 100000 in
theorem need_q {B : Nat} {w : World} {g : Nat} {st : St} (h : QR B w g st) {k : Nat} (hk : k ≠ 0) (s : List UInt8) :
    Calls Tryz.prog 39 #[.pointer (some ⟨g, 0, none⟩), .int .i64 (k : Int), .string ⟨s.toArray⟩] w fun e w' => e = .returned (tokV (valT (aft (needT k s) st))) ∧ w.grownBy w' (some g) ∧ QR B w' g (stOf (aft (needT k s) st)) := by
  have KI := Lib.hid (fun w' (hb : Below w.heap.size w w') => is_q (h.stay (hb.mono h.top)) k s)
  have b1 := (Below.refl w.heap.size w).alloc (Nat.le_refl _) (.cells #[.int .i64 0, .string ⟨#[]⟩, .int .i64 0, .int .i32 0, .int .i64 0] 90)
  have r1 := HBox.new w [.int .i64 0, .string ⟨#[]⟩, .int .i64 0, .int .i32 0, .int .i64 0] 90
  change HBox (w.alloc (.cells #[.int .i64 0, .string ⟨#[]⟩, .int .i64 0, .int .i32 0, .int .i64 0] 90)) _ _ _ at r1
  have HH := Lib.hid h
  cases hq : isQ k s st with
  | false =>
    have KW := Lib.hid (fun w' (hb : Below w.heap.size w w') => wrong_q (h.stay (hb.mono h.top)) (c := 1) (by decide))
    rw [hq] at KI
    obtain ⟨e1, e2⟩ := aft_not (fun l hl => by subst hl; exact h.ends.form) hq
    rw [e1, e2]
    unfold tokV
    clear h hq e1 e2
    go_enter Tryz.func39, Tryz.ntmps39
    go_upto_region 1 with fail
    generalize w.alloc (.cells #[.int .i64 0, .string ⟨#[]⟩, .int .i64 0, .int .i32 0, .int .i64 0] 90) = W1 at *
    have HB1 := Lib.hid b1
    have HR1 := Lib.hid r1
    obtain ⟨X, hXe⟩ : ∃ X, w.heap.size = X := ⟨_, rfl⟩
    have HX := Lib.hid hXe
    have hgX : g ≠ X := by have := HH.out.lt; have := HH.out.top; omega
    rw [hXe] at r1 ⊢
    have HR1 := Lib.hid r1
    clear b1 r1 hXe
    go_upto_region 3 with (first
      | (go_at_call 37; refine (KW.out _ HB1.out).mono ?_; rintro e W5 ⟨rfl, h5, hq5⟩; have HG5 := Lib.hid (grown_trans' (grown_below' HB1.out (some g)) h5); have HQ5 := Lib.hid hq5; have HR5 := Lib.hid (HR1.out.grown h5 (fun e => hgX (Option.some.inj e).symm)); clear h5 hq5)
      | (go_at_call 38; refine (KI.out _ HB1.out).mono ?_; rintro e W4 ⟨rfl, h4⟩; obtain rfl : W1 = W4 := h4.symm))
    have v0 := HR5.out.frozen 0
    have v1 := HR5.out.frozen 1
    have v2 := HR5.out.frozen 2
    have v3 := HR5.out.frozen 3
    have v4 := HR5.out.frozen 4
    have z0 := HR5.out.cell (j := 0) rfl
    have z1 := HR5.out.cell (j := 1) rfl
    have z2 := HR5.out.cell (j := 2) rfl
    have z3 := HR5.out.cell (j := 3) rfl
    have z4 := HR5.out.cell (j := 4) rfl
    go_wp2_with fail
    have r5 := HR5.out.set5 (.int .i64 0) (.string ⟨#[]⟩) (.int .i64 0) (.int .i32 0) (.int .i64 0)
    have g5 := grown_sets5 W5 X (.int .i64 0) (.string ⟨#[]⟩) (.int .i64 0) (.int .i32 0) (.int .i64 0)
    have u0 := r5.cell (j := 0) rfl
    have u1 := r5.cell (j := 1) rfl
    have u2 := r5.cell (j := 2) rfl
    have u3 := r5.cell (j := 3) rfl
    have u4 := r5.cell (j := 4) rfl
    refine bodyPost_ret (v := .agg #[.int .i64 0, .string ⟨#[]⟩, .int .i64 0, .int .i32 0, .int .i64 0]) (by simp [results, Tryz.results39, go_sem, u0, u1, u2, u3, u4]) rfl ?_
    exact ⟨rfl, grown_up HG5.out g5 (Nat.le_of_eq HX.out), HQ5.out.stay (grownBy_below g5 (by have := HX.out; have := HH.out.top; show B ≤ X; omega) HQ5.out.top)⟩
  | true =>
    cases st with
    | error p => cases hq
    | ok l =>
    obtain ⟨t, r, rfl⟩ := h.ends.form
    rw [hq] at KI
    have hq' : isT k s (t :: r) = true := hq
    have hk' := isT_kind hq'
    subst hk'
    have e1 : aft (needT t.kind s) (.ok (t :: r)) = .ok (t, r) := needT_of hq'
    rw [e1]
    show Calls _ _ _ w fun e w' => e = .returned (tokV t) ∧ w.grownBy w' (some g) ∧ QR B w' g (.ok r)
    unfold tokV
    clear h hq e1 hq'
    go_enter Tryz.func39, Tryz.ntmps39
    go_upto_region 1 with fail
    generalize w.alloc (.cells #[.int .i64 0, .string ⟨#[]⟩, .int .i64 0, .int .i32 0, .int .i64 0] 90) = W1 at *
    have HB1 := Lib.hid b1
    have HR1 := Lib.hid r1
    obtain ⟨X, hXe⟩ : ∃ X, w.heap.size = X := ⟨_, rfl⟩
    have HX := Lib.hid hXe
    have hgX : g ≠ X := by have := HH.out.lt; have := HH.out.top; omega
    rw [hXe] at r1 ⊢
    have HR1 := Lib.hid r1
    clear b1 r1 hXe
    have P1 := HH.out.stay (HB1.out.mono HH.out.top)
    obtain ⟨b, off, cap, p1, p2, p3⟩ := P1.box
    obtain ⟨c0, c1, c2, c3, c4⟩ := tok_cells p3.recs
    have hr := p3.ends.tail hk
    obtain ⟨t', r', rfl⟩ := hr.form
    have x0 := p2.cell (j := 0) rfl
    have hcap := p3.cap
    have hfew := p3.few
    simp only [List.length_cons] at x0 hcap hfew
    go_upto_region 5 with (go_at_call 38; refine (KI.out _ HB1.out).mono ?_; rintro e W4 ⟨rfl, h4⟩; obtain rfl : W1 = W4 := h4.symm)
    have b3 := HB1.out.alloc HB1.out.size (.cells #[.int .i64 (t.kind : Int), .string ⟨t.text.toArray⟩, .int .i64 t.num, .int .i32 t.day, .int .i64 (t.at_ : Int)] 90)
    have r3 := HR1.out.alloc (.cells #[.int .i64 (t.kind : Int), .string ⟨t.text.toArray⟩, .int .i64 t.num, .int .i32 t.day, .int .i64 (t.at_ : Int)] 90)
    have q3 := HBox.new W1 [.int .i64 (t.kind : Int), .string ⟨t.text.toArray⟩, .int .i64 t.num, .int .i32 t.day, .int .i64 (t.at_ : Int)] 90
    change HBox (W1.alloc (.cells #[.int .i64 (t.kind : Int), .string ⟨t.text.toArray⟩, .int .i64 t.num, .int .i32 t.day, .int .i64 (t.at_ : Int)] 90)) _ _ _ at q3
    have hXY : X < W1.heap.size := HR1.out.size
    generalize W1.alloc (.cells #[.int .i64 (t.kind : Int), .string ⟨t.text.toArray⟩, .int .i64 t.num, .int .i32 t.day, .int .i64 (t.at_ : Int)] 90) = W3 at *
    have HB3 := Lib.hid b3
    have HR3 := Lib.hid r3
    have HQ3 := Lib.hid q3
    clear b3 r3 q3 HR1 x0 p2 p3 P1 c0 c1 c2 c3 c4 hcap hr KI
    generalize W1.heap.size = Y at *
    have P3 := HH.out.stay (HB3.out.mono HH.out.top)
    obtain ⟨b, off, cap, p1, p2, p3⟩ := P3.box
    have x0 := p2.cell (j := 0) rfl
    have xf := p2.frozen 0
    have hcap := p3.cap
    simp only [List.length_cons] at x0 hcap
    have hs := fun w => slice_tok b off (r'.length + 1 + 1) cap (by omega) (by omega) w
    have e1 : r'.length + 1 + 1 - 1 = r'.length + 1 := by omega
    rw [e1] at hs
    have hgY : g ≠ Y := by have := HH.out.lt; have := HH.out.top; have := HX.out; omega
    have HG4 := Lib.hid (p2.set 0 (.slice (some ⟨b, off + 5, none⟩) (r'.length + 1) (cap - 1)))
    have HW4 := Lib.hid (grown_trans' (grown_below' HB3.out (some g)) (grown_set W3 g 0 (.slice (some ⟨b, off + 5, none⟩) (r'.length + 1) (cap - 1))))
    have HT4 := Lib.hid ((p3.tail (Nat.le_trans HH.out.top HB3.out.size) hk).grown (grown_set W3 g 0 (.slice (some ⟨b, off + 5, none⟩) (r'.length + 1) (cap - 1))) p1)
    have HX4 := Lib.hid (HR3.out.grown (grown_set W3 g 0 (.slice (some ⟨b, off + 5, none⟩) (r'.length + 1) (cap - 1))) (fun e => hgX (Option.some.inj e).symm))
    have HQ4 := Lib.hid (HQ3.out.grown (grown_set W3 g 0 (.slice (some ⟨b, off + 5, none⟩) (r'.length + 1) (cap - 1))) (fun e => hgY (Option.some.inj e).symm))
    clear p2 p3 P3 HQ3 HR3
    go_upto_region 6 with fail
    generalize W3.setCell ⟨g, 0, none⟩ (.slice (some ⟨b, off + 5, none⟩) (r'.length + 1) (cap - 1)) = W4 at *
    have y0 := HQ4.out.cell (j := 0) rfl
    have y1 := HQ4.out.cell (j := 1) rfl
    have y2 := HQ4.out.cell (j := 2) rfl
    have y3 := HQ4.out.cell (j := 3) rfl
    have y4 := HQ4.out.cell (j := 4) rfl
    have z0 := HX4.out.cell (j := 0) rfl
    have z1 := HX4.out.cell (j := 1) rfl
    have z2 := HX4.out.cell (j := 2) rfl
    have z3 := HX4.out.cell (j := 3) rfl
    have z4 := HX4.out.cell (j := 4) rfl
    have v0 := HX4.out.frozen 0
    have v1 := HX4.out.frozen 1
    have v2 := HX4.out.frozen 2
    have v3 := HX4.out.frozen 3
    have v4 := HX4.out.frozen 4
    clear x0 xf hs
    go_wp2_with fail
    have r5 := HX4.out.set5 (.int .i64 (t.kind : Int)) (.string ⟨t.text.toArray⟩) (.int .i64 t.num) (.int .i32 t.day) (.int .i64 (t.at_ : Int))
    have g5 := grown_sets5 W4 X (.int .i64 (t.kind : Int)) (.string ⟨t.text.toArray⟩) (.int .i64 t.num) (.int .i32 t.day) (.int .i64 (t.at_ : Int))
    have u0 := r5.cell (j := 0) rfl
    have u1 := r5.cell (j := 1) rfl
    have u2 := r5.cell (j := 2) rfl
    have u3 := r5.cell (j := 3) rfl
    have u4 := r5.cell (j := 4) rfl
    have hlt := HT4.out.lt
    have hB := HH.out.top
    refine bodyPost_ret (v := .agg #[.int .i64 (t.kind : Int), .string ⟨t.text.toArray⟩, .int .i64 t.num, .int .i32 t.day, .int .i64 (t.at_ : Int)]) (by simp [results, Tryz.results39, go_sem, u0, u1, u2, u3, u4]) rfl ?_
    exact ⟨rfl, grown_up HW4.out g5 (Nat.le_of_eq HX.out), HH.out.lt, Nat.le_trans hB (Nat.le_trans HW4.out.size g5.size), b, off + 5, cap - 1, p1, HG4.out.grown g5 (fun e => hgX (Option.some.inj e)), HT4.out.grown g5 (by have := HX.out; omega)⟩
/-- What number leaves. -/
theorem numR_num {a b : Int} {t : Tk} {r : List Tk} (h2 : t.kind = 2) : numR a b (t :: r) = if t.num < a ∨ b < t.num then .error (t.at_, 5) else .ok (t.num.toNat, r) := by unfold numR; simp only; rw [if_pos h2]
set_option maxHeartbeats 2000000 in
set_option maxRecDepth 100000 in
theorem number_q {B : Nat} {w : World} {g : Nat} {st : St} (h : QR B w g st) {a b : Int} (ha : 0 ≤ a) :
    Calls Tryz.prog 64 #[.pointer (some ⟨g, 0, none⟩), .int .i64 a, .int .i64 b] w fun e w' => e = .returned (.int .i64 (valN (aft (numR a b) st) : Int)) ∧ w.grownBy w' (some g) ∧ QR B w' g (stOf (aft (numR a b) st)) := by
  have KI := Lib.hid (is_q h 2 [])
  have f2 := fun (a b c d e : Value) (w : World) => field_tk2 a b c d e w
  cases hq : isQ 2 [] st with
  | false =>
    have KN := need_q h (k := 2) (by decide) []
    obtain ⟨e1, e2⟩ := aft_not (fun l hl => by subst hl; exact h.ends.form) hq
    rw [e1, e2] at KN
    unfold tokV at KN
    have KN := Lib.hid KN
    rw [hq] at KI
    have e3 : stOf (aft (numR a b) st) = wrongQ 1 st ∧ valN (aft (numR a b) st) = 0 := by
      cases st with
      | error p => exact ⟨rfl, rfl⟩
      | ok l =>
        obtain ⟨t, r, rfl⟩ := h.ends.form
        have hk : t.kind ≠ 2 := fun e => by
          have : isQ 2 [] (.ok (t :: r)) = (t.kind == 2) := isT_any 2 t r
          rw [this, e] at hq; cases hq
        have : aft (numR a b) (.ok (t :: r)) = .error (t.at_, 1) := numR_form hk
        rw [this]; exact ⟨rfl, rfl⟩
    rw [e3.1, e3.2]
    clear h hq e1 e2 e3
    go_enter Tryz.func64, Tryz.ntmps64
    go_wp2_with (first
      | (go_at_call 39; refine KN.out.mono ?_; rintro e w5 ⟨rfl, h5, hq5⟩; have HG5 := Lib.hid h5; have HQ5 := Lib.hid hq5; clear h5 hq5)
      | (go_at_call 38; refine KI.out.mono ?_; rintro e w4 ⟨rfl, h4⟩; obtain rfl : w = w4 := h4.symm))
    go_ret
    exact ⟨rfl, HG5.out, HQ5.out⟩
  | true =>
    cases st with
    | error p => cases hq
    | ok l =>
    obtain ⟨t, r, rfl⟩ := h.ends.form
    rw [hq] at KI
    have hk2 : t.kind = 2 := isT_kind (s := []) (r := r) hq
    obtain ⟨b0, off, cap, p1, p2, p3⟩ := h.box
    obtain ⟨c0, c1, c2, c3, c4⟩ := tok_cells p3.recs
    have hcap := p3.cap
    have hfew := p3.few
    have x0 := p2.cell (j := 0) rfl
    simp only [List.length_cons] at x0 hcap hfew
    have hR : aft (numR a b) (.ok (t :: r)) = if t.num < a ∨ b < t.num then .error (t.at_, 5) else .ok (t.num.toNat, r) := numR_num hk2
    by_cases hr : t.num < a ∨ b < t.num
    · rw [if_pos hr] at hR
      rw [hR]
      show Calls _ _ _ w fun e w' => e = .returned (.int .i64 0) ∧ w.grownBy w' (some g) ∧ QR B w' g (.error (t.at_, 5))
      have KW := Lib.hid (wrong_q h (c := 5) (by decide))
      have KN := Lib.hid (fun w' (hh : QR B w' g (.error (t.at_, 5))) => need_q hh (k := 2) (by decide) [])
      change Hid (∀ w', _ → Calls _ _ _ w' fun e w2 => e = .returned (tokV ⟨0, [], 0, 0, 0⟩) ∧ w'.grownBy w2 (some g) ∧ QR B w2 g (.error (t.at_, 5))) at KN
      unfold tokV at KN
      have hb : decide (t.num < a) = true ∨ (decide (t.num < a) = false ∧ decide (b < t.num) = true) := by
        by_cases h1 : t.num < a
        · exact .inl (decide_eq_true h1)
        · exact .inr ⟨decide_eq_false h1, decide_eq_true (hr.resolve_left h1)⟩
      clear h hq hR hr p1 p2 p3 hk2
      rcases hb with t1 | ⟨t1, t2⟩
      all_goals
        go_enter Tryz.func64, Tryz.ntmps64
        go_wp2_with (first
          | (go_at_call 39; refine (KN.out _ HQ4.out).mono ?_; rintro e w5 ⟨rfl, h5, hq5⟩; have HG5 := Lib.hid (grown_trans' HG4.out h5); have HQ5 := Lib.hid hq5; clear h5 hq5)
          | (go_at_call 37; refine KW.out.mono ?_; rintro e w4 ⟨rfl, h4, hq4⟩; have HG4 := Lib.hid h4; have HQ4 := Lib.hid hq4; clear h4 hq4)
          | (go_at_call 38; refine KI.out.mono ?_; rintro e w3 ⟨rfl, h3⟩; obtain rfl : w = w3 := h3.symm))
        go_ret
        exact ⟨rfl, HG5.out, HQ5.out⟩
    · rw [if_neg hr] at hR
      rw [hR]
      show Calls _ _ _ w fun e w' => e = .returned (.int .i64 (t.num.toNat : Int)) ∧ w.grownBy w' (some g) ∧ QR B w' g (.ok r)
      have KN := need_q h (k := 2) (by decide) []
      rw [show aft (needT 2 []) (.ok (t :: r)) = .ok (t, r) from needT_of hq] at KN
      change Calls _ _ _ w fun e w2 => e = .returned (tokV t) ∧ w.grownBy w2 (some g) ∧ QR B w2 g (.ok r) at KN
      unfold tokV at KN
      have KN := Lib.hid KN
      have t1 : decide (t.num < a) = false := decide_eq_false (by omega)
      have t2 : decide (b < t.num) = false := decide_eq_false (by omega)
      have HN := Lib.hid (show t.num = (t.num.toNat : Int) by omega)
      clear h hq hR hr p1 p2 p3 hk2
      go_enter Tryz.func64, Tryz.ntmps64
      go_wp2_with (first
        | (go_at_call 39; refine KN.out.mono ?_; rintro e w5 ⟨rfl, h5, hq5⟩; have HG5 := Lib.hid h5; have HQ5 := Lib.hid hq5; clear h5 hq5)
        | (go_at_call 38; refine KI.out.mono ?_; rintro e w3 ⟨rfl, h3⟩; obtain rfl : w = w3 := h3.symm))
      go_ret
      exact ⟨congrArg (fun x => Ending.returned (Value.int .i64 x)) HN.out, HG5.out, HQ5.out⟩
end Go.Proofs.YtffhnedladiaoaaGreatDoor
/- Law 14's Q in memory: an op that is being read; renames, two numbers. -/
namespace Go.Proofs.YtffhnedladiaoaaGreatDoor
open Go.RowKit Go.Lib
set_option linter.unusedVariables false
set_option linter.unusedSimpArgs false
/-- But for two blocks a world is as it was. -/
structure Kep (w w' : World) (g Z : Nat) : Prop where
  os : w'.os = w.os
  tape : w'.tape = w.tape
  output : w'.output = w.output
  size : w.heap.size ≤ w'.heap.size
  block : ∀ k, k < w.heap.size → k ≠ g → k ≠ Z → w'.heap[k]? = w.heap[k]?
theorem Kep.refl (w : World) (g Z : Nat) : Kep w w g Z := ⟨rfl, rfl, rfl, Nat.le_refl _, fun _ _ _ _ => rfl⟩
theorem Kep.step {w w' w'' : World} {g Z : Nat} {row : Option Nat} (h : Kep w w' g Z) (k : w'.grownBy w'' row) (hr : ∀ Y, row = some Y → Y = g ∨ Y = Z ∨ w.heap.size ≤ Y) : Kep w w'' g Z :=
  ⟨k.os.trans h.os, k.tape.trans h.tape, k.output.trans h.output, Nat.le_trans h.size k.size, fun i hi h1 h2 => (k.block i (Nat.lt_of_lt_of_le hi h.size) (fun e => by rcases hr i e.symm with h | h | h; exact h1 h; exact h2 h; omega)).trans (h.block i hi h1 h2)⟩
theorem Kep.below {w w' : World} {g Z B : Nat} (h : Kep w w' g Z) (hg : B ≤ g) (hZ : B ≤ Z) (hB : B ≤ w.heap.size) : Below B w w' := ⟨h.os, h.tape, h.output, h.size, fun k hk => h.block k (by omega) (by omega) (by omega)⟩
theorem Kep.owns {w w' : World} {g Z base size n : Nat} {e : TypeId} {v : Value} {xs : List Value} (h : Kep w w' g Z) (ho : w.ownsRow base e size v n xs) (hg : v.ownBlock ≠ some g) (hZ : v.ownBlock ≠ some Z) : w'.ownsRow base e size v n xs := by
  have hlt := ho.lt
  refine ⟨ho.1, ?_⟩
  rcases ho.2 with h1 | ⟨b, cap, cur, h1, h2, h3, h4⟩
  · exact .inl h1
  · subst h1
    have hb : b < w.heap.size := (hlt b rfl).2
    exact .inr ⟨b, cap, cur, rfl, h2, (h.block b hb (fun e => hg (by rw [← e]; rfl)) (fun e => hZ (by rw [← e]; rfl))).trans h3, h4⟩
/-- The op's box, Z; Q, g. -/
structure QW (B Z g : Nat) (w W : World) (st : St) (cs : List Value) : Prop where
  lt : g < B ∧ B ≤ Z
  box : HBox W Z cs 38
  kept : Kep w W g Z
  qr : QR B W g st
theorem QW.call {B Z g : Nat} {w W W' : World} {st st' : St} {cs : List Value} (h : QW B Z g w W st cs) (hG : W.grownBy W' (some g)) (hq : QR B W' g st') : QW B Z g w W' st' cs := by
  obtain ⟨h1, h2⟩ := h.lt
  exact ⟨h.lt, h.box.grown hG (fun e => by have := Option.some.inj e; omega), h.kept.step hG (fun Y e => .inl (Option.some.inj e).symm), hq⟩
theorem QW.row {B Z g : Nat} {w W W' : World} {st : St} {cs : List Value} {row : Option Nat} (h : QW B Z g w W st cs) (hG : W.grownBy W' row) (hr : ∀ Y, row = some Y → w.heap.size ≤ Y ∧ B ≤ Y ∧ Y ≠ Z) : QW B Z g w W' st cs := by
  obtain ⟨h1, h2⟩ := h.lt
  exact ⟨h.lt, h.box.grown hG (fun e => (hr Z e.symm).2.2 rfl), h.kept.step hG (fun Y e => .inr (.inr (hr Y e).1)), h.qr.stay ((Below.refl B W).grown hG h.qr.top (fun Y e => (hr Y e).2.1))⟩
theorem QW.set {B Z g : Nat} {w W : World} {st : St} {cs : List Value} (h : QW B Z g w W st cs) (j : Nat) (u : Value) : QW B Z g w (W.setCell ⟨Z, j, none⟩ u) st (cs.set j u) := by
  obtain ⟨h1, h2⟩ := h.lt
  exact ⟨h.lt, h.box.set j u, h.kept.step (grown_set W Z j u) (fun Y e => .inr (.inl (Option.some.inj e).symm)), h.qr.stay (grownBy_below (grown_set W Z j u) h2 h.qr.top)⟩
/-- What Q's op leaves. -/
def OpQ (B g Z : Nat) (w : World) (k : Nat) (at_ : Int) (l : List Tk) (e : Ending) (w' : World) : Prop := e = .returned (.tuple #[]) ∧ Kep w w' g Z ∧ QR B w' g (stOf (opR k l)) ∧
  ∃ (k' : Int) (fr tg : Nat) (nm : List UInt8) (rP : Option Addr) (nP cP : Nat) (rS : Option Addr) (nS cS : Nat) (en : Int), HBox w' Z [.int .i64 k', .int .u32 (fr : Int), .int .u32 (tg : Int), .string ⟨nm.toArray⟩, .slice rP nP cP, .slice rS nS cS, .int .i32 en, .int .i64 at_] 38 ∧
    ∀ o r, opR k l = .ok (o, r) → k' = (o.kind : Int) ∧ fr = o.frm ∧ tg = o.to ∧ nm = o.name ∧ en = o.en ∧ nP = o.parts.length ∧ nS = o.starts.length ∧ OpOwn w.heap.size w' ⟨o, at_, .slice rP nP cP, .slice rS nS cS⟩
theorem valN_le {a b : Int} (ha : 0 ≤ a) (hb : 0 ≤ b) (st : St) : (valN (aft (numR a b) st) : Int) ≤ b := by
  cases st with
  | error p => exact hb
  | ok l =>
    show (valN (numR a b l) : Int) ≤ b
    cases h : numR a b l with
    | error p => exact hb
    | ok x => obtain ⟨n, r⟩ := x; exact (numR_in ha h).2
theorem stq_1 (l : List Tk) : stOf (opR 1 l) = stOf (aft (needT 4 []) (stOf (aft (numR 1 999999) (.ok l)))) ∧ ∀ o r, opR 1 l = .ok (o, r) → o = ⟨1, valN (aft (numR 1 999999) (.ok l)), 0, (valT (aft (needT 4 []) (stOf (aft (numR 1 999999) (.ok l))))).text, [], [], 0⟩ := by
  have e : opR 1 l = thenR (numR 1 999999) (fun a => thenR (needT 4 []) fun t => backR ⟨1, a, 0, t.text, [], [], 0⟩) l := by unfold opR; rw [if_neg (by decide), if_pos rfl]
  rw [e]
  cases h1 : numR 1 999999 l with
  | error p => simp [thenR, aft, stOf, h1]
  | ok a =>
    obtain ⟨n, l2⟩ := a
    cases h2 : needT 4 [] l2 with
    | error p => simp [thenR, aft, stOf, h1, h2]
    | ok b =>
      obtain ⟨t, l3⟩ := b
      simp only [thenR, aft, stOf, h1, h2, valN, valT, backR, true_and]
      intro o r h
      cases h
      rfl
set_option maxHeartbeats 4000000 in
set_option maxRecDepth 100000 in
theorem opq_1 {B : Nat} {w : World} {g Z : Nat} {l : List Tk} {at_ : Int} (h : QR B w g (.ok l)) (hz : HBox w Z [.int .i64 1, .int .u32 0, .int .u32 0, .string ⟨#[]⟩, .slice none 0 0, .slice none 0 0, .int .i32 0, .int .i64 at_] 38) (hB : B ≤ Z) :
    Calls Tryz.prog 40 #[.pointer (some ⟨g, 0, none⟩), .pointer (some ⟨Z, 0, none⟩)] w fun e w' => OpQ B g Z w 1 at_ l e w' := by
  have HW0 : Hid (QW B Z g w w (.ok l) [.int .i64 1, .int .u32 0, .int .u32 0, .string ⟨#[]⟩, .slice none 0 0, .slice none 0 0, .int .i32 0, .int .i64 at_]) := Lib.hid ⟨⟨h.lt, hB⟩, hz, Kep.refl _ _ _, h⟩
  have c0 := hz.cell (j := 0) rfl
  have f1 := fun (a b c d e : Value) (w : World) => field_tk1 a b c d e w
  have f3 := fun (a b c d e : Value) (w : World) => field_tk3 a b c d e w
  clear h hz hB
  have KN1 := Lib.hid (fun w' (hq : QR B w' g (.ok l)) => number_q hq (a := 1) (b := 999999) (by decide))
  have hn1 := valN_le (a := 1) (b := 999999) (by decide) (by decide) (.ok l)
  obtain ⟨x1, hx1⟩ : ∃ x, aft (numR 1 999999) (.ok l) = x := ⟨_, rfl⟩
  rw [hx1] at KN1 hn1
  obtain ⟨n1, hv1⟩ : ∃ n, valN x1 = n := ⟨_, rfl⟩
  rw [hv1] at KN1 hn1
  obtain ⟨s1, hs1⟩ : ∃ s, stOf x1 = s := ⟨_, rfl⟩
  rw [hs1] at KN1
  have hu1 : IntKind.u32.wrap (n1 : Int) = (n1 : Int) := by rw [IntKind.wrap_u32]; omega
  have KT2 := Lib.hid (fun w' (hq : QR B w' g s1) => need_q hq (k := 4) (by decide) [])
  obtain ⟨x2, hx2⟩ : ∃ x, aft (needT 4 []) s1 = x := ⟨_, rfl⟩
  rw [hx2] at KT2
  obtain ⟨t2, hv2⟩ : ∃ t, valT x2 = t := ⟨_, rfl⟩
  rw [hv2] at KT2
  obtain ⟨s2, hs2⟩ : ∃ s, stOf x2 = s := ⟨_, rfl⟩
  rw [hs2] at KT2
  unfold tokV at KT2
  obtain ⟨hS, hO⟩ := stq_1 l
  rw [hx1, hs1, hx2, hs2] at hS
  rw [hx1, hs1, hx2, hv1, hv2] at hO
  have HS := Lib.hid hS
  have HO := Lib.hid hO
  clear hx1 hx2 hv1 hv2 hs1 hs2 hS hO
  go_enter Tryz.func40, Tryz.ntmps40
  go_upto_region 16 with (go_at_call 64; refine (KN1.out _ HW0.out.qr).mono ?_; rintro e w6 ⟨rfl, h6, hq⟩; have HW6 := Lib.hid (HW0.out.call h6 hq); have d1 := HW6.out.box.cell (j := 1) rfl; have e1 := HW6.out.box.frozen 1; have e9 := HW6.out.box.size; clear h6 hq)
  have HW7 : Hid (QW B Z g w (w6.setCell ⟨Z, 1, none⟩ (.int .u32 (n1 : Int))) s1 [.int .i64 1, .int .u32 (n1 : Int), .int .u32 0, .string ⟨#[]⟩, .slice none 0 0, .slice none 0 0, .int .i32 0, .int .i64 at_]) := Lib.hid (HW6.out.set 1 _)
  generalize w6.setCell ⟨Z, 1, none⟩ (.int .u32 (n1 : Int)) = W7 at *
  clear d1 e1 e9 HW6
  go_wp2_with (go_at_call 39; refine (KT2.out _ HW7.out.qr).mono ?_; rintro e w8 ⟨rfl, h6, hq⟩; have HW8 := Lib.hid (HW7.out.call h6 hq); have d3 := HW8.out.box.cell (j := 3) rfl; have e3 := HW8.out.box.frozen 3; have e9 := HW8.out.box.size; clear h6 hq)
  have HW9 : Hid (QW B Z g w (w8.setCell ⟨Z, 3, none⟩ (.string ⟨t2.text.toArray⟩)) s2 [.int .i64 1, .int .u32 (n1 : Int), .int .u32 0, .string ⟨t2.text.toArray⟩, .slice none 0 0, .slice none 0 0, .int .i32 0, .int .i64 at_]) := Lib.hid (HW8.out.set 3 _)
  go_end0
  refine ⟨rfl, HW9.out.kept, ?_, 1, n1, 0, t2.text, none, 0, 0, none, 0, 0, 0, HW9.out.box, fun o r ho => ?_⟩
  · rw [HS.out]; exact HW9.out.qr
  · have := HO.out o r ho
    subst this
    exact ⟨rfl, rfl, rfl, rfl, rfl, rfl, rfl, ownP_nil _ _, ownD_nil _ _, ⟨Nat.zero_le _, Nat.zero_le _⟩⟩
theorem stq_d {k : Nat} (n1 : k ≠ 1) (n4 : k ≠ 4) (n7 : k ≠ 7) (l : List Tk) : stOf (opR k l) = stOf (aft (numR (lK k) (mK k)) (stOf (aft (needT 1 (linkK k)) (stOf (aft (numR 1 (mK k)) (.ok l)))))) ∧
    ∀ o r, opR k l = .ok (o, r) → o = ⟨k, valN (aft (numR 1 (mK k)) (.ok l)), valN (aft (numR (lK k) (mK k)) (stOf (aft (needT 1 (linkK k)) (stOf (aft (numR 1 (mK k)) (.ok l)))))), [], [], [], 0⟩ := by
  rw [opd_is n1 n4 n7]
  cases h1 : numR 1 (mK k) l with
  | error p => simp [thenR, aft, stOf, h1]
  | ok a =>
    obtain ⟨n, l2⟩ := a
    cases h2 : needT 1 (linkK k) l2 with
    | error p => simp [thenR, aft, stOf, h1, h2]
    | ok b =>
      obtain ⟨t, l3⟩ := b
      cases h3 : numR (lK k) (mK k) l3 with
      | error p => simp [thenR, aft, stOf, h1, h2, h3]
      | ok c =>
        obtain ⟨m, l4⟩ := c
        simp only [thenR, aft, stOf, h1, h2, h3, valN, valT, backR, true_and]
        intro o r h
        cases h
        rfl
set_option maxHeartbeats 4000000 in
set_option maxRecDepth 100000 in
theorem opq_0 {B : Nat} {w : World} {g Z : Nat} {l : List Tk} {at_ : Int} (h : QR B w g (.ok l)) (hz : HBox w Z [.int .i64 0, .int .u32 0, .int .u32 0, .string ⟨#[]⟩, .slice none 0 0, .slice none 0 0, .int .i32 0, .int .i64 at_] 38) (hB : B ≤ Z) :
    Calls Tryz.prog 40 #[.pointer (some ⟨g, 0, none⟩), .pointer (some ⟨Z, 0, none⟩)] w fun e w' => OpQ B g Z w 0 at_ l e w' := by
  have HW0 : Hid (QW B Z g w w (.ok l) [.int .i64 0, .int .u32 0, .int .u32 0, .string ⟨#[]⟩, .slice none 0 0, .slice none 0 0, .int .i32 0, .int .i64 at_]) := Lib.hid ⟨⟨h.lt, hB⟩, hz, Kep.refl _ _ _, h⟩
  have c0 := hz.cell (j := 0) rfl
  have f1 := fun (a b c d e : Value) (w : World) => field_tk1 a b c d e w
  have f3 := fun (a b c d e : Value) (w : World) => field_tk3 a b c d e w
  clear h hz hB
  have KN1 := Lib.hid (fun w' (hq : QR B w' g (.ok l)) => number_q hq (a := 1) (b := 999999) (by decide))
  have hn1 := valN_le (a := 1) (b := 999999) (by decide) (by decide) (.ok l)
  obtain ⟨x1, hx1⟩ : ∃ x, aft (numR 1 999999) (.ok l) = x := ⟨_, rfl⟩
  rw [hx1] at KN1 hn1
  obtain ⟨n1, hv1⟩ : ∃ n, valN x1 = n := ⟨_, rfl⟩
  rw [hv1] at KN1 hn1
  obtain ⟨s1, hs1⟩ : ∃ s, stOf x1 = s := ⟨_, rfl⟩
  rw [hs1] at KN1
  have hu1 : IntKind.u32.wrap (n1 : Int) = (n1 : Int) := by rw [IntKind.wrap_u32]; omega
  have KT2 := Lib.hid (fun w' (hq : QR B w' g s1) => need_q hq (k := 1) (by decide) [116, 111])
  obtain ⟨x2, hx2⟩ : ∃ x, aft (needT 1 [116, 111]) s1 = x := ⟨_, rfl⟩
  rw [hx2] at KT2
  obtain ⟨t2, hv2⟩ : ∃ t, valT x2 = t := ⟨_, rfl⟩
  rw [hv2] at KT2
  obtain ⟨s2, hs2⟩ : ∃ s, stOf x2 = s := ⟨_, rfl⟩
  rw [hs2] at KT2
  unfold tokV at KT2
  have KN3 := Lib.hid (fun w' (hq : QR B w' g s2) => number_q hq (a := 1) (b := 999999) (by decide))
  have hn3 := valN_le (a := 1) (b := 999999) (by decide) (by decide) s2
  obtain ⟨x3, hx3⟩ : ∃ x, aft (numR 1 999999) s2 = x := ⟨_, rfl⟩
  rw [hx3] at KN3 hn3
  obtain ⟨n3, hv3⟩ : ∃ n, valN x3 = n := ⟨_, rfl⟩
  rw [hv3] at KN3 hn3
  obtain ⟨s3, hs3⟩ : ∃ s, stOf x3 = s := ⟨_, rfl⟩
  rw [hs3] at KN3
  have hu3 : IntKind.u32.wrap (n3 : Int) = (n3 : Int) := by rw [IntKind.wrap_u32]; omega
  have hSO := stq_d (k := 0) (by decide) (by decide) (by decide) l
  change stOf (opR 0 l) = stOf (aft (numR 1 999999) (stOf (aft (needT 1 [116, 111]) (stOf (aft (numR 1 999999) (.ok l)))))) ∧ ∀ o r, opR 0 l = .ok (o, r) → o = ⟨0, valN (aft (numR 1 999999) (.ok l)), valN (aft (numR 1 999999) (stOf (aft (needT 1 [116, 111]) (stOf (aft (numR 1 999999) (.ok l)))))), [], [], [], 0⟩ at hSO
  obtain ⟨hS, hO⟩ := hSO
  rw [hx1, hs1, hx2, hs2, hx3, hs3] at hS
  rw [hx1, hs1, hx2, hs2, hx3, hv1, hv3] at hO
  have HS := Lib.hid hS
  have HO := Lib.hid hO
  clear hx1 hx2 hx3 hv1 hv2 hv3 hs1 hs2 hs3 hS hO
  go_enter Tryz.func40, Tryz.ntmps40
  go_upto_region 7 with (go_at_call 64; refine (KN1.out _ HW0.out.qr).mono ?_; rintro e w6 ⟨rfl, h6, hq⟩; have HW6 := Lib.hid (HW0.out.call h6 hq); have d1 := HW6.out.box.cell (j := 1) rfl; have e1 := HW6.out.box.frozen 1; have e9 := HW6.out.box.size; clear h6 hq)
  have HW7 : Hid (QW B Z g w (w6.setCell ⟨Z, 1, none⟩ (.int .u32 (n1 : Int))) s1 [.int .i64 0, .int .u32 (n1 : Int), .int .u32 0, .string ⟨#[]⟩, .slice none 0 0, .slice none 0 0, .int .i32 0, .int .i64 at_]) := Lib.hid (HW6.out.set 1 _)
  generalize w6.setCell ⟨Z, 1, none⟩ (.int .u32 (n1 : Int)) = W7 at *
  clear d1 e1 e9 HW6
  go_upto_region 8 with (go_at_call 39; refine (KT2.out _ HW7.out.qr).mono ?_; rintro e W8 ⟨rfl, h6, hq⟩; have HW8 := Lib.hid (HW7.out.call h6 hq); clear h6 hq)
  go_wp2_with (go_at_call 64; refine (KN3.out _ HW8.out.qr).mono ?_; rintro e w9 ⟨rfl, h6, hq⟩; have HW9 := Lib.hid (HW8.out.call h6 hq); have d2 := HW9.out.box.cell (j := 2) rfl; have e2 := HW9.out.box.frozen 2; have e9 := HW9.out.box.size; clear h6 hq)
  have HWA : Hid (QW B Z g w (w9.setCell ⟨Z, 2, none⟩ (.int .u32 (n3 : Int))) s3 [.int .i64 0, .int .u32 (n1 : Int), .int .u32 (n3 : Int), .string ⟨#[]⟩, .slice none 0 0, .slice none 0 0, .int .i32 0, .int .i64 at_]) := Lib.hid (HW9.out.set 2 _)
  go_end0
  refine ⟨rfl, HWA.out.kept, ?_, 0, n1, n3, [], none, 0, 0, none, 0, 0, 0, HWA.out.box, fun o r ho => ?_⟩
  · rw [HS.out]; exact HWA.out.qr
  · have := HO.out o r ho
    subst this
    exact ⟨rfl, rfl, rfl, rfl, rfl, rfl, rfl, ownP_nil _ _, ownD_nil _ _, ⟨Nat.zero_le _, Nat.zero_le _⟩⟩
set_option maxHeartbeats 4000000 in
set_option maxRecDepth 100000 in
theorem opq_2 {B : Nat} {w : World} {g Z : Nat} {l : List Tk} {at_ : Int} (h : QR B w g (.ok l)) (hz : HBox w Z [.int .i64 2, .int .u32 0, .int .u32 0, .string ⟨#[]⟩, .slice none 0 0, .slice none 0 0, .int .i32 0, .int .i64 at_] 38) (hB : B ≤ Z) :
    Calls Tryz.prog 40 #[.pointer (some ⟨g, 0, none⟩), .pointer (some ⟨Z, 0, none⟩)] w fun e w' => OpQ B g Z w 2 at_ l e w' := by
  have HW0 : Hid (QW B Z g w w (.ok l) [.int .i64 2, .int .u32 0, .int .u32 0, .string ⟨#[]⟩, .slice none 0 0, .slice none 0 0, .int .i32 0, .int .i64 at_]) := Lib.hid ⟨⟨h.lt, hB⟩, hz, Kep.refl _ _ _, h⟩
  have c0 := hz.cell (j := 0) rfl
  have f1 := fun (a b c d e : Value) (w : World) => field_tk1 a b c d e w
  have f3 := fun (a b c d e : Value) (w : World) => field_tk3 a b c d e w
  clear h hz hB
  have KN1 := Lib.hid (fun w' (hq : QR B w' g (.ok l)) => number_q hq (a := 1) (b := 999999) (by decide))
  have hn1 := valN_le (a := 1) (b := 999999) (by decide) (by decide) (.ok l)
  obtain ⟨x1, hx1⟩ : ∃ x, aft (numR 1 999999) (.ok l) = x := ⟨_, rfl⟩
  rw [hx1] at KN1 hn1
  obtain ⟨n1, hv1⟩ : ∃ n, valN x1 = n := ⟨_, rfl⟩
  rw [hv1] at KN1 hn1
  obtain ⟨s1, hs1⟩ : ∃ s, stOf x1 = s := ⟨_, rfl⟩
  rw [hs1] at KN1
  have hu1 : IntKind.u32.wrap (n1 : Int) = (n1 : Int) := by rw [IntKind.wrap_u32]; omega
  have KT2 := Lib.hid (fun w' (hq : QR B w' g s1) => need_q hq (k := 1) (by decide) [117, 110, 100, 101, 114])
  obtain ⟨x2, hx2⟩ : ∃ x, aft (needT 1 [117, 110, 100, 101, 114]) s1 = x := ⟨_, rfl⟩
  rw [hx2] at KT2
  obtain ⟨t2, hv2⟩ : ∃ t, valT x2 = t := ⟨_, rfl⟩
  rw [hv2] at KT2
  obtain ⟨s2, hs2⟩ : ∃ s, stOf x2 = s := ⟨_, rfl⟩
  rw [hs2] at KT2
  unfold tokV at KT2
  have KN3 := Lib.hid (fun w' (hq : QR B w' g s2) => number_q hq (a := 0) (b := 999999) (by decide))
  have hn3 := valN_le (a := 0) (b := 999999) (by decide) (by decide) s2
  obtain ⟨x3, hx3⟩ : ∃ x, aft (numR 0 999999) s2 = x := ⟨_, rfl⟩
  rw [hx3] at KN3 hn3
  obtain ⟨n3, hv3⟩ : ∃ n, valN x3 = n := ⟨_, rfl⟩
  rw [hv3] at KN3 hn3
  obtain ⟨s3, hs3⟩ : ∃ s, stOf x3 = s := ⟨_, rfl⟩
  rw [hs3] at KN3
  have hu3 : IntKind.u32.wrap (n3 : Int) = (n3 : Int) := by rw [IntKind.wrap_u32]; omega
  have hSO := stq_d (k := 2) (by decide) (by decide) (by decide) l
  change stOf (opR 2 l) = stOf (aft (numR 0 999999) (stOf (aft (needT 1 [117, 110, 100, 101, 114]) (stOf (aft (numR 1 999999) (.ok l)))))) ∧ ∀ o r, opR 2 l = .ok (o, r) → o = ⟨2, valN (aft (numR 1 999999) (.ok l)), valN (aft (numR 0 999999) (stOf (aft (needT 1 [117, 110, 100, 101, 114]) (stOf (aft (numR 1 999999) (.ok l)))))), [], [], [], 0⟩ at hSO
  obtain ⟨hS, hO⟩ := hSO
  rw [hx1, hs1, hx2, hs2, hx3, hs3] at hS
  rw [hx1, hs1, hx2, hs2, hx3, hv1, hv3] at hO
  have HS := Lib.hid hS
  have HO := Lib.hid hO
  clear hx1 hx2 hx3 hv1 hv2 hv3 hs1 hs2 hs3 hS hO
  go_enter Tryz.func40, Tryz.ntmps40
  go_upto_region 19 with (go_at_call 64; refine (KN1.out _ HW0.out.qr).mono ?_; rintro e w6 ⟨rfl, h6, hq⟩; have HW6 := Lib.hid (HW0.out.call h6 hq); have d1 := HW6.out.box.cell (j := 1) rfl; have e1 := HW6.out.box.frozen 1; have e9 := HW6.out.box.size; clear h6 hq)
  have HW7 : Hid (QW B Z g w (w6.setCell ⟨Z, 1, none⟩ (.int .u32 (n1 : Int))) s1 [.int .i64 2, .int .u32 (n1 : Int), .int .u32 0, .string ⟨#[]⟩, .slice none 0 0, .slice none 0 0, .int .i32 0, .int .i64 at_]) := Lib.hid (HW6.out.set 1 _)
  generalize w6.setCell ⟨Z, 1, none⟩ (.int .u32 (n1 : Int)) = W7 at *
  clear d1 e1 e9 HW6
  go_upto_region 20 with (go_at_call 39; refine (KT2.out _ HW7.out.qr).mono ?_; rintro e W8 ⟨rfl, h6, hq⟩; have HW8 := Lib.hid (HW7.out.call h6 hq); clear h6 hq)
  go_wp2_with (go_at_call 64; refine (KN3.out _ HW8.out.qr).mono ?_; rintro e w9 ⟨rfl, h6, hq⟩; have HW9 := Lib.hid (HW8.out.call h6 hq); have d2 := HW9.out.box.cell (j := 2) rfl; have e2 := HW9.out.box.frozen 2; have e9 := HW9.out.box.size; clear h6 hq)
  have HWA : Hid (QW B Z g w (w9.setCell ⟨Z, 2, none⟩ (.int .u32 (n3 : Int))) s3 [.int .i64 2, .int .u32 (n1 : Int), .int .u32 (n3 : Int), .string ⟨#[]⟩, .slice none 0 0, .slice none 0 0, .int .i32 0, .int .i64 at_]) := Lib.hid (HW9.out.set 2 _)
  go_end0
  refine ⟨rfl, HWA.out.kept, ?_, 2, n1, n3, [], none, 0, 0, none, 0, 0, 0, HWA.out.box, fun o r ho => ?_⟩
  · rw [HS.out]; exact HWA.out.qr
  · have := HO.out o r ho
    subst this
    exact ⟨rfl, rfl, rfl, rfl, rfl, rfl, rfl, ownP_nil _ _, ownD_nil _ _, ⟨Nat.zero_le _, Nat.zero_le _⟩⟩
set_option maxHeartbeats 4000000 in
set_option maxRecDepth 100000 in
theorem opq_3 {B : Nat} {w : World} {g Z : Nat} {l : List Tk} {at_ : Int} (h : QR B w g (.ok l)) (hz : HBox w Z [.int .i64 3, .int .u32 0, .int .u32 0, .string ⟨#[]⟩, .slice none 0 0, .slice none 0 0, .int .i32 0, .int .i64 at_] 38) (hB : B ≤ Z) :
    Calls Tryz.prog 40 #[.pointer (some ⟨g, 0, none⟩), .pointer (some ⟨Z, 0, none⟩)] w fun e w' => OpQ B g Z w 3 at_ l e w' := by
  have HW0 : Hid (QW B Z g w w (.ok l) [.int .i64 3, .int .u32 0, .int .u32 0, .string ⟨#[]⟩, .slice none 0 0, .slice none 0 0, .int .i32 0, .int .i64 at_]) := Lib.hid ⟨⟨h.lt, hB⟩, hz, Kep.refl _ _ _, h⟩
  have c0 := hz.cell (j := 0) rfl
  have f1 := fun (a b c d e : Value) (w : World) => field_tk1 a b c d e w
  have f3 := fun (a b c d e : Value) (w : World) => field_tk3 a b c d e w
  clear h hz hB
  have KN1 := Lib.hid (fun w' (hq : QR B w' g (.ok l)) => number_q hq (a := 1) (b := 999999) (by decide))
  have hn1 := valN_le (a := 1) (b := 999999) (by decide) (by decide) (.ok l)
  obtain ⟨x1, hx1⟩ : ∃ x, aft (numR 1 999999) (.ok l) = x := ⟨_, rfl⟩
  rw [hx1] at KN1 hn1
  obtain ⟨n1, hv1⟩ : ∃ n, valN x1 = n := ⟨_, rfl⟩
  rw [hv1] at KN1 hn1
  obtain ⟨s1, hs1⟩ : ∃ s, stOf x1 = s := ⟨_, rfl⟩
  rw [hs1] at KN1
  have hu1 : IntKind.u32.wrap (n1 : Int) = (n1 : Int) := by rw [IntKind.wrap_u32]; omega
  have KT2 := Lib.hid (fun w' (hq : QR B w' g s1) => need_q hq (k := 1) (by decide) [105, 110, 116, 111])
  obtain ⟨x2, hx2⟩ : ∃ x, aft (needT 1 [105, 110, 116, 111]) s1 = x := ⟨_, rfl⟩
  rw [hx2] at KT2
  obtain ⟨t2, hv2⟩ : ∃ t, valT x2 = t := ⟨_, rfl⟩
  rw [hv2] at KT2
  obtain ⟨s2, hs2⟩ : ∃ s, stOf x2 = s := ⟨_, rfl⟩
  rw [hs2] at KT2
  unfold tokV at KT2
  have KN3 := Lib.hid (fun w' (hq : QR B w' g s2) => number_q hq (a := 1) (b := 999999) (by decide))
  have hn3 := valN_le (a := 1) (b := 999999) (by decide) (by decide) s2
  obtain ⟨x3, hx3⟩ : ∃ x, aft (numR 1 999999) s2 = x := ⟨_, rfl⟩
  rw [hx3] at KN3 hn3
  obtain ⟨n3, hv3⟩ : ∃ n, valN x3 = n := ⟨_, rfl⟩
  rw [hv3] at KN3 hn3
  obtain ⟨s3, hs3⟩ : ∃ s, stOf x3 = s := ⟨_, rfl⟩
  rw [hs3] at KN3
  have hu3 : IntKind.u32.wrap (n3 : Int) = (n3 : Int) := by rw [IntKind.wrap_u32]; omega
  have hSO := stq_d (k := 3) (by decide) (by decide) (by decide) l
  change stOf (opR 3 l) = stOf (aft (numR 1 999999) (stOf (aft (needT 1 [105, 110, 116, 111]) (stOf (aft (numR 1 999999) (.ok l)))))) ∧ ∀ o r, opR 3 l = .ok (o, r) → o = ⟨3, valN (aft (numR 1 999999) (.ok l)), valN (aft (numR 1 999999) (stOf (aft (needT 1 [105, 110, 116, 111]) (stOf (aft (numR 1 999999) (.ok l)))))), [], [], [], 0⟩ at hSO
  obtain ⟨hS, hO⟩ := hSO
  rw [hx1, hs1, hx2, hs2, hx3, hs3] at hS
  rw [hx1, hs1, hx2, hs2, hx3, hv1, hv3] at hO
  have HS := Lib.hid hS
  have HO := Lib.hid hO
  clear hx1 hx2 hx3 hv1 hv2 hv3 hs1 hs2 hs3 hS hO
  go_enter Tryz.func40, Tryz.ntmps40
  go_upto_region 7 with (go_at_call 64; refine (KN1.out _ HW0.out.qr).mono ?_; rintro e w6 ⟨rfl, h6, hq⟩; have HW6 := Lib.hid (HW0.out.call h6 hq); have d1 := HW6.out.box.cell (j := 1) rfl; have e1 := HW6.out.box.frozen 1; have e9 := HW6.out.box.size; clear h6 hq)
  have HW7 : Hid (QW B Z g w (w6.setCell ⟨Z, 1, none⟩ (.int .u32 (n1 : Int))) s1 [.int .i64 3, .int .u32 (n1 : Int), .int .u32 0, .string ⟨#[]⟩, .slice none 0 0, .slice none 0 0, .int .i32 0, .int .i64 at_]) := Lib.hid (HW6.out.set 1 _)
  generalize w6.setCell ⟨Z, 1, none⟩ (.int .u32 (n1 : Int)) = W7 at *
  clear d1 e1 e9 HW6
  go_upto_region 8 with (go_at_call 39; refine (KT2.out _ HW7.out.qr).mono ?_; rintro e W8 ⟨rfl, h6, hq⟩; have HW8 := Lib.hid (HW7.out.call h6 hq); clear h6 hq)
  go_wp2_with (go_at_call 64; refine (KN3.out _ HW8.out.qr).mono ?_; rintro e w9 ⟨rfl, h6, hq⟩; have HW9 := Lib.hid (HW8.out.call h6 hq); have d2 := HW9.out.box.cell (j := 2) rfl; have e2 := HW9.out.box.frozen 2; have e9 := HW9.out.box.size; clear h6 hq)
  have HWA : Hid (QW B Z g w (w9.setCell ⟨Z, 2, none⟩ (.int .u32 (n3 : Int))) s3 [.int .i64 3, .int .u32 (n1 : Int), .int .u32 (n3 : Int), .string ⟨#[]⟩, .slice none 0 0, .slice none 0 0, .int .i32 0, .int .i64 at_]) := Lib.hid (HW9.out.set 2 _)
  go_end0
  refine ⟨rfl, HWA.out.kept, ?_, 3, n1, n3, [], none, 0, 0, none, 0, 0, 0, HWA.out.box, fun o r ho => ?_⟩
  · rw [HS.out]; exact HWA.out.qr
  · have := HO.out o r ho
    subst this
    exact ⟨rfl, rfl, rfl, rfl, rfl, rfl, rfl, ownP_nil _ _, ownD_nil _ _, ⟨Nat.zero_le _, Nat.zero_le _⟩⟩
set_option maxHeartbeats 4000000 in
set_option maxRecDepth 100000 in
theorem opq_5 {B : Nat} {w : World} {g Z : Nat} {l : List Tk} {at_ : Int} (h : QR B w g (.ok l)) (hz : HBox w Z [.int .i64 5, .int .u32 0, .int .u32 0, .string ⟨#[]⟩, .slice none 0 0, .slice none 0 0, .int .i32 0, .int .i64 at_] 38) (hB : B ≤ Z) :
    Calls Tryz.prog 40 #[.pointer (some ⟨g, 0, none⟩), .pointer (some ⟨Z, 0, none⟩)] w fun e w' => OpQ B g Z w 5 at_ l e w' := by
  have HW0 : Hid (QW B Z g w w (.ok l) [.int .i64 5, .int .u32 0, .int .u32 0, .string ⟨#[]⟩, .slice none 0 0, .slice none 0 0, .int .i32 0, .int .i64 at_]) := Lib.hid ⟨⟨h.lt, hB⟩, hz, Kep.refl _ _ _, h⟩
  have c0 := hz.cell (j := 0) rfl
  have f1 := fun (a b c d e : Value) (w : World) => field_tk1 a b c d e w
  have f3 := fun (a b c d e : Value) (w : World) => field_tk3 a b c d e w
  clear h hz hB
  have KN1 := Lib.hid (fun w' (hq : QR B w' g (.ok l)) => number_q hq (a := 1) (b := 999) (by decide))
  have hn1 := valN_le (a := 1) (b := 999) (by decide) (by decide) (.ok l)
  obtain ⟨x1, hx1⟩ : ∃ x, aft (numR 1 999) (.ok l) = x := ⟨_, rfl⟩
  rw [hx1] at KN1 hn1
  obtain ⟨n1, hv1⟩ : ∃ n, valN x1 = n := ⟨_, rfl⟩
  rw [hv1] at KN1 hn1
  obtain ⟨s1, hs1⟩ : ∃ s, stOf x1 = s := ⟨_, rfl⟩
  rw [hs1] at KN1
  have hu1 : IntKind.u32.wrap (n1 : Int) = (n1 : Int) := by rw [IntKind.wrap_u32]; omega
  have KT2 := Lib.hid (fun w' (hq : QR B w' g s1) => need_q hq (k := 1) (by decide) [116, 111])
  obtain ⟨x2, hx2⟩ : ∃ x, aft (needT 1 [116, 111]) s1 = x := ⟨_, rfl⟩
  rw [hx2] at KT2
  obtain ⟨t2, hv2⟩ : ∃ t, valT x2 = t := ⟨_, rfl⟩
  rw [hv2] at KT2
  obtain ⟨s2, hs2⟩ : ∃ s, stOf x2 = s := ⟨_, rfl⟩
  rw [hs2] at KT2
  unfold tokV at KT2
  have KN3 := Lib.hid (fun w' (hq : QR B w' g s2) => number_q hq (a := 1) (b := 999) (by decide))
  have hn3 := valN_le (a := 1) (b := 999) (by decide) (by decide) s2
  obtain ⟨x3, hx3⟩ : ∃ x, aft (numR 1 999) s2 = x := ⟨_, rfl⟩
  rw [hx3] at KN3 hn3
  obtain ⟨n3, hv3⟩ : ∃ n, valN x3 = n := ⟨_, rfl⟩
  rw [hv3] at KN3 hn3
  obtain ⟨s3, hs3⟩ : ∃ s, stOf x3 = s := ⟨_, rfl⟩
  rw [hs3] at KN3
  have hu3 : IntKind.u32.wrap (n3 : Int) = (n3 : Int) := by rw [IntKind.wrap_u32]; omega
  have hSO := stq_d (k := 5) (by decide) (by decide) (by decide) l
  change stOf (opR 5 l) = stOf (aft (numR 1 999) (stOf (aft (needT 1 [116, 111]) (stOf (aft (numR 1 999) (.ok l)))))) ∧ ∀ o r, opR 5 l = .ok (o, r) → o = ⟨5, valN (aft (numR 1 999) (.ok l)), valN (aft (numR 1 999) (stOf (aft (needT 1 [116, 111]) (stOf (aft (numR 1 999) (.ok l)))))), [], [], [], 0⟩ at hSO
  obtain ⟨hS, hO⟩ := hSO
  rw [hx1, hs1, hx2, hs2, hx3, hs3] at hS
  rw [hx1, hs1, hx2, hs2, hx3, hv1, hv3] at hO
  have HS := Lib.hid hS
  have HO := Lib.hid hO
  clear hx1 hx2 hx3 hv1 hv2 hv3 hs1 hs2 hs3 hS hO
  go_enter Tryz.func40, Tryz.ntmps40
  go_upto_region 7 with (go_at_call 64; refine (KN1.out _ HW0.out.qr).mono ?_; rintro e w6 ⟨rfl, h6, hq⟩; have HW6 := Lib.hid (HW0.out.call h6 hq); have d1 := HW6.out.box.cell (j := 1) rfl; have e1 := HW6.out.box.frozen 1; have e9 := HW6.out.box.size; clear h6 hq)
  have HW7 : Hid (QW B Z g w (w6.setCell ⟨Z, 1, none⟩ (.int .u32 (n1 : Int))) s1 [.int .i64 5, .int .u32 (n1 : Int), .int .u32 0, .string ⟨#[]⟩, .slice none 0 0, .slice none 0 0, .int .i32 0, .int .i64 at_]) := Lib.hid (HW6.out.set 1 _)
  generalize w6.setCell ⟨Z, 1, none⟩ (.int .u32 (n1 : Int)) = W7 at *
  clear d1 e1 e9 HW6
  go_upto_region 8 with (go_at_call 39; refine (KT2.out _ HW7.out.qr).mono ?_; rintro e W8 ⟨rfl, h6, hq⟩; have HW8 := Lib.hid (HW7.out.call h6 hq); clear h6 hq)
  go_wp2_with (go_at_call 64; refine (KN3.out _ HW8.out.qr).mono ?_; rintro e w9 ⟨rfl, h6, hq⟩; have HW9 := Lib.hid (HW8.out.call h6 hq); have d2 := HW9.out.box.cell (j := 2) rfl; have e2 := HW9.out.box.frozen 2; have e9 := HW9.out.box.size; clear h6 hq)
  have HWA : Hid (QW B Z g w (w9.setCell ⟨Z, 2, none⟩ (.int .u32 (n3 : Int))) s3 [.int .i64 5, .int .u32 (n1 : Int), .int .u32 (n3 : Int), .string ⟨#[]⟩, .slice none 0 0, .slice none 0 0, .int .i32 0, .int .i64 at_]) := Lib.hid (HW9.out.set 2 _)
  go_end0
  refine ⟨rfl, HWA.out.kept, ?_, 5, n1, n3, [], none, 0, 0, none, 0, 0, 0, HWA.out.box, fun o r ho => ?_⟩
  · rw [HS.out]; exact HWA.out.qr
  · have := HO.out o r ho
    subst this
    exact ⟨rfl, rfl, rfl, rfl, rfl, rfl, rfl, ownP_nil _ _, ownD_nil _ _, ⟨Nat.zero_le _, Nat.zero_le _⟩⟩
set_option maxHeartbeats 4000000 in
set_option maxRecDepth 100000 in
theorem opq_6 {B : Nat} {w : World} {g Z : Nat} {l : List Tk} {at_ : Int} (h : QR B w g (.ok l)) (hz : HBox w Z [.int .i64 6, .int .u32 0, .int .u32 0, .string ⟨#[]⟩, .slice none 0 0, .slice none 0 0, .int .i32 0, .int .i64 at_] 38) (hB : B ≤ Z) :
    Calls Tryz.prog 40 #[.pointer (some ⟨g, 0, none⟩), .pointer (some ⟨Z, 0, none⟩)] w fun e w' => OpQ B g Z w 6 at_ l e w' := by
  have HW0 : Hid (QW B Z g w w (.ok l) [.int .i64 6, .int .u32 0, .int .u32 0, .string ⟨#[]⟩, .slice none 0 0, .slice none 0 0, .int .i32 0, .int .i64 at_]) := Lib.hid ⟨⟨h.lt, hB⟩, hz, Kep.refl _ _ _, h⟩
  have c0 := hz.cell (j := 0) rfl
  have f1 := fun (a b c d e : Value) (w : World) => field_tk1 a b c d e w
  have f3 := fun (a b c d e : Value) (w : World) => field_tk3 a b c d e w
  clear h hz hB
  have KN1 := Lib.hid (fun w' (hq : QR B w' g (.ok l)) => number_q hq (a := 1) (b := 999) (by decide))
  have hn1 := valN_le (a := 1) (b := 999) (by decide) (by decide) (.ok l)
  obtain ⟨x1, hx1⟩ : ∃ x, aft (numR 1 999) (.ok l) = x := ⟨_, rfl⟩
  rw [hx1] at KN1 hn1
  obtain ⟨n1, hv1⟩ : ∃ n, valN x1 = n := ⟨_, rfl⟩
  rw [hv1] at KN1 hn1
  obtain ⟨s1, hs1⟩ : ∃ s, stOf x1 = s := ⟨_, rfl⟩
  rw [hs1] at KN1
  have hu1 : IntKind.u32.wrap (n1 : Int) = (n1 : Int) := by rw [IntKind.wrap_u32]; omega
  have KT2 := Lib.hid (fun w' (hq : QR B w' g s1) => need_q hq (k := 1) (by decide) [105, 110, 116, 111])
  obtain ⟨x2, hx2⟩ : ∃ x, aft (needT 1 [105, 110, 116, 111]) s1 = x := ⟨_, rfl⟩
  rw [hx2] at KT2
  obtain ⟨t2, hv2⟩ : ∃ t, valT x2 = t := ⟨_, rfl⟩
  rw [hv2] at KT2
  obtain ⟨s2, hs2⟩ : ∃ s, stOf x2 = s := ⟨_, rfl⟩
  rw [hs2] at KT2
  unfold tokV at KT2
  have KN3 := Lib.hid (fun w' (hq : QR B w' g s2) => number_q hq (a := 1) (b := 999) (by decide))
  have hn3 := valN_le (a := 1) (b := 999) (by decide) (by decide) s2
  obtain ⟨x3, hx3⟩ : ∃ x, aft (numR 1 999) s2 = x := ⟨_, rfl⟩
  rw [hx3] at KN3 hn3
  obtain ⟨n3, hv3⟩ : ∃ n, valN x3 = n := ⟨_, rfl⟩
  rw [hv3] at KN3 hn3
  obtain ⟨s3, hs3⟩ : ∃ s, stOf x3 = s := ⟨_, rfl⟩
  rw [hs3] at KN3
  have hu3 : IntKind.u32.wrap (n3 : Int) = (n3 : Int) := by rw [IntKind.wrap_u32]; omega
  have hSO := stq_d (k := 6) (by decide) (by decide) (by decide) l
  change stOf (opR 6 l) = stOf (aft (numR 1 999) (stOf (aft (needT 1 [105, 110, 116, 111]) (stOf (aft (numR 1 999) (.ok l)))))) ∧ ∀ o r, opR 6 l = .ok (o, r) → o = ⟨6, valN (aft (numR 1 999) (.ok l)), valN (aft (numR 1 999) (stOf (aft (needT 1 [105, 110, 116, 111]) (stOf (aft (numR 1 999) (.ok l)))))), [], [], [], 0⟩ at hSO
  obtain ⟨hS, hO⟩ := hSO
  rw [hx1, hs1, hx2, hs2, hx3, hs3] at hS
  rw [hx1, hs1, hx2, hs2, hx3, hv1, hv3] at hO
  have HS := Lib.hid hS
  have HO := Lib.hid hO
  clear hx1 hx2 hx3 hv1 hv2 hv3 hs1 hs2 hs3 hS hO
  go_enter Tryz.func40, Tryz.ntmps40
  go_upto_region 7 with (go_at_call 64; refine (KN1.out _ HW0.out.qr).mono ?_; rintro e w6 ⟨rfl, h6, hq⟩; have HW6 := Lib.hid (HW0.out.call h6 hq); have d1 := HW6.out.box.cell (j := 1) rfl; have e1 := HW6.out.box.frozen 1; have e9 := HW6.out.box.size; clear h6 hq)
  have HW7 : Hid (QW B Z g w (w6.setCell ⟨Z, 1, none⟩ (.int .u32 (n1 : Int))) s1 [.int .i64 6, .int .u32 (n1 : Int), .int .u32 0, .string ⟨#[]⟩, .slice none 0 0, .slice none 0 0, .int .i32 0, .int .i64 at_]) := Lib.hid (HW6.out.set 1 _)
  generalize w6.setCell ⟨Z, 1, none⟩ (.int .u32 (n1 : Int)) = W7 at *
  clear d1 e1 e9 HW6
  go_upto_region 8 with (go_at_call 39; refine (KT2.out _ HW7.out.qr).mono ?_; rintro e W8 ⟨rfl, h6, hq⟩; have HW8 := Lib.hid (HW7.out.call h6 hq); clear h6 hq)
  go_wp2_with (go_at_call 64; refine (KN3.out _ HW8.out.qr).mono ?_; rintro e w9 ⟨rfl, h6, hq⟩; have HW9 := Lib.hid (HW8.out.call h6 hq); have d2 := HW9.out.box.cell (j := 2) rfl; have e2 := HW9.out.box.frozen 2; have e9 := HW9.out.box.size; clear h6 hq)
  have HWA : Hid (QW B Z g w (w9.setCell ⟨Z, 2, none⟩ (.int .u32 (n3 : Int))) s3 [.int .i64 6, .int .u32 (n1 : Int), .int .u32 (n3 : Int), .string ⟨#[]⟩, .slice none 0 0, .slice none 0 0, .int .i32 0, .int .i64 at_]) := Lib.hid (HW9.out.set 2 _)
  go_end0
  refine ⟨rfl, HWA.out.kept, ?_, 6, n1, n3, [], none, 0, 0, none, 0, 0, 0, HWA.out.box, fun o r ho => ?_⟩
  · rw [HS.out]; exact HWA.out.qr
  · have := HO.out o r ho
    subst this
    exact ⟨rfl, rfl, rfl, rfl, rfl, rfl, rfl, ownP_nil _ _, ownD_nil _ _, ⟨Nat.zero_le _, Nat.zero_le _⟩⟩
end Go.Proofs.YtffhnedladiaoaaGreatDoor
/- Law 14's Q in memory: an op that is being read: splits. -/
namespace Go.Proofs.YtffhnedladiaoaaGreatDoor
open Go.RowKit Go.Lib
set_option linter.unusedVariables false
set_option linter.unusedSimpArgs false
/-- Where parts stand: more to come, or all of them, or an error. -/
def ParI (x4 : Except (Nat × Int) (List (Nat × Nat) × List Tk)) (mo : Bool) (st : St) (ps : List (Nat × Nat)) : Prop := match st with
  | .error p => x4 = .error p
  | .ok l => if mo then ps.length ≤ 8 ∧ x4 = (match partsR (8 - ps.length) l with | .error e => .error e | .ok a => .ok (ps ++ a.1, a.2)) else x4 = .ok (ps, l)
def okS : St → Bool | .ok _ => true | .error _ => false
/-- One part more. -/
theorem par_next {x4 : Except (Nat × Int) (List (Nat × Nat) × List Tk)} {ps : List (Nat × Nat)} {l : List Tk} (h : ParI x4 true (.ok l) ps) (s0 : St) (hs0 : s0 = if ps.length = 8 then wrongQ 2 (.ok l) else .ok l)
    (x y : Except (Nat × Int) (Nat × List Tk)) (hx : aft (numR 1 999999) s0 = x) (hy : aft (numR 1 1000000) (stOf x) = y) :
    ParI x4 (isQ 5 [44] (stOf y)) (if isQ 5 [44] (stOf y) then stOf (aft (needT 5 [44]) (stOf y)) else stOf y) (ps ++ [(valN x, valN y)]) := by
  obtain ⟨h8, h⟩ : ps.length ≤ 8 ∧ x4 = (match partsR (8 - ps.length) l with | .error e => .error e | .ok a => .ok (ps ++ a.1, a.2)) := h
  by_cases e8 : ps.length = 8
  · rw [if_pos e8] at hs0
    subst hs0
    have hx' : x = .error (atT l, 2) := hx.symm
    subst hx'
    have hy' : y = .error (atT l, 2) := hy.symm
    subst hy'
    rw [e8] at h
    exact h
  rw [if_neg e8] at hs0
  subst hs0
  obtain ⟨n, hn⟩ : ∃ n, 8 - ps.length = n + 1 := ⟨7 - ps.length, by omega⟩
  rw [hn, parts_step] at h
  change numR 1 999999 l = x at hx
  cases x with
  | error p =>
    have hy' : y = .error p := hy.symm
    subst hy'
    rw [partR_err1 hx] at h
    exact h
  | ok a =>
    obtain ⟨c, r⟩ := a
    change numR 1 1000000 r = y at hy
    cases y with
    | error p =>
      rw [partR_err2 hx hy] at h
      exact h
    | ok b =>
      obtain ⟨d, q⟩ := b
      rw [partR_ok hx hy] at h
      simp only at h
      unfold contR at h
      show ParI x4 (isT 5 [44] q) (if isT 5 [44] q = true then stOf (needT 5 [44] q) else .ok q) (ps ++ [(c, d)])
      cases hi : isT 5 [44] q with
      | false =>
        rw [hi] at h
        simp only [Bool.false_eq_true, if_false] at h ⊢
        exact h
      | true =>
        rw [hi] at h
        obtain ⟨t, ht⟩ := need_isT hi
        rw [ht]
        simp only [if_true] at h ⊢
        refine ⟨by simp; omega, ?_⟩
        rw [h, show 8 - (ps ++ [(c, d)]).length = n by simp; omega]
        cases partsR n q.tail with
        | error e => rfl
        | ok z => simp
theorem stq_4 (l : List Tk) : stOf (opR 4 l) = stOf (aft (partsR 8) (stOf (aft (needT 1 [105, 110, 116, 111]) (stOf (aft (numR 1 999999) (.ok l)))))) ∧
    ∀ o r, opR 4 l = .ok (o, r) → ∃ ps, aft (partsR 8) (stOf (aft (needT 1 [105, 110, 116, 111]) (stOf (aft (numR 1 999999) (.ok l))))) = .ok (ps, r) ∧ o = ⟨4, valN (aft (numR 1 999999) (.ok l)), 0, [], ps, [], 0⟩ := by
  rw [show opR 4 l = thenR (numR 1 999999) (fun a => thenR (needT 1 [105, 110, 116, 111]) fun _ => thenR (partsR 8) fun ps => backR (⟨4, a, 0, [], ps, [], 0⟩ : Opp)) l from op4_is l]
  cases h1 : numR 1 999999 l with
  | error p => simp [thenR, aft, stOf, h1]
  | ok a =>
    obtain ⟨n, l2⟩ := a
    cases h2 : needT 1 [105, 110, 116, 111] l2 with
    | error p => simp [thenR, aft, stOf, h1, h2]
    | ok b =>
      obtain ⟨t, l3⟩ := b
      cases h3 : partsR 8 l3 with
      | error p => simp [thenR, aft, stOf, h1, h2, h3]
      | ok c =>
        obtain ⟨ps, l4⟩ := c
        simp only [thenR, aft, stOf, h1, h2, h3, valN, valT, backR, true_and]
        intro o r h
        cases h
        exact ⟨ps, rfl, rfl⟩
theorem par_start (st : St) : ParI (aft (partsR 8) st) true st [] := by
  cases st with
  | error p => exact rfl
  | ok l =>
    refine ⟨by simp, ?_⟩
    show partsR 8 l = _
    simp only [List.length_nil, Nat.sub_zero, List.nil_append]
    cases partsR 8 l with
    | error e => rfl
    | ok a => rfl
theorem par_end {x4 : Except (Nat × Int) (List (Nat × Nat) × List Tk)} {mo : Bool} {st : St} {ps : List (Nat × Nat)} (h : ParI x4 mo st ps) (he : (mo && okS st) = false) : stOf x4 = st ∧ ∀ qs r, x4 = .ok (qs, r) → qs = ps := by
  cases st with
  | error p =>
    have h : x4 = .error p := h
    rw [h]; exact ⟨rfl, fun qs r e => by cases e⟩
  | ok l =>
    simp only [okS, Bool.and_true] at he
    subst he
    have h : x4 = .ok (ps, l) := h
    rw [h]
    exact ⟨rfl, fun qs r e => by cases e; rfl⟩
theorem op_append {P : Program} {ops : Array Oper} {Q : Exit → Act → World → Prop} {i : Nat} {K : Act → World → Prop} {a : Act} {w : World} (s x : Operand) (t : TypeId) (dst : Option Tmp)
    (ho : opIs ops i (.call { callee := .builtin .append, args := #[s, x], argTypes := #[t, t] }) dst)
    (base : Nat) (e : TypeId) (i0 : TypeInfo) (z : Value) (size bytes : Nat) (ht : P.underlying t = some (.slice e)) (hi : P.info? e = some i0) (hz : i0.zero = some z)
    (hsize : i0.size = size) (hby : i0.bytes = bytes) (hzs : z.cells.size = size) (hsz : 0 < size)
    (v : Value) (n : Nat) (xs : List Value) (hs : a.eval s = v) (hown : w.ownsRow base e size v n xs)
    (ad : Addr) (m c : Nat) (news : List Value) (hx : a.eval x = .slice (some ad) m c) (hl : news.length = m * size) (hnews : ∀ j u, news[j]? = some u → w.cell? (ad.add j) = some u) (h1 : ∀ u ∈ news, u.oneCell' = true)
    (h63 : n + m ≤ maxLen) (hbytes : (n + m) * bytes ≤ 140737488355328) (hbase : base ≤ w.heap.size)
    (h : ∀ v' w', w'.ownsRow base e size v' (n + m) (xs ++ news) → w.grownBy w' v.ownBlock → K (a.put dst v') w') : wpOp P ops Q i K a w := by
  refine op_any ho (fun o h2 h3 => ?_)
  subst h3
  obtain ⟨v', w', hr, h4, h5, h6⟩ := run_append_own (P := P) w base t o.type e i0 z size bytes ht hi hz hsize hby hzs hsz v n xs hown ad m c news hl hnews h1 h63 hbytes hbase
  unfold Oper.wp execOp
  simp only [h2, resolve, invoke, builtin, Sem.run_bind, Sem.run_pure, Result.andThen_ok, List.map_toArray, List.map_cons, List.map_nil, hs, hx, hr]
  exact h v' w' h4 h5
def lenC (w : World) (a : Addr) : Nat := match w.cell? a with | some v => lenV v | none => 0
theorem QBx.code {B : Nat} {w : World} {g : Nat} : ∀ {st : St}, QBx B w g st → ∃ c0 c1 c2, HBox w g [c0, .int .i64 c1, .int .i64 c2] 87 ∧ (c2 == 0) = okS st
  | .ok l, ⟨b, off, cap, _, h2, _⟩ => ⟨_, 0, 0, h2, rfl⟩
  | .error p, ⟨h1, q, n, cap, h2⟩ => ⟨_, _, _, h2, show (p.2 == 0) = false by rw [beq_eq_false_iff_ne]; exact h1⟩
theorem hbox_cellsQ {w : World} {b : Nat} {cs : List Value} {T : TypeId} (h : HBox w b cs T) : ∀ j u, cs[j]? = some u → w.cell? ((⟨b, 0, none⟩ : Addr).add j) = some u := fun j u hj => by
  have e : (⟨b, 0, none⟩ : Addr).add j = ⟨b, j, none⟩ := by unfold Addr.add; split <;> simp_all
  rw [e]
  exact h.cell hj
theorem numR_le1 {st : St} {a b : Int} (ha : 0 ≤ a) (hb : 0 ≤ b) (x : Except (Nat × Int) (Nat × List Tk)) (hx : aft (numR a b) st = x) : (valN x : Int) ≤ b := by subst hx; exact valN_le ha hb st
theorem par_few {ps : List (Nat × Nat)} {l : List Tk} (h8 : ps.length ≤ 8) (s0 : St) (hs0 : s0 = if ps.length = 8 then wrongQ 2 (.ok l) else .ok l)
    (x y : Except (Nat × Int) (Nat × List Tk)) (hx : aft (numR 1 999999) s0 = x) (hy : aft (numR 1 1000000) (stOf x) = y) (h : okS (if isQ 5 [44] (stOf y) then stOf (aft (needT 5 [44]) (stOf y)) else stOf y) = true) : ps.length + 1 ≤ 8 := by
  by_cases e8 : ps.length = 8
  · rw [if_pos e8] at hs0
    subst hs0
    have hx' : x = .error (atT l, 2) := hx.symm
    subst hx'
    have hy' : y = .error (atT l, 2) := hy.symm
    subst hy'
    exact absurd (show false = true from h) (by decide)
  · omega
/-- What the operations of 'o.Parts = append(o.Parts, Part{..})' yield. -/
def RA (N base m : Nat) (T : TypeId) (size : Nat) (xs news : List Value) (agg : Value) (f : List Value) : Nat → Value → World → Prop
  | 7, v, w => ∃ q cap, v = .slice q (m + 1) cap ∧ w.ownsRow base T size (.slice q (m + 1) cap) (m + 1) (xs ++ news)
  | 6, v, w => ∃ y, v = .slice (some ⟨y, 0, none⟩) 1 1 ∧ HBox w y news T ∧ N ≤ y
  | 5, v, _ => v = agg
  | 0, v, _ => v = (f[0]?).getD undef
  | 1, v, _ => v = (f[1]?).getD undef
  | 2, v, _ => v = (f[2]?).getD undef
  | 3, v, _ => v = (f[3]?).getD undef
  | 4, v, _ => v = (f[4]?).getD undef
  | _, _, _ => True
theorem RA.below {N base m : Nat} {T : TypeId} {size : Nat} {xs news : List Value} {agg : Value} {f : List Value} {w w' : World} (hb : Below w.heap.size w w') : ∀ j u, RA N base m T size xs news agg f j u w → RA N base m T size xs news agg f j u w'
  | 0, _, h => h
  | 1, _, h => h
  | 2, _, h => h
  | 3, _, h => h
  | 4, _, h => h
  | 5, _, h => h
  | 6, _, ⟨g, h1, h2, h3⟩ => ⟨g, h1, (hb.block g h2.size).trans h2, h3⟩
  | 7, _, ⟨q, c, h1, h2⟩ => ⟨q, c, h1, owns_below h2 hb⟩
  | _ + 8, _, h => h
theorem RA.row {N base m : Nat} {T : TypeId} {size : Nat} {xs news : List Value} {agg : Value} {f : List Value} {w w' : World} {row : Option Nat} (hg : w.grownBy w' row) (hr : ∀ k, row = some k → k < N) : ∀ j u, j ≠ 7 → RA N base m T size xs news agg f j u w → RA N base m T size xs news agg f j u w'
  | 0, _, _, h => h
  | 1, _, _, h => h
  | 2, _, _, h => h
  | 3, _, _, h => h
  | 4, _, _, h => h
  | 5, _, _, h => h
  | 6, _, _, ⟨g, h1, h2, h3⟩ => ⟨g, h1, h2.grown hg (fun e => by have := hr g e.symm; omega), h3⟩
  | 7, _, h, _ => absurd rfl h
  | _ + 8, _, _, h => h
set_option maxHeartbeats 4000000 in
set_option maxRecDepth 100000 in
theorem opq_4 {B : Nat} {w : World} {g Z : Nat} {l : List Tk} {at_ : Int} (h : QR B w g (.ok l)) (hz : HBox w Z [.int .i64 4, .int .u32 0, .int .u32 0, .string ⟨#[]⟩, .slice none 0 0, .slice none 0 0, .int .i32 0, .int .i64 at_] 38) (hB : B ≤ Z) :
    Calls Tryz.prog 40 #[.pointer (some ⟨g, 0, none⟩), .pointer (some ⟨Z, 0, none⟩)] w fun e w' => OpQ B g Z w 4 at_ l e w' := by
  have HW0 : Hid (QW B Z g w w (.ok l) [.int .i64 4, .int .u32 0, .int .u32 0, .string ⟨#[]⟩, .slice none 0 0, .slice none 0 0, .int .i32 0, .int .i64 at_]) := Lib.hid ⟨⟨h.lt, hB⟩, hz, Kep.refl _ _ _, h⟩
  have c0 := hz.cell (j := 0) rfl
  have f1 := fun (a b c d e : Value) (w : World) => field_tk1 a b c d e w
  have f3 := fun (a b c d e : Value) (w : World) => field_tk3 a b c d e w
  clear h hz hB
  have KN1 := Lib.hid (fun w' (hq : QR B w' g (.ok l)) => number_q hq (a := 1) (b := 999999) (by decide))
  have hn1 := valN_le (a := 1) (b := 999999) (by decide) (by decide) (.ok l)
  obtain ⟨x1, hx1⟩ : ∃ x, aft (numR 1 999999) (.ok l) = x := ⟨_, rfl⟩
  rw [hx1] at KN1 hn1
  obtain ⟨n1, hv1⟩ : ∃ n, valN x1 = n := ⟨_, rfl⟩
  rw [hv1] at KN1 hn1
  obtain ⟨s1, hs1⟩ : ∃ s, stOf x1 = s := ⟨_, rfl⟩
  rw [hs1] at KN1
  have hu1 : IntKind.u32.wrap (n1 : Int) = (n1 : Int) := by rw [IntKind.wrap_u32]; omega
  have KT2 := Lib.hid (fun w' (hq : QR B w' g s1) => need_q hq (k := 1) (by decide) [105, 110, 116, 111])
  obtain ⟨x2, hx2⟩ : ∃ x, aft (needT 1 [105, 110, 116, 111]) s1 = x := ⟨_, rfl⟩
  rw [hx2] at KT2
  obtain ⟨t2, hv2⟩ : ∃ t, valT x2 = t := ⟨_, rfl⟩
  rw [hv2] at KT2
  obtain ⟨s2, hs2⟩ : ∃ s, stOf x2 = s := ⟨_, rfl⟩
  rw [hs2] at KT2
  unfold tokV at KT2
  obtain ⟨hS, hO⟩ := stq_4 l
  rw [hx1, hs1, hx2, hs2] at hS
  rw [hx1, hs1, hx2, hs2, hv1] at hO
  obtain ⟨x4, hx4⟩ : ∃ x, aft (partsR 8) s2 = x := ⟨_, rfl⟩
  have HP0 : Hid (ParI x4 true s2 []) := Lib.hid (hx4 ▸ par_start s2)
  rw [hx4] at hS hO
  have HS := Lib.hid hS
  have HO := Lib.hid hO
  clear hx1 hx2 hx4 hv1 hv2 hs1 hs2 hS hO
  have hmix : Tryz.prog.follows .mixedOrders = true := by kernel_rfl
  have HBW := Lib.hid HW0.out.qr.top
  have HZW := Lib.hid HW0.out.box.size
  obtain ⟨i0, hi, hz0, hz1, hz2⟩ := info_parts infoPa
  go_enter Tryz.func40, Tryz.ntmps40
  go_upto_region 23 with (go_at_call 64; refine (KN1.out _ HW0.out.qr).mono ?_; rintro e w6 ⟨rfl, h6, hq⟩; have HW6 := Lib.hid (HW0.out.call h6 hq); have d1 := HW6.out.box.cell (j := 1) rfl; have e1 := HW6.out.box.frozen 1; have e9 := HW6.out.box.size; clear h6 hq)
  have HW7 : Hid (QW B Z g w (w6.setCell ⟨Z, 1, none⟩ (.int .u32 (n1 : Int))) s1 [.int .i64 4, .int .u32 (n1 : Int), .int .u32 0, .string ⟨#[]⟩, .slice none 0 0, .slice none 0 0, .int .i32 0, .int .i64 at_]) := Lib.hid (HW6.out.set 1 _)
  generalize w6.setCell ⟨Z, 1, none⟩ (.int .u32 (n1 : Int)) = W7 at *
  clear d1 e1 e9 HW6
  go_upto_region 24 with (go_at_call 39; refine (KT2.out _ HW7.out.qr).mono ?_; rintro e W8 ⟨rfl, h6, hq⟩; have HW8 := Lib.hid (HW7.out.call h6 hq); clear h6 hq)
  clear KN1 KT2 HW7 HW0 c0
  go_wp2_with fail
  go_loopw [4] (fun s wr => ∃ (mo : Bool) (st : St) (m : Nat) (q : Option Addr) (cap : Nat) (ps : List (Nat × Nat)), s = .bool mo ∧ Hid (ps.length = m) ∧ Hid (okS st = true → m ≤ 8) ∧ Hid (ParI x4 mo st ps) ∧ Hid (wr.ownsRow w.heap.size 60 2 (.slice q m cap) m (ps.flatMap ptc)) ∧ Hid (QW B Z g w wr st [.int .i64 4, .int .u32 (n1 : Int), .int .u32 0, .string ⟨#[]⟩, .slice q m cap, .slice none 0 0, .int .i32 0, .int .i64 at_])) (fun _ wr => 9 - lenC wr ⟨Z, 4, none⟩)
  case atStart => exact ⟨true, s2, 0, none, 0, [], rfl, Lib.hid rfl, Lib.hid (fun _ => Nat.zero_le _), HP0, Lib.hid (World.ownsRow_nil _ _ _ _), HW8⟩
  case round =>
    clear HW8 HP0
    obtain ⟨mo, st, m, q, cap, ps, rfl, HM, HF, HP, HOR, HWR⟩ := hrel
    rename World => wr
    obtain ⟨p0, p1, p2, hq, hp2⟩ := HWR.out.qr.box.code
    have HQ := Lib.hid hq
    obtain ⟨lv, hlv⟩ : ∃ lv : Bool, okS st = lv := ⟨_, rfl⟩
    rw [hlv] at hp2
    have cq := hq.cell (j := 2) rfl
    clear hq
    cases hml : (mo && lv) with
    | false =>
      have HE := Lib.hid (par_end HP.out (by rw [hlv]; exact hml))
      have hmm : mo = false ∨ (mo = true ∧ lv = false) := by cases mo <;> cases lv <;> simp_all
      clear hlv hml
      have HD : Hid (OpQ B g Z w 4 at_ l (.returned (.tuple #[])) wr) := by
        refine Lib.hid ⟨rfl, HWR.out.kept, ?_, 4, n1, 0, [], q, m, cap, none, 0, 0, 0, HWR.out.box, fun o r ho => ?_⟩
        · rw [HS.out, HE.out.1]; exact HWR.out.qr
        · obtain ⟨qs, h1, h2⟩ := HO.out o r ho
          obtain rfl := HE.out.2 _ _ h1
          subst h2
          obtain rfl := HM.out
          have hok : okS st = true := by
            have := HE.out.1
            rw [h1] at this
            rw [← this]
            rfl
          exact ⟨rfl, rfl, rfl, rfl, rfl, rfl, rfl, HOR.out, ownD_nil _ _, ⟨HF.out hok, Nat.zero_le _⟩⟩
      rcases hmm with rfl | ⟨rfl, rfl⟩
      all_goals
        go_wp2_with fail
        go_end0
        exact HD.out
    | true =>
      obtain ⟨rfl, rfl⟩ : mo = true ∧ lv = true := by cases mo <;> cases lv <;> simp_all
      obtain ⟨l', rfl⟩ : ∃ l', st = .ok l' := by cases st with | ok l' => exact ⟨l', rfl⟩ | error p => cases hlv
      have h8 := HF.out rfl
      have HLC : Hid (lenC wr ⟨Z, 4, none⟩ = m) := Lib.hid (by unfold lenC; rw [HWR.out.box.cell (j := 4) rfl]; rfl)
      have c4 := HWR.out.box.cell (j := 4) rfl
      obtain ⟨s0, hs0⟩ : ∃ x : St, x = (if ps.length = 8 then wrongQ 2 (.ok l') else .ok l') := ⟨_, rfl⟩
      obtain ⟨y1, hy1⟩ : ∃ x, aft (numR 1 999999) s0 = x := ⟨_, rfl⟩
      obtain ⟨y2, hy2⟩ : ∃ x, aft (numR 1 1000000) (stOf y1) = x := ⟨_, rfl⟩
      have hPN := par_next HP.out s0 hs0 y1 y2 hy1 hy2
      have hPF := par_few (by rw [HM.out]; exact h8) s0 hs0 y1 y2 hy1 hy2
      have KA := fun w' (hq : QR B w' g s0) => number_q hq (a := 1) (b := 999999) (by decide)
      rw [hy1] at KA
      have hn3 := numR_le1 (by decide) (by decide) y1 hy1
      have KB := fun w' (hq : QR B w' g (stOf y1)) => number_q hq (a := 1) (b := 1000000) (by decide)
      rw [hy2] at KB
      have KI := fun w' (hq : QR B w' g (stOf y2)) => is_q hq 5 [44]
      have KT := fun w' (hq : QR B w' g (stOf y2)) => need_q hq (k := 5) (by decide) [44]
      obtain ⟨n3, hv3⟩ : ∃ n, valN y1 = n := ⟨_, rfl⟩
      obtain ⟨s3, hs3⟩ : ∃ n, stOf y1 = n := ⟨_, rfl⟩
      obtain ⟨n4, hv4⟩ : ∃ n, valN y2 = n := ⟨_, rfl⟩
      obtain ⟨s4, hs4⟩ : ∃ n, stOf y2 = n := ⟨_, rfl⟩
      obtain ⟨x5, hx5⟩ : ∃ x, aft (needT 5 [44]) s4 = x := ⟨_, rfl⟩
      obtain ⟨bi, hbi⟩ : ∃ x, isQ 5 [44] s4 = x := ⟨_, rfl⟩
      rw [hv3, hs3] at KA
      rw [hs3, hv4, hs4] at KB
      rw [hs4, hbi] at KI
      rw [hs4, hx5] at KT
      rw [hv3, hv4, hs4, hx5, hbi] at hPN
      rw [hs4, hx5, hbi, HM.out] at hPF
      rw [hv3] at hn3
      obtain ⟨t5, hv5⟩ : ∃ t, valT x5 = t := ⟨_, rfl⟩
      obtain ⟨s5, hs5⟩ : ∃ t, stOf x5 = t := ⟨_, rfl⟩
      rw [hv5, hs5] at KT
      rw [hs5] at hPN hPF
      unfold tokV at KT
      have KA := Lib.hid KA
      have KB := Lib.hid KB
      have KI := Lib.hid KI
      have KT := Lib.hid KT
      have HPN := Lib.hid hPN
      have HPF := Lib.hid hPF
      have hu3 : IntKind.u32.wrap (n3 : Int) = (n3 : Int) := by rw [IntKind.wrap_u32]; omega
      have hZw := HZW.out
      clear hml hlv hy1 hy2 hv3 hv4 hs3 hs4 hv5 hs5 hx5 hbi hPN hPF HP HF
      by_cases e8 : m = 8
      · have h8e : ((m : Int) == 8) = true := by rw [e8]; rfl
        rw [HM.out, if_pos e8] at hs0
        have KW := fun w' (hq : QR B w' g (.ok l')) => wrong_q hq (c := 2) (by decide)
        rw [← hs0] at KW
        have KW := Lib.hid KW
        clear hs0
        go_upto_region 28 with (go_at_call 37; refine (KW.out _ HWR.out.qr).mono ?_; rintro e W6 ⟨rfl, h6, hq⟩; have HW6 := Lib.hid (HWR.out.call h6 hq); have HO6 := Lib.hid (HOR.out.kept h6 (.inr (owns_far HOR.out (.inl (by have := HWR.out.lt; have := HBW.out; omega))))); clear h6 hq)
        have HZ : Hid (Z < w.heap.size) := Lib.hid hZw
        clear hZw h8e e8
        go_upto_region 29 with (go_at_call 64; refine (KA.out _ HW6.out.qr).mono ?_; rintro e w7 ⟨rfl, h6, hq⟩; have HW7 := Lib.hid (HW6.out.call h6 hq); have HO7 := Lib.hid (HO6.out.kept h6 (.inr (owns_far HO6.out (.inl (by have := HWR.out.lt; have := HBW.out; omega))))); clear h6 hq)
        have hb8 := (Below.refl w7.heap.size w7).alloc (Nat.le_refl _) (.cells #[.int .u32 (n3 : Int), .int .i64 0] 60)
        have HW8 := Lib.hid (HW7.out.row (grown_below' hb8 none) (fun Y e => by cases e))
        have HO8 := Lib.hid (owns_below HO7.out hb8)
        have HB8 : Hid (HBox (w7.alloc (.cells #[.int .u32 (n3 : Int), .int .i64 0] 60)) w7.heap.size [.int .u32 (n3 : Int), .int .i64 0] 60) := Lib.hid (HBox.new w7 [.int .u32 (n3 : Int), .int .i64 0] _)
        have HFar : Hid (∀ Y, (Value.slice q m cap).ownBlock = some Y → Y < w7.heap.size) := Lib.hid (fun Y e => (HO7.out.lt Y e).2)
        have HFW : Hid (w.heap.size ≤ w7.heap.size) := Lib.hid HW7.out.kept.size
        generalize w7.alloc (.cells #[.int .u32 (n3 : Int), .int .i64 0] 60) = W8 at *
        generalize w7.heap.size = F at *
        clear hb8 HW7 HO7 HW6 HO6
        go_upto_region 30 with (go_at_call 64; refine (KB.out _ HW8.out.qr).mono ?_; rintro e w9 ⟨rfl, h6, hq⟩; have HW9 := Lib.hid (HW8.out.call h6 hq); have HO9 := Lib.hid (HO8.out.kept h6 (.inr (owns_far HO8.out (.inl (by have := HWR.out.lt; have := HBW.out; omega))))); have HB9 := Lib.hid (HB8.out.grown h6 (fun e => by have := Option.some.inj e; have := HFW.out; have := HBW.out; have := HWR.out.lt; omega)); have d1 := HB9.out.cell (j := 1) rfl; have e1 := HB9.out.frozen 1; have e9 := HB9.out.size; clear h6 hq)
        have HWA := Lib.hid (HW9.out.row (grown_set w9 F 1 (.int .i64 (n4 : Int))) (fun Y e => by obtain rfl := Option.some.inj e; exact ⟨HFW.out, Nat.le_trans HBW.out HFW.out, fun e => by have := HFW.out; have := HZ.out; omega⟩))
        have HOA := Lib.hid (HO9.out.kept (grown_set w9 F 1 (.int .i64 (n4 : Int))) (.inr (fun e => by have := HFar.out _ e; omega)))
        have HBA : Hid (HBox (w9.setCell ⟨F, 1, none⟩ (.int .i64 (n4 : Int))) F [.int .u32 (n3 : Int), .int .i64 (n4 : Int)] 60) := Lib.hid (HB9.out.set 1 _)
        generalize w9.setCell ⟨F, 1, none⟩ (.int .i64 (n4 : Int)) = WA at *
        clear d1 e1 e9 HW8 HO8 HB8 HW9 HO9 HB9 KA KB
        obtain ⟨NN, hNN⟩ : ∃ N, WA.heap.size = N := ⟨_, rfl⟩
        have HNF : Hid (F < NN) := Lib.hid (by have := HBA.out.size; omega)
        have HCW : Hid (QW B Z g w WA.drew s4 [.int .i64 4, .int .u32 (n1 : Int), .int .u32 0, .string ⟨#[]⟩, .slice q m cap, .slice none 0 0, .int .i32 0, .int .i64 at_] ∧ WA.drew.ownsRow w.heap.size 60 2 (.slice q m cap) m (ps.flatMap ptc) ∧ HBox WA.drew F [.int .u32 (n3 : Int), .int .i64 (n4 : Int)] 60 ∧ NN ≤ WA.drew.heap.size) := Lib.hid ⟨HWA.out.row (grown_below' (Below.refl _ _).drew none) (fun Y e => by cases e), owns_below HOA.out (Below.refl _ _).drew, HBA.out, Nat.le_of_eq hNN.symm⟩
        clear hNN HWA HOA HBA
        refine wp_region_part4 8 (fun st w' => QW B Z g w w' s4 [.int .i64 4, .int .u32 (n1 : Int), .int .u32 0, .string ⟨#[]⟩, .slice q m cap, .slice none 0 0, .int .i32 0, .int .i64 at_] ∧ (st 7 = false → w'.ownsRow w.heap.size 60 2 (.slice q m cap) m (ps.flatMap ptc)) ∧ HBox w' F [.int .u32 (n3 : Int), .int .i64 (n4 : Int)] 60 ∧ NN ≤ w'.heap.size) (RA NN w.heap.size m 60 2 (ps.flatMap ptc) [.int .u32 (n3 : Int), .int .i64 (n4 : Int)] (.agg #[.int .u32 (n3 : Int), .int .i64 (n4 : Int)]) [.pointer (some ⟨Z, 0, none⟩), .pointer (some ⟨Z, 0, none⟩), .pointer (some ⟨Z, 0, none⟩), .pointer (some ⟨Z, 4, none⟩), .slice q m cap]) (fun _ _ _ _ => True) hmix (by decide) (by kernel_rfl) (by kernel_rfl) (by kernel_rfl) (by simpa using HCW.out) ?_ ?_
        · intro st a' w' i hiN hsi hdn hC hfar hrd
          rcases (by omega : i = 0 ∨ i = 1 ∨ i = 2 ∨ i = 3 ∨ i = 4 ∨ i = 5 ∨ i = 6 ∨ i = 7) with rfl | rfl | rfl | rfl | rfl | rfl | rfl | rfl
          · refine op_run (.move (.tmp 1)) (some 143) (by unfold opIs; kernel_rfl) (.pointer (some ⟨Z, 0, none⟩)) (w' := w') (fun o ho => by unfold execOp; rw [ho]; simp only [(hfar 1 (by kernel_rfl)).trans (show _ = (.pointer (some ⟨Z, 0, none⟩) : Value) by kernel_rfl)]; go_simp) ?_
            exact ⟨_, congrArg (fun d => a'.put d (.pointer (some ⟨Z, 0, none⟩))) (by kernel_rfl), (by simpa using hC), rfl, (fun j u _ h => h), fun _ _ _ _ _ _ _ => ⟨trivial, trivial⟩⟩
          · refine op_run (.move (.tmp 1)) (some 144) (by unfold opIs; kernel_rfl) (.pointer (some ⟨Z, 0, none⟩)) (w' := w') (fun o ho => by unfold execOp; rw [ho]; simp only [(hfar 1 (by kernel_rfl)).trans (show _ = (.pointer (some ⟨Z, 0, none⟩) : Value) by kernel_rfl)]; go_simp) ?_
            exact ⟨_, congrArg (fun d => a'.put d (.pointer (some ⟨Z, 0, none⟩))) (by kernel_rfl), (by simpa using hC), rfl, (fun j u _ h => h), fun _ _ _ _ _ _ _ => ⟨trivial, trivial⟩⟩
          · refine op_run (.nilCheck (.tmp 144)) (some 145) (by unfold opIs; kernel_rfl) (.pointer (some ⟨Z, 0, none⟩)) (w' := w') (fun o ho => by unfold execOp; rw [ho]; simp only [show a'.eval (.tmp 144) = (.pointer (some ⟨Z, 0, none⟩)) from hrd 1 144 (by kernel_rfl) (by kernel_rfl)]; go_simp) ?_
            exact ⟨_, congrArg (fun d => a'.put d (.pointer (some ⟨Z, 0, none⟩))) (by kernel_rfl), (by simpa using hC), rfl, (fun j u _ h => h), fun _ _ _ _ _ _ _ => ⟨trivial, trivial⟩⟩
          · refine op_run (.fieldAddr 38 (.tmp 145) 4) (some 146) (by unfold opIs; kernel_rfl) (.pointer (some ⟨Z, 4, none⟩)) (w' := w') (fun o ho => by unfold execOp; rw [ho]; simp only [show a'.eval (.tmp 145) = (.pointer (some ⟨Z, 0, none⟩)) from hrd 2 145 (by kernel_rfl) (by kernel_rfl)]; go_simp) ?_
            exact ⟨_, congrArg (fun d => a'.put d (.pointer (some ⟨Z, 4, none⟩))) (by kernel_rfl), (by simpa using hC), rfl, (fun j u _ h => h), fun _ _ _ _ _ _ _ => ⟨trivial, trivial⟩⟩
          · have o0 := hC.1.box.cell (j := 4) rfl
            refine op_load 32 (.tmp 146) (some 147) (by unfold opIs; kernel_rfl) _ (.slice q m cap) (hrd 3 146 (by kernel_rfl) (by kernel_rfl)) (by go_simp) ?_
            exact ⟨_, congrArg (fun d => a'.put d (.slice q m cap)) (by kernel_rfl), (by simpa using hC), rfl, (fun j u _ h => h), fun _ _ _ _ _ _ _ => ⟨trivial, trivial⟩⟩
          · have o0 := hC.2.2.1.cell (j := 0) rfl
            have o1 := hC.2.2.1.cell (j := 1) rfl
            refine op_load 60 (.tmp 5) (some 148) (by unfold opIs; kernel_rfl) _ (.agg #[.int .u32 (n3 : Int), .int .i64 (n4 : Int)]) ((hfar 5 (by kernel_rfl)).trans (show _ = (.pointer (some ⟨F, 0, none⟩) : Value) by kernel_rfl)) (by go_simp) ?_
            exact ⟨_, congrArg (fun d => a'.put d (.agg #[.int .u32 (n3 : Int), .int .i64 (n4 : Int)])) (by kernel_rfl), (by simpa using hC), rfl, (fun j u _ h => h), fun _ _ _ _ _ _ _ => ⟨trivial, trivial⟩⟩
          · refine op_run (.buildSlice 32 1 #[(0, .tmp 148)]) (some 149) (by unfold opIs; kernel_rfl) (.slice (some ⟨w'.heap.size, 0, none⟩) 1 1) (w' := w'.alloc (.cells #[.int .u32 (n3 : Int), .int .i64 (n4 : Int)] 60)) (fun o ho => by unfold execOp; rw [ho]; simp only [List.map_toArray, List.map_cons, List.map_nil, show a'.eval (.tmp 148) = (.agg #[.int .u32 (n3 : Int), .int .i64 (n4 : Int)]) from hrd 5 148 (by kernel_rfl) (by kernel_rfl)]; go_simp) ?_
            have hb := (Below.refl w'.heap.size w').alloc (Nat.le_refl _) (.cells #[.int .u32 (n3 : Int), .int .i64 (n4 : Int)] 60)
            exact ⟨_, congrArg (fun d => a'.put d (.slice (some ⟨w'.heap.size, 0, none⟩) 1 1)) (by kernel_rfl), (by simpa using ⟨hC.1.row (grown_below' hb none) (fun Y e => by cases e), fun h7 => owns_below (hC.2.1 h7) hb, (hb.block F hC.2.2.1.size).trans hC.2.2.1, Nat.le_succ_of_le hC.2.2.2⟩), ⟨_, rfl, HBox.new w' [.int .u32 (n3 : Int), .int .i64 (n4 : Int)] _, hC.2.2.2⟩, (fun j u _ h => RA.below hb j u h), fun _ _ _ _ _ _ _ => ⟨trivial, trivial⟩⟩
          · obtain ⟨y, q6, hB6, hy⟩ := hrd 6 149 (by kernel_rfl) (by kernel_rfl)
            have hOw := hC.2.1 hsi
            refine op_append (.tmp 147) (.tmp 149) 32 (some 150) (by unfold opIs; kernel_rfl) w.heap.size 60 i0 _ 2 16 Tryz.underlying32 hi hz0 hz1 hz2 rfl (by decide) (.slice q m cap) m _ (hrd 4 147 (by kernel_rfl) (by kernel_rfl)) hOw ⟨y, 0, none⟩ 1 1 [.int .u32 (n3 : Int), .int .i64 (n4 : Int)] q6 rfl (hbox_cellsQ hB6) (fun v hv => by simp at hv; rcases hv with rfl | rfl <;> rfl) (by unfold maxLen; omega) (by omega) hC.1.kept.size (fun v12 w12 ho hg => ?_)
            obtain ⟨q2, cap2, rfl⟩ := owns_form ho
            have hlt : ∀ Y, some Y = (Value.slice q m cap).ownBlock → w.heap.size ≤ Y ∧ Y < F := fun Y e => ⟨(hOw.lt Y e.symm).1, HFar.out Y e.symm⟩
            exact ⟨_, congrArg (fun d => a'.put d _) (by kernel_rfl), ⟨hC.1.row hg (fun Y e => ⟨(hlt Y e.symm).1, Nat.le_trans HBW.out (hlt Y e.symm).1, fun e2 => by have := (hlt Y e.symm).1; have := HZ.out; omega⟩), (fun h => by simp at h), hC.2.2.1.grown hg (fun e => by have := (hlt F e).2; omega), Nat.le_trans hC.2.2.2 hg.size⟩, ⟨q2, cap2, rfl, ho⟩, (fun j u hj h => RA.row hg (fun k e => by have := (hlt k e.symm).2; have := HNF.out; omega) j u (fun e => by subst e; rw [hsi] at hj; cases hj) h), fun _ _ _ _ _ _ _ => ⟨trivial, trivial⟩⟩
        · intro st bv W9 hall hC hR _
          obtain ⟨q2, cap2, q7, hO7⟩ := hR 7 (by omega)
          have q0 : bv 0 = (.pointer (some ⟨Z, 0, none⟩)) := hR 0 (by omega)
          have HWA := Lib.hid hC.1
          have HOA := Lib.hid hO7
          simp only [List.take_succ_cons, List.take_zero, List.drop_succ_cons, List.drop_zero, putL, if_true, Nat.reduceAdd, Act.put, List.getElem_toArray, List.getElem_cons_zero, List.getElem_cons_succ, List.setIfInBounds_toArray, List.set_cons_zero, List.set_cons_succ]
          rw [q0, q7]
          have d4 := HWA.out.box.cell (j := 4) rfl
          have e4 := HWA.out.box.frozen 4
          have e9 := HWA.out.box.size
          clear hR q0 q7 hall hC hO7
          go_upto_region 31 with fail
          have HWC : Hid (QW B Z g w (W9.setCell ⟨Z, 4, none⟩ (.slice q2 (m + 1) cap2)) s4 [.int .i64 4, .int .u32 (n1 : Int), .int .u32 0, .string ⟨#[]⟩, .slice q2 (m + 1) cap2, .slice none 0 0, .int .i32 0, .int .i64 at_]) := Lib.hid (HWA.out.set 4 _)
          have HOC := Lib.hid (HOA.out.kept (grown_set W9 Z 4 (.slice q2 (m + 1) cap2)) (.inr (owns_far HOA.out (.inl HZ.out))))
          generalize W9.setCell ⟨Z, 4, none⟩ (.slice q2 (m + 1) cap2) = WC at *
          clear d4 e4 e9 HWA HOA
          have hk := HM.out
          have HM2 : Hid ((ps ++ [(n3, n4)]).length = m + 1) := Lib.hid (by simp [hk])
          have HOD : Hid (WC.ownsRow w.heap.size 60 2 (.slice q2 (m + 1) cap2) (m + 1) ((ps ++ [(n3, n4)]).flatMap ptc)) := Lib.hid (by rw [flat_snoc]; exact HOC.out)
          clear HOC hk
          cases bi with
          | false =>
            go_wp2_with (go_at_call 38; refine (KI.out _ HWC.out.qr).mono ?_; rintro e wD ⟨rfl, hD⟩; obtain rfl : WC = wD := hD.symm)
            go_roundw
            case rel => exact ⟨false, s4, m + 1, q2, cap2, ps ++ [(n3, n4)], rfl, HM2, Lib.hid (fun h => HPF.out h), HPN, HOD, HWC⟩
            case measure => rw [show lenC WC ⟨Z, 4, none⟩ = m + 1 from (by unfold lenC; rw [HWC.out.box.cell (j := 4) rfl]; rfl), HLC.out]; omega
          | true =>
            go_wp2_with (first
              | (go_at_call 39; refine (KT.out _ HWC.out.qr).mono ?_; rintro e wE ⟨rfl, hE, hq⟩; have HWE := Lib.hid (HWC.out.call hE hq); have HOE := Lib.hid (HOD.out.kept hE (.inr (owns_far HOD.out (.inl (by have := HWR.out.lt; have := HBW.out; omega))))); clear hE hq)
              | (go_at_call 38; refine (KI.out _ HWC.out.qr).mono ?_; rintro e wD ⟨rfl, hD⟩; obtain rfl : WC = wD := hD.symm))
            go_roundw
            case rel => exact ⟨true, s5, m + 1, q2, cap2, ps ++ [(n3, n4)], rfl, HM2, Lib.hid (fun h => HPF.out h), HPN, HOE, HWE⟩
            case measure => rw [show lenC wE ⟨Z, 4, none⟩ = m + 1 from (by unfold lenC; rw [HWE.out.box.cell (j := 4) rfl]; rfl), HLC.out]; omega
      · have h8e : ((m : Int) == 8) = false := by rw [beq_eq_false_iff_ne]; omega
        rw [HM.out, if_neg e8] at hs0
        subst hs0
        go_upto_region 28 with fail
        have HZ : Hid (Z < w.heap.size) := Lib.hid hZw
        clear hZw h8e e8
        go_upto_region 29 with (go_at_call 64; refine (KA.out _ HWR.out.qr).mono ?_; rintro e w7 ⟨rfl, h6, hq⟩; have HW7 := Lib.hid (HWR.out.call h6 hq); have HO7 := Lib.hid (HOR.out.kept h6 (.inr (owns_far HOR.out (.inl (by have := HWR.out.lt; have := HBW.out; omega))))); clear h6 hq)
        have hb8 := (Below.refl w7.heap.size w7).alloc (Nat.le_refl _) (.cells #[.int .u32 (n3 : Int), .int .i64 0] 60)
        have HW8 := Lib.hid (HW7.out.row (grown_below' hb8 none) (fun Y e => by cases e))
        have HO8 := Lib.hid (owns_below HO7.out hb8)
        have HB8 : Hid (HBox (w7.alloc (.cells #[.int .u32 (n3 : Int), .int .i64 0] 60)) w7.heap.size [.int .u32 (n3 : Int), .int .i64 0] 60) := Lib.hid (HBox.new w7 [.int .u32 (n3 : Int), .int .i64 0] _)
        have HFar : Hid (∀ Y, (Value.slice q m cap).ownBlock = some Y → Y < w7.heap.size) := Lib.hid (fun Y e => (HO7.out.lt Y e).2)
        have HFW : Hid (w.heap.size ≤ w7.heap.size) := Lib.hid HW7.out.kept.size
        generalize w7.alloc (.cells #[.int .u32 (n3 : Int), .int .i64 0] 60) = W8 at *
        generalize w7.heap.size = F at *
        clear hb8 HW7 HO7  
        go_upto_region 30 with (go_at_call 64; refine (KB.out _ HW8.out.qr).mono ?_; rintro e w9 ⟨rfl, h6, hq⟩; have HW9 := Lib.hid (HW8.out.call h6 hq); have HO9 := Lib.hid (HO8.out.kept h6 (.inr (owns_far HO8.out (.inl (by have := HWR.out.lt; have := HBW.out; omega))))); have HB9 := Lib.hid (HB8.out.grown h6 (fun e => by have := Option.some.inj e; have := HFW.out; have := HBW.out; have := HWR.out.lt; omega)); have d1 := HB9.out.cell (j := 1) rfl; have e1 := HB9.out.frozen 1; have e9 := HB9.out.size; clear h6 hq)
        have HWA := Lib.hid (HW9.out.row (grown_set w9 F 1 (.int .i64 (n4 : Int))) (fun Y e => by obtain rfl := Option.some.inj e; exact ⟨HFW.out, Nat.le_trans HBW.out HFW.out, fun e => by have := HFW.out; have := HZ.out; omega⟩))
        have HOA := Lib.hid (HO9.out.kept (grown_set w9 F 1 (.int .i64 (n4 : Int))) (.inr (fun e => by have := HFar.out _ e; omega)))
        have HBA : Hid (HBox (w9.setCell ⟨F, 1, none⟩ (.int .i64 (n4 : Int))) F [.int .u32 (n3 : Int), .int .i64 (n4 : Int)] 60) := Lib.hid (HB9.out.set 1 _)
        generalize w9.setCell ⟨F, 1, none⟩ (.int .i64 (n4 : Int)) = WA at *
        clear d1 e1 e9 HW8 HO8 HB8 HW9 HO9 HB9 KA KB
        obtain ⟨NN, hNN⟩ : ∃ N, WA.heap.size = N := ⟨_, rfl⟩
        have HNF : Hid (F < NN) := Lib.hid (by have := HBA.out.size; omega)
        have HCW : Hid (QW B Z g w WA.drew s4 [.int .i64 4, .int .u32 (n1 : Int), .int .u32 0, .string ⟨#[]⟩, .slice q m cap, .slice none 0 0, .int .i32 0, .int .i64 at_] ∧ WA.drew.ownsRow w.heap.size 60 2 (.slice q m cap) m (ps.flatMap ptc) ∧ HBox WA.drew F [.int .u32 (n3 : Int), .int .i64 (n4 : Int)] 60 ∧ NN ≤ WA.drew.heap.size) := Lib.hid ⟨HWA.out.row (grown_below' (Below.refl _ _).drew none) (fun Y e => by cases e), owns_below HOA.out (Below.refl _ _).drew, HBA.out, Nat.le_of_eq hNN.symm⟩
        clear hNN HWA HOA HBA
        refine wp_region_part4 8 (fun st w' => QW B Z g w w' s4 [.int .i64 4, .int .u32 (n1 : Int), .int .u32 0, .string ⟨#[]⟩, .slice q m cap, .slice none 0 0, .int .i32 0, .int .i64 at_] ∧ (st 7 = false → w'.ownsRow w.heap.size 60 2 (.slice q m cap) m (ps.flatMap ptc)) ∧ HBox w' F [.int .u32 (n3 : Int), .int .i64 (n4 : Int)] 60 ∧ NN ≤ w'.heap.size) (RA NN w.heap.size m 60 2 (ps.flatMap ptc) [.int .u32 (n3 : Int), .int .i64 (n4 : Int)] (.agg #[.int .u32 (n3 : Int), .int .i64 (n4 : Int)]) [.pointer (some ⟨Z, 0, none⟩), .pointer (some ⟨Z, 0, none⟩), .pointer (some ⟨Z, 0, none⟩), .pointer (some ⟨Z, 4, none⟩), .slice q m cap]) (fun _ _ _ _ => True) hmix (by decide) (by kernel_rfl) (by kernel_rfl) (by kernel_rfl) (by simpa using HCW.out) ?_ ?_
        · intro st a' w' i hiN hsi hdn hC hfar hrd
          rcases (by omega : i = 0 ∨ i = 1 ∨ i = 2 ∨ i = 3 ∨ i = 4 ∨ i = 5 ∨ i = 6 ∨ i = 7) with rfl | rfl | rfl | rfl | rfl | rfl | rfl | rfl
          · refine op_run (.move (.tmp 1)) (some 143) (by unfold opIs; kernel_rfl) (.pointer (some ⟨Z, 0, none⟩)) (w' := w') (fun o ho => by unfold execOp; rw [ho]; simp only [(hfar 1 (by kernel_rfl)).trans (show _ = (.pointer (some ⟨Z, 0, none⟩) : Value) by kernel_rfl)]; go_simp) ?_
            exact ⟨_, congrArg (fun d => a'.put d (.pointer (some ⟨Z, 0, none⟩))) (by kernel_rfl), (by simpa using hC), rfl, (fun j u _ h => h), fun _ _ _ _ _ _ _ => ⟨trivial, trivial⟩⟩
          · refine op_run (.move (.tmp 1)) (some 144) (by unfold opIs; kernel_rfl) (.pointer (some ⟨Z, 0, none⟩)) (w' := w') (fun o ho => by unfold execOp; rw [ho]; simp only [(hfar 1 (by kernel_rfl)).trans (show _ = (.pointer (some ⟨Z, 0, none⟩) : Value) by kernel_rfl)]; go_simp) ?_
            exact ⟨_, congrArg (fun d => a'.put d (.pointer (some ⟨Z, 0, none⟩))) (by kernel_rfl), (by simpa using hC), rfl, (fun j u _ h => h), fun _ _ _ _ _ _ _ => ⟨trivial, trivial⟩⟩
          · refine op_run (.nilCheck (.tmp 144)) (some 145) (by unfold opIs; kernel_rfl) (.pointer (some ⟨Z, 0, none⟩)) (w' := w') (fun o ho => by unfold execOp; rw [ho]; simp only [show a'.eval (.tmp 144) = (.pointer (some ⟨Z, 0, none⟩)) from hrd 1 144 (by kernel_rfl) (by kernel_rfl)]; go_simp) ?_
            exact ⟨_, congrArg (fun d => a'.put d (.pointer (some ⟨Z, 0, none⟩))) (by kernel_rfl), (by simpa using hC), rfl, (fun j u _ h => h), fun _ _ _ _ _ _ _ => ⟨trivial, trivial⟩⟩
          · refine op_run (.fieldAddr 38 (.tmp 145) 4) (some 146) (by unfold opIs; kernel_rfl) (.pointer (some ⟨Z, 4, none⟩)) (w' := w') (fun o ho => by unfold execOp; rw [ho]; simp only [show a'.eval (.tmp 145) = (.pointer (some ⟨Z, 0, none⟩)) from hrd 2 145 (by kernel_rfl) (by kernel_rfl)]; go_simp) ?_
            exact ⟨_, congrArg (fun d => a'.put d (.pointer (some ⟨Z, 4, none⟩))) (by kernel_rfl), (by simpa using hC), rfl, (fun j u _ h => h), fun _ _ _ _ _ _ _ => ⟨trivial, trivial⟩⟩
          · have o0 := hC.1.box.cell (j := 4) rfl
            refine op_load 32 (.tmp 146) (some 147) (by unfold opIs; kernel_rfl) _ (.slice q m cap) (hrd 3 146 (by kernel_rfl) (by kernel_rfl)) (by go_simp) ?_
            exact ⟨_, congrArg (fun d => a'.put d (.slice q m cap)) (by kernel_rfl), (by simpa using hC), rfl, (fun j u _ h => h), fun _ _ _ _ _ _ _ => ⟨trivial, trivial⟩⟩
          · have o0 := hC.2.2.1.cell (j := 0) rfl
            have o1 := hC.2.2.1.cell (j := 1) rfl
            refine op_load 60 (.tmp 5) (some 148) (by unfold opIs; kernel_rfl) _ (.agg #[.int .u32 (n3 : Int), .int .i64 (n4 : Int)]) ((hfar 5 (by kernel_rfl)).trans (show _ = (.pointer (some ⟨F, 0, none⟩) : Value) by kernel_rfl)) (by go_simp) ?_
            exact ⟨_, congrArg (fun d => a'.put d (.agg #[.int .u32 (n3 : Int), .int .i64 (n4 : Int)])) (by kernel_rfl), (by simpa using hC), rfl, (fun j u _ h => h), fun _ _ _ _ _ _ _ => ⟨trivial, trivial⟩⟩
          · refine op_run (.buildSlice 32 1 #[(0, .tmp 148)]) (some 149) (by unfold opIs; kernel_rfl) (.slice (some ⟨w'.heap.size, 0, none⟩) 1 1) (w' := w'.alloc (.cells #[.int .u32 (n3 : Int), .int .i64 (n4 : Int)] 60)) (fun o ho => by unfold execOp; rw [ho]; simp only [List.map_toArray, List.map_cons, List.map_nil, show a'.eval (.tmp 148) = (.agg #[.int .u32 (n3 : Int), .int .i64 (n4 : Int)]) from hrd 5 148 (by kernel_rfl) (by kernel_rfl)]; go_simp) ?_
            have hb := (Below.refl w'.heap.size w').alloc (Nat.le_refl _) (.cells #[.int .u32 (n3 : Int), .int .i64 (n4 : Int)] 60)
            exact ⟨_, congrArg (fun d => a'.put d (.slice (some ⟨w'.heap.size, 0, none⟩) 1 1)) (by kernel_rfl), (by simpa using ⟨hC.1.row (grown_below' hb none) (fun Y e => by cases e), fun h7 => owns_below (hC.2.1 h7) hb, (hb.block F hC.2.2.1.size).trans hC.2.2.1, Nat.le_succ_of_le hC.2.2.2⟩), ⟨_, rfl, HBox.new w' [.int .u32 (n3 : Int), .int .i64 (n4 : Int)] _, hC.2.2.2⟩, (fun j u _ h => RA.below hb j u h), fun _ _ _ _ _ _ _ => ⟨trivial, trivial⟩⟩
          · obtain ⟨y, q6, hB6, hy⟩ := hrd 6 149 (by kernel_rfl) (by kernel_rfl)
            have hOw := hC.2.1 hsi
            refine op_append (.tmp 147) (.tmp 149) 32 (some 150) (by unfold opIs; kernel_rfl) w.heap.size 60 i0 _ 2 16 Tryz.underlying32 hi hz0 hz1 hz2 rfl (by decide) (.slice q m cap) m _ (hrd 4 147 (by kernel_rfl) (by kernel_rfl)) hOw ⟨y, 0, none⟩ 1 1 [.int .u32 (n3 : Int), .int .i64 (n4 : Int)] q6 rfl (hbox_cellsQ hB6) (fun v hv => by simp at hv; rcases hv with rfl | rfl <;> rfl) (by unfold maxLen; omega) (by omega) hC.1.kept.size (fun v12 w12 ho hg => ?_)
            obtain ⟨q2, cap2, rfl⟩ := owns_form ho
            have hlt : ∀ Y, some Y = (Value.slice q m cap).ownBlock → w.heap.size ≤ Y ∧ Y < F := fun Y e => ⟨(hOw.lt Y e.symm).1, HFar.out Y e.symm⟩
            exact ⟨_, congrArg (fun d => a'.put d _) (by kernel_rfl), ⟨hC.1.row hg (fun Y e => ⟨(hlt Y e.symm).1, Nat.le_trans HBW.out (hlt Y e.symm).1, fun e2 => by have := (hlt Y e.symm).1; have := HZ.out; omega⟩), (fun h => by simp at h), hC.2.2.1.grown hg (fun e => by have := (hlt F e).2; omega), Nat.le_trans hC.2.2.2 hg.size⟩, ⟨q2, cap2, rfl, ho⟩, (fun j u hj h => RA.row hg (fun k e => by have := (hlt k e.symm).2; have := HNF.out; omega) j u (fun e => by subst e; rw [hsi] at hj; cases hj) h), fun _ _ _ _ _ _ _ => ⟨trivial, trivial⟩⟩
        · intro st bv W9 hall hC hR _
          obtain ⟨q2, cap2, q7, hO7⟩ := hR 7 (by omega)
          have q0 : bv 0 = (.pointer (some ⟨Z, 0, none⟩)) := hR 0 (by omega)
          have HWA := Lib.hid hC.1
          have HOA := Lib.hid hO7
          simp only [List.take_succ_cons, List.take_zero, List.drop_succ_cons, List.drop_zero, putL, if_true, Nat.reduceAdd, Act.put, List.getElem_toArray, List.getElem_cons_zero, List.getElem_cons_succ, List.setIfInBounds_toArray, List.set_cons_zero, List.set_cons_succ]
          rw [q0, q7]
          have d4 := HWA.out.box.cell (j := 4) rfl
          have e4 := HWA.out.box.frozen 4
          have e9 := HWA.out.box.size
          clear hR q0 q7 hall hC hO7
          go_upto_region 31 with fail
          have HWC : Hid (QW B Z g w (W9.setCell ⟨Z, 4, none⟩ (.slice q2 (m + 1) cap2)) s4 [.int .i64 4, .int .u32 (n1 : Int), .int .u32 0, .string ⟨#[]⟩, .slice q2 (m + 1) cap2, .slice none 0 0, .int .i32 0, .int .i64 at_]) := Lib.hid (HWA.out.set 4 _)
          have HOC := Lib.hid (HOA.out.kept (grown_set W9 Z 4 (.slice q2 (m + 1) cap2)) (.inr (owns_far HOA.out (.inl HZ.out))))
          generalize W9.setCell ⟨Z, 4, none⟩ (.slice q2 (m + 1) cap2) = WC at *
          clear d4 e4 e9 HWA HOA
          have hk := HM.out
          have HM2 : Hid ((ps ++ [(n3, n4)]).length = m + 1) := Lib.hid (by simp [hk])
          have HOD : Hid (WC.ownsRow w.heap.size 60 2 (.slice q2 (m + 1) cap2) (m + 1) ((ps ++ [(n3, n4)]).flatMap ptc)) := Lib.hid (by rw [flat_snoc]; exact HOC.out)
          clear HOC hk
          cases bi with
          | false =>
            go_wp2_with (go_at_call 38; refine (KI.out _ HWC.out.qr).mono ?_; rintro e wD ⟨rfl, hD⟩; obtain rfl : WC = wD := hD.symm)
            go_roundw
            case rel => exact ⟨false, s4, m + 1, q2, cap2, ps ++ [(n3, n4)], rfl, HM2, Lib.hid (fun h => HPF.out h), HPN, HOD, HWC⟩
            case measure => rw [show lenC WC ⟨Z, 4, none⟩ = m + 1 from (by unfold lenC; rw [HWC.out.box.cell (j := 4) rfl]; rfl), HLC.out]; omega
          | true =>
            go_wp2_with (first
              | (go_at_call 39; refine (KT.out _ HWC.out.qr).mono ?_; rintro e wE ⟨rfl, hE, hq⟩; have HWE := Lib.hid (HWC.out.call hE hq); have HOE := Lib.hid (HOD.out.kept hE (.inr (owns_far HOD.out (.inl (by have := HWR.out.lt; have := HBW.out; omega))))); clear hE hq)
              | (go_at_call 38; refine (KI.out _ HWC.out.qr).mono ?_; rintro e wD ⟨rfl, hD⟩; obtain rfl : WC = wD := hD.symm))
            go_roundw
            case rel => exact ⟨true, s5, m + 1, q2, cap2, ps ++ [(n3, n4)], rfl, HM2, Lib.hid (fun h => HPF.out h), HPN, HOE, HWE⟩
            case measure => rw [show lenC wE ⟨Z, 4, none⟩ = m + 1 from (by unfold lenC; rw [HWE.out.box.cell (j := 4) rfl]; rfl), HLC.out]; omega
end Go.Proofs.YtffhnedladiaoaaGreatDoor
/- Law 14's Q in memory: an op that is being read: calendars. -/
namespace Go.Proofs.YtffhnedladiaoaaGreatDoor
open Go.RowKit Go.Lib
set_option linter.unusedVariables false
set_option linter.unusedSimpArgs false
theorem stq_7 (l : List Tk) : stOf (opR 7 l) = stOf (aft (needT 3 []) (stOf (aft (needT 1 [117, 110, 116, 105, 108]) (.ok (l.dropWhile isD))))) ∧
    ∀ o r, opR 7 l = .ok (o, r) → o = ⟨7, 0, 0, [], [], (l.takeWhile isD).map (·.day), (valT (aft (needT 3 []) (stOf (aft (needT 1 [117, 110, 116, 105, 108]) (.ok (l.dropWhile isD)))))).day⟩ := by
  rw [show opR 7 l = thenR (needT 1 [117, 110, 116, 105, 108]) (fun _ => thenR (needT 3 []) fun e => backR (⟨7, 0, 0, [], [], (l.takeWhile isD).map (·.day), e.day⟩ : Opp)) (l.dropWhile isD) from op7_is l]
  cases h1 : needT 1 [117, 110, 116, 105, 108] (l.dropWhile isD) with
  | error p => simp [thenR, aft, stOf, h1]
  | ok a =>
    obtain ⟨t, l2⟩ := a
    cases h2 : needT 3 [] l2 with
    | error p => simp [thenR, aft, stOf, h1, h2]
    | ok b =>
      obtain ⟨u, l3⟩ := b
      simp only [thenR, aft, stOf, h1, h2, valT, backR, true_and]
      intro o r h
      cases h
      rfl
theorem QR.few {B : Nat} {w : World} {g : Nat} {l : List Tk} (h : QR B w g (.ok l)) : l.length ≤ 1000000 := by
  obtain ⟨b, off, cap, h1, h2, h3⟩ := h.box
  exact h3.few
theorem QR.left {B : Nat} {w : World} {g : Nat} {l : List Tk} (h : QR B w g (.ok l)) : lenC w ⟨g, 0, none⟩ = l.length := by
  obtain ⟨b, off, cap, h1, h2, h3⟩ := h.box
  unfold lenC
  rw [h2.cell (j := 0) rfl]
  rfl
/-- What the operations of 'o.Cal.Starts = append(o.Cal.Starts, q.need(..).Day)' yield. -/
def RC (N base m : Nat) (T : TypeId) (size : Nat) (xs news : List Value) (f : List Value) : Nat → Value → World → Prop
  | 10, v, w => ∃ q cap, v = .slice q (m + 1) cap ∧ w.ownsRow base T size (.slice q (m + 1) cap) (m + 1) (xs ++ news)
  | 9, v, w => ∃ y, v = .slice (some ⟨y, 0, none⟩) 1 1 ∧ HBox w y news T ∧ N ≤ y
  | 0, v, _ => v = (f[0]?).getD undef
  | 1, v, _ => v = (f[1]?).getD undef
  | 2, v, _ => v = (f[2]?).getD undef
  | 3, v, _ => v = (f[3]?).getD undef
  | 4, v, _ => v = (f[4]?).getD undef
  | 5, v, _ => v = (f[5]?).getD undef
  | 6, v, _ => v = (f[6]?).getD undef
  | 7, v, _ => v = (f[7]?).getD undef
  | 8, v, _ => v = (f[8]?).getD undef
  | _, _, _ => True
theorem RC.below {N base m : Nat} {T : TypeId} {size : Nat} {xs news : List Value} {f : List Value} {w w' : World} (hb : Below w.heap.size w w') : ∀ j u, RC N base m T size xs news f j u w → RC N base m T size xs news f j u w'
  | 0, _, h => h
  | 1, _, h => h
  | 2, _, h => h
  | 3, _, h => h
  | 4, _, h => h
  | 5, _, h => h
  | 6, _, h => h
  | 7, _, h => h
  | 8, _, h => h
  | 9, _, ⟨g, h1, h2, h3⟩ => ⟨g, h1, (hb.block g h2.size).trans h2, h3⟩
  | 10, _, ⟨q, c, h1, h2⟩ => ⟨q, c, h1, owns_below h2 hb⟩
  | _ + 11, _, h => h
theorem RC.row {N base m : Nat} {T : TypeId} {size : Nat} {xs news : List Value} {f : List Value} {w w' : World} {row : Option Nat} (hg : w.grownBy w' row) (hr : ∀ k, row = some k → k < N) : ∀ j u, j ≠ 10 → RC N base m T size xs news f j u w → RC N base m T size xs news f j u w'
  | 0, _, _, h => h
  | 1, _, _, h => h
  | 2, _, _, h => h
  | 3, _, _, h => h
  | 4, _, _, h => h
  | 5, _, _, h => h
  | 6, _, _, h => h
  | 7, _, _, h => h
  | 8, _, _, h => h
  | 9, _, _, ⟨g, h1, h2, h3⟩ => ⟨g, h1, h2.grown hg (fun e => by have := hr g e.symm; omega), h3⟩
  | 10, _, h, _ => absurd rfl h
  | _ + 11, _, _, h => h
theorem RC.call {N base m g : Nat} {T : TypeId} {size : Nat} {xs news : List Value} {f : List Value} {w w' : World} (hg : w.grownBy w' (some g)) (hN : g < N) (hb : g < base) (j : Nat) (u : Value) (h : RC N base m T size xs news f j u w) : RC N base m T size xs news f j u w' := by
  by_cases e : j = 10
  · subst e
    obtain ⟨q, c, h1, h2⟩ := h
    exact ⟨q, c, h1, h2.kept hg (.inr (owns_far h2 (.inl hb)))⟩
  · exact RC.row hg (fun k e => by cases e; exact hN) j u e h
set_option maxHeartbeats 4000000 in
set_option maxRecDepth 100000 in
theorem opq_7 {B : Nat} {w : World} {g Z : Nat} {l : List Tk} {at_ : Int} (h : QR B w g (.ok l)) (hz : HBox w Z [.int .i64 7, .int .u32 0, .int .u32 0, .string ⟨#[]⟩, .slice none 0 0, .slice none 0 0, .int .i32 0, .int .i64 at_] 38) (hB : B ≤ Z) :
    Calls Tryz.prog 40 #[.pointer (some ⟨g, 0, none⟩), .pointer (some ⟨Z, 0, none⟩)] w fun e w' => OpQ B g Z w 7 at_ l e w' := by
  have HW0 : Hid (QW B Z g w w (.ok l) [.int .i64 7, .int .u32 0, .int .u32 0, .string ⟨#[]⟩, .slice none 0 0, .slice none 0 0, .int .i32 0, .int .i64 at_]) := Lib.hid ⟨⟨h.lt, hB⟩, hz, Kep.refl _ _ _, h⟩
  have c0 := hz.cell (j := 0) rfl
  have f1 := fun (a b c d e : Value) (w : World) => field_tk1 a b c d e w
  have f3 := fun (a b c d e : Value) (w : World) => field_tk3 a b c d e w
  clear h hz hB
  obtain ⟨hS, hO⟩ := stq_7 l
  have HFW := Lib.hid HW0.out.qr.few
  obtain ⟨L0, hL0⟩ : ∃ x, l.dropWhile isD = x := ⟨_, rfl⟩
  obtain ⟨D0, hD0⟩ : ∃ x, (l.takeWhile isD).map (·.day) = x := ⟨_, rfl⟩
  have HL0 := Lib.hid hL0
  have HD0 := Lib.hid hD0
  rw [hL0] at hS hO
  rw [hD0] at hO
  clear hL0 hD0
  have KT2 := Lib.hid (fun w' (hq : QR B w' g (.ok L0)) => need_q hq (k := 1) (by decide) [117, 110, 116, 105, 108])
  obtain ⟨x2, hx2⟩ : ∃ x, aft (needT 1 [117, 110, 116, 105, 108]) (.ok L0) = x := ⟨_, rfl⟩
  rw [hx2] at KT2
  obtain ⟨t2, hv2⟩ : ∃ t, valT x2 = t := ⟨_, rfl⟩
  rw [hv2] at KT2
  obtain ⟨s2, hs2⟩ : ∃ s, stOf x2 = s := ⟨_, rfl⟩
  rw [hs2] at KT2
  unfold tokV at KT2
  have KT3 := Lib.hid (fun w' (hq : QR B w' g s2) => need_q hq (k := 3) (by decide) [])
  obtain ⟨x3, hx3⟩ : ∃ x, aft (needT 3 []) s2 = x := ⟨_, rfl⟩
  rw [hx3] at KT3
  obtain ⟨t3, hv3⟩ : ∃ t, valT x3 = t := ⟨_, rfl⟩
  rw [hv3] at KT3
  obtain ⟨s3, hs3⟩ : ∃ s, stOf x3 = s := ⟨_, rfl⟩
  rw [hs3] at KT3
  unfold tokV at KT3
  rw [hx2, hs2, hx3, hs3] at hS
  rw [hx2, hs2, hx3, hv3] at hO
  have HS := Lib.hid hS
  have HO := Lib.hid hO
  clear hx2 hx3 hv2 hv3 hs2 hs3 hS hO
  have hmix : Tryz.prog.follows .mixedOrders = true := by kernel_rfl
  have HBW := Lib.hid HW0.out.qr.top
  have HZ := Lib.hid HW0.out.box.size
  obtain ⟨i0, hi, hz0, hz1, hz2⟩ := info_parts infoD
  go_enter Tryz.func40, Tryz.ntmps40
  go_wp2_with fail
  go_loopw [56] (fun _ wr => ∃ (m : Nat) (q : Option Addr) (cap : Nat) (ds : List Int) (l' : List Tk), Hid (ds.length = m) ∧ Hid (wr.ownsRow w.heap.size 34 1 (.slice q m cap) m (ds.flatMap dcl)) ∧ Hid (D0 = ds ++ (l'.takeWhile isD).map (·.day)) ∧ Hid (L0 = l'.dropWhile isD) ∧ Hid (m + l'.length = l.length) ∧ Hid (QW B Z g w wr (.ok l') [.int .i64 7, .int .u32 0, .int .u32 0, .string ⟨#[]⟩, .slice none 0 0, .slice q m cap, .int .i32 0, .int .i64 at_])) (fun _ wr => lenC wr ⟨g, 0, none⟩)
  case atStart => exact ⟨0, none, 0, [], l, Lib.hid rfl, Lib.hid (ownD_nil _ _), Lib.hid HD0.out.symm, Lib.hid HL0.out.symm, Lib.hid (Nat.zero_add _), HW0⟩
  case round =>
    clear HW0 c0 HD0 HL0
    obtain ⟨m, q, cap, ds, l', HM, HOR, HT, HD, HL, HWR⟩ := hrel
    rename World => wr
    obtain ⟨t, r, rfl⟩ := HWR.out.qr.ends.form
    have KI := is_q HWR.out.qr 3 []
    have hkd : isQ 3 [] (.ok (t :: r)) = (t.kind == 3) := isT_any 3 t r
    rw [hkd] at KI
    have hm6 : m ≤ 1000000 := by have := HL.out; have := HFW.out; omega
    cases hk : (t.kind == 3) with
    | true =>
      rw [hk] at KI
      have KI := Lib.hid KI
      have hd : isD t = true := hk
      have KT := fun w' (hq : QR B w' g (.ok (t :: r))) => need_q hq (k := 3) (by decide) []
      rw [show aft (needT 3 []) (.ok (t :: r)) = .ok (t, r) from needT_of ((isT_any 3 t r).trans hk)] at KT
      change ∀ w', _ → Calls _ _ _ w' fun e w2 => e = .returned (tokV t) ∧ w'.grownBy w2 (some g) ∧ QR B w2 g (.ok r) at KT
      unfold tokV at KT
      have KT := Lib.hid KT
      have HT2 : Hid (D0 = (ds ++ [t.day]) ++ (r.takeWhile isD).map (·.day)) := Lib.hid (by rw [HT.out, List.takeWhile_cons_of_pos hd]; simp)
      have HD2 : Hid (L0 = r.dropWhile isD) := Lib.hid (by rw [HD.out, List.dropWhile_cons_of_pos hd])
      have HL2 : Hid (m + 1 + r.length = l.length) := Lib.hid (by have := HL.out; simp at this; omega)
      clear hkd hk hd HT HD HL
      go_upto_region 11 with (go_at_call 38; refine KI.out.mono ?_; rintro e wD ⟨rfl, hD⟩; obtain rfl : wr = wD := hD.symm)
      obtain ⟨NN, hNN⟩ : ∃ N, wr.heap.size = N := ⟨_, rfl⟩
      have HNB : Hid (w.heap.size ≤ NN) := Lib.hid (by have := HWR.out.kept.size; omega)
      have HFar : Hid (∀ Y, (Value.slice q m cap).ownBlock = some Y → w.heap.size ≤ Y ∧ Y < NN) := Lib.hid (fun Y e => by have := HOR.out.lt Y e; omega)
      have HCW : Hid (QW B Z g w wr.drew (.ok (t :: r)) [.int .i64 7, .int .u32 0, .int .u32 0, .string ⟨#[]⟩, .slice none 0 0, .slice q m cap, .int .i32 0, .int .i64 at_] ∧ wr.drew.ownsRow w.heap.size 34 1 (.slice q m cap) m (ds.flatMap dcl) ∧ NN ≤ wr.drew.heap.size) := Lib.hid ⟨HWR.out.row (grown_below' (Below.refl _ _).drew none) (fun Y e => by cases e), owns_below HOR.out (Below.refl _ _).drew, Nat.le_of_eq hNN.symm⟩
      clear hNN HOR
      refine wp_region_part4 11 (fun st w' => QW B Z g w w' (if st 7 = true then .ok r else .ok (t :: r)) [.int .i64 7, .int .u32 0, .int .u32 0, .string ⟨#[]⟩, .slice none 0 0, .slice q m cap, .int .i32 0, .int .i64 at_] ∧ (st 10 = false → w'.ownsRow w.heap.size 34 1 (.slice q m cap) m (ds.flatMap dcl)) ∧ NN ≤ w'.heap.size) (RC NN w.heap.size m 34 1 (ds.flatMap dcl) [.int .i32 t.day] [.pointer (some ⟨Z, 0, none⟩), .pointer (some ⟨Z, 0, none⟩), .pointer (some ⟨Z, 0, none⟩), .pointer (some ⟨Z, 5, none⟩), .pointer (some ⟨Z, 5, none⟩), .slice q m cap, .pointer (some ⟨g, 0, none⟩), .agg #[.int .i64 (t.kind : Int), .string ⟨t.text.toArray⟩, .int .i64 t.num, .int .i32 t.day, .int .i64 (t.at_ : Int)], .int .i32 t.day]) (fun _ _ _ _ => True) hmix (by decide) (by kernel_rfl) (by kernel_rfl) (by kernel_rfl) (by simpa using HCW.out) ?_ ?_
      · intro st a' w' i hiN hsi hdn hC hfar hrd
        rcases (by omega : i = 0 ∨ i = 1 ∨ i = 2 ∨ i = 3 ∨ i = 4 ∨ i = 5 ∨ i = 6 ∨ i = 7 ∨ i = 8 ∨ i = 9 ∨ i = 10) with rfl | rfl | rfl | rfl | rfl | rfl | rfl | rfl | rfl | rfl | rfl
        · refine op_run (.move (.tmp 1)) (some 57) (by unfold opIs; kernel_rfl) (.pointer (some ⟨Z, 0, none⟩)) (w' := w') (fun o ho => by unfold execOp; rw [ho]; simp only [(hfar 1 (by kernel_rfl)).trans (show _ = (.pointer (some ⟨Z, 0, none⟩) : Value) by kernel_rfl)]; go_simp) ?_
          exact ⟨_, congrArg (fun d => a'.put d (.pointer (some ⟨Z, 0, none⟩))) (by kernel_rfl), (by simpa using hC), rfl, (fun j u _ h => h), fun _ _ _ _ _ _ _ => ⟨trivial, trivial⟩⟩
        · refine op_run (.move (.tmp 1)) (some 58) (by unfold opIs; kernel_rfl) (.pointer (some ⟨Z, 0, none⟩)) (w' := w') (fun o ho => by unfold execOp; rw [ho]; simp only [(hfar 1 (by kernel_rfl)).trans (show _ = (.pointer (some ⟨Z, 0, none⟩) : Value) by kernel_rfl)]; go_simp) ?_
          exact ⟨_, congrArg (fun d => a'.put d (.pointer (some ⟨Z, 0, none⟩))) (by kernel_rfl), (by simpa using hC), rfl, (fun j u _ h => h), fun _ _ _ _ _ _ _ => ⟨trivial, trivial⟩⟩
        · refine op_run (.nilCheck (.tmp 58)) (some 59) (by unfold opIs; kernel_rfl) (.pointer (some ⟨Z, 0, none⟩)) (w' := w') (fun o ho => by unfold execOp; rw [ho]; simp only [show a'.eval (.tmp 58) = (.pointer (some ⟨Z, 0, none⟩)) from hrd 1 58 (by kernel_rfl) (by kernel_rfl)]; go_simp) ?_
          exact ⟨_, congrArg (fun d => a'.put d (.pointer (some ⟨Z, 0, none⟩))) (by kernel_rfl), (by simpa using hC), rfl, (fun j u _ h => h), fun _ _ _ _ _ _ _ => ⟨trivial, trivial⟩⟩
        · refine op_run (.fieldAddr 38 (.tmp 59) 5) (some 60) (by unfold opIs; kernel_rfl) (.pointer (some ⟨Z, 5, none⟩)) (w' := w') (fun o ho => by unfold execOp; rw [ho]; simp only [show a'.eval (.tmp 59) = (.pointer (some ⟨Z, 0, none⟩)) from hrd 2 59 (by kernel_rfl) (by kernel_rfl)]; go_simp) ?_
          exact ⟨_, congrArg (fun d => a'.put d (.pointer (some ⟨Z, 5, none⟩))) (by kernel_rfl), (by simpa using hC), rfl, (fun j u _ h => h), fun _ _ _ _ _ _ _ => ⟨trivial, trivial⟩⟩
        · refine op_run (.fieldAddr 36 (.tmp 60) 0) (some 61) (by unfold opIs; kernel_rfl) (.pointer (some ⟨Z, 5, none⟩)) (w' := w') (fun o ho => by unfold execOp; rw [ho]; simp only [show a'.eval (.tmp 60) = (.pointer (some ⟨Z, 5, none⟩)) from hrd 3 60 (by kernel_rfl) (by kernel_rfl)]; go_simp) ?_
          exact ⟨_, congrArg (fun d => a'.put d (.pointer (some ⟨Z, 5, none⟩))) (by kernel_rfl), (by simpa using hC), rfl, (fun j u _ h => h), fun _ _ _ _ _ _ _ => ⟨trivial, trivial⟩⟩
        · have o0 := hC.1.box.cell (j := 5) rfl
          refine op_load 33 (.tmp 61) (some 62) (by unfold opIs; kernel_rfl) _ (.slice q m cap) (hrd 4 61 (by kernel_rfl) (by kernel_rfl)) (by go_simp) ?_
          exact ⟨_, congrArg (fun d => a'.put d (.slice q m cap)) (by kernel_rfl), (by simpa using hC), rfl, (fun j u _ h => h), fun _ _ _ _ _ _ _ => ⟨trivial, trivial⟩⟩
        · refine op_run (.move (.tmp 0)) (some 63) (by unfold opIs; kernel_rfl) (.pointer (some ⟨g, 0, none⟩)) (w' := w') (fun o ho => by unfold execOp; rw [ho]; simp only [(hfar 0 (by kernel_rfl)).trans (show _ = (.pointer (some ⟨g, 0, none⟩) : Value) by kernel_rfl)]; go_simp) ?_
          exact ⟨_, congrArg (fun d => a'.put d (.pointer (some ⟨g, 0, none⟩))) (by kernel_rfl), (by simpa using hC), rfl, (fun j u _ h => h), fun _ _ _ _ _ _ _ => ⟨trivial, trivial⟩⟩
        · have h := hC
          rw [hsi] at h
          simp only [Bool.false_eq_true, if_false] at h
          refine op_call (.call { callee := .value (.func 39), args := #[.tmp 63, .const (.int .i64 3), .const (.string ⟨#[]⟩)], argTypes := #[85, 88, 9] }) (some 64) (by unfold opIs; kernel_rfl) 39 #[(.pointer (some ⟨g, 0, none⟩)), .int .i64 3, .string ⟨#[]⟩] (fun o ho => by unfold execOp; rw [ho]; simp only [resolve, List.map_toArray, List.map_cons, List.map_nil, show a'.eval (.tmp 63) = (.pointer (some ⟨g, 0, none⟩)) from hrd 6 63 (by kernel_rfl) (by kernel_rfl)]; go_simp) (KT.out w' h.1.qr) ?_
          rintro e w'' ⟨rfl, h6, hq⟩
          have hbl : w'.heap.size ≤ w''.heap.size := h6.size
          have hne : (Value.slice q m cap).ownBlock ≠ some g := fun e => by have := (HFar.out _ e).1; have := h.1.lt; have := HBW.out; omega
          exact ⟨_, rfl, _, congrArg (fun d => a'.put d _) (by kernel_rfl), (by simpa using ⟨h.1.call h6 hq, fun h10 => (h.2.1 h10).kept h6 (.inr hne), Nat.le_trans h.2.2 hbl⟩), rfl, (fun j u hj h2 => RC.call h6 (by have := h.1.lt; have := HBW.out; have := HNB.out; omega) (by have := h.1.lt; have := HBW.out; omega) j u h2), fun _ _ _ _ _ _ _ => ⟨trivial, trivial⟩⟩
        · refine op_run (.field 90 (.tmp 64) 3) (some 65) (by unfold opIs; kernel_rfl) (.int .i32 t.day) (w' := w') (fun o ho => by unfold execOp; rw [ho]; simp only [show a'.eval (.tmp 64) = (.agg #[.int .i64 (t.kind : Int), .string ⟨t.text.toArray⟩, .int .i64 t.num, .int .i32 t.day, .int .i64 (t.at_ : Int)]) from hrd 7 64 (by kernel_rfl) (by kernel_rfl)]; go_simp) ?_
          exact ⟨_, congrArg (fun d => a'.put d (.int .i32 t.day)) (by kernel_rfl), (by simpa using hC), rfl, (fun j u _ h => h), fun _ _ _ _ _ _ _ => ⟨trivial, trivial⟩⟩
        · refine op_run (.buildSlice 33 1 #[(0, .tmp 65)]) (some 66) (by unfold opIs; kernel_rfl) (.slice (some ⟨w'.heap.size, 0, none⟩) 1 1) (w' := w'.alloc (.cells #[(.int .i32 t.day)] 34)) (fun o ho => by unfold execOp; rw [ho]; simp only [List.map_toArray, List.map_cons, List.map_nil, show a'.eval (.tmp 65) = (.int .i32 t.day) from hrd 8 65 (by kernel_rfl) (by kernel_rfl)]; go_simp) ?_
          have hb := (Below.refl w'.heap.size w').alloc (Nat.le_refl _) (.cells #[(.int .i32 t.day)] 34)
          exact ⟨_, congrArg (fun d => a'.put d (.slice (some ⟨w'.heap.size, 0, none⟩) 1 1)) (by kernel_rfl), (by simpa using ⟨hC.1.row (grown_below' hb none) (fun Y e => by cases e), fun h7 => owns_below (hC.2.1 h7) hb, Nat.le_succ_of_le hC.2.2⟩), ⟨_, rfl, HBox.new w' [(.int .i32 t.day)] _, hC.2.2⟩, (fun j u _ h => RC.below hb j u h), fun _ _ _ _ _ _ _ => ⟨trivial, trivial⟩⟩
        · obtain ⟨y, q6, hB6, hy⟩ := hrd 9 66 (by kernel_rfl) (by kernel_rfl)
          have hOw := hC.2.1 hsi
          refine op_append (.tmp 62) (.tmp 66) 33 (some 67) (by unfold opIs; kernel_rfl) w.heap.size 34 i0 _ 1 4 Tryz.underlying33 hi hz0 hz1 hz2 rfl (by decide) (.slice q m cap) m _ (hrd 5 62 (by kernel_rfl) (by kernel_rfl)) hOw ⟨y, 0, none⟩ 1 1 [.int .i32 t.day] q6 rfl (hbox_cellsQ hB6) (fun v hv => by simp at hv; subst hv; rfl) (by unfold maxLen; omega) (by omega) hC.1.kept.size (fun v12 w12 ho hg => ?_)
          obtain ⟨q2, cap2, rfl⟩ := owns_form ho
          have hlt := HFar.out
          exact ⟨_, congrArg (fun d => a'.put d _) (by kernel_rfl), (by
            refine ⟨?_, (fun h => by simp at h), Nat.le_trans hC.2.2 hg.size⟩
            have h := hC.1.row hg (fun Y e => ⟨(hlt Y e).1, Nat.le_trans HBW.out (hlt Y e).1, fun e2 => by have := (hlt Y e).1; have := HZ.out; omega⟩)
            simpa using h), ⟨q2, cap2, rfl, ho⟩, (fun j u hj h => RC.row hg (fun k e => (hlt k e).2) j u (fun e => by subst e; rw [hsi] at hj; cases hj) h), fun _ _ _ _ _ _ _ => ⟨trivial, trivial⟩⟩
      · intro st bv W9 hall hC hR _
        obtain ⟨q2, cap2, q7, hO7⟩ := hR 10 (by omega)
        have q0 : bv 0 = (.pointer (some ⟨Z, 0, none⟩)) := hR 0 (by omega)
        rw [hall 7 (by omega)] at hC
        simp only [if_true] at hC
        have HWA := Lib.hid hC.1
        have HOA := Lib.hid hO7
        simp only [List.take_succ_cons, List.take_zero, List.drop_succ_cons, List.drop_zero, putL, if_true, Nat.reduceAdd, Act.put, List.getElem_toArray, List.getElem_cons_zero, List.getElem_cons_succ, List.setIfInBounds_toArray, List.set_cons_zero, List.set_cons_succ]
        rw [q0, q7]
        have d5 := HWA.out.box.cell (j := 5) rfl
        have e5 := HWA.out.box.frozen 5
        have e9 := HWA.out.box.size
        clear hR q0 q7 hall hC hO7
        go_wp2_with fail
        have HWC : Hid (QW B Z g w (W9.setCell ⟨Z, 5, none⟩ (.slice q2 (m + 1) cap2)) (.ok r) [.int .i64 7, .int .u32 0, .int .u32 0, .string ⟨#[]⟩, .slice none 0 0, .slice q2 (m + 1) cap2, .int .i32 0, .int .i64 at_]) := Lib.hid (HWA.out.set 5 _)
        have HOC := Lib.hid (HOA.out.kept (grown_set W9 Z 5 (.slice q2 (m + 1) cap2)) (.inr (owns_far HOA.out (.inl HZ.out))))
        generalize W9.setCell ⟨Z, 5, none⟩ (.slice q2 (m + 1) cap2) = WC at *
        clear d5 e5 e9 HWA HOA
        go_roundw
        case rel => exact ⟨m + 1, q2, cap2, ds ++ [t.day], r, Lib.hid (by simp [HM.out]), Lib.hid (by rw [flat_snoc]; exact HOC.out), HT2, HD2, HL2, HWC⟩
        case measure => rw [HWC.out.qr.left, HWR.out.qr.left]; simp
    | false =>
      rw [hk] at KI
      have KI := Lib.hid KI
      have hd : isD t = false := hk
      have hT : D0 = ds := by rw [HT.out, List.takeWhile_cons_of_neg (by simp [hd])]; simp
      have hD : L0 = t :: r := by rw [HD.out, List.dropWhile_cons_of_neg (by simp [hd])]
      subst hT
      subst hD
      obtain rfl := HM.out
      clear hkd hk hd HT HD HL HM
      go_upto_region 13 with (first
        | (go_at_call 39; refine (KT2.out _ HWR.out.qr).mono ?_; rintro e W8 ⟨rfl, h6, hq⟩; have HW8 := Lib.hid (HWR.out.call h6 hq); have HO8 := Lib.hid (HOR.out.kept h6 (.inr (owns_far HOR.out (.inl (by have := HWR.out.lt; have := HBW.out; omega))))); clear h6 hq)
        | (go_at_call 38; refine KI.out.mono ?_; rintro e wD ⟨rfl, hD⟩; obtain rfl : wr = wD := hD.symm))
      clear HWR HOR
      go_wp2_with (go_at_call 39; refine (KT3.out _ HW8.out.qr).mono ?_; rintro e w9 ⟨rfl, h6, hq⟩; have HW9 := Lib.hid (HW8.out.call h6 hq); have HO9 := Lib.hid (HO8.out.kept h6 (.inr (owns_far HO8.out (.inl (by have := HW8.out.lt; have := HBW.out; omega))))); have d6 := HW9.out.box.cell (j := 6) rfl; have e6 := HW9.out.box.frozen 6; have e9 := HW9.out.box.size; clear h6 hq)
      have HWA : Hid (QW B Z g w (w9.setCell ⟨Z, 6, none⟩ (.int .i32 t3.day)) s3 [.int .i64 7, .int .u32 0, .int .u32 0, .string ⟨#[]⟩, .slice none 0 0, .slice q D0.length cap, .int .i32 t3.day, .int .i64 at_]) := Lib.hid (HW9.out.set 6 _)
      have HOA := Lib.hid (HO9.out.kept (grown_set w9 Z 6 (.int .i32 t3.day)) (.inr (owns_far HO9.out (.inl HZ.out))))
      generalize w9.setCell ⟨Z, 6, none⟩ (.int .i32 t3.day) = WA at *
      clear d6 e6 e9 HW9 HO9
      go_end0
      refine ⟨rfl, HWA.out.kept, ?_, 7, 0, 0, [], none, 0, 0, q, D0.length, cap, t3.day, HWA.out.box, fun o r ho => ?_⟩
      · rw [HS.out]; exact HWA.out.qr
      · have := HO.out o r ho
        subst this
        exact ⟨rfl, rfl, rfl, rfl, rfl, rfl, rfl, ownP_nil _ _, HOA.out, ⟨Nat.zero_le _, hm6⟩⟩
end Go.Proofs.YtffhnedladiaoaaGreatDoor

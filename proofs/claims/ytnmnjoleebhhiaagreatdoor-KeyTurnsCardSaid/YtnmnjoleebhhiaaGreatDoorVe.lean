/- Rows of records in memory; what a sorted row is; the sort's contract at keys and at pairs of keys. -/
import Derived.Test.YtnmnjoleebhhiaaGreatDoorVd
import Derived.Test.YtnmnjoleebhhiaaGreatDoorShelf
namespace Go.Proofs.YtnmnjoleebhhiaaGreatDoor
open Go.RowKit Go.Sort
set_option linter.unusedVariables false
set_option linter.unusedSimpArgs false
section
variable {α : Type}
/-- A slice of records of k cells each, in memory that is there. -/
def Recs (enc : α → List Value) (k : Nat) (w : World) (v : Value) (xs : List α) : Prop :=
  (∃ r cap, v = .slice r 0 cap ∧ xs = []) ∨ ∃ g off cap, v = .slice (some ⟨g, off, none⟩) xs.length cap ∧ g < w.heap.size ∧ xs.length ≤ 9223372036854775807 ∧ xs.length ≤ cap ∧
    ∀ i x, xs[i]? = some x → ∀ j u, (enc x)[j]? = some u → w.cell? ⟨g, off + i * k + j, none⟩ = some u
theorem Recs.stay {enc : α → List Value} {k : Nat} {w w' : World} {v : Value} {xs : List α} (h : Recs enc k w v xs) (hb : Below w.heap.size w w') : Recs enc k w' v xs := by
  rcases h with h | ⟨g, off, cap, h1, h2, h3, h4, h5⟩
  · exact .inl h
  · exact .inr ⟨g, off, cap, h1, Nat.lt_of_lt_of_le h2 hb.size, h3, h4, fun i x hx j u hu => by rw [hb.cell (p := ⟨g, off + i * k + j, none⟩) h2]; exact h5 i x hx j u hu⟩
/-- The cells of a row of records of one length. -/
theorem flat_get {enc : α → List Value} {k : Nat} (hk : ∀ x, (enc x).length = k) : ∀ {xs : List α} {i j : Nat} {x : α} {u : Value}, xs[i]? = some x → (enc x)[j]? = some u → (xs.flatMap enc)[i * k + j]? = some u
  | [], i, j, x, u, h, _ => by simp at h
  | y :: r, 0, j, x, u, h, hu => by
    simp only [List.getElem?_cons_zero, Option.some.injEq] at h
    subst h
    have hj : j < (enc y).length := (List.getElem?_eq_some_iff.1 hu).1
    rw [List.flatMap_cons, Nat.zero_mul, Nat.zero_add, List.getElem?_append_left hj]
    exact hu
  | y :: r, i + 1, j, x, u, h, hu => by
    simp only [List.getElem?_cons_succ] at h
    rw [List.flatMap_cons, List.getElem?_append_right (by rw [hk, Nat.add_mul]; omega), hk, show (i + 1) * k + j - k = i * k + j by rw [Nat.add_mul]; omega]
    exact flat_get hk h hu
theorem flat_len {enc : α → List Value} {k : Nat} (hk : ∀ x, (enc x).length = k) : ∀ xs : List α, (xs.flatMap enc).length = xs.length * k
  | [] => by simp
  | y :: r => by rw [List.flatMap_cons, List.length_append, hk, flat_len hk r, List.length_cons, Nat.add_mul]; omega
theorem swo_num {f : α → Nat} {cf : α → α → Int} (hc : ∀ x y, decide (cf x y < 0) = decide (f x < f y)) : SWO (ltOf cf) where
  irrefl x := by unfold ltOf; rw [hc]; simp
  trans x y z h1 h2 := by unfold ltOf at *; rw [hc] at *; simp at *; omega
  ntrans x y z h1 h2 := by unfold ltOf at *; rw [hc] at *; simp at *; omega
variable [Inhabited α]
/-- A row of its own holds its records, as the sort asks it. -/
theorem holds_of_owns {enc : α → List Value} {k : Nat} (hk : ∀ x, (enc x).length = k) {w : World} {base g n cap : Nat} {e : TypeId} {xs : List α} (h : w.ownsRow base e k (.slice (some ⟨g, 0, none⟩) n cap) n (xs.flatMap enc)) :
    HoldsK enc k w g 0 xs.toArray ∧ g < w.heap.size := by
  have hc := h.cells (g := g) rfl
  rcases h.2 with ⟨h0, _⟩ | ⟨g', cap', cur, h1, hb, hg, _⟩
  · cases h0
  · cases h1
    refine ⟨fun t ht => ?_, (Array.getElem?_eq_some_iff.1 hg).1⟩
    rw [size_flatK] at ht
    have hk0 : 0 < k := by rcases Nat.eq_zero_or_pos k with e | e; · subst e; simp at ht
                           · exact e
    have hi : t / k < xs.length := (Nat.div_lt_iff_lt_mul hk0).2 (by simpa using ht)
    have hm : t % k < k := Nat.mod_lt _ hk0
    refine ⟨?_, frozen_of_row _ _ _ _ _ hg⟩
    rw [get_flatK _ _ _ _ ht, Nat.zero_add]
    have ex : xs[t / k]? = some xs[t / k] := List.getElem?_eq_getElem hi
    have hlen : t % k < (enc xs[t / k]).length := by rw [hk]; exact hm
    have eu : (enc xs[t / k])[t % k]? = some (enc xs[t / k])[t % k] := List.getElem?_eq_getElem hlen
    have hf := flat_get hk ex eu
    rw [show t / k * k + t % k = t by rw [Nat.mul_comm]; exact Nat.div_add_mod t k] at hf
    have := hc t _ hf
    have e0 : (⟨g, 0, none⟩ : Addr).add t = ⟨g, t, none⟩ := by simp [Addr.add]; intro h; exact h.symm
    rw [e0] at this
    rw [this]
    have e1 : (xs.toArray)[t / k]! = xs[t / k] := by simp [hi]
    rw [e1]
    simp [hlen]
theorem recs_of_holds {enc : α → List Value} {k : Nat} (hk : ∀ x, (enc x).length = k) {w : World} {g cap : Nat} {d : Array α} (h : HoldsK enc k w g 0 d) (hg : g < w.heap.size) (hc : d.size ≤ cap) (hm : d.size ≤ 9223372036854775807) :
    Recs enc k w (.slice (some ⟨g, 0, none⟩) d.size cap) d.toList := by
  refine .inr ⟨g, 0, cap, by simp, hg, by simpa using hm, by simpa using hc, fun i x hx j u hu => ?_⟩
  have hi : i < d.size := by have := (List.getElem?_eq_some_iff.1 hx).1; simpa using this
  have hj : j < k := by have := (List.getElem?_eq_some_iff.1 hu).1; rwa [hk] at this
  have := (h.cell hi hj).1
  rw [this]
  have e1 : d[i]! = x := by
    have : d[i]? = some x := by rw [← Array.getElem?_toList]; exact hx
    simp [getElem!_def, this]
  rw [e1]
  have hlen : j < (enc x).length := by rw [hk]; exact hj
  have : (enc x)[j]! = (enc x)[j] := by simp [hlen]
  rw [this]
  rw [List.getElem?_eq_getElem hlen] at hu
  exact hu
/-- What the sort leaves, where the keys are numbers and no two are alike. -/
theorem sorted_rises {f : α → Nat} (hf : ∀ x y, f x = f y → x = y) {cf : α → α → Int} (hc : ∀ x y, decide (cf x y < 0) = decide (f x < f y)) {d d' : Array α} (hp : PermIn 0 d.size d d') (hs : SortedIn (ltOf cf) 0 d.size d') (hn : d.toList.Nodup) :
    d'.toList.Perm d.toList ∧ Rises f d'.toList := by
  obtain ⟨hsz, _, hp⟩ := hp
  have e1 : d'.extract 0 d.size = d' := by rw [← hsz]; simp
  have e2 : d.extract 0 d.size = d := by simp
  rw [e1, e2] at hp
  refine ⟨hp, List.pairwise_iff_getElem.2 fun i j hi hj hij => ?_⟩
  have hi' : i < d'.size := by simpa using hi
  have hj' : j < d'.size := by simpa using hj
  have := hs i j (Nat.zero_le _) hij (by omega)
  unfold ltOf at this
  rw [hc] at this
  have a1 : d'[i]! = d'.toList[i] := by simp [hi']
  have a2 : d'[j]! = d'.toList[j] := by simp [hj']
  rw [a1, a2] at this
  have hne : d'.toList[i] ≠ d'.toList[j] := fun e => by
    have hn' : d'.toList.Nodup := hp.nodup_iff.2 hn
    have := (List.pairwise_iff_getElem.1 hn') i j hi hj hij
    exact this e
  have h1 := of_decide_eq_false this
  have h2 : f d'.toList[i] ≠ f d'.toList[j] := fun e => hne (hf _ _ e)
  omega
/-- A cell of another block, in every world of the sort's. -/
theorem cell_sort {enc : α → List Value} {k : Nat} {w : World} {g off : Nat} {a : Addr} {v : Value} (hc : w.cell? a = some v) (hne : a.block ≠ g) (m : Nat) (dk : Array α) (os : Array Obj) : (sortWorldK enc k w g off m dk os).cell? a = some v := by
  have hlt := World.block_lt_of_cell? w a hc
  unfold sortWorldK
  rw [cell?_grow _ _ _ (by rw [size_putRowK]; exact hlt), cell?_putRowK_other _ _ _ _ _ _ _ hne]
  exact hc
theorem sort_below {enc : α → List Value} {k : Nat} {w : World} {g off m : Nat} {dk : Array α} {os : Array Obj} {B : Nat} (hB : B ≤ g) (hw : B ≤ w.heap.size) : Below B w (sortWorldK enc k w g off m dk os) := by
  unfold sortWorldK
  refine ⟨rfl, rfl, rfl, ?_, fun j hj => ?_⟩
  · rw [size_grow, size_putRowK]; exact Nat.le_add_right _ _
  · have h1 : (putRowK enc k (Sort.ahead w m) g off dk).heap[j]? = w.heap[j]? := by
      unfold putRowK putRow mapBlock
      simp only [Array.getElem?_modify]
      rw [if_neg (by omega)]
      rfl
    have h2 : j < (putRowK enc k (Sort.ahead w m) g off dk).heap.size := by rw [size_putRowK]; show j < w.heap.size; omega
    rw [← h1]
    simp [grow, Array.getElem?_append, h2]
end
theorem kc_len (x : Kt) : (kc x).length = 3 := rfl
theorem kc_one (x : Kt) : ∀ v ∈ kc x, v.oneCell' = true := fun v hv => by simp [kc] at hv; rcases hv with rfl | rfl | rfl <;> rfl
theorem pc_len (x : Kt × Kt) : (pc x).length = 6 := rfl
theorem pc_one (x : Kt × Kt) : ∀ v ∈ pc x, v.oneCell' = true := fun v hv => by simp [pc] at hv; rcases hv with rfl | rfl | rfl | rfl | rfl | rfl <;> rfl
theorem sort_k (g PX PB cap n pcap : Nat) (d : Array Kt) (w : World) (hX : w.cell? ⟨PX, 0, none⟩ = some (.slice (some ⟨PB, 0, none⟩) 1 pcap)) (hF : w.cell? ⟨PB, 0, none⟩ = some (.func (.func 19) #[] #[]))
    (h1 : PX ≠ g) (h2 : PB ≠ g) (hH : HoldsK kc 3 w g 0 d) (hg : g < w.heap.size) (hn : n = d.size) (hm : n < 4611686018427387904) (hcap : n ≤ cap) (hd : d.toList.Nodup) :
    Calls Tryz.prog 26 #[.slice (some ⟨g, 0, none⟩) n cap, .func (.func 27) #[] #[.pointer (some ⟨PX, 0, none⟩)]] w fun e w' =>
      e = .returned (.tuple #[]) ∧ ∃ ks : List Kt, ks.Perm d.toList ∧ Rises Kt.num ks ∧ Recs kc 3 w' (.slice (some ⟨g, 0, none⟩) n cap) ks ∧ Below g w w' := by
  have eg : ∀ args w, (callFunc 27 args).run Tryz.prog w = .ok (.enter 27 args) w := enters_of Tryz.func27 (by kernel_rfl) rfl
  have hcmp : CmpLays Tryz.prog 27 #[.pointer (some ⟨PX, 0, none⟩)] kc 3 kcmp g 0 d.size w := fun m os dk _ x y =>
    order_k PX PB pcap x y _ (cell_sort hX h1 m dk os) (cell_sort hF h2 m dk os)
  have h := AnyQ.slices_SortFunc Tryz.sortK 3 (fun w => by kernel_rfl) (fun w => by kernel_rfl) kc kc_len kc_one kcmp (swo_num kcmp_lt) 27 #[.pointer (some ⟨PX, 0, none⟩)] g 0 cap d w eg hcmp hH hg (by omega)
  rw [← hn] at h
  refine (show Calls Tryz.prog 26 #[.slice (some ⟨g, 0, none⟩) n cap, .func (.func 27) #[] #[.pointer (some ⟨PX, 0, none⟩)]] w _ from h).mono ?_
  rintro e w' ⟨rfl, d', m, os, hp, hs, rfl⟩
  rw [hn] at hp hs
  obtain ⟨hp', hr⟩ := sorted_rises (fun _ _ => Kt.num_inj) kcmp_lt hp hs hd
  have hsz : d'.size = d.size := hp.1
  have hH' := holdsK_sortWorldK_c kc 3 w g 0 d d' m os hH hg hsz
  have hb : Below g w (sortWorldK kc 3 w g 0 m d' os) := sort_below (Nat.le_refl _) (Nat.le_of_lt hg)
  refine ⟨rfl, d'.toList, hp', hr, ?_, hb⟩
  have := recs_of_holds kc_len hH' (Nat.lt_of_lt_of_le hg hb.size) (cap := cap) (by omega) (by omega)
  rw [hsz, ← hn] at this
  exact this
end Go.Proofs.YtnmnjoleebhhiaaGreatDoor

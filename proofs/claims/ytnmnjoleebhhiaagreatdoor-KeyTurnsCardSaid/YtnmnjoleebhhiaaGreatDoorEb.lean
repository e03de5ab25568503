/- Plain words for law KeyTurns: four maps side by side; sums and links in whatever order; a row of records that a call owns. -/
import Derived.Test.YtnmnjoleebhhiaaGreatDoorEa
import Derived.Carry
namespace Go.Proofs.YtnmnjoleebhhiaaGreatDoor
open Go.RowKit Go.Sort
set_option linter.unusedVariables false
set_option linter.unusedSimpArgs false
/-- The key of account 1. -/
def oneK : Kt := ⟨1, 0, 0, by omega, by omega, by omega⟩
def lm (x : Mt) : (Kt × Kt) × Int := ((x.k.small, oneK), 1)
theorem take_map {α β : Type} (f : α → β) (zs : List α) (k : Nat) {x : α} (h : zs[k]? = some x) : (zs.take (k + 1)).map f = (zs.take k).map f ++ [f x] := by
  obtain ⟨hk, e⟩ := List.getElem?_eq_some_iff.1 h
  rw [List.take_succ_eq_append_getElem hk, List.map_append, e]; rfl
theorem sum_ones {κ : Type} : ∀ (l : List (κ × Int)), (∀ p ∈ l, p.2 = 1) → (l.map Prod.snd).sum = l.length
  | [], _ => rfl
  | p :: r, h => by
    have h1 := h p (List.mem_cons_self ..)
    have h2 := sum_ones r fun q hq => h q (List.mem_cons_of_mem _ hq)
    simp only [List.map_cons, List.sum_cons, List.length_cons, h1, h2]; omega
theorem ones_bd {κ : Type} [DecidableEq κ] (l : List (κ × Int)) (h : ∀ p ∈ l, p.2 = 1) (y : κ) : 0 ≤ (sumK l y).getD 0 ∧ (sumK l y).getD 0 ≤ l.length := by
  rw [sumK_eq]
  by_cases h1 : l.any (fun p => decide (p.1 = y)) = true
  · rw [if_pos h1, Option.getD_some, sum_ones _ (fun p hp => h p (List.mem_filter.1 hp).1)]
    have := List.length_filter_le (fun p => decide (p.1 = y)) l
    omega
  · rw [if_neg h1]; simp
theorem lm_bd (zs : List Mt) (y : Kt × Kt) : 0 ≤ (sumK (zs.map lm) y).getD 0 ∧ (sumK (zs.map lm) y).getD 0 ≤ zs.length := by
  have := ones_bd (zs.map lm) (fun p hp => by obtain ⟨x, _, e⟩ := List.mem_map.1 hp; rw [← e]; rfl) y
  rwa [List.length_map] at this
theorem turn_perm {α : Type} (zs : List α) (i : Nat) : (zs.drop i ++ zs.take i).Perm zs := by
  have := List.perm_append_comm (l₁ := zs.drop i) (l₂ := zs.take i)
  rwa [List.take_append_drop] at this
/-- The pairs are just the keys, each with the key of account 1. -/
theorem pairs_keys {zs : List Mt} {ks : List Kt} {ps : List (Kt × Kt)} (hk : Rises Kt.num ks) (hp : Rises pnum ps) (h1 : ∀ y, y ∈ ks ↔ (sumK (zs.map mp) y).isSome = true) (h2 : ∀ y, y ∈ ps ↔ (sumK (zs.map lm) y).isSome = true) : ps = ks.map (fun y => (y, oneK)) := by
  have e : ps = ks.map (fun y => (y, oneK)) := by
    refine Rises.ext (fun _ _ => pnum_inj) hp ?_ fun y => ?_
    · unfold Rises at hk ⊢
      rw [List.pairwise_map]
      refine hk.imp fun {a b} h => ?_
      exact pnum_lt.2 (.inl h)
    · rw [h2, sumK_some, List.mem_map, List.mem_map]
      constructor
      · rintro ⟨p, hp', e⟩
        obtain ⟨x, hx, rfl⟩ := List.mem_map.1 hp'
        exact ⟨x.k.small, (h1 _).2 (sumK_some.2 (List.mem_map.2 ⟨mp x, List.mem_map.2 ⟨x, hx, rfl⟩, rfl⟩)), e⟩
      · rintro ⟨a, ha, e⟩
        have := sumK_some.1 ((h1 _).1 ha)
        obtain ⟨p, hp', ea⟩ := List.mem_map.1 this
        obtain ⟨x, hx, rfl⟩ := List.mem_map.1 hp'
        refine ⟨lm x, List.mem_map.2 ⟨x, hx, rfl⟩, ?_⟩
        rw [← e, ← ea]; rfl
  exact e
/-- Keys that rise and are a map's: one row. -/
theorem keys_one {κ : Type} [DecidableEq κ] {f : κ → Nat} (hf : ∀ x y, f x = f y → x = y) {G : κ → Option Int} {L L' : List (κ × Int)} {ks ks' : List κ} (h : ∀ y, getK L y = G y) (h' : ∀ y, getK L' y = G y) (hp : ks.Perm (L.map Prod.fst)) (hp' : ks'.Perm (L'.map Prod.fst)) (hr : Rises f ks) (hr' : Rises f ks') : ks' = ks :=
  Rises.ext hf hr' hr fun y => by rw [hp'.mem_iff, hp.mem_iff, mem_keys, mem_keys, h, h']
theorem keys_mem {κ : Type} [DecidableEq κ] {G : κ → Option Int} {L : List (κ × Int)} {ks : List κ} (h : ∀ y, getK L y = G y) (hp : ks.Perm (L.map Prod.fst)) (y : κ) : y ∈ ks ↔ (G y).isSome = true := by rw [hp.mem_iff, mem_keys, h]
/-- Four maps in four blocks, one after another. -/
structure M4 (A : Nat) (La Lb : List (Kt × Int)) (Lc Ld : List ((Kt × Kt) × Int)) (w : World) : Prop where
  a : MapOf kv wv A La w
  b : MapOf kv wv (A + 1) Lb w
  c : MapOf pv (Value.int .i64) (A + 2) Lc w
  d : MapOf pv (Value.int .i64) (A + 3) Ld w
theorem M4.made (w : World) : M4 w.heap.size [] [] [] [] ((((w.alloc (.map #[] 0)).alloc (.map #[] 0)).alloc (.map #[] 0)).alloc (.map #[] 0)) := by
  have s1 : (w.alloc (.map #[] 0)).heap.size = w.heap.size + 1 := by simp
  have s2 : ((w.alloc (.map #[] 0)).alloc (.map #[] 0)).heap.size = w.heap.size + 2 := by simp
  have s3 : (((w.alloc (.map #[] 0)).alloc (.map #[] 0)).alloc (.map #[] 0)).heap.size = w.heap.size + 3 := by simp
  have st : ∀ (w : World) (o : Obj), Below w.heap.size w (w.alloc o) := fun w o => (Below.refl _ _).alloc (Nat.le_refl _) _
  refine ⟨?_, ?_, ?_, ?_⟩
  · have h := MapOf.made (enc := kv) (ven := wv) w
    exact ((h.below (st _ _) h.lt).below (st _ _) (by rw [s2]; omega)).below (st _ _) (by rw [s3]; omega)
  · have h := MapOf.made (enc := kv) (ven := wv) (w.alloc (.map #[] 0))
    rw [s1] at h
    exact (h.below (st _ _) (by rw [s2]; omega)).below (st _ _) (by rw [s3]; omega)
  · have h := MapOf.made (enc := pv) (ven := Value.int .i64) ((w.alloc (.map #[] 0)).alloc (.map #[] 0))
    rw [s2] at h
    exact h.below (st _ _) (by rw [s3]; omega)
  · have h := MapOf.made (enc := pv) (ven := Value.int .i64) (((w.alloc (.map #[] 0)).alloc (.map #[] 0)).alloc (.map #[] 0))
    rw [s3] at h
    exact h
theorem M4.below {A B : Nat} {La Lb : List (Kt × Int)} {Lc Ld : List ((Kt × Kt) × Int)} {w w' : World} (h : M4 A La Lb Lc Ld w) (hb : Below B w w') (hB : w.heap.size ≤ B) : M4 A La Lb Lc Ld w' :=
  ⟨h.a.below hb (Nat.lt_of_lt_of_le h.a.lt hB), h.b.below hb (Nat.lt_of_lt_of_le h.b.lt hB), h.c.below hb (Nat.lt_of_lt_of_le h.c.lt hB), h.d.below hb (Nat.lt_of_lt_of_le h.d.lt hB)⟩
theorem M4.setA {A : Nat} {La Lb L : List (Kt × Int)} {Lc Ld : List ((Kt × Kt) × Int)} {w w' : World} (h : M4 A La Lb Lc Ld w) (hM : MapOf kv wv A L w') (hg : w.grownBy w' (some A)) : M4 A L Lb Lc Ld w' :=
  ⟨hM, h.b.same (hg.block _ h.b.lt (by simp)), h.c.same (hg.block _ h.c.lt (by simp)), h.d.same (hg.block _ h.d.lt (by simp))⟩
theorem M4.setB {A : Nat} {La Lb L : List (Kt × Int)} {Lc Ld : List ((Kt × Kt) × Int)} {w w' : World} (h : M4 A La Lb Lc Ld w) (hM : MapOf kv wv (A + 1) L w') (hg : w.grownBy w' (some (A + 1))) : M4 A La L Lc Ld w' :=
  ⟨h.a.same (hg.block _ h.a.lt (by simp)), hM, h.c.same (hg.block _ h.c.lt (by simp)), h.d.same (hg.block _ h.d.lt (by simp))⟩
theorem M4.setC {A : Nat} {La Lb : List (Kt × Int)} {Lc Ld L : List ((Kt × Kt) × Int)} {w w' : World} (h : M4 A La Lb Lc Ld w) (hM : MapOf pv (Value.int .i64) (A + 2) L w') (hg : w.grownBy w' (some (A + 2))) : M4 A La Lb L Ld w' :=
  ⟨h.a.same (hg.block _ h.a.lt (by simp)), h.b.same (hg.block _ h.b.lt (by simp)), hM, h.d.same (hg.block _ h.d.lt (by simp))⟩
theorem M4.setD {A : Nat} {La Lb : List (Kt × Int)} {Lc Ld L : List ((Kt × Kt) × Int)} {w w' : World} (h : M4 A La Lb Lc Ld w) (hM : MapOf pv (Value.int .i64) (A + 3) L w') (hg : w.grownBy w' (some (A + 3))) : M4 A La Lb Lc L w' :=
  ⟨h.a.same (hg.block _ h.a.lt (by simp)), h.b.same (hg.block _ h.b.lt (by simp)), h.c.same (hg.block _ h.c.lt (by simp)), hM⟩
theorem grownBy_below {w w' : World} {m B : Nat} (hg : w.grownBy w' (some m)) (hB : B ≤ m) (hw : B ≤ w.heap.size) : Below B w w' := (Below.refl B w).grown hg hw (fun k hk => by cases hk; exact hB)
/-- A row that a call owns, read as records. -/
theorem recs_of_owns {α : Type} {enc : α → List Value} {k : Nat} (hk : ∀ x, (enc x).length = k) {w : World} {base n : Nat} {e : TypeId} {v : Value} {xs : List α} (h : w.ownsRow base e k v n (xs.flatMap enc)) (hn : n = xs.length) (hm : n ≤ 1000) : Recs enc k w v xs := by
  have hcl := h.lt
  rcases h.2 with ⟨rfl, h0⟩ | ⟨g, cap, cur, rfl, hb, hg, hnc, hcm, _⟩
  · have : xs = [] := List.eq_nil_of_length_eq_zero (by omega)
    subst this
    exact .inl ⟨_, _, rfl, rfl⟩
  · have hc := h.cells (g := g) rfl
    refine .inr ⟨g, 0, cap, by rw [hn], (hcl g rfl).2, by omega, by omega, fun i x hx j u hu => ?_⟩
    have := hc _ _ (flat_get hk hx hu)
    rw [Nat.zero_add]
    have e0 : (⟨g, 0, none⟩ : Addr).add (i * k + j) = ⟨g, i * k + j, none⟩ := by simp [Addr.add]; intro h1 h2; omega
    rw [e0] at this
    exact this
theorem Recs.drop {α : Type} {enc : α → List Value} {k : Nat} {w : World} {g off n cap : Nat} {xs : List α} (h : Recs enc k w (.slice (some ⟨g, off, none⟩) n cap) xs) (hg : g < w.heap.size) (hn : n = xs.length) (hc : n ≤ cap) (hm : n ≤ 1000) (i : Nat) (hi : i ≤ n) : Recs enc k w (.slice (some ⟨g, off + i * k, none⟩) (n - i) (cap - i)) (xs.drop i) := by
  refine .inr ⟨g, off + i * k, cap - i, by rw [List.length_drop, hn], hg, by rw [List.length_drop]; omega, by rw [List.length_drop]; omega, fun j x hx l u hu => ?_⟩
  rw [List.getElem?_drop] at hx
  obtain ⟨g', off', e, _, hcc⟩ := h.at hx
  cases e
  have := hcc l u hu
  rw [Nat.add_mul] at this
  rw [show off + i * k + j * k + l = off + (i * k + j * k) + l by omega]
  exact this
theorem Recs.take {α : Type} {enc : α → List Value} {k : Nat} {w : World} {g off n cap : Nat} {xs : List α} (h : Recs enc k w (.slice (some ⟨g, off, none⟩) n cap) xs) (hg : g < w.heap.size) (hn : n = xs.length) (hc : n ≤ cap) (hm : n ≤ 1000) (i : Nat) (hi : i ≤ n) : Recs enc k w (.slice (some ⟨g, off, none⟩) i cap) (xs.take i) := by
  have hl : (xs.take i).length = i := by rw [List.length_take]; omega
  refine .inr ⟨g, off, cap, by rw [hl], hg, by rw [hl]; omega, by rw [hl]; omega, fun j x hx l u hu => ?_⟩
  have hx' : xs[j]? = some x := by
    rw [List.getElem?_take] at hx
    split at hx
    · exact hx
    · cases hx
  obtain ⟨g', off', e, _, hcc⟩ := h.at hx'
  cases e
  exact hcc l u hu
theorem slice_fromM (a : Addr) (n cap i : Nat) (hi : i ≤ n) (hc : i < cap) (w : World) :
    (Instr.slice 22 (.slice (some a) n cap) (some (.int .i64 (i : Int))) none none).run Tryz.prog w = .ok (.slice (some (a.add (i * 4))) (n - i) (cap - i)) w := by
  have hu : Tryz.prog.underlying 22 = some (.slice (Tryz.prog.elem 22)) := by kernel_rfl
  have hs : (sizeOf (Tryz.prog.elem 22)).run Tryz.prog w = .ok 4 w := by kernel_rfl
  rw [run_slice_l w 22 (some a) n cap hu .i64 (i : Int) (by omega) (by omega), hs]
  simp only [Result.andThen_ok, sliced, Int.toNat_natCast]
  rw [if_neg (by omega)]
  rfl
theorem slice_toM (a : Addr) (n cap i : Nat) (hc : i < cap) (w : World) :
    (Instr.slice 22 (.slice (some a) n cap) none (some (.int .i64 (i : Int))) none).run Tryz.prog w = .ok (.slice (some a) i cap) w := by
  have hu : Tryz.prog.underlying 22 = some (.slice (Tryz.prog.elem 22)) := by kernel_rfl
  have hs : (sizeOf (Tryz.prog.elem 22)).run Tryz.prog w = .ok 4 w := by kernel_rfl
  rw [run_slice_h w 22 (some a) n cap hu .i64 (i : Int) (by omega) (by omega), hs]
  simp only [Result.andThen_ok, sliced, Int.toNat_natCast]
  rw [if_neg (by omega)]
  simp [Addr.add]
theorem turn_mod5 (k : Int) (n : Nat) (hk : (Lit.int .u8 k).wf = true) (hn : 0 < n) : (wrap64 k).tmod (n : Int) = ((k.toNat % n : Nat) : Int) := by
  have hb : 0 ≤ k ∧ k < 256 := by
    simp [Lit.wf, IntKind.min, IntKind.max, IntKind.signed, IntKind.bits] at hk; omega
  have e : wrap64 k = k := by rw [w64w]; omega
  rw [e, Int.tmod_eq_emod_of_nonneg hb.1]
  obtain ⟨m, rfl⟩ := Int.eq_ofNat_of_zero_le hb.1
  simp
end Go.Proofs.YtnmnjoleebhhiaaGreatDoor

/- Bytes in memory (codec, law 11): rows of one's own, boxes. -/
import Derived.Test.YtafmakhhdinknaaGreatDoorChecked
import Derived.Test.YtafmakhhdinknaaGreatDoorCdall
import Derived.WalkKit
import Derived.Lib.Hide
import Derived.Below
import Derived.Outline
import Derived.OwnWalk
import Derived.Laws.OwnMore
import Derived.LoopTactic
import Derived.Lib.ConvBytes
namespace Go.Proofs.YtafmakhhdinknaaGreatDoor
open Go.RowKit
set_option linter.unusedVariables false
set_option linter.unusedSimpArgs false
/-- A byte in memory. -/
def byc (n : Nat) : List Value := [.int .u8 (n : Int)]
theorem byc_len (n : Nat) : (byc n).length = 1 := rfl
theorem byc_one (n : Nat) : ∀ v ∈ byc n, v.oneCell' = true := fun v hv => by simp [byc] at hv; subst hv; rfl
theorem info8 : (Tryz.prog.info? 5).map (fun i => (i.zero, i.size, i.bytes)) = some (some (.int .u8 0), 1, 1) := by kernel_rfl
theorem info_of8 : ∃ i, Tryz.prog.info? 5 = some i ∧ i.zero = some (.int .u8 0) ∧ i.size = 1 ∧ i.bytes = 1 := by
  have h := info8
  cases e : Tryz.prog.info? 5 with
  | none => rw [e] at h; cases h
  | some i =>
    rw [e] at h
    simp only [Option.map_some, Option.some.injEq, Prod.mk.injEq] at h
    exact ⟨i, rfl, h.1, h.2.1, h.2.2⟩
theorem own_below {w w' : World} {base : Nat} {e : TypeId} {size : Nat} {v : Value} {n : Nat} {xs : List Value} (h : w.ownsRow base e size v n xs) (hb : Below w.heap.size w w') : w'.ownsRow base e size v n xs :=
  h.kept (row := none) ⟨hb.os, hb.tape, hb.output, hb.size, fun k hk _ => hb.block k hk⟩ (by cases v.ownBlock <;> simp)
theorem own_some {w : World} {base : Nat} {e : TypeId} {size : Nat} {v : Value} {n : Nat} {xs : List Value} (h : w.ownsRow base e size v n xs) (hn : 0 < n) : ∃ g cap, v = .slice (some ⟨g, 0, none⟩) n cap := by
  rcases h.2 with ⟨_, h0⟩ | ⟨g, cap, cur, h', _⟩
  · omega
  · exact ⟨g, cap, h'⟩
theorem own_form {w : World} {base : Nat} {e : TypeId} {size : Nat} {v : Value} {n : Nat} {xs : List Value} (h : w.ownsRow base e size v n xs) : ∃ r c, v = .slice r n c := by
  rcases h.2 with ⟨h1, h2⟩ | ⟨g, cap, cur, h1, _⟩
  · subst h2; exact ⟨_, _, h1⟩
  · exact ⟨_, _, h1⟩
theorem own_type {w : World} {base : Nat} {e T : TypeId} {size g : Nat} {v : Value} {n : Nat} {xs : List Value} {cs : Array Value} {p : Nat × Nat} (h : w.ownsRow base e size v n xs) (hg : w.heap[g]? = some (.cells cs T p)) (hne : e ≠ T) : v.ownBlock ≠ some g := by
  intro hv
  rcases h.2 with ⟨h1, h2⟩ | ⟨g', cap, cur, h1, _, h3, _⟩
  · rw [h1] at hv; simp [Value.ownBlock] at hv
  · rw [h1] at hv
    simp only [Value.ownBlock, Option.some.injEq] at hv
    subst hv
    rw [h3] at hg
    injection hg with hg
    injection hg with a b
    exact hne b
theorem setBox {w : World} {g : Nat} {v : Value} {T : TypeId} (h : w.heap[g]? = some (.cells #[v] T (0, 0))) (u : Value) : (w.setCell ⟨g, 0, none⟩ u).heap[g]? = some (.cells #[u] T (0, 0)) := by
  simp only [World.setCell, Array.getElem?_modify, h, if_true]
  simp
theorem ownsRow_le8 {w : World} {base base' size n : Nat} {e : TypeId} {v : Value} {xs : List Value} (h : w.ownsRow base e size v n xs) (hb : base' ≤ base) : w.ownsRow base' e size v n xs :=
  ⟨h.1, h.2.elim Or.inl (fun ⟨g, cap, cur, hv, hg, r⟩ => Or.inr ⟨g, cap, cur, hv, Nat.le_trans hb hg, r⟩)⟩
/-- A struct in memory. -/
def QBox (w : World) (b : Nat) (cs : List Value) (T : TypeId) : Prop := w.heap[b]? = some (.cells cs.toArray T (0, 0))
theorem QBox.size {w : World} {b : Nat} {cs : List Value} {T : TypeId} (h : QBox w b cs T) : b < w.heap.size := (Array.getElem?_eq_some_iff.1 h).1
theorem QBox.cell {w : World} {b : Nat} {cs : List Value} {T : TypeId} (h : QBox w b cs T) {j : Nat} {v : Value} (e : cs[j]? = some v) : w.cell? ⟨b, j, none⟩ = some v := by
  have h' : w.heap[b]? = some (.cells cs.toArray T (0, 0)) := h
  simp [World.cell?, h', e]
theorem QBox.new (w : World) (cs : List Value) (T : TypeId) : QBox (w.alloc (.cells cs.toArray T)) w.heap.size cs T := heap_alloc_new w _
theorem QBox.stay {w w' : World} {b : Nat} {cs : List Value} {T : TypeId} (h : QBox w b cs T) (hb : Below w.heap.size w w') : QBox w' b cs T := (hb.block b h.size).trans h
theorem flat_byc : ∀ l : List Nat, l.flatMap byc = l.map (fun (n : Nat) => Value.int .u8 (n : Int))
  | [] => rfl
  | x :: r => by rw [List.flatMap_cons, flat_byc r]; rfl
/-- A string's bytes, where they were laid anew. -/
theorem bytes_new (w : World) (s : ByteArray) : Below w.heap.size w (Lib.bytesWorld w 5 s) ∧ ∀ j u, ((nameL s).flatMap byc)[j]? = some u → (Lib.bytesWorld w 5 s).cell? ((⟨w.heap.size, 0, none⟩ : Addr).add j) = some u := by
  refine ⟨⟨rfl, rfl, rfl, by rw [Lib.bytesWorld_size]; omega, fun k hk => Lib.bytesWorld_at_old w _ s k hk⟩, fun j u hu => ?_⟩
  have hadd : (⟨w.heap.size, 0, none⟩ : Addr).add j = ⟨w.heap.size, j, none⟩ := by unfold Addr.add; split <;> simp_all
  rw [flat_byc, List.getElem?_map] at hu
  unfold nameL at hu
  rw [List.getElem?_map] at hu
  cases e : s.data.toList[j]? with
  | none => rw [e] at hu; cases hu
  | some b =>
    rw [e] at hu
    simp only [Option.map_some, Option.some.injEq] at hu
    subst hu
    have hj : j < s.size := by
      have := (List.getElem?_eq_some_iff.1 e).1
      simpa using this
    rw [hadd, Lib.bytesWorld_cell w _ s j hj]
    simp [List.getD, e]
theorem set_grown (w : World) (a : Addr) (u : Value) : w.grownBy (w.setCell a u) (some a.block) :=
  ⟨rfl, rfl, rfl, by simp, fun k _ hk => heap_setCell_other w a k u (fun e => hk (by simp [e]))⟩
theorem set_grown2 (w : World) (g i j : Nat) (u v : Value) : w.grownBy ((w.setCell ⟨g, i, none⟩ u).setCell ⟨g, j, none⟩ v) (some g) :=
  ⟨rfl, rfl, rfl, by simp, fun k _ hk => by rw [heap_setCell_other _ ⟨g, j, none⟩ k v (fun e => hk (by simp [e])), heap_setCell_other w ⟨g, i, none⟩ k u (fun e => hk (by simp [e]))]⟩
theorem byc_drop {w : World} {g off n cap : Nat} {l : List Nat} (h : Recs byc 1 w (.slice (some ⟨g, off, none⟩) n cap) l) (hl : l.length = n) (i : Nat) (hi : i ≤ n) : Recs byc 1 w (.slice (if cap = i then some ⟨g, off, none⟩ else some ⟨g, off + i, none⟩) (n - i) (cap - i)) (l.drop i) := by
  rcases Nat.lt_or_ge i n with h1 | h1
  · rcases h with ⟨r', cap', e1, e2⟩ | ⟨g', off', cap', e1, h2, h3, h4, h5⟩
    · rw [e2] at hl; simp at hl; omega
    · cases e1
      rw [if_neg (by omega)]
      refine .inr ⟨g, off + i, cap - i, by rw [List.length_drop], h2, by rw [List.length_drop]; omega, by rw [List.length_drop]; omega, fun j x hx m u hu => ?_⟩
      rw [List.getElem?_drop] at hx
      have := h5 (i + j) x hx m u hu
      rw [show off + i + j * 1 + m = off + (i + j) * 1 + m by omega]
      exact this
  · exact .inl ⟨_, _, by rw [show n - i = 0 by omega], List.drop_eq_nil_of_le (by omega)⟩
theorem numP_step {k n : Nat} {l : List Nat} {c : Nat} (h : l[k]? = some c) : numP k n (l.drop k) = if (0 < k ∧ c = 0) ∨ (k = 9 ∧ 1 < c) then (1, 0, []) else if c < 128 then (0, n + c % 128 * 128 ^ k, l.drop (k + 1)) else numP (k + 1) (n + c % 128 * 128 ^ k) (l.drop (k + 1)) := by
  obtain ⟨hk, e⟩ := List.getElem?_eq_some_iff.1 h
  rw [List.drop_eq_getElem_cons hk, e]
  rfl
theorem rnum_bad {most : Nat} {l : List Nat} {c : Int} {n : Nat} {t : List Nat} (h : numP 0 0 l = (c, n, t)) (hc : c ≠ 0) : rnum most ⟨l, 0⟩ = (0, ⟨l, c⟩) := by
  unfold rnum
  simp only [h]
  rw [if_neg (by simp), if_pos hc]
theorem rnum_yes {most : Nat} {l : List Nat} {n : Nat} {t : List Nat} (h : numP 0 0 l = (0, n, t)) : rnum most ⟨l, 0⟩ = if most < n then (0, ⟨t, 5⟩) else (n, ⟨t, 0⟩) := by
  unfold rnum
  simp only [h]
  rw [if_neg (by simp), if_neg (by simp)]
theorem pow7 (k : Nat) : 128 ^ k = 2 ^ (7 * k) := by rw [Nat.pow_mul]
theorem grown_trans {w w' w'' : World} {row : Option Nat} (h : w.grownBy w' row) (k : w'.grownBy w'' row) : w.grownBy w'' row :=
  ⟨k.os.trans h.os, k.tape.trans h.tape, k.output.trans h.output, Nat.le_trans h.size k.size, fun i hi hr => (k.block i (Nat.lt_of_lt_of_le hi h.size) hr).trans (h.block i hi hr)⟩
theorem numP_mem : ∀ (b : List Nat) (i n : Nat), ∀ c ∈ (numP i n b).2.2, c ∈ b
  | [], i, n, c, h => by simp [numP] at h
  | x :: t, i, n, c, h => by
    unfold numP at h
    split at h
    · simp at h
    · split at h
      · exact List.mem_cons_of_mem _ h
      · exact List.mem_cons_of_mem _ (numP_mem t _ _ c h)
theorem rnum_mem (most : Nat) (r : Rd) : ∀ c ∈ (rnum most r).2.b, c ∈ r.b := by
  intro c h
  unfold rnum at h
  split at h
  · exact h
  · split at h
    · exact h
    · split at h
      · exact numP_mem _ _ _ c h
      · exact numP_mem _ _ _ c h
end Go.Proofs.YtafmakhhdinknaaGreatDoor

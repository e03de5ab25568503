/- Law 12's one: a text's first token. -/
import Derived.Test.YtffhnedladiaoaaGreatDoorZLxc
import Derived.Test.YtffhnedladiaoaaGreatDoorZCall
namespace Go.Proofs.YtffhnedladiaoaaGreatDoor
open Go.RowKit Go.Lib
set_option linter.unusedVariables false
set_option linter.unusedSimpArgs false
def tkc (t : Tk) : List Value := [.int .i64 (t.kind : Int), .string ⟨t.text.toArray⟩, .int .i64 t.num, .int .i32 t.day, .int .i64 (t.at_ : Int)]
theorem tkc_len (t : Tk) : (tkc t).length = 5 := rfl
def tokV (t : Tk) : Value := .agg #[.int .i64 (t.kind : Int), .string ⟨t.text.toArray⟩, .int .i64 t.num, .int .i32 t.day, .int .i64 (t.at_ : Int)]
theorem recs_of_ownsT {α : Type} {enc : α → List Value} {k : Nat} (hk : ∀ x, (enc x).length = k) {w : World} {base n : Nat} {e : TypeId} {v : Value} {xs : List α} (h : w.ownsRow base e k v n (xs.flatMap enc)) (hn : n = xs.length) (hm : n ≤ 1000000) : Recs enc k w v xs := by
  have hcl := h.lt
  rcases h.2 with ⟨rfl, h0⟩ | ⟨g, cap, cur, rfl, hb, hg, hnc, hcm, _⟩
  · have : xs = [] := List.eq_nil_of_length_eq_zero (by omega)
    subst this
    exact .inl ⟨_, _, rfl, rfl⟩
  · have hc := h.cells (g := g) rfl
    refine .inr ⟨g, 0, cap, by rw [hn], (hcl g rfl).2, by omega, by omega, fun i x hx j u hu => ?_⟩
    have := hc _ _ (flat_get hk hx hu)
    rw [Nat.zero_add]
    have e0 : (⟨g, 0, none⟩ : Addr).add (i * k + j) = ⟨g, i * k + j, none⟩ := by simp [Addr.add]; intro h1 h2; omega
    rw [e0] at this
    exact this
/-- What a call answers that looks for a text's first token. -/
def OneR (l : List UInt8) (e : Ending) : Prop := match oneF l with
  | .ok p => e = .returned (.tuple #[tokV p.1, .int .i64 (p.2 : Int), .int .i64 0])
  | .error c => e = .returned (.tuple #[tokV ⟨0, [], 0, 0, 0⟩, .int .i64 0, .int .i64 c])
theorem oneR_ok {l : List UInt8} {e : Ending} {t : Tk} {n : Nat} (h : oneF l = .ok (t, n)) (he : e = .returned (.tuple #[tokV t, .int .i64 (n : Int), .int .i64 0])) : OneR l e := by
  unfold OneR; rw [h]; exact he
theorem oneR_err {l : List UInt8} {e : Ending} {c : Int} (h : oneF l = .error c) (he : e = .returned (.tuple #[tokV ⟨0, [], 0, 0, 0⟩, .int .i64 0, .int .i64 c])) : OneR l e := by
  unfold OneR; rw [h]; exact he
theorem ext_eq (s : ByteArray) (i j : Nat) : s.extract i j = ⟨((s.data.toList.drop i).take (j - i)).toArray⟩ := by
  have h := Lib.extract_data s i j
  cases hs : s.extract i j with
  | mk d =>
    rw [hs] at h
    have h2 : d.toList = (s.data.toList.drop i).take (j - i) := h
    rw [← h2]
theorem slice_h (s : ByteArray) (n : Nat) (hn : n ≤ s.size) (W : World) : (Instr.slice 9 (.string s) none (some (.int .i64 (n : Int))) none).run Tryz.prog W = .ok (.string ⟨(s.data.toList.take n).toArray⟩) W := by
  rw [run_slice_string_h W 9 _ Tryz.underlying9 .i64 n (by omega) (by omega)]
  have := ext_eq s 0 n
  rw [Nat.sub_zero, List.drop_zero] at this
  rw [← this]; rfl
theorem slice_l (s : ByteArray) (n : Nat) (hn : n ≤ s.size) (W : World) : (Instr.slice 9 (.string s) (some (.int .i64 (n : Int))) none none).run Tryz.prog W = .ok (.string ⟨(s.data.toList.drop n).toArray⟩) W := by
  rw [run_slice_string_l W 9 _ Tryz.underlying9 .i64 n (by omega) (by omega)]
  have := ext_eq s n s.size
  rw [List.take_of_length_le (by rw [List.length_drop]; simp)] at this
  rw [← this]; rfl
theorem slice_m (s : ByteArray) (i j : Nat) (hi : i ≤ j) (hn : j ≤ s.size) (W : World) : (Instr.slice 9 (.string s) (some (.int .i64 (i : Int))) (some (.int .i64 (j : Int))) none).run Tryz.prog W = .ok (.string ⟨((s.data.toList.drop i).take (j - i)).toArray⟩) W := by
  rw [run_slice_string W 9 _ .i64 .i64 i j Tryz.underlying9 (by omega) (by omega) (by omega)]
  rw [← ext_eq]; rfl
end Go.Proofs.YtffhnedladiaoaaGreatDoor

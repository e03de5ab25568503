/- Contract of the library's Insert of one number among entities. -/
import Derived.Test.YtmbfnbbgphpcgaaGreatDoorNo
import Derived.Test.YtmbfnbbgphpcgaaGreatDoorBc
import Derived.StillTailTactics
import Derived.Maps.AppendAt
import Derived.Lib.Overlaps
import Derived.Lib.AppendZerosOnto
import Derived.Laws.Append
namespace Go.Proofs.YtmbfnbbgphpcgaaGreatDoor
open Go.RowKit
set_option linter.unusedVariables false
set_option linter.unusedSimpArgs false
theorem flatU_take : ∀ (l : List Nat) (i : Nat), (l.take i).flatMap uc = (l.flatMap uc).take i
  | [], i => by simp
  | a :: r, 0 => rfl
  | a :: r, i + 1 => by rw [List.take_succ_cons, List.flatMap_cons, List.flatMap_cons, flatU_take r i]; rfl
theorem flatU_drop : ∀ (l : List Nat) (i : Nat), (l.drop i).flatMap uc = (l.flatMap uc).drop i
  | [], i => by simp
  | a :: r, 0 => rfl
  | a :: r, i + 1 => by rw [List.drop_succ_cons, List.flatMap_cons, flatU_drop r i]; rfl
theorem splice_takeU {L cs : List Value} {o : Nat} (h : o + cs.length ≤ L.length) : (splice L o cs).take (o + cs.length) = L.take o ++ cs := by
  unfold splice
  have h1 : (L.take o).length = o := by rw [List.length_take]; omega
  rw [← List.append_assoc, List.take_append_of_le_length (by rw [List.length_append, h1]; omega)]
  exact List.take_of_length_le (by rw [List.length_append, h1]; omega)
/-- A number laid in, then the rest behind it. -/
theorem splice_new {R D : List Value} {a M : Nat} {v : Value} (ha : a < M) (hD : D.length = M - a) (hR : M + 1 ≤ R.length) : (splice (splice R a [v]) (a + 1) D).take (M + 1) = R.take a ++ v :: D := by
  have h1 := splice_takeU (L := R) (cs := [v]) (o := a) (by simp; omega)
  have h2 := splice_takeU (L := splice R a [v]) (cs := D) (o := a + 1) (by rw [length_splice _ _ _ (by simp; omega)]; omega)
  rw [hD, show a + 1 + (M - a) = M + 1 by omega] at h2
  rw [h2, show (splice R a [v]).take (a + 1) = _ from h1]
  simp
/-- The rest moved on, then a number laid in. -/
theorem splice_old {R D : List Value} {a M : Nat} {v : Value} (ha : a < M) (hD : D.length = M - a) (hR : M + 1 ≤ R.length) : (splice (splice R (a + 1) D) a [v]).take (M + 1) = R.take a ++ v :: D := by
  have h2 := splice_takeU (L := R) (cs := D) (o := a + 1) (by omega)
  rw [hD, show a + 1 + (M - a) = M + 1 by omega] at h2
  have h3 : ((splice R (a + 1) D).take (M + 1)).drop (a + 1) = D := by
    rw [h2, List.drop_append_of_le_length (by rw [List.length_take]; omega), List.drop_of_length_le (by rw [List.length_take]; omega), List.nil_append]
  have h4 : ((splice R (a + 1) D).take (M + 1)).take a = R.take a := by
    rw [h2, List.take_append_of_le_length (by rw [List.length_take]; omega), List.take_take, show min a (a + 1) = a by omega]
  rw [List.take_take, show min a (M + 1) = a by omega] at h4
  generalize splice R (a + 1) D = S at *
  have hS : (S.drop (a + 1)).take (M - a) = D := by
    rw [← h3, List.drop_take, show M + 1 - (a + 1) = M - a by omega]
  have hl : (S.take a).length = a := by rw [h4, List.length_take]; omega
  unfold splice
  rw [List.take_append, hl, List.take_of_length_le (by rw [hl]; omega), show M + 1 - a = (M - a) + 1 by omega, h4]
  show R.take a ++ (v :: S.drop (a + 1)).take (M - a + 1) = _
  rw [List.take_succ_cons, hS]
theorem append_txU {P : Program} (w : World) (t tx ty e e' : TypeId) (s x : Value) (ht : P.underlying t = some (.slice e)) (hk : P.underlying tx = some (.slice e')) :
    (Builtin.append_ #[t, tx] ty #[s, x]).run P w = (Builtin.append_ #[t, t] ty #[s, x]).run P w := by
  cases s <;> simp [Builtin.append_, run_underlying ht, run_underlying hk]
theorem wpList_append_runU {P : Program} {w : World} {ops : Array Oper} {rest : List Oper} {o : Oper} {a : Act} {Q : Exit → Act → World → Prop} (hgd : o.guard = none) (s x : Operand) (t tx : TypeId)
    (ho : o.op = .call { callee := .builtin .append, args := #[s, x], argTypes := #[t, tx] }) (vs vx v' : Value) (w' : World) (hs : a.eval s = vs) (hx : a.eval x = vx)
    (hrun : ∀ ty, (Builtin.append_ #[t, tx] ty #[vs, vx]).run P w = .ok v' w') (h : wpList P ops Q rest (a.put o.dst v') w') : wpList P ops Q (o :: rest) a w := by
  refine wpList_plain hgd fun K hK => ?_
  unfold Oper.wp
  simp [execOp, ho, resolve, invoke, builtin, hs, hx, hrun, Result.andThen]
  exact hK _ _ h
theorem u_append (v : Value) (xs : List Nat) (n V base : Nat) (w : World) (T : TypeId) (ho : w.ownsRow base 54 1 v xs.length (xs.flatMap uc)) (hV : w.heap[V]? = some (.cells #[.int .u16 (n : Int)] T (0, 0))) (hl : xs.length ≤ 1000) (hb : base ≤ w.heap.size) :
    ∃ v' w', (∀ ty, (Builtin.append_ #[53, 52] ty #[v, .slice (some ⟨V, 0, none⟩) 1 1]).run Tryz.prog w = .ok v' w') ∧ w'.ownsRow base 54 1 v' (xs.length + 1) ((xs ++ [n]).flatMap uc) ∧ w.grownBy w' v.ownBlock := by
  obtain ⟨i0, hi, hz0, hz1, hz2⟩ := info_parts info16
  have hu := Tryz.underlying53
  have hk := Tryz.underlying52
  obtain ⟨v', w', h1, h2, h3, _⟩ := run_append_own_at (P := Tryz.prog) w base 53 0 54 i0 _ 1 2 hu hi hz0 hz1 hz2 rfl (by decide) v xs.length (xs.flatMap uc) ho ⟨V, 0, none⟩ 1 1 [.int .u16 (n : Int)] rfl (fun j u hj => by
    have e : (⟨V, 0, none⟩ : Addr).add j = ⟨V, j, none⟩ := by unfold Addr.add; split <;> simp_all
    rw [e, cell_of_row w V j _ _ _ hV]
    simpa using hj) (fun u hu => by simp at hu; subst hu; rfl) (by unfold maxLen; omega) (by omega) hb
  refine ⟨v', w', fun ty => (append_txU w _ _ ty _ _ _ _ hu hk).trans (by exact h1), ?_, h3⟩
  rw [List.flatMap_append]
  exact h2
set_option maxHeartbeats 1000000 in
set_option maxRecDepth 100000 in
/-- At the end. -/
theorem insert_end (v : Value) (o : List Nat) (M n V base : Nat) (w : World) (T : TypeId) (ho : w.ownsRow base 54 1 v M (o.flatMap uc)) (hM : o.length = M) (hl : M ≤ 1000) (hV : w.heap[V]? = some (.cells #[.int .u16 (n : Int)] T (0, 0))) (hb : base ≤ w.heap.size) :
    Calls Tryz.prog 34 #[v, .int .i64 (M : Int), .slice (some ⟨V, 0, none⟩) 1 1] w fun e w' =>
      ∃ v', e = .returned v' ∧ w'.ownsRow base 54 1 v' (M + 1) ((o ++ [n]).flatMap uc) ∧ w.grownBy w' v.ownBlock := by
  obtain ⟨v', w', h1, h2, h3⟩ := u_append v o n V base w T (hM ▸ ho) hV (by omega) hb
  rw [hM] at h2
  obtain ⟨r, cap, rfl⟩ := owns_form ho
  have hu : Tryz.prog.underlying 53 = some (.slice (Tryz.prog.elem 53)) := by kernel_rfl
  have hs : ∀ w, (sizeOf (Tryz.prog.elem 53)).run Tryz.prog w = .ok 1 w := fun w => by kernel_rfl
  obtain ⟨X, hX⟩ : ∃ X, ∀ w, (Instr.slice 53 (.slice r M cap) (some (.int .i64 (M : Int))) none none).run Tryz.prog w = .ok X w := ⟨_, fun w => by
    rw [run_slice_l w 53 r M cap hu .i64 (M : Int) (by omega) (by omega), hs w, Result.andThen_ok]⟩
  have HR := Lib.hid h1
  have H2 := Lib.hid h2
  have H3 := Lib.hid h3
  clear ho hM hV hb h1 h2 h3 hu hs
  generalize (o ++ [n]).flatMap uc = Z at *
  go_enter Tryz.func34, Tryz.ntmps34
  go_wp2_with (at_builtin; refine wpList_append_runU rfl _ _ _ _ rfl _ _ _ _ rfl rfl HR.out ?_)
  go_ret
  exact ⟨_, rfl, H2.out, H3.out⟩
end Go.Proofs.YtmbfnbbgphpcgaaGreatDoor

/- Contracts of the library's Clone at any entities, of package unit's Without. -/
import Derived.Test.YtmbfnbbgphpcgaaGreatDoorNn
import Derived.OwnWalk
namespace Go.Proofs.YtmbfnbbgphpcgaaGreatDoor
open Go.RowKit
set_option linter.unusedVariables false
set_option linter.unusedSimpArgs false
theorem owns_monoU {w : World} {base base' : Nat} {e : TypeId} {v : Value} {n : Nat} {xs : List Value} (h : w.ownsRow base e 1 v n xs) (hb : base' ≤ base) : w.ownsRow base' e 1 v n xs := by
  refine ⟨h.1, ?_⟩
  rcases h.2 with h0 | ⟨g, cap, cur, h1, h2, h3⟩
  · exact .inl h0
  · exact .inr ⟨g, cap, cur, h1, Nat.le_trans hb h2, h3⟩
set_option maxHeartbeats 1000000 in
set_option maxRecDepth 100000 in
theorem clone_ur (xs : List Nat) (v : Value) (w : World) (hR : Recs uc 1 w v xs) (hl : xs.length ≤ 1000) :
    Calls Tryz.prog 45 #[v] w fun e w' => ∃ v', e = .returned v' ∧ w'.ownsRow w.heap.size 54 1 v' xs.length (xs.flatMap uc) ∧ Below w.heap.size w w' := by
  obtain ⟨i0, hi, hz0, hz1, hz2⟩ := info_parts info16
  have q22 : ∀ (w : World) (a : Option Addr) (n c n' c' : Nat), (binOp .eql 53 (.slice a n c) (.slice none n' c')).run Tryz.prog w = .ok (.bool a.isNone) w := fun w a n c n' c' => Lib.run_eql_slice_nil w _ _ a n c n' c' Tryz.underlying53
  obtain ⟨r, cap, rfl, hm⟩ := hR.form
  have hlen := flat_len uc_len xs
  have h1 := flat_one uc_one xs
  cases r with
  | none =>
    have hx : xs = [] := by
      rcases hR with ⟨_, _, _, h⟩ | ⟨g, off, cap, h, _⟩
      · exact h
      · cases h
    subst hx
    clear hR hm hlen h1 hl
    go_enter Tryz.func45, Tryz.ntmps45
    go_wp2
    go_ret
    exact ⟨_, rfl, World.ownsRow_nil _ _ _ _, Below.refl _ _⟩
  | some ad =>
    have HC := Lib.hid (show ∀ j u, (xs.flatMap uc)[j]? = some u → (w.alloc (.cells #[] 54)).cell? (ad.add j) = some u from fun j u hu => by
      have hx : 0 < xs.length := by have := (List.getElem?_eq_some_iff.1 hu).1; omega
      obtain ⟨g, off, e, hg, _⟩ := hR.at (List.getElem?_eq_getElem hx)
      cases e
      have e : (⟨g, off, none⟩ : Addr).add j = ⟨g, off + j, none⟩ := by unfold Addr.add; split <;> simp_all
      rw [e, World.cell?_alloc_lt _ _ _ hg]
      exact recs_flat uc_len (by omega) hR j u hu)
    clear hR
    generalize xs.length = n at *
    generalize xs.flatMap uc = zs at *
    go_enter Tryz.func45, Tryz.ntmps45
    go_wp2_with (at_builtin; refine wpList_append_own _ rfl (.tmp 5) (.tmp 6) 53 rfl w.heap.size 54 i0 (.int .u16 0) 1 2 Tryz.underlying53 hi hz0 hz1 hz2 rfl (by decide) _ 0 [] rfl (World.ownsRow_made w #[] 0 (Nat.le_refl _) (by decide) (by simp)) ad n cap zs rfl hlen HC.out h1 (by unfold maxLen; omega) (by omega) (by simp) ?_; intro v3 w3 hown3 hgrow3 _)
    go_ret
    refine ⟨_, rfl, by simpa using hown3, ((Below.refl _ _).alloc (Nat.le_refl _) _).grown hgrow3 (by simp) (fun k hk => by have e : some w.heap.size = some k := hk; injection e with e; omega)⟩
set_option maxHeartbeats 1000000 in
set_option maxRecDepth 100000 in
theorem without_u (v : Value) (u : List Nat) (n : Nat) (w : World) (hR : Recs uc 1 w v u) (hl : u.length ≤ 1000) :
    Calls Tryz.prog 32 #[v, .int .u16 (n : Int)] w fun e w' => ∃ v', e = .returned v' ∧ w'.ownsRow w.heap.size 54 1 v' (outU u n).length ((outU u n).flatMap uc) ∧ Below w.heap.size w w' := by
  have hb := (Below.refl w.heap.size w).alloc (Nat.le_refl _) (.cells #[.int .u16 (n : Int)] 54)
  have hcell : (w.alloc (.cells #[.int .u16 (n : Int)] 54)).cell? ⟨w.heap.size, 0, none⟩ = some (.int .u16 (n : Int)) := box_cell w _ _ 0 _ rfl
  have hsz : (w.alloc (.cells #[.int .u16 (n : Int)] 54)).heap.size = w.heap.size + 1 := by simp
  have K1 := clone_ur u v _ (hR.stay hb) hl
  rw [hsz] at K1
  have HK1 := Lib.hid K1
  have HB := Lib.hid hb
  have HK2 := Lib.hid (fun (v' : Value) (w' : World) (h : w'.ownsRow (w.heap.size + 1) 54 1 v' u.length (u.flatMap uc)) (h' : Below (w.heap.size + 1) (w.alloc (.cells #[.int .u16 (n : Int)] 54)) w') => deletefunc_u v' u u.length n w.heap.size (w.heap.size + 1) w' h rfl hl ((h'.cell (p := ⟨w.heap.size, 0, none⟩) (Nat.lt_succ_self _)).trans hcell) (Nat.lt_succ_self _))
  clear hR hl hb hcell hsz K1
  go_enter Tryz.func32, Tryz.ntmps32
  go_wp2_with (first
    | (go_at_call 44; refine (HK2.out _ _ HO1.out HB1.out).mono ?_; rintro e w2 ⟨v2, rfl, ho2, hg2⟩; have HO2 := Lib.hid ho2; have HG2 := Lib.hid hg2; clear ho2 hg2)
    | (go_at_call 45; refine HK1.out.mono ?_; rintro e w1 ⟨v1, rfl, ho1, hb1⟩; have HO1 := Lib.hid ho1; have HB1 := Lib.hid hb1; clear ho1 hb1))
  go_ret
  refine ⟨_, rfl, owns_monoU HO2.out (Nat.le_succ _), ?_⟩
  exact (HB.out.trans (HB1.out.mono (Nat.le_succ _))).grown HG2.out (Nat.le_trans HB.out.size (Nat.le_trans (by simp) HB1.out.size)) (fun k hk => Nat.le_trans (Nat.le_succ _) (HO1.out.lt k hk).1)
end Go.Proofs.YtmbfnbbgphpcgaaGreatDoor

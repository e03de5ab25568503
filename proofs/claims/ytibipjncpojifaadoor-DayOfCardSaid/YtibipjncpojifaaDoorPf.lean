/- Contract of share.Allot: all that law 3 asks of it. -/
import Derived.Test.YtibipjncpojifaaDoorPd
import Derived.Test.YtibipjncpojifaaDoorPe
namespace Go.Proofs.YtibipjncpojifaaDoor
open Go.RowKit
set_option linter.unusedVariables false
set_option linter.unusedSimpArgs false
theorem slice_parts (a : Addr) (n cap i : Nat) (hc : i < cap) (w : World) :
    (Instr.slice 58 (.slice (some a) n cap) none (some (.int .u64 (i : Int))) none).run Tryd.prog w = .ok (.slice (some a) i cap) w := by
  have hu : Tryd.prog.underlying 58 = some (.slice (Tryd.prog.elem 58)) := by kernel_rfl
  have hs : (sizeOf (Tryd.prog.elem 58)).run Tryd.prog w = .ok 1 w := by kernel_rfl
  rw [run_slice_h w 58 (some a) n cap hu .u64 (i : Int) (by omega) (by omega), hs]
  simp only [Result.andThen_ok, sliced, Int.toNat_natCast]
  rw [if_neg (by omega)]
  simp [Addr.add]
/-- Fewer units are left than there are parts. -/
theorem left_less (S T n : Nat) (W : Nat → Nat) (hT : T = sumTo W n) (h0 : 0 < T) (hn : 0 < n) : S - sumTo (fun i => S * W i / T) n < n := by
  have h1 := rests_sum S T n W hT h0
  have h2 := sumTo_bound (fun i => S * W i % T) (T - 1) n (fun i _ => by have := Nat.mod_lt (S * W i) h0; omega)
  rw [h1] at h2
  refine Nat.lt_of_mul_lt_mul_left (a := T) (Nat.lt_of_le_of_lt h2 ?_)
  rw [Nat.mul_comm T n]
  exact Nat.mul_lt_mul_of_pos_left (by omega) hn
theorem og_wrap (p : Nat → Nat) (O : Nat → Int) (j t : Nat) : Value.int .u64 (if t = p j then IntKind.u64.wrap (Og p O j (p j) + 1) else Og p O j t) = .int .u64 (Og p O (j + 1) t) := by
  by_cases h : t = p j
  · have : Og p O (j + 1) t = IntKind.u64.wrap (Og p O j t + 1) := by
      show (if t = p j then _ else _) = _
      rw [if_pos h]
    rw [if_pos h, this, h]
  · have : Og p O (j + 1) t = Og p O j t := by
      show (if t = p j then _ else _) = _
      rw [if_neg h]
    rw [if_neg h, this]
set_option maxHeartbeats 8000000 in
set_option maxRecDepth 100000 in
theorem allot_good (b off cap : Nat) (zs : List Int) (a : Int) (w : World) (ha : (Lit.int .i64 a).wf = true) (hW : Ws w b off cap zs) (hg : GoodW zs) (hz : ∀ i, i < zs.length → w.cell? ⟨b, off + i, none⟩ = some (.int .i64 (zs.getD i 0))) :
    Calls Tryd.prog 24 #[.int .i64 a, .slice (some ⟨b, off, none⟩) zs.length cap] w fun e w' =>
      ∃ u, e = .returned (.tuple #[u, .int .i64 0]) ∧ w'.ownsRow w.heap.size 2 1 u zs.length (ints (sharesV a zs)) ∧ Below w.heap.size w w' := by
  have hba := wf_bd_i64 ha
  have hS : a.natAbs ≤ 9223372036854775808 := by omega
  have h0 := hW.pos
  have h8 := hW.few
  have ht := hW.total
  have K1 := Lib.hid (check_some b off cap zs w 0 h0 h8 hz (fun _ => rfl) (fun h => absurd hg h))
  have K2 := Lib.hid (divide_any b off cap zs a w ha hW)
  have K3 := Lib.hid (fun w' => size_any a w' ha)
  have hq := quos_le a.natAbs (sumTo (wOf zs) zs.length) zs.length (wOf zs) rfl ht.1
  have hl := left_less a.natAbs (sumTo (wOf zs) zs.length) zs.length (wOf zs) rfl ht.1 h0
  have K4 := Lib.hid (fun (B : Nat) (w' : World) (h : w'.rowIs B 55 zs.length (fun t => .int .u64 ((a.natAbs * wOf zs t / sumTo (wOf zs) zs.length : Nat) : Int))) => total_u64 B zs.length zs.length (fun t => a.natAbs * wOf zs t / sumTo (wOf zs) zs.length) w' h8 (fun i hi => h.cell hi) (Nat.le_trans hq hS))
  have K5 := Lib.hid (fun (B : Nat) (w' : World) (h : w'.rowIs B 55 zs.length (fun t => .int .u64 ((a.natAbs * wOf zs t % sumTo (wOf zs) zs.length : Nat) : Int))) => byrests_any B zs.length (fun t => a.natAbs * wOf zs t % sumTo (wOf zs) zs.length) w' h0 h8 h)
  have K6 := Lib.hid (fun (B : Nat) (O : Nat → Int) (w' : World) (h : w'.rowIs B 55 zs.length (fun t => .int .u64 (O t))) => signed_any B zs.length O (decide (a < 0)) w' h8 h)
  have E := Lib.hid (show ∀ p, Ordered (fun t => a.natAbs * wOf zs t % sumTo (wOf zs) zs.length) zs.length p → sharesV a zs = allotL (decide (a < 0)) zs.length (Og p (fun t => ((a.natAbs * wOf zs t / sumTo (wOf zs) zs.length : Nat) : Int)) (a.natAbs - sumTo (fun i => a.natAbs * wOf zs i / sumTo (wOf zs) zs.length) zs.length)) from fun p hp => by
    have h1 := give_ord hp (fun t => ((a.natAbs * wOf zs t / sumTo (wOf zs) zs.length : Nat) : Int)) (a.natAbs - sumTo (fun i => a.natAbs * wOf zs i / sumTo (wOf zs) zs.length) zs.length) 0 (by omega)
    rw [Nat.zero_add] at h1
    have h2 : sharesL a.natAbs zs.length (wOf zs) = some (Og p (fun t => ((a.natAbs * wOf zs t / sumTo (wOf zs) zs.length : Nat) : Int)) (a.natAbs - sumTo (fun i => a.natAbs * wOf zs i / sumTo (wOf zs) zs.length) zs.length)) := h1
    unfold sharesV
    rw [h2])
  obtain ⟨L, hL⟩ : ∃ L, a.natAbs - sumTo (fun i => a.natAbs * wOf zs i / sumTo (wOf zs) zs.length) zs.length = L := ⟨_, rfl⟩
  have e5 : IntKind.u64.wrap (((a.natAbs : Nat) : Int) - ((sumTo (fun i => a.natAbs * wOf zs i / sumTo (wOf zs) zs.length) zs.length : Nat) : Int)) = (L : Int) := by rw [IntKind.wrap_u64]; omega
  rw [hL] at hl E
  have hsl := fun (G : Nat) (w' : World) => slice_parts ⟨G, 0, none⟩ zs.length zs.length L hl w'
  obtain ⟨nb, hnb⟩ : ∃ nb, nb = decide (a < 0) := ⟨_, rfl⟩
  rw [← hnb] at K6 E
  have nb1 : a < 0 → nb = true := fun h => by rw [hnb]; exact decide_eq_true h
  have nb2 : ¬ a < 0 → nb = false := fun h => by rw [hnb]; exact decide_eq_false h
  have NB := Lib.hid hnb
  clear hW hg hz hba hS hnb hq hL ht
  generalize sumTo (fun i => a.natAbs * wOf zs i / sumTo (wOf zs) zs.length) zs.length = q0 at *
  generalize hQ : (fun t => ((a.natAbs * wOf zs t / sumTo (wOf zs) zs.length : Nat) : Int)) = Q at *
  have HQ := Lib.hid hQ
  have HN := Lib.hid (And.intro nb1 nb2)
  clear hQ nb1 nb2
  go_enter Tryd.func24, Tryd.ntmps24
  go_wp2_with (first
    | (go_at_call 29; refine K1.out.mono ?_; rintro e w1 ⟨rfl, rfl⟩)
    | (go_at_call 30; refine K2.out.mono ?_; rintro e w2 ⟨B1, B2, rfl, hne, hb1, hb2, hr1, hr2, hB2⟩; have R1 := Lib.hid hr1; have R2 := Lib.hid hr2; have hl1 := hr1.lt; clear hr1 hr2)
    | (go_at_call 31; refine (K3.out _).mono ?_; rintro e w3 ⟨rfl, rfl⟩)
    | (go_at_call 32; refine (K4.out _ _ R1.out).mono ?_; rintro e w4 ⟨rfl, rfl⟩)
    | (go_at_call 33; refine (K5.out _ _ R2.out).mono ?_; rintro e w5 ⟨G, rfl, hG1, hG2, ⟨p, hp, hpc⟩, hB5⟩; have HP := Lib.hid (And.intro hp hpc); clear hp hpc))
  have HB5 := Lib.hid hB5
  go_loopw [33] (fun i wr => ∃ j : Nat, j ≤ L ∧ i = .int .i64 j ∧ wr.rowIs B1 55 zs.length (fun t => .int .u64 (Og p Q j t)) ∧ (∀ k, k < zs.length → wr.cell? ⟨G, k, none⟩ = some (.int .i64 (p k : Nat))) ∧ Below w.heap.size w wr) (fun i _ => L - (RowKit.intOf i).toNat)
  case atStart => exact ⟨0, Nat.zero_le _, rfl, (R1.out.of_block (HB5.out.block _ hl1)).congr (fun t _ => congrArg (Value.int .u64) (congrFun HQ.out t)), HP.out.2, hB2.trans (HB5.out.mono hB2.size)⟩
  case round =>
    obtain ⟨j, hj, rfl, hr, hG, hBw⟩ := hrel
    rename World => wr
    by_cases hlt : j < L
    · have cg := hG j (by omega)
      have hpj := HP.out.1.lt j (by omega)
      have c1 := hr.cell hpj
      have f1 := hr.frozen (p j)
      have OW := Lib.hid (og_wrap p Q j)
      have HR := Lib.hid (And.intro hr hG)
      have hBG : B1 ≠ G := by omega
      clear hr hG
      generalize Og p Q j (p j) = x at *
      generalize p j = q at *
      go_wp2
      go_roundw
      case rel =>
        obtain ⟨r1, r2⟩ := HR.out
        refine ⟨j + 1, by omega, by go_num, ?_, fun k hk => ?_, hBw.setCell hb1 _⟩
        · refine (r1.set q _).congr (fun t _ => ?_)
          rw [← OW.out t]
          by_cases h : t = q
          · rw [if_pos h, if_pos h]
          · rw [if_neg h, if_neg h]
        · rw [World.cell?_of_block (w := wr) (Below.heap_setCell _ _ _ _ (fun h => hBG h.symm))]
          exact r2 k hk
      case measure => simp [RowKit.intOf]; omega
    · obtain rfl : j = L := by omega
      have K7 := Lib.hid (K6.out _ _ _ hr)
      clear hr hG
      by_cases hneg : a < 0
      · obtain rfl := HN.out.1 hneg
        go_wp2_with (go_at_call 34; refine K7.out.mono ?_; rintro e w6 ⟨u, rfl, ho6, hb6⟩)
        go_ret2
        exact ⟨u, rfl, by rw [E.out p HP.out.1]; exact owns_lower ho6 hBw.size, hBw.trans (hb6.mono hBw.size)⟩
      · obtain rfl := HN.out.2 (by omega)
        go_wp2_with (go_at_call 34; refine K7.out.mono ?_; rintro e w6 ⟨u, rfl, ho6, hb6⟩)
        go_ret2
        exact ⟨u, rfl, by rw [E.out p HP.out.1]; exact owns_lower ho6 hBw.size, hBw.trans (hb6.mono hBw.size)⟩
theorem allot_bad (v : Value) (a r : Int) (w : World) (hr : (Lit.int .i64 r).wf = true) (hne : r ≠ 0) (hc : Calls Tryd.prog 29 #[v] w fun e w' => e = .returned (.int .i64 r) ∧ w = w') :
    Calls Tryd.prog 24 #[.int .i64 a, v] w fun e w' => ∃ b c, e = .returned (.tuple #[.slice b 0 c, .int .i64 r]) ∧ Below w.heap.size w w' := by
  have h1 : (r != 0) = true := by simpa using hne
  go_enter Tryd.func24, Tryd.ntmps24
  go_wp2_with (go_at_call 29; refine hc.mono ?_; rintro e w1 ⟨rfl, rfl⟩)
  go_ret2
  exact ⟨none, 0, rfl, Below.refl _ _⟩
/-- share.Allot is as the document says. -/
theorem allotC : AllotC := by
  refine ⟨fun v zs a w hA ha h0 h8 hg => ?_, fun v zs a w hA ha hn => ?_, fun v zs a w hA ha h0 h8 hg => ?_⟩
  · rcases hA with ⟨r, cap, rfl, rfl⟩ | ⟨b, off, cap, rfl, hb, hl, hc, hz⟩
    · simp at h0
    · refine allot_good b off cap zs a w ha ⟨hb, h0, h8, hc, fun i hi => ?_⟩ hg (fun i hi => (hz i hi).1)
      have h2 := hg i hi
      have h4 : ((wOf zs i : Nat) : Int) = zs.getD i 0 := by unfold wOf; omega
      exact ⟨by rw [h4]; exact (hz i hi).1, by omega, by omega⟩
  · refine allot_bad v a 2 w (by decide) (by decide) ?_
    rcases hA with ⟨r, cap, rfl, rfl⟩ | ⟨b, off, cap, rfl, hb, hl, hc, hz⟩
    · exact check_few r cap w
    · by_cases h0 : zs.length = 0
      · rw [h0]; exact check_few _ cap w
      · exact check_many _ _ cap w (by omega)
  · refine allot_bad v a 5 w (by decide) (by decide) ?_
    rcases hA with ⟨r, cap, rfl, rfl⟩ | ⟨b, off, cap, rfl, hb, hl, hc, hz⟩
    · simp at h0
    · exact check_some b off cap zs w 5 h0 h8 (fun i hi => (hz i hi).1) (fun h => absurd h hg) (fun _ => rfl)
end Go.Proofs.YtibipjncpojifaaDoor

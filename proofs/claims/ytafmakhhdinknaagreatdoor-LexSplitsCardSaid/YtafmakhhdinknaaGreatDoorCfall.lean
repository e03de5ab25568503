/- Bits in plain words (codec): a number's seven bits put to what is there, a byte without its mark, signs through all bits. -/
import Derived.Lib.Varint
import Derived.Lib.Zigzag
import Derived.Lib.EndianBits
import Derived.Laws.ShiftsVarLaws
import Derived.WalkKit
import Derived.Test.YtafmakhhdinknaaGreatDoorCy
import Derived.Test.YtafmakhhdinknaaGreatDoorXall
import Derived.ArgAppend
import Derived.Lib.AppendStr
import Derived.Test.YtafmakhhdinknaaGreatDoorCdall
import Derived.Lib.SmallJoins
import Derived.Deep.RegionWith
import Derived.StillTailTactics
namespace Go.Proofs.YtafmakhhdinknaaGreatDoor
open Go.RowKit
set_option linter.unusedVariables false
set_option linter.unusedSimpArgs false
/-- Bits that lie above what is there are added. -/
theorem or_up (s a x : Nat) (ha : a < 2 ^ s) (hs : s ≤ 63) (hz : a + x * 2 ^ s < 18446744073709551616) : bits .or .u64 (a : Int) ((x * 2 ^ s : Nat) : Int) = ((a + x * 2 ^ s : Nat) : Int) := by
  have e64 : (2 : Int) ^ 64 = 18446744073709551616 := by decide
  have hp : ((2 ^ s : Nat) : Int) = (2 : Int) ^ s := by simp
  rw [Go.bits_join_low .u64 64 (by decide) (fun n h0 h1 => Go.wraps_u64 n h0 h1) s (a : Int) ((x * 2 ^ s : Nat) : Int) (by omega) (by rw [← hp]; omega) (by rw [e64]; omega) (by omega) ?_ (by rw [e64]; omega)]
  · omega
  · rw [← hp]
    have : ((x * 2 ^ s : Nat) : Int) = ((2 ^ s : Nat) : Int) * (x : Int) := by rw [Int.natCast_mul, Int.mul_comm]
    rw [this]
    exact Int.mul_emod_right _ _
set_option maxRecDepth 100000 in
theorem andnot_fin : ∀ a : Fin 256, bits .andNot .u8 (a.val : Int) 128 = ((a.val % 128 : Nat) : Int) := by decide +kernel
theorem andnot8 {c : Nat} (h : c < 256) : bits .andNot .u8 (c : Int) 128 = ((c % 128 : Nat) : Int) := andnot_fin ⟨c, h⟩
theorem or8 {c : Nat} (h : c < 256) : bits .or .u8 (c : Int) 128 = ((128 + c % 128 : Nat) : Int) := by
  rw [Lib.u8_or128_any _ (by omega) (by omega)]; omega
theorem xor64 (X : Int) : bits .xor .i64 X 0 = IntKind.i64.wrap X ∧ bits .xor .i64 X (-1) = IntKind.i64.wrap (-X - 1) := by
  have e64 : ((2 ^ 64 : Nat) : Int) = 18446744073709551616 := by decide
  refine ⟨?_, ?_⟩
  · show IntKind.i64.wrap ((BitVec.ofInt 64 X ^^^ BitVec.ofInt 64 0).toNat : Int) = _
    have h0 : BitVec.ofInt 64 0 = 0#64 := by decide
    rw [h0, BitVec.xor_zero, BitVec.toNat_ofInt, IntKind.wrap_i64, IntKind.wrap_i64]
    omega
  · show IntKind.i64.wrap ((BitVec.ofInt 64 X ^^^ BitVec.ofInt 64 (-1)).toNat : Int) = _
    have h0 : BitVec.ofInt 64 (-1) = BitVec.allOnes 64 := by decide
    rw [h0, BitVec.xor_allOnes, BitVec.toNat_not, BitVec.toNat_ofInt, IntKind.wrap_i64, IntKind.wrap_i64]
    omega
end Go.Proofs.YtafmakhhdinknaaGreatDoor
/- What Encode gathers (codec): bytes in a row of one's own; nothing else changes but rows of bytes. -/
namespace Go.Proofs.YtafmakhhdinknaaGreatDoor
open Go.RowKit
set_option linter.unusedVariables false
set_option linter.unusedSimpArgs false
/-- Bytes that are gathered. -/
def OutR (X : Nat) (w : World) (v : Value) (bs : List Nat) : Prop := w.ownsRow X 5 1 v bs.length (bs.flatMap byc)
theorem OutR.stay {X : Nat} {w w' : World} {v : Value} {bs : List Nat} (h : OutR X w v bs) (hb : Below w.heap.size w w') : OutR X w' v bs := own_below h hb
/-- Bytes that are gathered, or stand in a constant's row. -/
def OutV (X : Nat) (w : World) (v : Value) (bs : List Nat) : Prop := OutR X w v bs ∨ ∃ r, r < w.heap.size ∧ v = .slice (some ⟨r, 0, none⟩) bs.length bs.length ∧ ∀ j u, (bs.flatMap byc)[j]? = some u → w.cell? ((⟨r, 0, none⟩ : Addr).add j) = some u
theorem OutV.stay {X : Nat} {w w' : World} {v : Value} {bs : List Nat} (h : OutV X w v bs) (hb : Below w.heap.size w w') : OutV X w' v bs := by
  rcases h with h | ⟨r, hr, rfl, hc⟩
  · exact .inl (h.stay hb)
  · refine .inr ⟨r, Nat.lt_of_lt_of_le hr hb.size, rfl, fun j u hu => ?_⟩
    have e : (⟨r, 0, none⟩ : Addr).add j = ⟨r, j, none⟩ := by unfold Addr.add; split <;> simp_all
    have h := hc j u hu
    rw [e] at h ⊢
    rw [hb.cell (p := ⟨r, j, none⟩) hr]
    exact h
/-- Nothing changes but rows of bytes of one's own. -/
structure KB (X : Nat) (w w' : World) : Prop where
  below : Below X w w'
  size : w.heap.size ≤ w'.heap.size
  keep : ∀ k, k < w.heap.size → (∀ cs p, w.heap[k]? ≠ some (.cells cs 5 p)) → w'.heap[k]? = w.heap[k]?
theorem KB.refl (X : Nat) (w : World) : KB X w w := ⟨Below.refl X w, Nat.le_refl _, fun _ _ _ => rfl⟩
theorem KB.trans {X : Nat} {w w' w'' : World} (h : KB X w w') (k : KB X w' w'') : KB X w w'' :=
  ⟨h.below.trans k.below, Nat.le_trans h.size k.size, fun i hi h8 => by
    have e := h.keep i hi h8
    exact (k.keep i (Nat.lt_of_lt_of_le hi h.size) (fun cs p hh => h8 cs p (e.symm.trans hh))).trans e⟩
theorem KB.of {X : Nat} {w w' : World} (h : Below w.heap.size w w') (hX : X ≤ w.heap.size) : KB X w w' := ⟨h.mono hX, h.size, fun k hk _ => h.block k hk⟩
theorem QBox.kb {X : Nat} {w w' : World} {b : Nat} {cs : List Value} {T : TypeId} (h : QBox w b cs T) (hk : KB X w w') (hT : T ≠ 5) : QBox w' b cs T :=
  (hk.keep b h.size (fun cs' p e => by
    have h' : w.heap[b]? = some (.cells cs.toArray T (0, 0)) := h
    rw [h'] at e
    injection e with e
    injection e with _ e2
    exact hT e2)).trans h
theorem KB.grown {X : Nat} {w w' : World} {v : Value} {bs : List Nat} (h : OutR X w v bs) (hg : w.grownBy w' v.ownBlock) (hX : X ≤ w.heap.size) : KB X w w' := by
  have hs : w.heap.size ≤ w'.heap.size := hg.size
  refine ⟨⟨hg.os, hg.tape, hg.output, hs, fun k hk => hg.block k (Nat.lt_of_lt_of_le hk hX) (fun e => by have := h.lt k e.symm; omega)⟩, hs, fun k hk h8 => hg.block k hk (fun e => ?_)⟩
  rcases h.2 with ⟨q1, q2⟩ | ⟨g', cap, cur, q1, _, q3, _⟩
  · rw [q1] at e; simp [Value.ownBlock] at e
  · rw [q1] at e
    simp only [Value.ownBlock, Option.some.injEq] at e
    subst e
    exact h8 _ _ q3
theorem KB.none {X : Nat} {w w' : World} (hg : w.grownBy w' none) (hX : X ≤ w.heap.size) : KB X w w' :=
  ⟨⟨hg.os, hg.tape, hg.output, hg.size, fun k hk => hg.block k (Nat.lt_of_lt_of_le hk hX) (fun e => by cases e)⟩, hg.size, fun k hk _ => hg.block k hk (fun e => by cases e)⟩
/-- One more row of bytes is put behind them. -/
theorem wpList_out {P : Program} (hu : P.underlying 45 = some (.slice 5)) (hi : ∃ i, P.info? 5 = some i ∧ i.zero = some (.int .u8 0) ∧ i.size = 1 ∧ i.bytes = 1) {ops : Array Oper} {rest : List Oper} {o : Oper} {a : Act} {Q : Exit → Act → World → Prop} (hgd : o.guard = none) (s x : Operand)
    (ho : o.op = .call { callee := .builtin .append, args := #[s, x], argTypes := #[45, 45] }) {X : Nat} {w : World} {v : Value} {bs l : List Nat} (hs : a.eval s = v) (h : OutV X w v bs) (hl : 0 < l.length) (ad : Addr) (c : Nat) (hx : a.eval x = .slice (some ad) l.length c)
    (hc : ∀ j u, (l.flatMap byc)[j]? = some u → w.cell? (ad.add j) = some u) (hb : X ≤ w.heap.size) (hn : bs.length + l.length ≤ 1000000000)
    (hK : ∀ r n c w', OutR X w' (.slice r n c) (bs ++ l) → KB X w w' → wpList P ops Q rest (a.put o.dst (.slice r n c)) w') : wpList P ops Q (o :: rest) a w := by
  obtain ⟨i0, hi, hz0, hz1, hz2⟩ := hi
  rcases h with h | ⟨r, hr, rfl, hcr⟩
  · refine wpList_append_own _ hgd s x 45 ho X 5 i0 (.int .u8 0) 1 1 hu hi hz0 hz1 hz2 rfl (by decide) v bs.length (bs.flatMap byc) hs h ad l.length c (l.flatMap byc) hx (by rw [flat_len byc_len]) hc (flat_one byc_one _) (by unfold maxLen; omega) (by omega) hb ?_
    intro v3 w3 hown3 hgrow3 _
    obtain ⟨r3, c3, rfl⟩ := own_form hown3
    refine hK _ _ _ _ ?_ (KB.grown h hgrow3 hb)
    unfold OutR
    rw [List.length_append, List.flatMap_append]
    exact hown3
  · refine wpList_append_grows w hgd s x 45 ho 5 i0 (.int .u8 0) 1 1 hu hi hz0 hz1 hz2 rfl (by decide) (some ⟨r, 0, none⟩) bs.length bs.length (bs.flatMap byc) hs (fun h => by cases h) (by rw [flat_len byc_len]) (fun b hb => by cases hb; exact hcr) ad l.length c (l.flatMap byc) hx (by rw [flat_len byc_len]) hc (flat_one byc_one _) (by omega) (by unfold maxLen; omega) (by omega) ?_
    intro v3 w3 hown3 hgrow3
    obtain ⟨r3, c3, rfl⟩ := own_form hown3
    refine hK _ _ _ _ ?_ (KB.none hgrow3 hb)
    unfold OutR
    rw [List.length_append, List.flatMap_append]
    exact ownsRow_le8 hown3 hb
end Go.Proofs.YtafmakhhdinknaaGreatDoor
/- Contracts of codec's putNumber, putSigned, putEntity, putDay. -/
namespace Go.Proofs.YtafmakhhdinknaaGreatDoor
open Go.RowKit
set_option linter.unusedVariables false
set_option linter.unusedSimpArgs false
theorem byc_cell {w : World} {c : Nat} : ∀ j u, (([c] : List Nat).flatMap byc)[j]? = some u → (w.alloc (.cells #[.int .u8 (c : Int)] 5)).cell? ((⟨w.heap.size, 0, none⟩ : Addr).add j) = some u := by
  intro j u hu
  have e : (⟨w.heap.size, 0, none⟩ : Addr).add j = ⟨w.heap.size, j, none⟩ := by unfold Addr.add; split <;> simp_all
  rw [e]
  rcases j with _ | j
  · have hu' : some (Value.int .u8 (c : Int)) = some u := hu
    rw [← hu']
    simp
  · have hu' : (none : Option Value) = some u := hu
    cases hu'
theorem sig_bits {z : Int} (h : -9223372036854775808 ≤ z ∧ z ≤ 9223372036854775807) : IntKind.u64.wrap (bits .xor .i64 (IntKind.i64.wrap (z * 2)) (z / 9223372036854775808)) = ((sigN z : Nat) : Int) := by
  by_cases h0 : z < 0
  · have e : z / 9223372036854775808 = -1 := by omega
    rw [e, (xor64 _).2]
    unfold sigN
    rw [if_pos h0, IntKind.wrap_i64, IntKind.wrap_i64, IntKind.wrap_u64]
    omega
  · have e : z / 9223372036854775808 = 0 := by omega
    rw [e, (xor64 _).1]
    unfold sigN
    rw [if_neg h0, IntKind.wrap_i64, IntKind.wrap_i64, IntKind.wrap_u64]
    omega
set_option maxHeartbeats 1000000 in
set_option maxRecDepth 100000 in
theorem putnum_c (X n : Nat) (v : Value) (bs : List Nat) (w : World) (h : OutV X w v bs) (hX : X ≤ w.heap.size) (hn : n < 18446744073709551616) (hl : bs.length ≤ 100000000) :
    Calls Tryz.prog 66 #[v, .int .u64 (n : Int)] w fun e w' => ∃ r k c, e = .returned (.slice r k c) ∧ OutR X w' (.slice r k c) (bs ++ numB n) ∧ KB X w w' := by
  have hi := info_of8
  have HH := Lib.hid h
  have hN := numB_len10 (n := n) (by omega)
  obtain ⟨F, hF⟩ : ∃ F, bs ++ numB n = F := ⟨_, rfl⟩
  have HLF : F.length ≤ bs.length + 10 := by rw [← hF, List.length_append]; omega
  have HE := Lib.hid hF
  rw [hF]
  clear hF
  have HK0 := Lib.hid (KB.refl X w)
  clear h
  go_enter Tryz.func66, Tryz.ntmps66
  go_wp2_with fail
  go_loopw [0, 1] (fun out i wx => ∃ (m : Nat) (ds : List Nat), i = .int .u64 (m : Int) ∧ m < 18446744073709551616 ∧ Hid (OutV X wx out ds) ∧ Hid (KB X w wx) ∧ Hid (ds ++ numB m = F)) (fun _ i _ => (intOf i).toNat)
  case atStart => exact ⟨n, bs, rfl, hn, HH, HK0, HE⟩
  case round =>
    clear HH HE HK0
    obtain ⟨m, ds, rfl, hm, HO, HK, HE⟩ := hrel
    rename World => wr
    have hlen := congrArg List.length HE.out
    rw [List.length_append] at hlen
    have hpos := numB_pos m
    have hXr : X ≤ wr.heap.size := Nat.le_trans hX HK.out.below.size
    by_cases hlt : 128 ≤ m
    · obtain ⟨x, hx⟩ : ∃ x, m % 256 = x := ⟨_, rfl⟩
      obtain ⟨c, hc⟩ : ∃ c, 128 + m % 128 = c := ⟨_, rfl⟩
      obtain ⟨q, hq⟩ : ∃ q, m / 128 = q := ⟨_, rfl⟩
      have t1 : decide ((128 : Int) ≤ (m : Int)) = true := decide_eq_true (by omega)
      have t2 : IntKind.u8.wrap (m : Int) = (x : Int) := by rw [IntKind.wrap_u8]; omega
      have t3 : bits .or .u8 (x : Int) 128 = (c : Int) := by rw [or8 (by omega)]; omega
      have t4 : (m : Int) / 128 = (q : Int) := by omega
      have e := numB_more (n := m) (by omega)
      rw [hc, hq] at e
      rw [e] at HE
      have HE3 : Hid ((ds ++ [c]) ++ numB q = F) := Lib.hid (by rw [List.append_assoc]; exact HE.out)
      have hb := (Below.refl wr.heap.size wr).alloc (Nat.le_refl _) (.cells #[.int .u8 (c : Int)] 5)
      have HO1 := Lib.hid (HO.out.stay hb)
      have HK1 := Lib.hid (HK.out.trans (KB.of hb hXr))
      have HC := Lib.hid (byc_cell (w := wr) (c := c))
      have hX1 : X ≤ (wr.alloc (.cells #[.int .u8 (c : Int)] 5)).heap.size := Nat.le_trans hX HK1.out.below.size
      have hds : ds.length + 1 ≤ 1000000000 := by omega
      have HX1 := Lib.hid hX1
      clear HO HK HE hx hq e hb hc hlen hpos hXr hX1
      go_wp2_with (at_builtin; refine wpList_out (l := [c]) Tryz.underlying45 hi rfl (.tmp 9) (.tmp 13) rfl rfl HO1.out Nat.zero_lt_one ⟨_, 0, none⟩ _ rfl HC.out HX1.out hds ?_; intro r3 k3 c3 w3 ho3 hk3; have HO3 := Lib.hid ho3; have HK3 := Lib.hid (HK1.out.trans hk3); clear ho3 hk3)
      go_round
      case rel => exact ⟨q, ds ++ [c], rfl, by omega, Lib.hid (.inl HO3.out), HK3, HE3⟩
      case measure =>
        show ((q : Int)).toNat < ((m : Int)).toNat
        omega
    · have t1 : decide ((128 : Int) ≤ (m : Int)) = false := decide_eq_false (by omega)
      have t2 : IntKind.u8.wrap (m : Int) = (m : Int) := by rw [IntKind.wrap_u8]; omega
      rw [numB_small (by omega)] at HE
      have hb := (Below.refl wr.heap.size wr).alloc (Nat.le_refl _) (.cells #[.int .u8 (m : Int)] 5)
      have HO1 := Lib.hid (HO.out.stay hb)
      have HK1 := Lib.hid (HK.out.trans (KB.of hb hXr))
      have HC := Lib.hid (byc_cell (w := wr) (c := m))
      have HX1 := Lib.hid (show X ≤ (wr.alloc (.cells #[.int .u8 (m : Int)] 5)).heap.size from Nat.le_trans hX HK1.out.below.size)
      have hds : ds.length + 1 ≤ 1000000000 := by omega
      clear HO HK hb hlen hpos hXr
      go_wp2_with (at_builtin; refine wpList_out (l := [m]) Tryz.underlying45 hi rfl (.tmp 15) (.tmp 18) rfl rfl HO1.out Nat.zero_lt_one ⟨_, 0, none⟩ _ rfl HC.out HX1.out hds ?_; intro r3 k3 c3 w3 ho3 hk3; have HO3 := Lib.hid ho3; have HK3 := Lib.hid (HK1.out.trans hk3); clear ho3 hk3)
      go_ret
      exact ⟨_, _, _, rfl, HE.out ▸ HO3.out, HK3.out⟩
set_option maxHeartbeats 1000000 in
set_option maxRecDepth 100000 in
theorem putsig_c (X : Nat) (z : Int) (v : Value) (bs : List Nat) (w : World) (h : OutV X w v bs) (hX : X ≤ w.heap.size) (hz : -9223372036854775808 ≤ z ∧ z ≤ 9223372036854775807) (hl : bs.length ≤ 100000000) :
    Calls Tryz.prog 67 #[v, .int .i64 z] w fun e w' => ∃ r k c, e = .returned (.slice r k c) ∧ OutR X w' (.slice r k c) (bs ++ sigB z) ∧ KB X w w' := by
  have hs := sig_bits hz
  have K := Lib.hid (putnum_c X (sigN z) v bs w h hX (by have := sigN_lt hz; omega) hl)
  unfold sigB
  generalize sigN z = N at *
  obtain ⟨p, hp⟩ : ∃ p, IntKind.i64.wrap (z * 2) = p := ⟨_, rfl⟩
  obtain ⟨q, hq⟩ : ∃ q, z / 9223372036854775808 = q := ⟨_, rfl⟩
  rw [hp, hq] at hs
  clear h
  go_enter Tryz.func67, Tryz.ntmps67
  go_wp2_with (go_at_call 66; refine K.out.mono ?_; rintro e w2 ⟨r, k, c, rfl, o2, h2⟩; have O2 := Lib.hid o2; have H2 := Lib.hid h2; clear o2 h2)
  go_ret
  exact ⟨_, _, _, rfl, O2.out, H2.out⟩
set_option maxHeartbeats 1000000 in
set_option maxRecDepth 100000 in
theorem putent_c (X n : Nat) (v : Value) (bs : List Nat) (w : World) (h : OutV X w v bs) (hX : X ≤ w.heap.size) (hn : n ≤ 65535) (hl : bs.length ≤ 100000000) :
    Calls Tryz.prog 48 #[v, .int .u16 (n : Int)] w fun e w' => ∃ r k c, e = .returned (.slice r k c) ∧ OutR X w' (.slice r k c) (bs ++ numB n) ∧ KB X w w' := by
  have t1 : IntKind.u64.wrap (n : Int) = (n : Int) := by rw [IntKind.wrap_u64]; omega
  have K := Lib.hid (putnum_c X n v bs w h hX (by omega) hl)
  clear h
  go_enter Tryz.func48, Tryz.ntmps48
  go_wp2_with (go_at_call 66; refine K.out.mono ?_; rintro e w2 ⟨r, k, c, rfl, o2, h2⟩; have O2 := Lib.hid o2; have H2 := Lib.hid h2; clear o2 h2)
  go_ret
  exact ⟨_, _, _, rfl, O2.out, H2.out⟩
set_option maxHeartbeats 1000000 in
set_option maxRecDepth 100000 in
theorem putday_c (X : Nat) (z : Int) (v : Value) (bs : List Nat) (w : World) (h : OutV X w v bs) (hX : X ≤ w.heap.size) (hz : -2147483648 ≤ z ∧ z ≤ 2147483647) (hl : bs.length ≤ 100000000) :
    Calls Tryz.prog 50 #[v, .int .i32 z] w fun e w' => ∃ r k c, e = .returned (.slice r k c) ∧ OutR X w' (.slice r k c) (bs ++ sigB z) ∧ KB X w w' := by
  have t1 : IntKind.i64.wrap z = z := by rw [IntKind.wrap_i64]; omega
  have K := Lib.hid (putsig_c X z v bs w h hX (by omega) hl)
  clear h
  go_enter Tryz.func50, Tryz.ntmps50
  go_wp2_with (go_at_call 67; refine K.out.mono ?_; rintro e w2 ⟨r, k, c, rfl, o2, h2⟩; have O2 := Lib.hid o2; have H2 := Lib.hid h2; clear o2 h2)
  go_ret
  exact ⟨_, _, _, rfl, O2.out, H2.out⟩
end Go.Proofs.YtafmakhhdinknaaGreatDoor
/- Contracts of codec's writer: putLine, putAccount. -/
namespace Go.Proofs.YtafmakhhdinknaaGreatDoor
open Go.RowKit
set_option linter.unusedVariables false
set_option linter.unusedSimpArgs false
theorem KB.alloc {X : Nat} {w W : World} (h : KB X w W) (hX : X ≤ w.heap.size) (o : Obj) : KB X w (W.alloc o) :=
  h.trans (KB.of ((Below.refl _ _).alloc (Nat.le_refl _) o) (Nat.le_trans hX h.size))
/-- What a writer of structs holds on its way: the box of its struct, the bytes so far. -/
structure BM (X Y : Nat) (w W : World) (T : TypeId) (cs : List Value) (v : Value) (bs : List Nat) : Prop where
  hX : X ≤ w.heap.size
  box : QBox W Y cs T
  out : OutR X W v bs
  kb : KB X w W
theorem BM.start {X : Nat} {w : World} {v : Value} {bs : List Nat} (hX : X ≤ w.heap.size) (h : OutR X w v bs) (T : TypeId) (cs : List Value) : BM X w.heap.size w (w.alloc (.cells cs.toArray T)) T cs v bs :=
  ⟨hX, QBox.new w cs T, h.stay ((Below.refl _ _).alloc (Nat.le_refl _) _), (KB.refl X w).alloc hX _⟩
theorem BM.put {X Y : Nat} {w W W' : World} {T : TypeId} {cs : List Value} {v v' : Value} {bs bs' : List Nat} (h : BM X Y w W T cs v bs) (ho : OutR X W' v' bs') (hk : KB X W W') (hT : T ≠ 5) : BM X Y w W' T cs v' bs' :=
  ⟨h.hX, h.box.kb hk hT, ho, h.kb.trans hk⟩
theorem BM.size {X Y : Nat} {w W : World} {T : TypeId} {cs : List Value} {v : Value} {bs : List Nat} (h : BM X Y w W T cs v bs) : X ≤ W.heap.size := Nat.le_trans h.hX h.kb.size
theorem OutR.form {X : Nat} {w : World} {v : Value} {bs : List Nat} (h : OutR X w v bs) : ∃ r k c, v = .slice r k c := by
  rcases h.2 with ⟨h1, h2⟩ | ⟨g, cap, cur, h1, _⟩
  · exact ⟨_, _, _, h1⟩
  · exact ⟨_, _, _, h1⟩
theorem name_cells (s : ByteArray) : Lib.strCells s = (nameL s).flatMap byc := by
  rw [flat_byc]
  unfold nameL Lib.strCells
  rw [List.map_map]
  rfl
theorem OutR.string {X : Nat} {w' : World} {v' : Value} {bs : List Nat} {s : ByteArray} (h : w'.ownsRow X 5 1 v' (bs.length + s.size) (bs.flatMap byc ++ Lib.strCells s)) : OutR X w' v' (bs ++ nameL s) := by
  unfold OutR
  rw [List.length_append, List.flatMap_append, nameL_len, ← name_cells]
  exact h
theorem wpList_outs {P : Program} (hu : P.underlying 45 = some (.slice 5)) (hst : P.underlying 9 = some .string) (hi : ∃ i, P.info? 5 = some i ∧ i.zero = some (.int .u8 0) ∧ i.size = 1 ∧ i.bytes = 1) {ops : Array Oper} {rest : List Oper} {o : Oper} {a : Act} {Q : Exit → Act → World → Prop} (hgd : o.guard = none) (sl x : Operand)
    (ho : o.op = .call { callee := .builtin .append, args := #[sl, x], argTypes := #[45, 9] }) {X : Nat} {w : World} {v : Value} {bs : List Nat} (hs : a.eval sl = v) (h : OutR X w v bs) (s : ByteArray) (hx : a.eval x = .string s) (hb : X ≤ w.heap.size) (hn : bs.length + s.size ≤ 1000000000)
    (hK : ∀ r n c w', OutR X w' (.slice r n c) (bs ++ nameL s) → KB X w w' → wpList P ops Q rest (a.put o.dst (.slice r n c)) w') : wpList P ops Q (o :: rest) a w := by
  obtain ⟨i0, hi, hz0, hz1, hz2⟩ := hi
  refine Lib.wpList_append_own_string w hgd sl x 45 9 ho X 5 i0 hu hst hi hz0 hz1 hz2 v bs.length (bs.flatMap byc) hs h s hx (by unfold maxLen; omega) (by omega) hb ?_
  intro v3 w3 hown3 hgrow3 _
  obtain ⟨r3, k3, c3, rfl⟩ := own_form hown3
  exact hK _ _ _ _ (OutR.string hown3) (KB.grown h hgrow3 hb)
set_option maxHeartbeats 1000000 in
set_option maxRecDepth 100000 in
theorem putline_c (X : Nat) (l : Ln) (v : Value) (bs : List Nat) (w : World) (h : OutR X w v bs) (hX : X ≤ w.heap.size) (hl : bs.length ≤ 90000000) :
    Calls Tryz.prog 69 #[v, .agg #[.int .u32 (l.acc : Int), .int .u16 (l.ent.n : Int), .int .u16 (l.ctr : Int), .int .i64 l.amt]] w fun e w' => ∃ r k c, e = .returned (.slice r k c) ∧ OutR X w' (.slice r k c) (bs ++ encLn l) ∧ KB X w w' := by
  obtain ⟨r0, k0, c0, rfl⟩ := h.form
  have ha := l.ha
  have he := l.ent.h
  have hc := l.hc
  have hm := l.hm
  have t1 : IntKind.u64.wrap (l.acc : Int) = (l.acc : Int) := by rw [IntKind.wrap_u64]; omega
  have HM := Lib.hid (BM.start hX h 116 [.int .u32 (l.acc : Int), .int .u16 (l.ent.n : Int), .int .u16 (l.ctr : Int), .int .i64 l.amt])
  have HL := Lib.hid hl
  clear h hl
  go_enter Tryz.func69, Tryz.ntmps69
  go_upto_region 1 with fail
  generalize w.alloc (.cells #[.int .u32 (l.acc : Int), .int .u16 (l.ent.n : Int), .int .u16 (l.ctr : Int), .int .i64 l.amt] 116) = W0 at HM ⊢
  have x0 := HM.out.box.cell (j := 0) rfl
  go_upto_region 2 with (go_at_call 66; refine (putnum_c X l.acc _ _ _ (.inl HM.out.out) HM.out.size (by omega) (by have := HL.out; omega)).mono ?_; rintro e w2 ⟨r, k, c, rfl, o2, h2⟩; have HM2 := Lib.hid (HM.out.put o2 h2 (by decide)); clear o2 h2)
  have HL2 := Lib.hid (Nat.le_trans (Nat.le_of_eq List.length_append) (Nat.add_le_add HL.out (numB_len10 (n := l.acc) (by omega))))
  clear HM HL x0
  have HM := HM2
  have HL := HL2
  clear HM2 HL2
  have x1 := HM.out.box.cell (j := 1) rfl
  go_upto_region 3 with (go_at_call 48; refine (putent_c X l.ent.n _ _ _ (.inl HM.out.out) HM.out.size (by omega) (by have := HL.out; omega)).mono ?_; rintro e w2 ⟨r, k, c, rfl, o2, h2⟩; have HM2 := Lib.hid (HM.out.put o2 h2 (by decide)); clear o2 h2)
  have HL2 := Lib.hid (Nat.le_trans (Nat.le_of_eq List.length_append) (Nat.add_le_add HL.out (numB_len10 (n := l.ent.n) (by omega))))
  clear HM HL x1
  have HM := HM2
  have HL := HL2
  clear HM2 HL2
  have x2 := HM.out.box.cell (j := 2) rfl
  go_upto_region 4 with (go_at_call 48; refine (putent_c X l.ctr _ _ _ (.inl HM.out.out) HM.out.size (by omega) (by have := HL.out; omega)).mono ?_; rintro e w2 ⟨r, k, c, rfl, o2, h2⟩; have HM2 := Lib.hid (HM.out.put o2 h2 (by decide)); clear o2 h2)
  have HL2 := Lib.hid (Nat.le_trans (Nat.le_of_eq List.length_append) (Nat.add_le_add HL.out (numB_len10 (n := l.ctr) (by omega))))
  clear HM HL x2
  have HM := HM2
  have HL := HL2
  clear HM2 HL2
  have x3 := HM.out.box.cell (j := 3) rfl
  go_wp2_with (go_at_call 67; refine (putsig_c X l.amt _ _ _ (.inl HM.out.out) HM.out.size hm (by have := HL.out; omega)).mono ?_; rintro e w2 ⟨r, k, c, rfl, o2, h2⟩; have HM2 := Lib.hid (HM.out.put o2 h2 (by decide)); clear o2 h2)
  go_ret
  refine ⟨_, _, _, rfl, ?_, HM2.out.kb⟩
  have ho := HM2.out.out
  unfold encLn
  simp only [List.append_assoc] at ho ⊢
  exact ho
set_option maxHeartbeats 1000000 in
set_option maxRecDepth 100000 in
theorem putacc_c (X : Nat) (a : Ac) (v : Value) (bs : List Nat) (w : World) (h : OutR X w v bs) (hX : X ≤ w.heap.size) (hn : a.name.size ≤ 30) (hl : bs.length ≤ 90000000) :
    Calls Tryz.prog 46 #[v, .agg #[.int .u32 (a.code : Int), .string a.name, .int .u8 (a.kind : Int), .int .u32 (a.par : Int)]] w fun e w' => ∃ r k c, e = .returned (.slice r k c) ∧ OutR X w' (.slice r k c) (bs ++ encA a) ∧ KB X w w' := by
  obtain ⟨r0, k0, c0, rfl⟩ := h.form
  have hi := info_of8
  have hc := a.hc
  have hk := a.hk
  have hp := a.hp
  have t1 : IntKind.u64.wrap (a.code : Int) = (a.code : Int) := by rw [IntKind.wrap_u64]; omega
  have t2 : IntKind.u64.wrap (a.name.size : Int) = (a.name.size : Int) := by rw [IntKind.wrap_u64]; omega
  have t3 : IntKind.u64.wrap (a.kind : Int) = (a.kind : Int) := by rw [IntKind.wrap_u64]; omega
  have t4 : IntKind.u64.wrap (a.par : Int) = (a.par : Int) := by rw [IntKind.wrap_u64]; omega
  have HM := Lib.hid (BM.start hX h 84 [.int .u32 (a.code : Int), .string a.name, .int .u8 (a.kind : Int), .int .u32 (a.par : Int)])
  have HL := Lib.hid hl
  clear h hl
  go_enter Tryz.func46, Tryz.ntmps46
  go_upto_region 1 with fail
  generalize w.alloc (.cells #[.int .u32 (a.code : Int), .string a.name, .int .u8 (a.kind : Int), .int .u32 (a.par : Int)] 84) = W0 at HM ⊢
  have x0 := HM.out.box.cell (j := 0) rfl
  go_upto_region 2 with (go_at_call 66; refine (putnum_c X a.code _ _ _ (.inl HM.out.out) HM.out.size (by omega) (by have := HL.out; omega)).mono ?_; rintro e w2 ⟨r, k, c, rfl, o2, h2⟩; have HM2 := Lib.hid (HM.out.put o2 h2 (by decide)); clear o2 h2)
  have HL2 := Lib.hid (Nat.le_trans (Nat.le_of_eq List.length_append) (Nat.add_le_add HL.out (numB_len10 (n := a.code) (by omega))))
  clear HM HL x0
  have HM := HM2
  have HL := HL2
  clear HM2 HL2
  have x1 := HM.out.box.cell (j := 1) rfl
  go_upto_region 3 with (go_at_call 66; refine (putnum_c X a.name.size _ _ _ (.inl HM.out.out) HM.out.size (by omega) (by have := HL.out; omega)).mono ?_; rintro e w2 ⟨r, k, c, rfl, o2, h2⟩; have HM2 := Lib.hid (HM.out.put o2 h2 (by decide)); clear o2 h2)
  have HL2 := Lib.hid (Nat.le_trans (Nat.le_of_eq List.length_append) (Nat.add_le_add HL.out (numB_len10 (n := a.name.size) (by omega))))
  clear HM HL x1
  have HM := HM2
  have HL := HL2
  clear HM2 HL2
  have x1 := HM.out.box.cell (j := 1) rfl
  have hln : (bs ++ numB a.code ++ numB a.name.size).length + a.name.size ≤ 1000000000 := by have := HL.out; omega
  go_upto_region 4 with (at_builtin; refine wpList_outs Tryz.underlying45 Tryz.underlying9 hi rfl (.tmp 16) (.tmp 18) rfl rfl HM.out.out a.name rfl HM.out.size hln ?_; intro r3 k3 c3 w2 ho3 hk3; have HM2 := Lib.hid (HM.out.put ho3 hk3 (by decide)); clear ho3 hk3)
  have HL2 := Lib.hid (Nat.le_trans (Nat.le_of_eq List.length_append) (Nat.add_le_add HL.out (show (nameL a.name).length ≤ 30 by rw [nameL_len]; exact hn)))
  clear HM HL x1
  have HM := HM2
  have HL := HL2
  clear HM2 HL2
  have x2 := HM.out.box.cell (j := 2) rfl
  go_upto_region 5 with (go_at_call 66; refine (putnum_c X a.kind _ _ _ (.inl HM.out.out) HM.out.size (by omega) (by have := HL.out; omega)).mono ?_; rintro e w2 ⟨r, k, c, rfl, o2, h2⟩; have HM2 := Lib.hid (HM.out.put o2 h2 (by decide)); clear o2 h2)
  have HL2 := Lib.hid (Nat.le_trans (Nat.le_of_eq List.length_append) (Nat.add_le_add HL.out (numB_len10 (n := a.kind) (by omega))))
  clear HM HL x2
  have HM := HM2
  have HL := HL2
  clear HM2 HL2
  have x3 := HM.out.box.cell (j := 3) rfl
  go_wp2_with (go_at_call 66; refine (putnum_c X a.par _ _ _ (.inl HM.out.out) HM.out.size (by omega) (by have := HL.out; omega)).mono ?_; rintro e w2 ⟨r, k, c, rfl, o2, h2⟩; have HM2 := Lib.hid (HM.out.put o2 h2 (by decide)); clear o2 h2)
  go_ret
  refine ⟨_, _, _, rfl, ?_, HM2.out.kb⟩
  have ho := HM2.out.out
  unfold encA encN
  simp only [List.append_assoc] at ho ⊢
  exact ho
end Go.Proofs.YtafmakhhdinknaaGreatDoor
/- Contracts of codec's putAll at accounts, entities, days, lines. -/
namespace Go.Proofs.YtafmakhhdinknaaGreatDoor
open Go.RowKit
set_option linter.unusedVariables false
set_option linter.unusedSimpArgs false
theorem OutV.form {X : Nat} {w : World} {v : Value} {bs : List Nat} (h : OutV X w v bs) : ∃ r k c, v = .slice r k c := by
  rcases h with h | ⟨r, _, h, _⟩
  · exact h.form
  · exact ⟨_, _, _, h⟩
set_option maxHeartbeats 1000000 in
set_option maxRecDepth 100000 in
theorem putall_a (w0 : World) (v va : Value) (bs : List Nat) (xs : List Ac) (w : World) (hB : Below w0.heap.size w0 w) (h : OutV w0.heap.size w v bs) (hR : Recs cc 4 w0 va xs) (hok : ∀ a ∈ xs, OkAw a) (hn : xs.length ≤ 2000) (hl : bs.length ≤ 80000000) :
    Calls Tryz.prog 45 #[v, va, .func (.func 46) #[] #[]] w fun e w' => ∃ r k c, e = .returned (.slice r k c) ∧ OutR w0.heap.size w' (.slice r k c) (bs ++ encL encA xs) ∧ KB w0.heap.size w w' := by
  obtain ⟨r0, k0, c0, rfl⟩ := h.form
  obtain ⟨r1, c1, rfl, hm⟩ := hR.form
  have hX : w0.heap.size ≤ w.heap.size := hB.size
  obtain ⟨L, hL⟩ : ∃ n, xs.length = n := ⟨_, rfl⟩
  obtain ⟨F, hF⟩ : ∃ F, bs ++ encL encA xs = F := ⟨_, rfl⟩
  obtain ⟨X, hXe⟩ : ∃ X, w0.heap.size = X := ⟨_, rfl⟩
  have K1 := Lib.hid (putnum_c w0.heap.size L _ bs w h hX (by omega) (by omega))
  rw [hL] at hR hm hn
  rw [hL, hF, hXe]
  have HB := Lib.hid hB
  have HR := Lib.hid hR
  have HLL := Lib.hid hL
  have HF := Lib.hid hF
  have HXE := Lib.hid hXe
  rw [hXe] at K1 hX HB
  have HOK := Lib.hid hok
  clear hok
  have t1 : IntKind.u64.wrap (L : Int) = (L : Int) := by rw [IntKind.wrap_u64]; omega
  clear hB h hR hL hF hXe
  go_enter Tryz.func45, Tryz.ntmps45
  go_upto_region 2 with (go_at_call 66; refine K1.out.mono ?_; rintro e w2 ⟨r, k, c, rfl, o2, h2⟩; have HO := Lib.hid o2; have HK := Lib.hid h2; clear o2 h2)
  have HL : Hid ((bs ++ numB L).length ≤ bs.length + 10 + 70 * 0) := Lib.hid (by rw [List.length_append]; have := numB_len10 (n := L) (by omega); omega)
  have HE : Hid (bs ++ numB L = bs ++ numB L ++ (xs.take 0).flatMap encA) := Lib.hid (by simp)
  obtain ⟨ds, hds⟩ : ∃ d, bs ++ numB L = d := ⟨_, rfl⟩
  rw [hds] at HO HL
  have HE : Hid (ds = bs ++ numB L ++ (xs.take 0).flatMap encA) := Lib.hid (by rw [← hds]; simp)
  clear hds K1
  go_wp2_with fail
  go_loopw [0, 16] (fun out i wx => ∃ (j : Nat) (ds : List Nat), i = .int .i64 (j : Int) ∧ j ≤ L ∧ Hid (OutR X wx out ds) ∧ Hid (KB X w wx) ∧ Hid (ds = bs ++ numB L ++ (xs.take j).flatMap encA) ∧ Hid (ds.length ≤ bs.length + 10 + 70 * j)) (fun _ i _ => L - (intOf i).toNat)
  case atStart => exact ⟨0, ds, rfl, Nat.zero_le _, HO, HK, HE, HL⟩
  case round =>
    clear HO HK HE HL
    obtain ⟨j, ds, rfl, hj, HO, HK, HE, HL⟩ := hrel
    rename World => wr
    obtain ⟨r9, k9, c9, rfl⟩ := HO.out.form
    have hXr : X ≤ wr.heap.size := Nat.le_trans hX HK.out.size
    by_cases hlt : j < L
    · obtain ⟨x, hx⟩ : ∃ x, xs[j]? = some x := ⟨xs[j]'(by have := HLL.out; omega), List.getElem?_eq_getElem (by have := HLL.out; omega)⟩
      have hxo := HOK.out x (List.mem_of_getElem? hx)
      have hxn := hxo.2.1
      have hst := HR.out.stay (w' := wr) (HXE.out.symm ▸ HB.out.trans HK.out.below)
      obtain ⟨gA, oA, rfl, hgA, hcA⟩ := hst.at hx
      have y0 := hcA 0 (.int .u32 (x.code : Int)) rfl
      have y1 := hcA 1 (.string x.name) rfl
      have y2 := hcA 2 (.int .u8 (x.kind : Int)) rfl
      have y3 := hcA 3 (.int .u32 (x.par : Int)) rfl
      simp only [Nat.add_zero, Nat.mul_one] at y0
      have t2 : decide ((j : Int) < (L : Int)) = true := decide_eq_true (by omega)
      have HE2 : Hid (ds ++ encA x = bs ++ numB L ++ (xs.take (j + 1)).flatMap encA) := Lib.hid (by
        rw [HE.out, List.take_add_one, hx, Option.toList_some, List.flatMap_append, List.flatMap_cons, List.flatMap_nil]
        simp only [List.append_assoc, List.append_nil])
      have HL2 : Hid ((ds ++ encA x).length ≤ bs.length + 10 + 70 * (j + 1)) := Lib.hid (by
        rw [List.length_append]
        have := HL.out
        have h9 : (encA x).length ≤ 70 := encAw_len hxo
        omega)
      have hdl : ds.length ≤ 90000000 := by have := HL.out; omega
      clear hcA hst HE HL hx
      go_upto_region 5 with fail
      have HQ : Hid (QBox (wr.alloc (.cells #[.int .u32 (x.code : Int), .string x.name, .int .u8 (x.kind : Int), .int .u32 (x.par : Int)] 84)) wr.heap.size [.int .u32 (x.code : Int), .string x.name, .int .u8 (x.kind : Int), .int .u32 (x.par : Int)] 84) := Lib.hid (QBox.new wr [.int .u32 (x.code : Int), .string x.name, .int .u8 (x.kind : Int), .int .u32 (x.par : Int)] 84)
      have HO1 := Lib.hid (HO.out.stay ((Below.refl wr.heap.size wr).alloc (Nat.le_refl _) (.cells #[.int .u32 (x.code : Int), .string x.name, .int .u8 (x.kind : Int), .int .u32 (x.par : Int)] 84)))
      have HK1 := Lib.hid (HK.out.alloc hX (.cells #[.int .u32 (x.code : Int), .string x.name, .int .u8 (x.kind : Int), .int .u32 (x.par : Int)] 84))
      clear HO HK y0 y1 y2 y3 hXr
      generalize wr.alloc (.cells #[.int .u32 (x.code : Int), .string x.name, .int .u8 (x.kind : Int), .int .u32 (x.par : Int)] 84) = w6 at HQ HO1 HK1 ⊢
      have hX6 : X ≤ w6.heap.size := Nat.le_trans hX HK1.out.size
      have y0 := HQ.out.cell (j := 0) rfl
      have y1 := HQ.out.cell (j := 1) rfl
      have y2 := HQ.out.cell (j := 2) rfl
      have y3 := HQ.out.cell (j := 3) rfl
      go_wp2_with (go_at_call 46; refine (putacc_c X x _ ds _ HO1.out hX6 hxn hdl).mono ?_; rintro e w3 ⟨r3, k3, c3, rfl, o3, h3⟩; have HO3 := Lib.hid o3; have HK3 := Lib.hid (HK1.out.trans h3); clear o3 h3)
      go_round
      case rel => exact ⟨j + 1, _, rfl, by omega, HO3, HK3, HE2, HL2⟩
      case measure =>
        show L - ((j : Int) + 1).toNat < L - ((j : Int)).toNat
        omega
    · obtain rfl : j = L := by omega
      have t2 : decide ((j : Int) < (j : Int)) = false := decide_eq_false (by omega)
      have e9 : ds = F := by
        rw [HE.out, List.take_of_length_le (Nat.le_of_eq HLL.out), ← HF.out, List.append_assoc]
        unfold encL
        rw [HLL.out]
      clear HE HL HF
      subst e9
      go_wp2_with fail
      go_ret
      exact ⟨_, _, _, rfl, HO.out, HK.out⟩
set_option maxHeartbeats 1000000 in
set_option maxRecDepth 100000 in
theorem putall_u (w0 : World) (v va : Value) (bs : List Nat) (xs : List Nat) (w : World) (hB : Below w0.heap.size w0 w) (h : OutV w0.heap.size w v bs) (hR : Recs uc 1 w0 va xs) (hok : ∀ a ∈ xs, a ≤ 65535) (hn : xs.length ≤ 2000) (hl : bs.length ≤ 80000000) :
    Calls Tryz.prog 47 #[v, va, .func (.func 48) #[] #[]] w fun e w' => ∃ r k c, e = .returned (.slice r k c) ∧ OutR w0.heap.size w' (.slice r k c) (bs ++ encL numB xs) ∧ KB w0.heap.size w w' := by
  obtain ⟨r0, k0, c0, rfl⟩ := h.form
  obtain ⟨r1, c1, rfl, hm⟩ := hR.form
  have hX : w0.heap.size ≤ w.heap.size := hB.size
  obtain ⟨L, hL⟩ : ∃ n, xs.length = n := ⟨_, rfl⟩
  obtain ⟨F, hF⟩ : ∃ F, bs ++ encL numB xs = F := ⟨_, rfl⟩
  obtain ⟨X, hXe⟩ : ∃ X, w0.heap.size = X := ⟨_, rfl⟩
  have K1 := Lib.hid (putnum_c w0.heap.size L _ bs w h hX (by omega) (by omega))
  rw [hL] at hR hm hn
  rw [hL, hF, hXe]
  have HB := Lib.hid hB
  have HR := Lib.hid hR
  have HLL := Lib.hid hL
  have HF := Lib.hid hF
  have HXE := Lib.hid hXe
  rw [hXe] at K1 hX HB
  have HOK := Lib.hid hok
  clear hok
  have t1 : IntKind.u64.wrap (L : Int) = (L : Int) := by rw [IntKind.wrap_u64]; omega
  clear hB h hR hL hF hXe
  go_enter Tryz.func47, Tryz.ntmps47
  go_upto_region 2 with (go_at_call 66; refine K1.out.mono ?_; rintro e w2 ⟨r, k, c, rfl, o2, h2⟩; have HO := Lib.hid o2; have HK := Lib.hid h2; clear o2 h2)
  have HL : Hid ((bs ++ numB L).length ≤ bs.length + 10 + 10 * 0) := Lib.hid (by rw [List.length_append]; have := numB_len10 (n := L) (by omega); omega)
  have HE : Hid (bs ++ numB L = bs ++ numB L ++ (xs.take 0).flatMap numB) := Lib.hid (by simp)
  obtain ⟨ds, hds⟩ : ∃ d, bs ++ numB L = d := ⟨_, rfl⟩
  rw [hds] at HO HL
  have HE : Hid (ds = bs ++ numB L ++ (xs.take 0).flatMap numB) := Lib.hid (by rw [← hds]; simp)
  clear hds K1
  go_wp2_with fail
  go_loopw [0, 16] (fun out i wx => ∃ (j : Nat) (ds : List Nat), i = .int .i64 (j : Int) ∧ j ≤ L ∧ Hid (OutR X wx out ds) ∧ Hid (KB X w wx) ∧ Hid (ds = bs ++ numB L ++ (xs.take j).flatMap numB) ∧ Hid (ds.length ≤ bs.length + 10 + 10 * j)) (fun _ i _ => L - (intOf i).toNat)
  case atStart => exact ⟨0, ds, rfl, Nat.zero_le _, HO, HK, HE, HL⟩
  case round =>
    clear HO HK HE HL
    obtain ⟨j, ds, rfl, hj, HO, HK, HE, HL⟩ := hrel
    rename World => wr
    obtain ⟨r9, k9, c9, rfl⟩ := HO.out.form
    have hXr : X ≤ wr.heap.size := Nat.le_trans hX HK.out.size
    by_cases hlt : j < L
    · obtain ⟨x, hx⟩ : ∃ x, xs[j]? = some x := ⟨xs[j]'(by have := HLL.out; omega), List.getElem?_eq_getElem (by have := HLL.out; omega)⟩
      have hxo := HOK.out x (List.mem_of_getElem? hx)
      have hst := HR.out.stay (w' := wr) (HXE.out.symm ▸ HB.out.trans HK.out.below)
      obtain ⟨gA, oA, rfl, hgA, hcA⟩ := hst.at hx
      have y0 := hcA 0 (.int .u16 (x : Int)) rfl
      simp only [Nat.add_zero, Nat.mul_one] at y0
      have t2 : decide ((j : Int) < (L : Int)) = true := decide_eq_true (by omega)
      have HE2 : Hid (ds ++ numB x = bs ++ numB L ++ (xs.take (j + 1)).flatMap numB) := Lib.hid (by
        rw [HE.out, List.take_add_one, hx, Option.toList_some, List.flatMap_append, List.flatMap_cons, List.flatMap_nil]
        simp only [List.append_assoc, List.append_nil])
      have HL2 : Hid ((ds ++ numB x).length ≤ bs.length + 10 + 10 * (j + 1)) := Lib.hid (by
        rw [List.length_append]
        have := HL.out
        have h9 : (numB x).length ≤ 10 := numB_len10 (by omega)
        omega)
      have hdl : ds.length ≤ 90000000 := by have := HL.out; omega
      clear hcA hst HE HL hx
      have HO1 := HO
      have HK1 := HK
      have hX6 := hXr
      go_wp2_with (go_at_call 48; refine (putent_c X x _ ds _ (.inl HO1.out) hX6 hxo (by omega)).mono ?_; rintro e w3 ⟨r3, k3, c3, rfl, o3, h3⟩; have HO3 := Lib.hid o3; have HK3 := Lib.hid (HK1.out.trans h3); clear o3 h3)
      go_round
      case rel => exact ⟨j + 1, _, rfl, by omega, HO3, HK3, HE2, HL2⟩
      case measure =>
        show L - ((j : Int) + 1).toNat < L - ((j : Int)).toNat
        omega
    · obtain rfl : j = L := by omega
      have t2 : decide ((j : Int) < (j : Int)) = false := decide_eq_false (by omega)
      have e9 : ds = F := by
        rw [HE.out, List.take_of_length_le (Nat.le_of_eq HLL.out), ← HF.out, List.append_assoc]
        unfold encL
        rw [HLL.out]
      clear HE HL HF
      subst e9
      go_wp2_with fail
      go_ret
      exact ⟨_, _, _, rfl, HO.out, HK.out⟩
set_option maxHeartbeats 1000000 in
set_option maxRecDepth 100000 in
theorem putall_d (w0 : World) (v va : Value) (bs : List Nat) (xs : List Int) (w : World) (hB : Below w0.heap.size w0 w) (h : OutV w0.heap.size w v bs) (hR : Recs dcl 1 w0 va xs) (hok : ∀ a ∈ xs, -2147483648 ≤ a ∧ a ≤ 2147483647) (hn : xs.length ≤ 2000) (hl : bs.length ≤ 80000000) :
    Calls Tryz.prog 49 #[v, va, .func (.func 50) #[] #[]] w fun e w' => ∃ r k c, e = .returned (.slice r k c) ∧ OutR w0.heap.size w' (.slice r k c) (bs ++ encL sigB xs) ∧ KB w0.heap.size w w' := by
  obtain ⟨r0, k0, c0, rfl⟩ := h.form
  obtain ⟨r1, c1, rfl, hm⟩ := hR.form
  have hX : w0.heap.size ≤ w.heap.size := hB.size
  obtain ⟨L, hL⟩ : ∃ n, xs.length = n := ⟨_, rfl⟩
  obtain ⟨F, hF⟩ : ∃ F, bs ++ encL sigB xs = F := ⟨_, rfl⟩
  obtain ⟨X, hXe⟩ : ∃ X, w0.heap.size = X := ⟨_, rfl⟩
  have K1 := Lib.hid (putnum_c w0.heap.size L _ bs w h hX (by omega) (by omega))
  rw [hL] at hR hm hn
  rw [hL, hF, hXe]
  have HB := Lib.hid hB
  have HR := Lib.hid hR
  have HLL := Lib.hid hL
  have HF := Lib.hid hF
  have HXE := Lib.hid hXe
  rw [hXe] at K1 hX HB
  have HOK := Lib.hid hok
  clear hok
  have t1 : IntKind.u64.wrap (L : Int) = (L : Int) := by rw [IntKind.wrap_u64]; omega
  clear hB h hR hL hF hXe
  go_enter Tryz.func49, Tryz.ntmps49
  go_upto_region 2 with (go_at_call 66; refine K1.out.mono ?_; rintro e w2 ⟨r, k, c, rfl, o2, h2⟩; have HO := Lib.hid o2; have HK := Lib.hid h2; clear o2 h2)
  have HL : Hid ((bs ++ numB L).length ≤ bs.length + 10 + 10 * 0) := Lib.hid (by rw [List.length_append]; have := numB_len10 (n := L) (by omega); omega)
  have HE : Hid (bs ++ numB L = bs ++ numB L ++ (xs.take 0).flatMap sigB) := Lib.hid (by simp)
  obtain ⟨ds, hds⟩ : ∃ d, bs ++ numB L = d := ⟨_, rfl⟩
  rw [hds] at HO HL
  have HE : Hid (ds = bs ++ numB L ++ (xs.take 0).flatMap sigB) := Lib.hid (by rw [← hds]; simp)
  clear hds K1
  go_wp2_with fail
  go_loopw [0, 16] (fun out i wx => ∃ (j : Nat) (ds : List Nat), i = .int .i64 (j : Int) ∧ j ≤ L ∧ Hid (OutR X wx out ds) ∧ Hid (KB X w wx) ∧ Hid (ds = bs ++ numB L ++ (xs.take j).flatMap sigB) ∧ Hid (ds.length ≤ bs.length + 10 + 10 * j)) (fun _ i _ => L - (intOf i).toNat)
  case atStart => exact ⟨0, ds, rfl, Nat.zero_le _, HO, HK, HE, HL⟩
  case round =>
    clear HO HK HE HL
    obtain ⟨j, ds, rfl, hj, HO, HK, HE, HL⟩ := hrel
    rename World => wr
    obtain ⟨r9, k9, c9, rfl⟩ := HO.out.form
    have hXr : X ≤ wr.heap.size := Nat.le_trans hX HK.out.size
    by_cases hlt : j < L
    · obtain ⟨x, hx⟩ : ∃ x, xs[j]? = some x := ⟨xs[j]'(by have := HLL.out; omega), List.getElem?_eq_getElem (by have := HLL.out; omega)⟩
      have hxo := HOK.out x (List.mem_of_getElem? hx)
      have hst := HR.out.stay (w' := wr) (HXE.out.symm ▸ HB.out.trans HK.out.below)
      obtain ⟨gA, oA, rfl, hgA, hcA⟩ := hst.at hx
      have y0 := hcA 0 (.int .i32 x) rfl
      simp only [Nat.add_zero, Nat.mul_one] at y0
      have t2 : decide ((j : Int) < (L : Int)) = true := decide_eq_true (by omega)
      have HE2 : Hid (ds ++ sigB x = bs ++ numB L ++ (xs.take (j + 1)).flatMap sigB) := Lib.hid (by
        rw [HE.out, List.take_add_one, hx, Option.toList_some, List.flatMap_append, List.flatMap_cons, List.flatMap_nil]
        simp only [List.append_assoc, List.append_nil])
      have HL2 : Hid ((ds ++ sigB x).length ≤ bs.length + 10 + 10 * (j + 1)) := Lib.hid (by
        rw [List.length_append]
        have := HL.out
        have h9 : (sigB x).length ≤ 10 := sigB_len (by omega)
        omega)
      have hdl : ds.length ≤ 90000000 := by have := HL.out; omega
      clear hcA hst HE HL hx
      have HO1 := HO
      have HK1 := HK
      have hX6 := hXr
      go_wp2_with (go_at_call 50; refine (putday_c X x _ ds _ (.inl HO1.out) hX6 hxo (by omega)).mono ?_; rintro e w3 ⟨r3, k3, c3, rfl, o3, h3⟩; have HO3 := Lib.hid o3; have HK3 := Lib.hid (HK1.out.trans h3); clear o3 h3)
      go_round
      case rel => exact ⟨j + 1, _, rfl, by omega, HO3, HK3, HE2, HL2⟩
      case measure =>
        show L - ((j : Int) + 1).toNat < L - ((j : Int)).toNat
        omega
    · obtain rfl : j = L := by omega
      have t2 : decide ((j : Int) < (j : Int)) = false := decide_eq_false (by omega)
      have e9 : ds = F := by
        rw [HE.out, List.take_of_length_le (Nat.le_of_eq HLL.out), ← HF.out, List.append_assoc]
        unfold encL
        rw [HLL.out]
      clear HE HL HF
      subst e9
      go_wp2_with fail
      go_ret
      exact ⟨_, _, _, rfl, HO.out, HK.out⟩
set_option maxHeartbeats 1000000 in
set_option maxRecDepth 100000 in
theorem putall_l (w0 : World) (v va : Value) (bs : List Nat) (xs : List Ln) (w : World) (hB : Below w0.heap.size w0 w) (h : OutV w0.heap.size w v bs) (hR : Recs lc 4 w0 va xs) (hn : xs.length ≤ 2000) (hl : bs.length ≤ 80000000) :
    Calls Tryz.prog 68 #[v, va, .func (.func 69) #[] #[]] w fun e w' => ∃ r k c, e = .returned (.slice r k c) ∧ OutR w0.heap.size w' (.slice r k c) (bs ++ encL encLn xs) ∧ KB w0.heap.size w w' := by
  obtain ⟨r0, k0, c0, rfl⟩ := h.form
  obtain ⟨r1, c1, rfl, hm⟩ := hR.form
  have hX : w0.heap.size ≤ w.heap.size := hB.size
  obtain ⟨L, hL⟩ : ∃ n, xs.length = n := ⟨_, rfl⟩
  obtain ⟨F, hF⟩ : ∃ F, bs ++ encL encLn xs = F := ⟨_, rfl⟩
  obtain ⟨X, hXe⟩ : ∃ X, w0.heap.size = X := ⟨_, rfl⟩
  have K1 := Lib.hid (putnum_c w0.heap.size L _ bs w h hX (by omega) (by omega))
  rw [hL] at hR hm hn
  rw [hL, hF, hXe]
  have HB := Lib.hid hB
  have HR := Lib.hid hR
  have HLL := Lib.hid hL
  have HF := Lib.hid hF
  have HXE := Lib.hid hXe
  rw [hXe] at K1 hX HB
  have t1 : IntKind.u64.wrap (L : Int) = (L : Int) := by rw [IntKind.wrap_u64]; omega
  clear hB h hR hL hF hXe
  go_enter Tryz.func68, Tryz.ntmps68
  go_upto_region 2 with (go_at_call 66; refine K1.out.mono ?_; rintro e w2 ⟨r, k, c, rfl, o2, h2⟩; have HO := Lib.hid o2; have HK := Lib.hid h2; clear o2 h2)
  have HL : Hid ((bs ++ numB L).length ≤ bs.length + 10 + 40 * 0) := Lib.hid (by rw [List.length_append]; have := numB_len10 (n := L) (by omega); omega)
  have HE : Hid (bs ++ numB L = bs ++ numB L ++ (xs.take 0).flatMap encLn) := Lib.hid (by simp)
  obtain ⟨ds, hds⟩ : ∃ d, bs ++ numB L = d := ⟨_, rfl⟩
  rw [hds] at HO HL
  have HE : Hid (ds = bs ++ numB L ++ (xs.take 0).flatMap encLn) := Lib.hid (by rw [← hds]; simp)
  clear hds K1
  go_wp2_with fail
  go_loopw [0, 16] (fun out i wx => ∃ (j : Nat) (ds : List Nat), i = .int .i64 (j : Int) ∧ j ≤ L ∧ Hid (OutR X wx out ds) ∧ Hid (KB X w wx) ∧ Hid (ds = bs ++ numB L ++ (xs.take j).flatMap encLn) ∧ Hid (ds.length ≤ bs.length + 10 + 40 * j)) (fun _ i _ => L - (intOf i).toNat)
  case atStart => exact ⟨0, ds, rfl, Nat.zero_le _, HO, HK, HE, HL⟩
  case round =>
    clear HO HK HE HL
    obtain ⟨j, ds, rfl, hj, HO, HK, HE, HL⟩ := hrel
    rename World => wr
    obtain ⟨r9, k9, c9, rfl⟩ := HO.out.form
    have hXr : X ≤ wr.heap.size := Nat.le_trans hX HK.out.size
    by_cases hlt : j < L
    · obtain ⟨x, hx⟩ : ∃ x, xs[j]? = some x := ⟨xs[j]'(by have := HLL.out; omega), List.getElem?_eq_getElem (by have := HLL.out; omega)⟩
      have hst := HR.out.stay (w' := wr) (HXE.out.symm ▸ HB.out.trans HK.out.below)
      obtain ⟨gA, oA, rfl, hgA, hcA⟩ := hst.at hx
      have y0 := hcA 0 (.int .u32 (x.acc : Int)) rfl
      have y1 := hcA 1 (.int .u16 (x.ent.n : Int)) rfl
      have y2 := hcA 2 (.int .u16 (x.ctr : Int)) rfl
      have y3 := hcA 3 (.int .i64 x.amt) rfl
      simp only [Nat.add_zero, Nat.mul_one] at y0
      have t2 : decide ((j : Int) < (L : Int)) = true := decide_eq_true (by omega)
      have HE2 : Hid (ds ++ encLn x = bs ++ numB L ++ (xs.take (j + 1)).flatMap encLn) := Lib.hid (by
        rw [HE.out, List.take_add_one, hx, Option.toList_some, List.flatMap_append, List.flatMap_cons, List.flatMap_nil]
        simp only [List.append_assoc, List.append_nil])
      have HL2 : Hid ((ds ++ encLn x).length ≤ bs.length + 10 + 40 * (j + 1)) := Lib.hid (by
        rw [List.length_append]
        have := HL.out
        have h9 : (encLn x).length ≤ 40 := encLw_len x
        omega)
      have hdl : ds.length ≤ 90000000 := by have := HL.out; omega
      clear hcA hst HE HL hx
      go_upto_region 5 with fail
      have HQ : Hid (QBox (wr.alloc (.cells #[.int .u32 (x.acc : Int), .int .u16 (x.ent.n : Int), .int .u16 (x.ctr : Int), .int .i64 x.amt] 116)) wr.heap.size [.int .u32 (x.acc : Int), .int .u16 (x.ent.n : Int), .int .u16 (x.ctr : Int), .int .i64 x.amt] 116) := Lib.hid (QBox.new wr [.int .u32 (x.acc : Int), .int .u16 (x.ent.n : Int), .int .u16 (x.ctr : Int), .int .i64 x.amt] 116)
      have HO1 := Lib.hid (HO.out.stay ((Below.refl wr.heap.size wr).alloc (Nat.le_refl _) (.cells #[.int .u32 (x.acc : Int), .int .u16 (x.ent.n : Int), .int .u16 (x.ctr : Int), .int .i64 x.amt] 116)))
      have HK1 := Lib.hid (HK.out.alloc hX (.cells #[.int .u32 (x.acc : Int), .int .u16 (x.ent.n : Int), .int .u16 (x.ctr : Int), .int .i64 x.amt] 116))
      clear HO HK y0 y1 y2 y3 hXr
      generalize wr.alloc (.cells #[.int .u32 (x.acc : Int), .int .u16 (x.ent.n : Int), .int .u16 (x.ctr : Int), .int .i64 x.amt] 116) = w6 at HQ HO1 HK1 ⊢
      have hX6 : X ≤ w6.heap.size := Nat.le_trans hX HK1.out.size
      have y0 := HQ.out.cell (j := 0) rfl
      have y1 := HQ.out.cell (j := 1) rfl
      have y2 := HQ.out.cell (j := 2) rfl
      have y3 := HQ.out.cell (j := 3) rfl
      go_wp2_with (go_at_call 69; refine (putline_c X x _ ds _ HO1.out hX6 hdl).mono ?_; rintro e w3 ⟨r3, k3, c3, rfl, o3, h3⟩; have HO3 := Lib.hid o3; have HK3 := Lib.hid (HK1.out.trans h3); clear o3 h3)
      go_round
      case rel => exact ⟨j + 1, _, rfl, by omega, HO3, HK3, HE2, HL2⟩
      case measure =>
        show L - ((j : Int) + 1).toNat < L - ((j : Int)).toNat
        omega
    · obtain rfl : j = L := by omega
      have t2 : decide ((j : Int) < (j : Int)) = false := decide_eq_false (by omega)
      have e9 : ds = F := by
        rw [HE.out, List.take_of_length_le (Nat.le_of_eq HLL.out), ← HF.out, List.append_assoc]
        unfold encL
        rw [HLL.out]
      clear HE HL HF
      subst e9
      go_wp2_with fail
      go_ret
      exact ⟨_, _, _, rfl, HO.out, HK.out⟩
end Go.Proofs.YtafmakhhdinknaaGreatDoor
/- Contracts of codec's putJournal, putAll at journals, Encode. -/
namespace Go.Proofs.YtafmakhhdinknaaGreatDoor
open Go.RowKit
set_option linter.unusedVariables false
set_option linter.unusedSimpArgs false
theorem BM.drew {X Y : Nat} {w W : World} {T : TypeId} {cs : List Value} {v : Value} {bs : List Nat} (h : BM X Y w W T cs v bs) : BM X Y w W.drew T cs v bs :=
  ⟨h.hX, h.box.stay (Below.refl _ _).drew, h.out.stay (Below.refl _ _).drew, h.kb.trans (KB.of (Below.refl _ _).drew h.size)⟩
set_option maxHeartbeats 2000000 in
set_option maxRecDepth 100000 in
theorem putjour_c (w0 : World) (v : Value) (bs : List Nat) (d : Int) (vl : Value) (ls : List Ln) (w : World) (hB : Below w0.heap.size w0 w) (h : OutR w0.heap.size w v bs) (hR : Recs lc 4 w0 vl ls) (hd : -2147483648 ≤ d ∧ d ≤ 2147483647) (hn : ls.length ≤ 100) (hl : bs.length ≤ 70000000) :
    Calls Tryz.prog 52 #[v, .agg #[.int .i32 d, vl]] w fun e w' => ∃ r k c, e = .returned (.slice r k c) ∧ OutR w0.heap.size w' (.slice r k c) (bs ++ encJ (d, ls)) ∧ KB w0.heap.size w w' := by
  have hmix : Tryz.prog.follows .mixedOrders = true := by kernel_rfl
  obtain ⟨r0, k0, c0, rfl⟩ := h.form
  obtain ⟨r1, c1, rfl, hm⟩ := hR.form
  have hX : w0.heap.size ≤ w.heap.size := hB.size
  obtain ⟨vl, hvl⟩ : ∃ u, Value.slice r1 ls.length c1 = u := ⟨_, rfl⟩
  rw [hvl] at hR ⊢
  have HM := Lib.hid (BM.start hX h 94 [.int .i32 d, vl])
  have HB := Lib.hid hB
  have HL := Lib.hid hl
  have K2 := Lib.hid (fun (v : Value) (bs : List Nat) (w' : World) (hB : Below w0.heap.size w0 w') (h : OutR w0.heap.size w' v bs) (hl : bs.length ≤ 80000000) => putall_l w0 v vl bs ls w' hB (.inl h) hR (by omega) hl)
  obtain ⟨F, hF⟩ : ∃ F, bs ++ encJ (d, ls) = F := ⟨_, rfl⟩
  obtain ⟨X, hXe⟩ : ∃ X, w0.heap.size = X := ⟨_, rfl⟩
  have HF := Lib.hid hF
  rw [hF]
  rw [hXe] at HM HB K2 hX ⊢
  have HXE := Lib.hid hXe
  subst hvl
  clear h hl hB hF hR hXe
  go_enter Tryz.func52, Tryz.ntmps52
  go_upto_region 1 with fail
  generalize w.alloc (.cells #[.int .i32 d, .slice r1 ls.length c1] 94) = W0 at HM ⊢
  have x0 := HM.out.box.cell (j := 0) rfl
  have x1 := HM.out.box.cell (j := 1) rfl
  have HB0 : Hid (Below X w0 W0) := Lib.hid (HB.out.trans HM.out.kb.below)
  have hl2 : (bs ++ sigB d).length ≤ 80000000 := by rw [List.length_append]; have := HL.out; have := sigB_len (z := d) (by omega); omega
  have hl1 : bs.length ≤ 100000000 := by have := HL.out; omega
  have hX0 : X ≤ W0.heap.size := HM.out.size
  have K1 : Hid (Calls Tryz.prog 50 #[.slice r0 k0 c0, .int .i32 d] W0.drew fun e w2 => ∃ r2 k2 c2, e = .returned (.slice r2 k2 c2) ∧ BM X w.heap.size w w2 94 [.int .i32 d, .slice r1 ls.length c1] (.slice r2 k2 c2) (bs ++ sigB d) ∧ Below X w0 w2) := Lib.hid (by
    have HD := HM.out.drew
    refine (putday_c X d _ bs _ (.inl HD.out) HD.size hd hl1).mono ?_
    rintro e w2 ⟨r2, k2, c2, rfl, o2, h2⟩
    exact ⟨_, _, _, rfl, HD.put o2 h2 (by decide), HB0.out.drew.trans h2.below⟩)
  have K3 : Hid (∀ (w2 : World) (r2 : Option Addr) (k2 c2 : Nat), BM X w.heap.size w w2 94 [.int .i32 d, .slice r1 ls.length c1] (.slice r2 k2 c2) (bs ++ sigB d) → Below X w0 w2 → Calls Tryz.prog 68 #[.slice r2 k2 c2, .slice r1 ls.length c1, .func (.func 69) #[] #[]] w2 fun e w3 => ∃ r3 k3 c3, e = .returned (.slice r3 k3 c3) ∧ OutR X w3 (.slice r3 k3 c3) F ∧ KB X w w3) := Lib.hid (by
    intro w2 r2 k2 c2 m2 b2
    refine (K2.out _ _ _ b2 m2.out hl2).mono ?_
    rintro e w3 ⟨r3, k3, c3, rfl, o3, h3⟩
    refine ⟨_, _, _, rfl, ?_, m2.kb.trans h3⟩
    rw [List.append_assoc] at o3
    rw [← HF.out]
    exact o3)
  clear K2 HB HB0 HL HF
  go_region_with (first
    | (go_at_call 68; refine (K3.out _ _ _ _ M2.out B2.out).mono ?_; rintro e w3 ⟨r3, k3, c3, rfl, o3, h3⟩; have HO3 := Lib.hid o3; have HK3 := Lib.hid h3; clear o3 h3)
    | (go_at_call 50; refine K1.out.mono ?_; rintro e w2 ⟨r2, k2, c2, rfl, m2, b2⟩; have M2 := Lib.hid m2; have B2 := Lib.hid b2; have y1 := m2.box.cell (j := 1) rfl; clear m2 b2))
  all_goals
    go_wp2
    go_ret
    exact ⟨_, _, _, rfl, HO3.out, HK3.out⟩
def encJm (p : Jm) : List Nat := encJ (jOf p)
theorem encL_jm (vs : List Jm) : encL encJm vs = encL encJ (vs.map jOf) := by
  unfold encL
  rw [List.length_map, List.flatMap_map]
  rfl
set_option maxHeartbeats 1000000 in
set_option maxRecDepth 100000 in
theorem putall_j (w0 : World) (v va : Value) (bs : List Nat) (xs : List Jm) (w : World) (hB : Below w0.heap.size w0 w) (h : OutV w0.heap.size w v bs) (hR : Recs jc 2 w0 va xs) (hls : ∀ p ∈ xs, Recs lc 4 w0 p.2.1 p.2.2) (hok : ∀ p ∈ xs, OkJw (jOf p)) (hn : xs.length ≤ 2000) (hl : bs.length ≤ 40000000) :
    Calls Tryz.prog 51 #[v, va, .func (.func 52) #[] #[]] w fun e w' => ∃ r k c, e = .returned (.slice r k c) ∧ OutR w0.heap.size w' (.slice r k c) (bs ++ encL encJm xs) ∧ KB w0.heap.size w w' := by
  obtain ⟨r0, k0, c0, rfl⟩ := h.form
  obtain ⟨r1, c1, rfl, hm⟩ := hR.form
  have hX : w0.heap.size ≤ w.heap.size := hB.size
  obtain ⟨L, hL⟩ : ∃ n, xs.length = n := ⟨_, rfl⟩
  obtain ⟨F, hF⟩ : ∃ F, bs ++ encL encJm xs = F := ⟨_, rfl⟩
  obtain ⟨X, hXe⟩ : ∃ X, w0.heap.size = X := ⟨_, rfl⟩
  have K1 := Lib.hid (putnum_c w0.heap.size L _ bs w h hX (by omega) (by omega))
  rw [hL] at hR hm hn
  rw [hL, hF, hXe]
  have HB := Lib.hid hB
  have HR := Lib.hid hR
  have HLL := Lib.hid hL
  have HF := Lib.hid hF
  have HXE := Lib.hid hXe
  rw [hXe] at K1 hX HB
  have HOK := Lib.hid hok
  have HLS := Lib.hid hls
  have KJ := Lib.hid (fun (v : Value) (bs : List Nat) (d : Int) (vl : Value) (ls : List Ln) (w : World) (hB : Below w0.heap.size w0 w) (h : OutR w0.heap.size w v bs) (hR : Recs lc 4 w0 vl ls) (hd : -2147483648 ≤ d ∧ d ≤ 2147483647) (hn : ls.length ≤ 100) (hl : bs.length ≤ 70000000) => putjour_c w0 v bs d vl ls w hB h hR hd hn hl)
  rw [HXE.out] at KJ
  clear hok hls
  have t1 : IntKind.u64.wrap (L : Int) = (L : Int) := by rw [IntKind.wrap_u64]; omega
  clear hB h hR hL hF hXe
  go_enter Tryz.func51, Tryz.ntmps51
  go_upto_region 2 with (go_at_call 66; refine K1.out.mono ?_; rintro e w2 ⟨r, k, c, rfl, o2, h2⟩; have HO := Lib.hid o2; have HK := Lib.hid h2; clear o2 h2)
  have HL : Hid ((bs ++ numB L).length ≤ bs.length + 10 + 4020 * 0) := Lib.hid (by rw [List.length_append]; have := numB_len10 (n := L) (by omega); omega)
  have HE : Hid (bs ++ numB L = bs ++ numB L ++ (xs.take 0).flatMap encJm) := Lib.hid (by simp)
  obtain ⟨ds, hds⟩ : ∃ d, bs ++ numB L = d := ⟨_, rfl⟩
  rw [hds] at HO HL
  have HE : Hid (ds = bs ++ numB L ++ (xs.take 0).flatMap encJm) := Lib.hid (by rw [← hds]; simp)
  clear hds K1
  go_wp2_with fail
  go_loopw [0, 16] (fun out i wx => ∃ (j : Nat) (ds : List Nat), i = .int .i64 (j : Int) ∧ j ≤ L ∧ Hid (OutR X wx out ds) ∧ Hid (KB X w wx) ∧ Hid (ds = bs ++ numB L ++ (xs.take j).flatMap encJm) ∧ Hid (ds.length ≤ bs.length + 10 + 4020 * j)) (fun _ i _ => L - (intOf i).toNat)
  case atStart => exact ⟨0, ds, rfl, Nat.zero_le _, HO, HK, HE, HL⟩
  case round =>
    clear HO HK HE HL
    obtain ⟨j, ds, rfl, hj, HO, HK, HE, HL⟩ := hrel
    rename World => wr
    obtain ⟨r9, k9, c9, rfl⟩ := HO.out.form
    have hXr : X ≤ wr.heap.size := Nat.le_trans hX HK.out.size
    by_cases hlt : j < L
    · obtain ⟨x, hx⟩ : ∃ x, xs[j]? = some x := ⟨xs[j]'(by have := HLL.out; omega), List.getElem?_eq_getElem (by have := HLL.out; omega)⟩
      obtain ⟨d, vl, ls⟩ := x
      have hxo : OkJw (d, ls) := HOK.out _ (List.mem_of_getElem? hx)
      have hxl : Recs lc 4 w0 vl ls := HLS.out _ (List.mem_of_getElem? hx)
      obtain ⟨rl, cl, rfl, hml⟩ := hxl.form
      have hst := HR.out.stay (w' := wr) (HXE.out.symm ▸ HB.out.trans HK.out.below)
      obtain ⟨gA, oA, rfl, hgA, hcA⟩ := hst.at hx
      have y0 := hcA 0 (.int .i32 d) rfl
      have y1 := hcA 1 (.slice rl ls.length cl) rfl
      simp only [Nat.add_zero, Nat.mul_one] at y0
      have t2 : decide ((j : Int) < (L : Int)) = true := decide_eq_true (by omega)
      have HE2 : Hid (ds ++ encJm (d, .slice rl ls.length cl, ls) = bs ++ numB L ++ (xs.take (j + 1)).flatMap encJm) := Lib.hid (by
        rw [HE.out, List.take_add_one, hx, Option.toList_some, List.flatMap_append, List.flatMap_cons, List.flatMap_nil]
        simp only [List.append_assoc, List.append_nil])
      have HL2 : Hid ((ds ++ encJm (d, .slice rl ls.length cl, ls)).length ≤ bs.length + 10 + 4020 * (j + 1)) := Lib.hid (by
        rw [List.length_append]
        have := HL.out
        have h9 : (encJm (d, .slice rl ls.length cl, ls)).length ≤ 4020 := encJw_len hxo
        omega)
      have hdl : ds.length ≤ 60000000 := by have := HL.out; omega
      clear hcA hst HE HL hx
      go_upto_region 5 with fail
      have HQ : Hid (QBox (wr.alloc (.cells #[.int .i32 d, .slice rl ls.length cl] 94)) wr.heap.size [.int .i32 d, .slice rl ls.length cl] 94) := Lib.hid (QBox.new wr [.int .i32 d, .slice rl ls.length cl] 94)
      have HO1 := Lib.hid (HO.out.stay ((Below.refl wr.heap.size wr).alloc (Nat.le_refl _) (.cells #[.int .i32 d, .slice rl ls.length cl] 94)))
      have HK1 := Lib.hid (HK.out.alloc hX (.cells #[.int .i32 d, .slice rl ls.length cl] 94))
      clear HO HK y0 y1 hXr
      generalize wr.alloc (.cells #[.int .i32 d, .slice rl ls.length cl] 94) = w6 at HQ HO1 HK1 ⊢
      have hX6 : X ≤ w6.heap.size := Nat.le_trans hX HK1.out.size
      have y0 := HQ.out.cell (j := 0) rfl
      have y1 := HQ.out.cell (j := 1) rfl
      go_wp2_with (go_at_call 52; refine (KJ.out _ ds d (.slice rl ls.length cl) ls _ (HB.out.trans HK1.out.below) HO1.out hxl hxo.1 hxo.2.1 (by omega)).mono ?_; rintro e w3 ⟨r3, k3, c3, rfl, o3, h3⟩; have HO3 := Lib.hid o3; have HK3 := Lib.hid (HK1.out.trans h3); clear o3 h3)
      go_round
      case rel => exact ⟨j + 1, _, rfl, by omega, HO3, HK3, HE2, HL2⟩
      case measure =>
        show L - ((j : Int) + 1).toNat < L - ((j : Int)).toNat
        omega
    · obtain rfl : j = L := by omega
      have t2 : decide ((j : Int) < (j : Int)) = false := decide_eq_false (by omega)
      have e9 : ds = F := by
        rw [HE.out, List.take_of_length_le (Nat.le_of_eq HLL.out), ← HF.out, List.append_assoc]
        unfold encL
        rw [HLL.out]
      clear HE HL HF
      subst e9
      go_wp2_with fail
      go_ret
      exact ⟨_, _, _, rfl, HO.out, HK.out⟩
end Go.Proofs.YtafmakhhdinknaaGreatDoor
/- Contract of codec's Encode. -/
namespace Go.Proofs.YtafmakhhdinknaaGreatDoor
open Go.RowKit
set_option linter.unusedVariables false
set_option linter.unusedSimpArgs false
theorem mark_cells (w : World) (o : Obj) : ∀ j u, (([84, 82, 80, 49] : List Nat).flatMap byc)[j]? = some u → ((w.alloc o).alloc (.cells #[.int .u8 84, .int .u8 82, .int .u8 80, .int .u8 49] 5 (4, 5))).cell? ((⟨w.heap.size + 1, 0, none⟩ : Addr).add j) = some u := by
  intro j u hu
  have e : (⟨w.heap.size + 1, 0, none⟩ : Addr).add j = ⟨w.heap.size + 1, j, none⟩ := by unfold Addr.add; split <;> simp_all
  rw [e]
  have h := heap_alloc_new (w.alloc o) (.cells #[.int .u8 84, .int .u8 82, .int .u8 80, .int .u8 49] 5 (4, 5))
  have h2 : (w.alloc o).heap.size = w.heap.size + 1 := by simp
  rw [h2] at h
  unfold World.cell?
  simp only [h]
  rcases j with _ | _ | _ | _ | j
  · exact hu
  · exact hu
  · exact hu
  · exact hu
  · have hu' : (none : Option Value) = some u := hu
    cases hu'
/-- What Encode holds on its way. -/
structure EMd (w W : World) (X : Nat) (cs : List Value) (v : Value) (bs : List Nat) : Prop where
  below : Below w.heap.size w W
  box : QBox W X cs 67
  out : OutR w.heap.size W v bs
theorem EMd.put {w W W' : World} {X : Nat} {cs : List Value} {v v' : Value} {bs bs' : List Nat} (h : EMd w W X cs v bs) (ho : OutR w.heap.size W' v' bs') (hk : KB w.heap.size W W') : EMd w W' X cs v' bs' :=
  ⟨h.below.trans hk.below, h.box.kb hk (by decide), ho⟩
set_option maxHeartbeats 2000000 in
set_option maxRecDepth 100000 in
theorem dencode_c (vC vU vS vJ : Value) (f : Fr) (vs : List Jm) (w : World) (hF : FrM f vC vU vS w) (hJ : JRow w vJ vs) (hok : OkBw (bdOf f (vs.map jOf))) :
    Calls Tryz.prog 24 #[bkV vC vU vS f.E vJ] w fun e w' => ∃ v', e = .returned v' ∧ w'.ownsRow w.heap.size 5 1 v' (encB f (vs.map jOf)).length ((encB f (vs.map jOf)).flatMap byc) ∧ Below w.heap.size w w' := by
  obtain ⟨⟨c1, c2⟩, ⟨u1, u2⟩, ⟨s1, s2⟩, he, ⟨j1, j2⟩⟩ := hok
  simp only [bdOf] at c1 c2 u1 u2 s1 s2 he j1 j2
  rw [List.length_map] at j1
  have KA := Lib.hid (fun (v : Value) (bs : List Nat) (w' : World) (hB : Below w.heap.size w w') (h : OutV w.heap.size w' v bs) (hl : bs.length ≤ 80000000) => putall_a w v vC bs f.C w' hB h hF.c c2 (by omega) hl)
  have KU := Lib.hid (fun (v : Value) (bs : List Nat) (w' : World) (hB : Below w.heap.size w w') (h : OutV w.heap.size w' v bs) (hl : bs.length ≤ 80000000) => putall_u w v vU bs f.U w' hB h hF.u u2 (by omega) hl)
  have KS := Lib.hid (fun (v : Value) (bs : List Nat) (w' : World) (hB : Below w.heap.size w w') (h : OutV w.heap.size w' v bs) (hl : bs.length ≤ 80000000) => putall_d w v vS bs f.S w' hB h hF.s s2 (by omega) hl)
  have KE := Lib.hid (fun (v : Value) (bs : List Nat) (w' : World) (hB : Below w.heap.size w w') (h : OutV w.heap.size w' v bs) (hl : bs.length ≤ 80000000) => putday_c w.heap.size f.E v bs w' h hB.size he (by omega))
  have KJ := Lib.hid (fun (v : Value) (bs : List Nat) (w' : World) (hB : Below w.heap.size w w') (h : OutV w.heap.size w' v bs) (hl : bs.length ≤ 40000000) => putall_j w v vJ bs vs w' hB h hJ.1 hJ.2 (fun p hp => j2 _ (List.mem_map.2 ⟨p, hp, rfl⟩)) j1 hl)
  have l1 : (encL encA f.C).length ≤ 30000 := by
    have := encL_le encA 70 f.C (fun x hx => encAw_len (c2 x hx)) (by omega)
    have : f.C.length * 70 ≤ 300 * 70 := Nat.mul_le_mul_right _ c1
    omega
  have l2 : (encL numB f.U).length ≤ 30000 := by
    have := encL_le numB 10 f.U (fun x hx => numB_len10 (by have := u2 x hx; omega)) (by omega)
    have : f.U.length * 10 ≤ 100 * 10 := Nat.mul_le_mul_right _ u1
    omega
  have l3 : (encL sigB f.S).length ≤ 30000 := by
    have := encL_le sigB 10 f.S (fun x hx => sigB_len (by have := s2 x hx; omega)) (by omega)
    have : f.S.length * 10 ≤ 100 * 10 := Nat.mul_le_mul_right _ s1
    omega
  have l4 := sigB_len (z := f.E) (by omega)
  have e5 := encL_jm vs
  obtain ⟨rC, cC, rfl, mC⟩ := hF.c.form
  obtain ⟨rU, cU, rfl, mU⟩ := hF.u.form
  obtain ⟨rS, cS, rfl, mS⟩ := hF.s.form
  obtain ⟨rJ, cJ, rfl, mJ⟩ := hJ.1.form
  unfold bkV
  obtain ⟨F, hFF⟩ : ∃ F, encB f (vs.map jOf) = F := ⟨_, rfl⟩
  have HF : Hid ([84, 82, 80, 49] ++ encL encA f.C ++ encL numB f.U ++ encL sigB f.S ++ sigB f.E ++ encL encJm vs = F) := Lib.hid (by
    rw [← hFF, e5]
    unfold encB encBd bdOf
    simp only [List.append_assoc])
  rw [hFF]
  generalize encL encA f.C = L1 at KA l1 HF
  generalize encL numB f.U = L2 at KU l2 HF
  generalize encL sigB f.S = L3 at KS l3 HF
  generalize sigB f.E = L4 at KE l4 HF
  generalize encL encJm vs = L5 at KJ HF
  generalize f.C.length = nC at *
  generalize f.U.length = nU at *
  generalize f.S.length = nS at *
  generalize vs.length = nJ at *
  generalize f.E = EE at *
  have hcv := Joins.run_convert_bytes_const_at (P := Tryz.prog) (w.alloc (.cells #[.slice rC nC cC, .slice rU nU cU, .slice rS nS cS, .int .i32 EE, .slice rJ nJ cJ] 67)) 45 5 #[.int .u8 84, .int .u8 82, .int .u8 80, .int .u8 49] 4 4 (w.heap.size + 1) (by simp) rfl rfl
  have hbx := QBox.new w [.slice rC nC cC, .slice rU nU cU, .slice rS nS cS, .int .i32 EE, .slice rJ nJ cJ] 67
  have hb1 := (Below.refl (w.heap.size) w).alloc (Nat.le_refl _) (.cells #[.slice rC nC cC, .slice rU nU cU, .slice rS nS cS, .int .i32 EE, .slice rJ nJ cJ] 67)
  have hmk := mark_cells w (.cells #[.slice rC nC cC, .slice rU nU cU, .slice rS nS cS, .int .i32 EE, .slice rJ nJ cJ] 67)
  have hs1 : (w.alloc (.cells #[.slice rC nC cC, .slice rU nU cU, .slice rS nS cS, .int .i32 EE, .slice rJ nJ cJ] 67)).heap.size = w.heap.size + 1 := by simp
  have HB1 := Lib.hid hb1
  have HBX : Hid (QBox (w.alloc (.cells #[.slice rC nC cC, .slice rU nU cU, .slice rS nS cS, .int .i32 EE, .slice rJ nJ cJ] 67)) w.heap.size [.slice rC nC cC, .slice rU nU cU, .slice rS nS cS, .int .i32 EE, .slice rJ nJ cJ] 67) := Lib.hid hbx
  have HMK := Lib.hid hmk
  clear hF hJ c1 c2 u1 u2 s1 s2 he j1 j2 e5 hFF hb1 hbx hmk
  go_enter Tryz.func24, Tryz.ntmps24
  go_upto_region 1 with fail
  generalize w.alloc (.cells #[.slice rC nC cC, .slice rU nU cU, .slice rS nS cS, .int .i32 EE, .slice rJ nJ cJ] 67) = W0 at *
  have HB2 := Lib.hid (HB1.out.alloc (by omega : w.heap.size ≤ W0.heap.size) (.cells #[.int .u8 84, .int .u8 82, .int .u8 80, .int .u8 49] 5 (4, 5)))
  have HBX2 := Lib.hid (HBX.out.stay ((Below.refl W0.heap.size W0).alloc (Nat.le_refl _) (.cells #[.int .u8 84, .int .u8 82, .int .u8 80, .int .u8 49] 5 (4, 5))))
  have HOV : Hid (OutV w.heap.size (W0.alloc (.cells #[.int .u8 84, .int .u8 82, .int .u8 80, .int .u8 49] 5 (4, 5))) (.slice (some ⟨w.heap.size + 1, 0, none⟩) 4 4) [84, 82, 80, 49]) := Lib.hid (.inr ⟨_, by simp; omega, rfl, HMK.out⟩)
  have x0 := HBX2.out.cell (j := 0) rfl
  go_upto_region 2 with (go_at_call 45; refine (KA.out _ _ _ HB2.out HOV.out (by decide)).mono ?_; rintro e w2 ⟨r, k, c, rfl, o2, h2⟩; have HE2 := Lib.hid (EMd.mk (HB2.out.trans h2.below) (HBX2.out.kb h2 (by decide)) o2); clear o2 h2)
  have HL2 : Hid (([84, 82, 80, 49] ++ L1).length ≤ 30004) := Lib.hid (by rw [List.length_append]; simp only [List.length_cons, List.length_nil]; omega)
  clear x0 HB1 HB2 HBX HBX2 HMK HOV hcv hs1
  have HE := HE2
  have HL := HL2
  clear HE2 HL2
  have x1 := HE.out.box.cell (j := 1) rfl
  go_upto_region 3 with (go_at_call 47; refine (KU.out _ _ _ HE.out.below (.inl HE.out.out) (Nat.le_trans HL.out (by decide))).mono ?_; rintro e w2 ⟨r, k, c, rfl, o2, h2⟩; have HE2 := Lib.hid (HE.out.put o2 h2); clear o2 h2)
  have HL2 := Lib.hid (Nat.le_trans (Nat.le_of_eq List.length_append) (Nat.add_le_add HL.out l2))
  clear x1 HE HL
  have HE := HE2
  have HL := HL2
  clear HE2 HL2
  have x2 := HE.out.box.cell (j := 2) rfl
  go_upto_region 4 with (go_at_call 49; refine (KS.out _ _ _ HE.out.below (.inl HE.out.out) (Nat.le_trans HL.out (by decide))).mono ?_; rintro e w2 ⟨r, k, c, rfl, o2, h2⟩; have HE2 := Lib.hid (HE.out.put o2 h2); clear o2 h2)
  have HL2 := Lib.hid (Nat.le_trans (Nat.le_of_eq List.length_append) (Nat.add_le_add HL.out l3))
  clear x2 HE HL
  have HE := HE2
  have HL := HL2
  clear HE2 HL2
  have x3 := HE.out.box.cell (j := 3) rfl
  go_upto_region 5 with (go_at_call 50; refine (KE.out _ _ _ HE.out.below (.inl HE.out.out) (Nat.le_trans HL.out (by decide))).mono ?_; rintro e w2 ⟨r, k, c, rfl, o2, h2⟩; have HE2 := Lib.hid (HE.out.put o2 h2); clear o2 h2)
  have HL2 := Lib.hid (Nat.le_trans (Nat.le_of_eq List.length_append) (Nat.add_le_add HL.out l4))
  clear x3 HE HL
  have HE := HE2
  have HL := HL2
  clear HE2 HL2
  have x4 := HE.out.box.cell (j := 4) rfl
  go_wp2_with (go_at_call 51; refine (KJ.out _ _ _ HE.out.below (.inl HE.out.out) (Nat.le_trans HL.out (by decide))).mono ?_; rintro e w2 ⟨r, k, c, rfl, o2, h2⟩; have HE2 := Lib.hid (HE.out.put o2 h2); clear o2 h2)
  go_ret
  exact ⟨_, rfl, HF.out ▸ HE2.out.out, HE2.out.below⟩
end Go.Proofs.YtafmakhhdinknaaGreatDoor

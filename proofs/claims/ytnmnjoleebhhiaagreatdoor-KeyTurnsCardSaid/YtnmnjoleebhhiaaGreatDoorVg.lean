/- Contracts of package key's rising: all that a map is by, rising. -/
import Derived.Test.YtnmnjoleebhhiaaGreatDoorVf
import Derived.LoopTactic
import Derived.Test.YtnmnjoleebhhiaaGreatDoorThree
namespace Go.Proofs.YtnmnjoleebhhiaaGreatDoor
open Go.RowKit Go.Sort
set_option linter.unusedVariables false
set_option linter.unusedSimpArgs false
theorem infoK : (Tryz.prog.info? 31).map (fun i => (i.zero, i.size, i.bytes)) = some (some (.agg #[.int .u32 0, .int .u16 0, .int .u16 0]), 3, 8) := by kernel_rfl
/-- Three cells, one after another, in a new block. -/
theorem cells_new (w : World) (cs : Array Value) (t : TypeId) : ∀ j u, cs.toList[j]? = some u → (w.alloc (.cells cs t)).cell? ((⟨w.heap.size, 0, none⟩ : Addr).add j) = some u := by
  intro j u hj
  have : cs[j]? = some u := by simpa using hj
  have e : (⟨w.heap.size, 0, none⟩ : Addr).add j = ⟨w.heap.size, j, none⟩ := by simp [Addr.add]; intro h; exact h.symm
  rw [e]
  simp [this]
set_option maxHeartbeats 4000000 in
set_option maxRecDepth 100000 in
theorem rising_k (b PB pcap : Nat) (L : List (Kt × Int)) (w : World) (hM : MapOf kv wv b L w) (hF : w.cell? ⟨PB, 0, none⟩ = some (.func (.func 19) #[] #[])) (hL : L.length < 1073741824) :
    Calls Tryz.prog 18 #[.map (some b), .slice (some ⟨PB, 0, none⟩) 1 pcap] w fun e w' =>
      ∃ v ks, e = .returned v ∧ ks.Perm (L.map Prod.fst) ∧ Rises Kt.num ks ∧ Recs kc 3 w' v ks ∧ Below w.heap.size w w' := by
  obtain ⟨i0, hi, hz0, hz1, hz2⟩ := info_parts infoK
  have hbl := hM.lt
  have hpl := World.block_lt_of_cell? w _ hF
  have hM1 : MapOf kv wv b L (w.alloc (.cells #[.slice (some ⟨PB, 0, none⟩) 1 pcap] 61)) := hM.below ((Below.refl _ _).alloc (Nat.le_refl _) _) hbl
  have hlen := hM1.len map_k
  have HM := Lib.hid hM1
  have HN := Lib.hid hM.nodup
  clear hM hM1
  go_enter Tryz.func18, Tryz.ntmps18
  go_wp2_with (first
    | (at_make; refine wpList_make_own _ rfl _ _ 38 rfl (w.heap.size + 1) 31 i0 (.agg #[.int .u32 0, .int .u16 0, .int .u16 0]) 3 Tryz.underlying38 hi hz0 hz1 _ _ _ L.length rfl rfl rfl (by rw [hz2]; omega) (by unfold maxLen; omega) (by simp) ?_; intro w1 hown1 hg1)
    | (at_range; refine wpList_range_of _ map_k rfl _ rfl b L rfl (HM.out.same (hg1.block b (by simp; omega) (by simp))) ?_; intro w2 hR2 hb2 hs2))
  have hwz : (w.alloc (.cells #[.slice (some ⟨PB, 0, none⟩) 1 pcap] 61)).heap.size = w.heap.size + 1 := by simp
  rw [hwz] at hown1
  have hB1 : Below (w.heap.size + 1) (w.alloc (.cells #[.slice (some ⟨PB, 0, none⟩) 1 pcap] 61)) w1 := (Below.refl _ _).grown hg1 (by omega) (fun k hk => by cases hk)
  have hz1' := hB1.size
  rw [hwz] at hz1'
  have hlt1 : w.heap.size + 1 < w1.heap.size := (hown1.lt _ rfl).2
  have hB2 := hB1.trans (hb2.mono (by omega))
  have ho2 := owns_stay hown1 hb2
  have HX := Lib.hid (show (w.alloc (.cells #[.slice (some ⟨PB, 0, none⟩) 1 pcap] 61)).cell? ⟨w.heap.size, 0, none⟩ = some (.slice (some ⟨PB, 0, none⟩) 1 pcap) by simp)
  have HF := Lib.hid (show (w.alloc (.cells #[.slice (some ⟨PB, 0, none⟩) 1 pcap] 61)).cell? ⟨PB, 0, none⟩ = some (.func (.func 19) #[] #[]) by rw [((Below.refl _ w).alloc (Nat.le_refl _) _).cell (p := ⟨PB, 0, none⟩) hpl]; exact hF)
  have HWB := Lib.hid (show Below w.heap.size w (w.alloc (.cells #[.slice (some ⟨PB, 0, none⟩) 1 pcap] 61)) from (Below.refl _ _).alloc (Nat.le_refl _) _)
  generalize w.alloc (.cells #[.slice (some ⟨PB, 0, none⟩) 1 pcap] 61) = W at *
  obtain ⟨r, hr⟩ : ∃ r, w1.heap.size = r := ⟨_, rfl⟩
  rw [hr] at hR2 hlt1 ⊢
  have HLT := Lib.hid hlt1
  clear hlen hown1 hg1 hb2 hs2 hz1' hr HM hB1 hlt1
  go_loopw [5] (fun s wr => ∃ (ks : List Kt) (left : List (Kt × Int)), RangeOf kv wv b r L left wr ∧ (ks ++ left.map Prod.fst).Perm (L.map Prod.fst) ∧ s = .slice (some ⟨w.heap.size + 1, 0, none⟩) ks.length L.length ∧
    wr.ownsRow (w.heap.size + 1) 31 3 (.slice (some ⟨w.heap.size + 1, 0, none⟩) ks.length L.length) ks.length (ks.flatMap kc) ∧ Below (w.heap.size + 1) W wr) (fun s wr => wr.rangeLeft b r)
  case atStart => exact ⟨[], L, hR2, by simp, rfl, ho2, hB2⟩
  case round =>
    clear hR2 ho2 hB2
    obtain ⟨ks, left, hR, hp, rfl, ho, hB⟩ := hrel
    rename World => wr
    have hlen : ks.length + left.length = L.length := by have := hp.length_eq; simpa using this
    have hrl := hR.lt
    have HL := Lib.hid hlen
    have HP := Lib.hid hp
    have HR := Lib.hid hR
    have HB := Lib.hid hB
    have HO := Lib.hid ho
    clear hlen hp hB ho
    go_wp2_with (at_next; refine wpList_next_of _ map_k rfl _ rfl b r L left rfl hR ?_ ?_)
    · intro hleft
      subst hleft
      have hp := HP.out
      rw [List.map_nil, List.append_nil] at hp
      have ⟨hH, hgl⟩ := holds_of_owns kc_len HO.out
      have K := Lib.hid (sort_k (w.heap.size + 1) w.heap.size PB L.length ks.length pcap ks.toArray wr (by rw [HB.out.cell (p := ⟨w.heap.size, 0, none⟩) (by show w.heap.size < _; omega)]; exact HX.out) (by rw [HB.out.cell (p := ⟨PB, 0, none⟩) (by show PB < _; omega)]; exact HF.out) (by omega) (by omega) hH hgl rfl (by have := HL.out; omega) (by have := HL.out; omega) (by rw [List.toList_toArray]; exact hp.nodup_iff.2 HN.out))
      have HPP := Lib.hid hp
      clear hH hgl hp hR
      go_wp2_with (go_at_call 26; refine K.out.mono ?_; rintro e w6 ⟨rfl, hq⟩; have HQ := Lib.hid hq; clear hq)
      go_ret
      obtain ⟨ks', h1, h2, h3, h4⟩ := HQ.out
      exact ⟨_, ks', rfl, h1.trans HPP.out, h2, h3, HWB.out.trans ((HB.out.mono (by omega)).trans (h4.mono (by omega)))⟩
    · intro A x nn B w3 hleft hR3 hg3 hs3 hen
      subst hleft
      unfold kv wv at hen ⊢
      have hbr : b ≠ r := fun e => hR.1 e.symm
      have ho3 := HO.out.kept hg3 (by right; simp [Value.ownBlock]; have := HLT.out; omega)
      have ho5 := (ho3.alloc (.cells #[.int .u32 (x.a : Int), .int .u16 (x.e : Int), .int .u16 (x.p : Int)] 31)).alloc (.cells #[.int .u32 (x.a : Int), .int .u16 (x.e : Int), .int .u16 (x.p : Int)] 31)
      have hk1 : ks.length + 1 ≤ L.length := by have := HL.out; simp at this; omega
      have hB3 : Below (w.heap.size + 1) W w3 := HB.out.grown hg3 (by have := HLT.out; omega) (fun k hk => by cases hk; have := HLT.out; omega)
      have HB3 := Lib.hid hB3
      have HC := Lib.hid (show ∀ j u, (kc x)[j]? = some u → ((w3.alloc (.cells #[.int .u32 (x.a : Int), .int .u16 (x.e : Int), .int .u16 (x.p : Int)] 31)).alloc (.cells #[.int .u32 (x.a : Int), .int .u16 (x.e : Int), .int .u16 (x.p : Int)] 31)).cell? ((⟨w3.heap.size + 1, 0, none⟩ : Addr).add j) = some u from fun j u hu => by
        have := cells_new (w3.alloc (.cells #[.int .u32 (x.a : Int), .int .u16 (x.e : Int), .int .u16 (x.p : Int)] 31)) #[.int .u32 (x.a : Int), .int .u16 (x.e : Int), .int .u16 (x.p : Int)] 31 j u hu
        rwa [show (w3.alloc (.cells #[.int .u32 (x.a : Int), .int .u16 (x.e : Int), .int .u16 (x.p : Int)] 31)).heap.size = w3.heap.size + 1 by simp] at this)
      have HR3 := Lib.hid hR3
      clear hR hR3 ho3 hB3 hbr hg3 hs3
      go_wp2_with (at_builtin; refine wpList_append_fits _ rfl (.tmp 16) (.tmp 18) 38 rfl (w.heap.size + 1) 31 i0 3 Tryz.underlying38 hi hz1 (w.heap.size + 1) ks.length L.length (ks.flatMap kc) rfl ho5 ⟨_, 0, none⟩ 1 1 (kc x) rfl rfl HC.out (kc_one _) hk1 ?_; intro w5 hown5 hg5)
      have hA : Below w3.heap.size w3 ((w3.alloc (.cells #[.int .u32 (x.a : Int), .int .u16 (x.e : Int), .int .u16 (x.p : Int)] 31)).alloc (.cells #[.int .u32 (x.a : Int), .int .u16 (x.e : Int), .int .u16 (x.p : Int)] 31)) := ((Below.refl _ _).alloc (Nat.le_refl _) _).alloc (by simp) _
      have hb3 := HR3.out.owns.lt
      have hr3 := HR3.out.lt
      have hl := HLT.out
      have hR5 : RangeOf kv wv b r L (A ++ B) w5 := HR3.out.same ((hg5.block b (Nat.lt_of_lt_of_le hb3 hA.size) (by simp; omega)).trans (hA.block b hb3)) ((hg5.block r (Nat.lt_of_lt_of_le hr3 hA.size) (by simp; omega)).trans (hA.block r hr3))
      have hB5 : Below (w.heap.size + 1) W w5 := (HB3.out.trans (hA.mono (by omega))).grown hg5 (Nat.le_trans (by omega) hA.size) (fun k hk => by cases hk; exact Nat.le_refl _)
      refine ⟨⟨ks ++ [x], A ++ B, hR5, ?_, by simp, ?_, hB5⟩, ?_⟩
      · refine List.Perm.trans ?_ HP.out
        simp only [List.map_append, List.map_cons, List.append_assoc, List.singleton_append]
        exact List.Perm.append_left ks List.perm_middle.symm
      · rw [List.length_append, List.flatMap_append, List.length_singleton]
        simpa using hown5
      · rw [hR5.left_eq, HR.out.left_eq]
        simp
set_option maxHeartbeats 1000000 in
set_option maxRecDepth 100000 in
theorem rising_k_nil (PB pcap : Nat) (w : World) (hF : w.cell? ⟨PB, 0, none⟩ = some (.func (.func 19) #[] #[])) :
    Calls Tryz.prog 18 #[.map none, .slice (some ⟨PB, 0, none⟩) 1 pcap] w fun e w' =>
      ∃ v, e = .returned v ∧ Recs kc 3 w' v [] ∧ Below w.heap.size w w' := by
  obtain ⟨i0, hi, hz0, hz1, hz2⟩ := info_parts infoK
  have hpl := World.block_lt_of_cell? w _ hF
  have hrg := fun w => run_range_nilMap (P := Tryz.prog) w 24 31 42 Tryz.underlying24
  have hnx := fun w ty => run_next_nilMap (P := Tryz.prog) w ty 0 0 #[]
  go_enter Tryz.func18, Tryz.ntmps18
  go_wp2_with (at_make; refine wpList_make_own _ rfl _ _ 38 rfl (w.heap.size + 1) 31 i0 (.agg #[.int .u32 0, .int .u16 0, .int .u16 0]) 3 Tryz.underlying38 hi hz0 hz1 _ _ _ 0 rfl rfl rfl (by omega) (by unfold maxLen; omega) (by simp) ?_; intro w1 hown1 hg1)
  have hwz : (w.alloc (.cells #[.slice (some ⟨PB, 0, none⟩) 1 pcap] 61)).heap.size = w.heap.size + 1 := by simp
  rw [hwz] at hown1
  have hB1 : Below (w.heap.size + 1) (w.alloc (.cells #[.slice (some ⟨PB, 0, none⟩) 1 pcap] 61)) w1 := (Below.refl _ _).grown hg1 (by omega) (fun k hk => by cases hk)
  have hlt1 : w.heap.size + 1 < w1.heap.size := (hown1.lt _ rfl).2
  have ho2 := hown1.alloc (.mapIter none 0 #[] 0)
  have hB2 := hB1.trans ((Below.refl (w.heap.size + 1) w1).alloc (Nat.le_of_lt hlt1) (.mapIter none 0 #[] 0))
  have hX : (w.alloc (.cells #[.slice (some ⟨PB, 0, none⟩) 1 pcap] 61)).cell? ⟨w.heap.size, 0, none⟩ = some (.slice (some ⟨PB, 0, none⟩) 1 pcap) := by simp
  have hF1 : (w.alloc (.cells #[.slice (some ⟨PB, 0, none⟩) 1 pcap] 61)).cell? ⟨PB, 0, none⟩ = some (.func (.func 19) #[] #[]) := by rw [((Below.refl _ w).alloc (Nat.le_refl _) _).cell (p := ⟨PB, 0, none⟩) hpl]; exact hF
  have HWB := Lib.hid (show Below w.heap.size w (w.alloc (.cells #[.slice (some ⟨PB, 0, none⟩) 1 pcap] 61)) from (Below.refl _ _).alloc (Nat.le_refl _) _)
  have ⟨hH, hgl⟩ := holds_of_owns (xs := []) kc_len ho2
  have K := Lib.hid (sort_k (w.heap.size + 1) w.heap.size PB 0 0 pcap #[] (w1.alloc (.mapIter none 0 #[] 0)) (by rw [hB2.cell (p := ⟨w.heap.size, 0, none⟩) (by show w.heap.size < _; omega)]; exact hX) (by rw [hB2.cell (p := ⟨PB, 0, none⟩) (by show PB < _; omega)]; exact hF1) (by omega) (by omega) hH hgl rfl (by omega) (by omega) (by simp))
  have HB := Lib.hid hB2
  have hn1 := fun ty => hnx w1 ty
  generalize w.alloc (.cells #[.slice (some ⟨PB, 0, none⟩) 1 pcap] 61) = W at *
  clear hwz hown1 hB1 ho2 hB2 hX hF1 hH hgl hg1 hF hrg hnx
  generalize hV : w1.alloc (.mapIter none 0 #[] 0) = V at *
  obtain ⟨r, hr⟩ : ∃ r, w1.heap.size = r := ⟨_, rfl⟩
  rw [hr] at hn1 ⊢
  clear hV hr
  go_loopw [5] (fun s wr => s = .slice (some ⟨w.heap.size + 1, 0, none⟩) 0 0 ∧ wr = V) (fun _ _ => 0)
  case atStart => exact ⟨rfl, rfl⟩
  case round =>
    obtain ⟨rfl, rfl⟩ := hrel
    go_wp2_with (go_at_call 26; refine K.out.mono ?_; rintro e w6 ⟨rfl, hq⟩; have HQ := Lib.hid hq; clear hq)
    go_ret
    obtain ⟨ks', h1, h2, h3, h4⟩ := HQ.out
    obtain rfl : ks' = [] := List.Perm.eq_nil (by simpa using h1)
    exact ⟨_, rfl, h3, HWB.out.trans ((HB.out.mono (by omega)).trans (h4.mono (by omega)))⟩
end Go.Proofs.YtnmnjoleebhhiaaGreatDoor

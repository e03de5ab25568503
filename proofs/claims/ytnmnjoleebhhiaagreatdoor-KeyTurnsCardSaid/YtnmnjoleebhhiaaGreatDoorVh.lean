/- Contracts of slices.SortFunc and of package key's rising at pairs of keys (as at keys: ..Ve, ..Vg). -/
import Derived.Test.YtnmnjoleebhhiaaGreatDoorVg
namespace Go.Proofs.YtnmnjoleebhhiaaGreatDoor
open Go.RowKit Go.Sort
set_option linter.unusedVariables false
set_option linter.unusedSimpArgs false
theorem sort_p (g PX PB cap n pcap : Nat) (d : Array (Kt × Kt)) (w : World) (hX : w.cell? ⟨PX, 0, none⟩ = some (.slice (some ⟨PB, 0, none⟩) 2 pcap)) (hF : w.cell? ⟨PB, 0, none⟩ = some (.func (.func 21) #[] #[])) (hE : w.cell? ⟨PB, 1, none⟩ = some (.func (.func 22) #[] #[]))
    (h1 : PX ≠ g) (h2 : PB ≠ g) (hH : HoldsK pc 6 w g 0 d) (hg : g < w.heap.size) (hn : n = d.size) (hm : n < 4611686018427387904) (hcap : n ≤ cap) (hd : d.toList.Nodup) :
    Calls Tryz.prog 29 #[.slice (some ⟨g, 0, none⟩) n cap, .func (.func 30) #[] #[.pointer (some ⟨PX, 0, none⟩)]] w fun e w' =>
      e = .returned (.tuple #[]) ∧ ∃ ks : List (Kt × Kt), ks.Perm d.toList ∧ Rises pnum ks ∧ Recs pc 6 w' (.slice (some ⟨g, 0, none⟩) n cap) ks ∧ Below g w w' := by
  have eg : ∀ args w, (callFunc 30 args).run Tryz.prog w = .ok (.enter 30 args) w := enters_of Tryz.func30 (by kernel_rfl) rfl
  have hcmp : CmpLays Tryz.prog 30 #[.pointer (some ⟨PX, 0, none⟩)] pc 6 pcmp g 0 d.size w := fun m os dk _ x y =>
    order_p PX PB pcap x y _ (cell_sort hX h1 m dk os) (cell_sort hF h2 m dk os) (cell_sort hE h2 m dk os)
  have h := AnyQ.slices_SortFunc Tryz.sortP 6 (fun w => by kernel_rfl) (fun w => by kernel_rfl) pc pc_len pc_one pcmp (swo_num pcmp_lt) 30 #[.pointer (some ⟨PX, 0, none⟩)] g 0 cap d w eg hcmp hH hg (by omega)
  rw [← hn] at h
  refine (show Calls Tryz.prog 29 #[.slice (some ⟨g, 0, none⟩) n cap, .func (.func 30) #[] #[.pointer (some ⟨PX, 0, none⟩)]] w _ from h).mono ?_
  rintro e w' ⟨rfl, d', m, os, hp, hs, rfl⟩
  rw [hn] at hp hs
  obtain ⟨hp', hr⟩ := sorted_rises (fun _ _ => pnum_inj) pcmp_lt hp hs hd
  have hsz : d'.size = d.size := hp.1
  have hH' := holdsK_sortWorldK_c pc 6 w g 0 d d' m os hH hg hsz
  have hb : Below g w (sortWorldK pc 6 w g 0 m d' os) := sort_below (Nat.le_refl _) (Nat.le_of_lt hg)
  refine ⟨rfl, d'.toList, hp', hr, ?_, hb⟩
  have := recs_of_holds pc_len hH' (Nat.lt_of_lt_of_le hg hb.size) (cap := cap) (by omega) (by omega)
  rw [hsz, ← hn] at this
  exact this
theorem infoP : (Tryz.prog.info? 47).map (fun i => (i.zero, i.size, i.bytes)) = some (some (.agg #[.int .u32 0, .int .u16 0, .int .u16 0, .int .u32 0, .int .u16 0, .int .u16 0]), 6, 16) := by kernel_rfl
set_option maxHeartbeats 4000000 in
set_option maxRecDepth 100000 in
theorem rising_p (b PB pcap : Nat) (L : List ((Kt × Kt) × Int)) (w : World) (hM : MapOf pv (Value.int .i64) b L w) (hF : w.cell? ⟨PB, 0, none⟩ = some (.func (.func 21) #[] #[])) (hE : w.cell? ⟨PB, 1, none⟩ = some (.func (.func 22) #[] #[])) (hL : L.length < 1073741824) :
    Calls Tryz.prog 20 #[.map (some b), .slice (some ⟨PB, 0, none⟩) 2 pcap] w fun e w' =>
      ∃ v ks, e = .returned v ∧ ks.Perm (L.map Prod.fst) ∧ Rises pnum ks ∧ Recs pc 6 w' v ks ∧ Below w.heap.size w w' := by
  obtain ⟨i0, hi, hz0, hz1, hz2⟩ := info_parts infoP
  have hbl := hM.lt
  have hpl := World.block_lt_of_cell? w _ hF
  have hM1 : MapOf pv (Value.int .i64) b L (w.alloc (.cells #[.slice (some ⟨PB, 0, none⟩) 2 pcap] 63)) := hM.below ((Below.refl _ _).alloc (Nat.le_refl _) _) hbl
  have hlen := hM1.len map_p
  have HM := Lib.hid hM1
  have HN := Lib.hid hM.nodup
  clear hM hM1
  go_enter Tryz.func20, Tryz.ntmps20
  go_wp2_with (first
    | (at_make; refine wpList_make_own _ rfl _ _ 46 rfl (w.heap.size + 1) 47 i0 (.agg #[.int .u32 0, .int .u16 0, .int .u16 0, .int .u32 0, .int .u16 0, .int .u16 0]) 6 Tryz.underlying46 hi hz0 hz1 _ _ _ L.length rfl rfl rfl (by rw [hz2]; omega) (by unfold maxLen; omega) (by simp) ?_; intro w1 hown1 hg1)
    | (at_range; refine wpList_range_of _ map_p rfl _ rfl b L rfl (HM.out.same (hg1.block b (by simp; omega) (by simp))) ?_; intro w2 hR2 hb2 hs2))
  have hwz : (w.alloc (.cells #[.slice (some ⟨PB, 0, none⟩) 2 pcap] 63)).heap.size = w.heap.size + 1 := by simp
  rw [hwz] at hown1
  have hB1 : Below (w.heap.size + 1) (w.alloc (.cells #[.slice (some ⟨PB, 0, none⟩) 2 pcap] 63)) w1 := (Below.refl _ _).grown hg1 (by omega) (fun k hk => by cases hk)
  have hz1' := hB1.size
  rw [hwz] at hz1'
  have hlt1 : w.heap.size + 1 < w1.heap.size := (hown1.lt _ rfl).2
  have hB2 := hB1.trans (hb2.mono (by omega))
  have ho2 := owns_stay hown1 hb2
  have HX := Lib.hid (show (w.alloc (.cells #[.slice (some ⟨PB, 0, none⟩) 2 pcap] 63)).cell? ⟨w.heap.size, 0, none⟩ = some (.slice (some ⟨PB, 0, none⟩) 2 pcap) by simp)
  have HF := Lib.hid (show (w.alloc (.cells #[.slice (some ⟨PB, 0, none⟩) 2 pcap] 63)).cell? ⟨PB, 0, none⟩ = some (.func (.func 21) #[] #[]) by rw [((Below.refl _ w).alloc (Nat.le_refl _) _).cell (p := ⟨PB, 0, none⟩) hpl]; exact hF)
  have HE := Lib.hid (show (w.alloc (.cells #[.slice (some ⟨PB, 0, none⟩) 2 pcap] 63)).cell? ⟨PB, 1, none⟩ = some (.func (.func 22) #[] #[]) by rw [((Below.refl _ w).alloc (Nat.le_refl _) _).cell (p := ⟨PB, 1, none⟩) hpl]; exact hE)
  have HWB := Lib.hid (show Below w.heap.size w (w.alloc (.cells #[.slice (some ⟨PB, 0, none⟩) 2 pcap] 63)) from (Below.refl _ _).alloc (Nat.le_refl _) _)
  generalize w.alloc (.cells #[.slice (some ⟨PB, 0, none⟩) 2 pcap] 63) = W at *
  obtain ⟨r, hr⟩ : ∃ r, w1.heap.size = r := ⟨_, rfl⟩
  rw [hr] at hR2 hlt1 ⊢
  have HLT := Lib.hid hlt1
  clear hlen hown1 hg1 hb2 hs2 hz1' hr HM hB1 hlt1
  go_loopw [5] (fun s wr => ∃ (ks : List (Kt × Kt)) (left : List ((Kt × Kt) × Int)), RangeOf pv (Value.int .i64) b r L left wr ∧ (ks ++ left.map Prod.fst).Perm (L.map Prod.fst) ∧ s = .slice (some ⟨w.heap.size + 1, 0, none⟩) ks.length L.length ∧
    wr.ownsRow (w.heap.size + 1) 47 6 (.slice (some ⟨w.heap.size + 1, 0, none⟩) ks.length L.length) ks.length (ks.flatMap pc) ∧ Below (w.heap.size + 1) W wr) (fun s wr => wr.rangeLeft b r)
  case atStart => exact ⟨[], L, hR2, by simp, rfl, ho2, hB2⟩
  case round =>
    clear hR2 ho2 hB2
    obtain ⟨ks, left, hR, hp, rfl, ho, hB⟩ := hrel
    rename World => wr
    have hlen : ks.length + left.length = L.length := by have := hp.length_eq; simpa using this
    have hrl := hR.lt
    have HL := Lib.hid hlen
    have HP := Lib.hid hp
    have HR := Lib.hid hR
    have HB := Lib.hid hB
    have HO := Lib.hid ho
    clear hlen hp hB ho
    go_wp2_with (at_next; refine wpList_next_of _ map_p rfl _ rfl b r L left rfl hR ?_ ?_)
    · intro hleft
      subst hleft
      have hp := HP.out
      rw [List.map_nil, List.append_nil] at hp
      have ⟨hH, hgl⟩ := holds_of_owns pc_len HO.out
      have K := Lib.hid (sort_p (w.heap.size + 1) w.heap.size PB L.length ks.length pcap ks.toArray wr (by rw [HB.out.cell (p := ⟨w.heap.size, 0, none⟩) (by show w.heap.size < _; omega)]; exact HX.out) (by rw [HB.out.cell (p := ⟨PB, 0, none⟩) (by show PB < _; omega)]; exact HF.out) (by rw [HB.out.cell (p := ⟨PB, 1, none⟩) (by show PB < _; omega)]; exact HE.out) (by omega) (by omega) hH hgl rfl (by have := HL.out; omega) (by have := HL.out; omega) (by rw [List.toList_toArray]; exact hp.nodup_iff.2 HN.out))
      have HPP := Lib.hid hp
      clear hH hgl hp hR
      go_wp2_with (go_at_call 29; refine K.out.mono ?_; rintro e w6 ⟨rfl, hq⟩; have HQ := Lib.hid hq; clear hq)
      go_ret
      obtain ⟨ks', h1, h2, h3, h4⟩ := HQ.out
      exact ⟨_, ks', rfl, h1.trans HPP.out, h2, h3, HWB.out.trans ((HB.out.mono (by omega)).trans (h4.mono (by omega)))⟩
    · intro A x1 x2 nn B w3 hleft hR3 hg3 hs3 hen
      subst hleft
      unfold pv at hen ⊢
      have hbr : b ≠ r := fun e => hR.1 e.symm
      have ho3 := HO.out.kept hg3 (by right; simp [Value.ownBlock]; have := HLT.out; omega)
      have ho5 := (ho3.alloc (.cells #[.int .u32 (x1.a : Int), .int .u16 (x1.e : Int), .int .u16 (x1.p : Int), .int .u32 (x2.a : Int), .int .u16 (x2.e : Int), .int .u16 (x2.p : Int)] 47)).alloc (.cells #[.int .u32 (x1.a : Int), .int .u16 (x1.e : Int), .int .u16 (x1.p : Int), .int .u32 (x2.a : Int), .int .u16 (x2.e : Int), .int .u16 (x2.p : Int)] 47)
      have hk1 : ks.length + 1 ≤ L.length := by have := HL.out; simp at this; omega
      have hB3 : Below (w.heap.size + 1) W w3 := HB.out.grown hg3 (by have := HLT.out; omega) (fun k hk => by cases hk; have := HLT.out; omega)
      have HB3 := Lib.hid hB3
      have HC := Lib.hid (show ∀ j u, (pc (x1, x2))[j]? = some u → ((w3.alloc (.cells #[.int .u32 (x1.a : Int), .int .u16 (x1.e : Int), .int .u16 (x1.p : Int), .int .u32 (x2.a : Int), .int .u16 (x2.e : Int), .int .u16 (x2.p : Int)] 47)).alloc (.cells #[.int .u32 (x1.a : Int), .int .u16 (x1.e : Int), .int .u16 (x1.p : Int), .int .u32 (x2.a : Int), .int .u16 (x2.e : Int), .int .u16 (x2.p : Int)] 47)).cell? ((⟨w3.heap.size + 1, 0, none⟩ : Addr).add j) = some u from fun j u hu => by
        have := cells_new (w3.alloc (.cells #[.int .u32 (x1.a : Int), .int .u16 (x1.e : Int), .int .u16 (x1.p : Int), .int .u32 (x2.a : Int), .int .u16 (x2.e : Int), .int .u16 (x2.p : Int)] 47)) #[.int .u32 (x1.a : Int), .int .u16 (x1.e : Int), .int .u16 (x1.p : Int), .int .u32 (x2.a : Int), .int .u16 (x2.e : Int), .int .u16 (x2.p : Int)] 47 j u hu
        rwa [show (w3.alloc (.cells #[.int .u32 (x1.a : Int), .int .u16 (x1.e : Int), .int .u16 (x1.p : Int), .int .u32 (x2.a : Int), .int .u16 (x2.e : Int), .int .u16 (x2.p : Int)] 47)).heap.size = w3.heap.size + 1 by simp] at this)
      have HR3 := Lib.hid hR3
      clear hR hR3 ho3 hB3 hbr hg3 hs3
      go_wp2_with (at_builtin; refine wpList_append_fits _ rfl (.tmp 16) (.tmp 18) 46 rfl (w.heap.size + 1) 47 i0 6 Tryz.underlying46 hi hz1 (w.heap.size + 1) ks.length L.length (ks.flatMap pc) rfl ho5 ⟨_, 0, none⟩ 1 1 (pc (x1, x2)) rfl rfl HC.out (pc_one _) hk1 ?_; intro w5 hown5 hg5)
      have hA : Below w3.heap.size w3 ((w3.alloc (.cells #[.int .u32 (x1.a : Int), .int .u16 (x1.e : Int), .int .u16 (x1.p : Int), .int .u32 (x2.a : Int), .int .u16 (x2.e : Int), .int .u16 (x2.p : Int)] 47)).alloc (.cells #[.int .u32 (x1.a : Int), .int .u16 (x1.e : Int), .int .u16 (x1.p : Int), .int .u32 (x2.a : Int), .int .u16 (x2.e : Int), .int .u16 (x2.p : Int)] 47)) := ((Below.refl _ _).alloc (Nat.le_refl _) _).alloc (by simp) _
      have hb3 := HR3.out.owns.lt
      have hr3 := HR3.out.lt
      have hl := HLT.out
      have hR5 : RangeOf pv (Value.int .i64) b r L (A ++ B) w5 := HR3.out.same ((hg5.block b (Nat.lt_of_lt_of_le hb3 hA.size) (by simp; omega)).trans (hA.block b hb3)) ((hg5.block r (Nat.lt_of_lt_of_le hr3 hA.size) (by simp; omega)).trans (hA.block r hr3))
      have hB5 : Below (w.heap.size + 1) W w5 := (HB3.out.trans (hA.mono (by omega))).grown hg5 (Nat.le_trans (by omega) hA.size) (fun k hk => by cases hk; exact Nat.le_refl _)
      refine ⟨⟨ks ++ [(x1, x2)], A ++ B, hR5, ?_, by simp, ?_, hB5⟩, ?_⟩
      · refine List.Perm.trans ?_ HP.out
        simp only [List.map_append, List.map_cons, List.append_assoc, List.singleton_append]
        exact List.Perm.append_left ks List.perm_middle.symm
      · rw [List.length_append, List.flatMap_append, List.length_singleton]
        simpa using hown5
      · rw [hR5.left_eq, HR.out.left_eq]
        simp
set_option maxHeartbeats 1000000 in
set_option maxRecDepth 100000 in
theorem rising_p_nil (PB pcap : Nat) (w : World) (hF : w.cell? ⟨PB, 0, none⟩ = some (.func (.func 21) #[] #[])) (hE : w.cell? ⟨PB, 1, none⟩ = some (.func (.func 22) #[] #[])) :
    Calls Tryz.prog 20 #[.map none, .slice (some ⟨PB, 0, none⟩) 2 pcap] w fun e w' =>
      ∃ v, e = .returned v ∧ Recs pc 6 w' v [] ∧ Below w.heap.size w w' := by
  obtain ⟨i0, hi, hz0, hz1, hz2⟩ := info_parts infoP
  have hpl := World.block_lt_of_cell? w _ hF
  have hrg := fun w => run_range_nilMap (P := Tryz.prog) w 26 47 3 Tryz.underlying26
  have hnx := fun w ty => run_next_nilMap (P := Tryz.prog) w ty 0 0 #[]
  go_enter Tryz.func20, Tryz.ntmps20
  go_wp2_with (at_make; refine wpList_make_own _ rfl _ _ 46 rfl (w.heap.size + 1) 47 i0 (.agg #[.int .u32 0, .int .u16 0, .int .u16 0, .int .u32 0, .int .u16 0, .int .u16 0]) 6 Tryz.underlying46 hi hz0 hz1 _ _ _ 0 rfl rfl rfl (by omega) (by unfold maxLen; omega) (by simp) ?_; intro w1 hown1 hg1)
  have hwz : (w.alloc (.cells #[.slice (some ⟨PB, 0, none⟩) 2 pcap] 63)).heap.size = w.heap.size + 1 := by simp
  rw [hwz] at hown1
  have hB1 : Below (w.heap.size + 1) (w.alloc (.cells #[.slice (some ⟨PB, 0, none⟩) 2 pcap] 63)) w1 := (Below.refl _ _).grown hg1 (by omega) (fun k hk => by cases hk)
  have hlt1 : w.heap.size + 1 < w1.heap.size := (hown1.lt _ rfl).2
  have ho2 := hown1.alloc (.mapIter none 0 #[] 0)
  have hB2 := hB1.trans ((Below.refl (w.heap.size + 1) w1).alloc (Nat.le_of_lt hlt1) (.mapIter none 0 #[] 0))
  have hX : (w.alloc (.cells #[.slice (some ⟨PB, 0, none⟩) 2 pcap] 63)).cell? ⟨w.heap.size, 0, none⟩ = some (.slice (some ⟨PB, 0, none⟩) 2 pcap) := by simp
  have hF1 : (w.alloc (.cells #[.slice (some ⟨PB, 0, none⟩) 2 pcap] 63)).cell? ⟨PB, 0, none⟩ = some (.func (.func 21) #[] #[]) := by rw [((Below.refl _ w).alloc (Nat.le_refl _) _).cell (p := ⟨PB, 0, none⟩) hpl]; exact hF
  have HE := Lib.hid (show (w.alloc (.cells #[.slice (some ⟨PB, 0, none⟩) 2 pcap] 63)).cell? ⟨PB, 1, none⟩ = some (.func (.func 22) #[] #[]) by rw [((Below.refl _ w).alloc (Nat.le_refl _) _).cell (p := ⟨PB, 1, none⟩) hpl]; exact hE)
  have HWB := Lib.hid (show Below w.heap.size w (w.alloc (.cells #[.slice (some ⟨PB, 0, none⟩) 2 pcap] 63)) from (Below.refl _ _).alloc (Nat.le_refl _) _)
  have ⟨hH, hgl⟩ := holds_of_owns (xs := []) pc_len ho2
  have K := Lib.hid (sort_p (w.heap.size + 1) w.heap.size PB 0 0 pcap #[] (w1.alloc (.mapIter none 0 #[] 0)) (by rw [hB2.cell (p := ⟨w.heap.size, 0, none⟩) (by show w.heap.size < _; omega)]; exact hX) (by rw [hB2.cell (p := ⟨PB, 0, none⟩) (by show PB < _; omega)]; exact hF1) (by rw [hB2.cell (p := ⟨PB, 1, none⟩) (by show PB < _; omega)]; exact HE.out) (by omega) (by omega) hH hgl rfl (by omega) (by omega) (by simp))
  have HB := Lib.hid hB2
  have hn1 := fun ty => hnx w1 ty
  generalize w.alloc (.cells #[.slice (some ⟨PB, 0, none⟩) 2 pcap] 63) = W at *
  clear hwz hown1 hB1 ho2 hB2 hX hF1 hH hgl hg1 hF hE hrg hnx
  generalize hV : w1.alloc (.mapIter none 0 #[] 0) = V at *
  obtain ⟨r, hr⟩ : ∃ r, w1.heap.size = r := ⟨_, rfl⟩
  rw [hr] at hn1 ⊢
  clear hV hr
  go_loopw [5] (fun s wr => s = .slice (some ⟨w.heap.size + 1, 0, none⟩) 0 0 ∧ wr = V) (fun _ _ => 0)
  case atStart => exact ⟨rfl, rfl⟩
  case round =>
    obtain ⟨rfl, rfl⟩ := hrel
    go_wp2_with (go_at_call 29; refine K.out.mono ?_; rintro e w6 ⟨rfl, hq⟩; have HQ := Lib.hid hq; clear hq)
    go_ret
    obtain ⟨ks', h1, h2, h3, h4⟩ := HQ.out
    obtain rfl : ks' = [] := List.Perm.eq_nil (by simpa using h1)
    exact ⟨_, rfl, h3, HWB.out.trans ((HB.out.mono (by omega)).trans (h4.mono (by omega)))⟩
end Go.Proofs.YtnmnjoleebhhiaaGreatDoor

/- Contract of law 6's Name. -/
import Derived.Test.YtffhnedladiaoaaGreatDoorZCall
import Derived.Test.YtffhnedladiaoaaGreatDoorChecked
import Derived.WalkKit
import Derived.Lib.Hide
import Derived.LoopTactic
import Derived.Outline
import Derived.Deep.Heap
import Derived.Test.YtffhnedladiaoaaGreatDoorZMsd
import Derived.Test.YtffhnedladiaoaaGreatDoorZJall
import Derived.Test.YtffhnedladiaoaaGreatDoorZMt1
import Derived.OwnWalk
import Derived.Maps.AppendAt
import Derived.Deep.QuietTactic
import Derived.BigQuiet
namespace Go.Proofs.YtffhnedladiaoaaGreatDoor
open Go.RowKit
set_option linter.unusedVariables false
set_option linter.unusedSimpArgs false
set_option maxRecDepth 100000 in
theorem lname_c (n : Nat) (w : World) : Calls Tryz.prog 22 #[.int .u8 (n : Int)] w fun e w' => e = .returned (.string (nm5 (n % 5))) ∧ Below w.heap.size w w' := by
  have h0 : (0 : Int) ≤ (n : Int) := by omega
  rcases (by omega : n % 5 = 0 ∨ n % 5 = 1 ∨ n % 5 = 2 ∨ n % 5 = 3 ∨ n % 5 = 4) with h | h | h | h | h
  · have e : (n : Int) % 5 = 0 := by omega
    rw [h]
    clear h
    simp only [nm5]
    go_enter Tryz.func22, Tryz.ntmps22
    go_wp2
    go_ret
    exact ⟨rfl, (Below.refl _ _).alloc (Nat.le_refl _) _⟩
  · have e : (n : Int) % 5 = 1 := by omega
    rw [h]
    clear h
    simp only [nm5]
    go_enter Tryz.func22, Tryz.ntmps22
    go_wp2
    go_ret
    exact ⟨rfl, (Below.refl _ _).alloc (Nat.le_refl _) _⟩
  · have e : (n : Int) % 5 = 2 := by omega
    rw [h]
    clear h
    simp only [nm5]
    go_enter Tryz.func22, Tryz.ntmps22
    go_wp2
    go_ret
    exact ⟨rfl, (Below.refl _ _).alloc (Nat.le_refl _) _⟩
  · have e : (n : Int) % 5 = 3 := by omega
    rw [h]
    clear h
    simp only [nm5]
    go_enter Tryz.func22, Tryz.ntmps22
    go_wp2
    go_ret
    exact ⟨rfl, (Below.refl _ _).alloc (Nat.le_refl _) _⟩
  · have e : (n : Int) % 5 = 4 := by omega
    rw [h]
    clear h
    simp only [nm5]
    go_enter Tryz.func22, Tryz.ntmps22
    go_wp2
    go_ret
    exact ⟨rfl, (Below.refl _ _).alloc (Nat.le_refl _) _⟩
end Go.Proofs.YtffhnedladiaoaaGreatDoor
/- Ops by small numbers, in memory, as law 13 is handed them. -/
namespace Go.Proofs.YtffhnedladiaoaaGreatDoor
open Go.RowKit Go.Lib
set_option linter.unusedVariables false
set_option linter.unusedSimpArgs false
def psc (q : Nat × Nat) : List Value := [.int .u8 (q.1 : Int), .int .u32 (q.2 : Int)]
theorem psc_len (q : Nat × Nat) : (psc q).length = 2 := rfl
structure Oi where
  x : On
  vP : Value
  vL : Value
def onc (q : Oi) : List Value := [.int .u8 (q.x.kind : Int), .int .u8 (q.x.a : Int), .int .u8 (q.x.b : Int), .int .u8 (q.x.name : Int), q.vP, .int .i16 q.x.first, q.vL]
def onV (q : Oi) : Value := .agg #[.int .u8 (q.x.kind : Int), .int .u8 (q.x.a : Int), .int .u8 (q.x.b : Int), .int .u8 (q.x.name : Int), q.vP, .int .i16 q.x.first, q.vL]
structure OnM (w : World) (q : Oi) : Prop where
  parts : Recs psc 2 w q.vP q.x.parts
  long : Recs u8c 1 w q.vL q.x.long
  ok : OnIn q.x
theorem OnM.stay {w w' : World} {q : Oi} (h : OnM w q) (hb : Below w.heap.size w w') : OnM w' q := ⟨h.parts.stay hb, h.long.stay hb, h.ok⟩
/-- A slice of ops by small numbers. -/
def SRow (w : World) (v : Value) (qs : List Oi) : Prop := Recs onc 7 w v qs ∧ ∀ q ∈ qs, OnM w q
theorem SRow.stay {w w' : World} {v : Value} {qs : List Oi} (h : SRow w v qs) (hb : Below w.heap.size w w') : SRow w' v qs := ⟨h.1.stay hb, fun q hq => (h.2 q hq).stay hb⟩
theorem SRow.at {w : World} {v : Value} {qs : List Oi} (h : SRow w v qs) {i : Nat} {q : Oi} (hq : qs[i]? = some q) :
    ∃ (g off cap : Nat), v = .slice (some ⟨g, off, none⟩) qs.length cap ∧ g < w.heap.size ∧ qs.length ≤ cap ∧ (∀ j u, (onc q)[j]? = some u → w.cell? ⟨g, off + i * 7 + j, none⟩ = some u) ∧ OnM w q := by
  rcases h.1 with ⟨r, cap, rfl, rfl⟩ | ⟨g, off, cap, rfl, h3, h4, h5, h6⟩
  · simp at hq
  · obtain ⟨hi, e⟩ := List.getElem?_eq_some_iff.1 hq
    exact ⟨g, off, cap, rfl, h3, h5, fun j u hu => h6 i q hq j u hu, h.2 q (by rw [← e]; exact List.getElem_mem hi)⟩
end Go.Proofs.YtffhnedladiaoaaGreatDoor
/- Contract of law 13's Raw. -/
namespace Go.Proofs.YtffhnedladiaoaaGreatDoor
open Go.RowKit Go.Lib
set_option linter.unusedVariables false
set_option linter.unusedSimpArgs false
theorem HBox.set8 {w : World} {b : Nat} {c0 c1 c2 c3 c4 c5 c6 c7 : Value} {T : TypeId} (h : HBox w b [c0, c1, c2, c3, c4, c5, c6, c7] T) (d0 d1 d2 d3 d4 d5 d6 d7 : Value) :
    HBox ((((((((w.setCell ⟨b, 0, none⟩ d0).setCell ⟨b, 1, none⟩ d1).setCell ⟨b, 2, none⟩ d2).setCell ⟨b, 3, none⟩ d3).setCell ⟨b, 4, none⟩ d4).setCell ⟨b, 5, none⟩ d5).setCell ⟨b, 6, none⟩ d6).setCell ⟨b, 7, none⟩ d7) b [d0, d1, d2, d3, d4, d5, d6, d7] T :=
  (((((((h.set 0 d0).set 1 d1).set 2 d2).set 3 d3).set 4 d4).set 5 d5).set 6 d6).set 7 d7
theorem grown_set1 (w : World) (b j : Nat) (d : Value) : w.grownBy (w.setCell ⟨b, j, none⟩ d) (some b) := ⟨rfl, rfl, rfl, by simp, fun k _ hk => Below.heap_setCell w ⟨b, j, none⟩ d k (fun e => hk (by rw [e]))⟩
theorem grown_sets8 (w : World) (b : Nat) (d0 d1 d2 d3 d4 d5 d6 d7 : Value) : w.grownBy ((((((((w.setCell ⟨b, 0, none⟩ d0).setCell ⟨b, 1, none⟩ d1).setCell ⟨b, 2, none⟩ d2).setCell ⟨b, 3, none⟩ d3).setCell ⟨b, 4, none⟩ d4).setCell ⟨b, 5, none⟩ d5).setCell ⟨b, 6, none⟩ d6).setCell ⟨b, 7, none⟩ d7) (some b) :=
  (((((((grown_set1 _ _ _ _).trans (grown_set1 _ _ _ _)).trans (grown_set1 _ _ _ _)).trans (grown_set1 _ _ _ _)).trans (grown_set1 _ _ _ _)).trans (grown_set1 _ _ _ _)).trans (grown_set1 _ _ _ _)).trans (grown_set1 _ _ _ _)
theorem rawO_d (x : On) (h1 : x.kind % 8 ≠ 1) (h4 : x.kind % 8 ≠ 4) (h7 : x.kind % 8 ≠ 7) (h2 : x.kind % 8 ≠ 2) : rawO x = ⟨x.kind % 8, 1 + x.a, 1 + x.b, [], [], [], 0⟩ := by
  unfold rawO; simp [h1, h4, h7, h2]
theorem rawO_1 (x : On) (h : x.kind % 8 = 1) : rawO x = ⟨1, 1 + x.a, 0, (nm5 (x.name % 5)).data.toList, [], [], 0⟩ := by
  unfold rawO; simp [h]
theorem rawO_2 (x : On) (h : x.kind % 8 = 2) : rawO x = ⟨2, 1 + x.a, x.b, [], [], [], 0⟩ := by
  unfold rawO; simp [h]
theorem rawO_4 (x : On) (h : x.kind % 8 = 4) : rawO x = ⟨4, 1 + x.a, 0, [], rawP x, [], 0⟩ := by
  unfold rawO; simp [h]
theorem rawO_7 (x : On) (h : x.kind % 8 = 7) : rawO x = ⟨7, 0, 0, [], [], mkS x.first x.long, mkE x.first x.long⟩ := by
  unfold rawO; simp [h]
/-- What Raw answers. -/
def RawR (w : World) (x : On) (e : Ending) (w' : World) : Prop := ∃ vP vS, e = .returned (opV ⟨rawO x, 0, vP, vS⟩) ∧ OpOwn w.heap.size w' ⟨rawO x, 0, vP, vS⟩ ∧ Below w.heap.size w w'
set_option maxHeartbeats 4000000 in
set_option maxRecDepth 100000 in
theorem raw_d (q : Oi) (w : World) (hM : OnM w q) (h1 : q.x.kind % 8 ≠ 1) (h4 : q.x.kind % 8 ≠ 4) (h7 : q.x.kind % 8 ≠ 7) (h2 : q.x.kind % 8 ≠ 2) : Calls Tryz.prog 10 #[onV q] w fun e w' => RawR w q.x e w' := by
  unfold RawR onV
  obtain ⟨⟨K0, a, b, nm, ps, fi, lo⟩, vP, vL⟩ := q
  obtain ⟨rP, cP, eP, _⟩ := hM.parts.form
  obtain ⟨rL, cL, eL, _⟩ := hM.long.form
  have hok := hM.ok
  simp only at *
  subst eP
  subst eL
  have HP := Lib.hid hM.parts
  have HLO := Lib.hid hM.long
  have hin := hok
  obtain ⟨i1, i2, i3, i4, i5, i6⟩ := hok
  have HOK := Lib.hid hin
  simp only at i1 i2 i3 i4 i5 i6 HP HLO
  have HI5 := Lib.hid i5
  clear hM i5 hin
  obtain ⟨LP, hLP⟩ : ∃ n, ps.length = n := ⟨_, rfl⟩
  obtain ⟨LL, hLL⟩ : ∃ n, lo.length = n := ⟨_, rfl⟩
  have HLP := Lib.hid hLP
  have hLm : LP ≤ 9223372036854775807 := by rw [← hLP]; assumption
  rw [hLP] at HP ⊢
  rw [hLL] at HLO ⊢
  clear hLP hLL
  obtain ⟨A, hA⟩ : ∃ A, 1 + a = A := ⟨_, rfl⟩
  have w1 : IntKind.u32.wrap (a : Int) = (a : Int) := by rw [IntKind.wrap_u32]; omega
  have w2 : IntKind.u32.wrap (1 + (a : Int)) = (A : Int) := by rw [IntKind.wrap_u32]; omega
  have w5 : (1 : Int) + (a : Int) = (A : Int) := by omega
  have w6 : IntKind.u32.wrap (b : Int) = (b : Int) := by rw [IntKind.wrap_u32]; omega
  obtain ⟨B, hB⟩ : ∃ B, 1 + b = B := ⟨_, rfl⟩
  have w7 : (1 : Int) + (b : Int) = (B : Int) := by omega
  have w8 : IntKind.u32.wrap (B : Int) = (B : Int) := by rw [IntKind.wrap_u32]; omega
  have w11 : IntKind.u32.wrap (1 + (b : Int)) = (B : Int) := by rw [IntKind.wrap_u32]; omega
  have HBB := Lib.hid hB
  clear hB
  have w9 : IntKind.u32.wrap (A : Int) = (A : Int) := by rw [IntKind.wrap_u32]; omega
  have HA := Lib.hid hA
  clear hA
  obtain ⟨k, hk⟩ : ∃ k, K0 % 8 = k := ⟨_, rfl⟩
  have HRO : Hid (rawO ⟨K0, a, b, nm, ps, fi, lo⟩ = ⟨k, A, B, [], [], [], 0⟩) := Lib.hid (by rw [← hk, ← HA.out, ← HBB.out]; exact rawO_d _ h1 h4 h7 h2)
  rw [hk] at h1 h4 h7 h2
  have w3 : (K0 : Int) % 8 = (k : Int) := by omega
  have w4 : IntKind.i64.wrap (k : Int) = (k : Int) := by rw [IntKind.wrap_i64]; omega
  have w10 : IntKind.u8.wrap (k : Int) = (k : Int) := by rw [IntKind.wrap_u8]; omega
  have n1 : ((k : Int) == 1) = false := by simpa using fun h => h1 (by omega)
  have n4 : ((k : Int) == 4) = false := by simpa using fun h => h4 (by omega)
  have n7 : ((k : Int) == 7) = false := by simpa using fun h => h7 (by omega)
  have n2 : ((k : Int) == 2) = false := by simpa using fun h => h2 (by omega)
  clear hk h1 h4 h7 h2
  go_enter Tryz.func10, Tryz.ntmps10
  go_upto_region 2 with fail
  have bx := ((RBox.new w [.int .u8 (K0 : Int), .int .u8 (a : Int), .int .u8 (b : Int), .int .u8 (nm : Int), .slice rP LP cP, .int .i16 fi, .slice rL LL cL] 29).alloc (.cells #[.int .i64 0, .int .u32 0, .int .u32 0, .string ⟨#[]⟩, .slice none 0 0, .slice none 0 0, .int .i32 0, .int .i64 0] 38)).alloc (.cells #[.int .i64 (k : Int), .int .u32 (A : Int), .int .u32 0, .string ⟨#[]⟩, .slice none 0 0, .slice none 0 0, .int .i32 0, .int .i64 0] 38)
  have hs1 : (w.alloc (.cells #[.int .u8 (K0 : Int), .int .u8 (a : Int), .int .u8 (b : Int), .int .u8 (nm : Int), .slice rP LP cP, .int .i16 fi, .slice rL LL cL] 29)).heap.size = w.heap.size + 1 := by simp
  have hs2 : ((w.alloc (.cells #[.int .u8 (K0 : Int), .int .u8 (a : Int), .int .u8 (b : Int), .int .u8 (nm : Int), .slice rP LP cP, .int .i16 fi, .slice rL LL cL] 29)).alloc (.cells #[.int .i64 0, .int .u32 0, .int .u32 0, .string ⟨#[]⟩, .slice none 0 0, .slice none 0 0, .int .i32 0, .int .i64 0] 38)).heap.size = w.heap.size + 1 + 1 := by simp
  have hs3 : (((w.alloc (.cells #[.int .u8 (K0 : Int), .int .u8 (a : Int), .int .u8 (b : Int), .int .u8 (nm : Int), .slice rP LP cP, .int .i16 fi, .slice rL LL cL] 29)).alloc (.cells #[.int .i64 0, .int .u32 0, .int .u32 0, .string ⟨#[]⟩, .slice none 0 0, .slice none 0 0, .int .i32 0, .int .i64 0] 38)).alloc (.cells #[.int .i64 (k : Int), .int .u32 (A : Int), .int .u32 0, .string ⟨#[]⟩, .slice none 0 0, .slice none 0 0, .int .i32 0, .int .i64 0] 38)).heap.size = w.heap.size + 1 + 1 + 1 := by simp
  have b2 := (HBox.new (w.alloc (.cells #[.int .u8 (K0 : Int), .int .u8 (a : Int), .int .u8 (b : Int), .int .u8 (nm : Int), .slice rP LP cP, .int .i16 fi, .slice rL LL cL] 29)) [.int .i64 0, .int .u32 0, .int .u32 0, .string ⟨#[]⟩, .slice none 0 0, .slice none 0 0, .int .i32 0, .int .i64 0] 38).alloc (.cells #[.int .i64 (k : Int), .int .u32 (A : Int), .int .u32 0, .string ⟨#[]⟩, .slice none 0 0, .slice none 0 0, .int .i32 0, .int .i64 0] 38)
  have b3 := HBox.new ((w.alloc (.cells #[.int .u8 (K0 : Int), .int .u8 (a : Int), .int .u8 (b : Int), .int .u8 (nm : Int), .slice rP LP cP, .int .i16 fi, .slice rL LL cL] 29)).alloc (.cells #[.int .i64 0, .int .u32 0, .int .u32 0, .string ⟨#[]⟩, .slice none 0 0, .slice none 0 0, .int .i32 0, .int .i64 0] 38)) [.int .i64 (k : Int), .int .u32 (A : Int), .int .u32 0, .string ⟨#[]⟩, .slice none 0 0, .slice none 0 0, .int .i32 0, .int .i64 0] 38
  rw [hs1] at b2
  rw [hs2] at b3
  have hb := (((Below.refl w.heap.size w).alloc (Nat.le_refl _) (.cells #[.int .u8 (K0 : Int), .int .u8 (a : Int), .int .u8 (b : Int), .int .u8 (nm : Int), .slice rP LP cP, .int .i16 fi, .slice rL LL cL] 29)).alloc (by simp) (.cells #[.int .i64 0, .int .u32 0, .int .u32 0, .string ⟨#[]⟩, .slice none 0 0, .slice none 0 0, .int .i32 0, .int .i64 0] 38)).alloc (by simp; omega) (.cells #[.int .i64 (k : Int), .int .u32 (A : Int), .int .u32 0, .string ⟨#[]⟩, .slice none 0 0, .slice none 0 0, .int .i32 0, .int .i64 0] 38)
  change RBox (((w.alloc (.cells #[.int .u8 (K0 : Int), .int .u8 (a : Int), .int .u8 (b : Int), .int .u8 (nm : Int), .slice rP LP cP, .int .i16 fi, .slice rL LL cL] 29)).alloc (.cells #[.int .i64 0, .int .u32 0, .int .u32 0, .string ⟨#[]⟩, .slice none 0 0, .slice none 0 0, .int .i32 0, .int .i64 0] 38)).alloc (.cells #[.int .i64 (k : Int), .int .u32 (A : Int), .int .u32 0, .string ⟨#[]⟩, .slice none 0 0, .slice none 0 0, .int .i32 0, .int .i64 0] 38)) _ _ at bx
  change HBox (((w.alloc (.cells #[.int .u8 (K0 : Int), .int .u8 (a : Int), .int .u8 (b : Int), .int .u8 (nm : Int), .slice rP LP cP, .int .i16 fi, .slice rL LL cL] 29)).alloc (.cells #[.int .i64 0, .int .u32 0, .int .u32 0, .string ⟨#[]⟩, .slice none 0 0, .slice none 0 0, .int .i32 0, .int .i64 0] 38)).alloc (.cells #[.int .i64 (k : Int), .int .u32 (A : Int), .int .u32 0, .string ⟨#[]⟩, .slice none 0 0, .slice none 0 0, .int .i32 0, .int .i64 0] 38)) _ _ _ at b2
  change HBox (((w.alloc (.cells #[.int .u8 (K0 : Int), .int .u8 (a : Int), .int .u8 (b : Int), .int .u8 (nm : Int), .slice rP LP cP, .int .i16 fi, .slice rL LL cL] 29)).alloc (.cells #[.int .i64 0, .int .u32 0, .int .u32 0, .string ⟨#[]⟩, .slice none 0 0, .slice none 0 0, .int .i32 0, .int .i64 0] 38)).alloc (.cells #[.int .i64 (k : Int), .int .u32 (A : Int), .int .u32 0, .string ⟨#[]⟩, .slice none 0 0, .slice none 0 0, .int .i32 0, .int .i64 0] 38)) _ _ _ at b3
  generalize ((w.alloc (.cells #[.int .u8 (K0 : Int), .int .u8 (a : Int), .int .u8 (b : Int), .int .u8 (nm : Int), .slice rP LP cP, .int .i16 fi, .slice rL LL cL] 29)).alloc (.cells #[.int .i64 0, .int .u32 0, .int .u32 0, .string ⟨#[]⟩, .slice none 0 0, .slice none 0 0, .int .i32 0, .int .i64 0] 38)).alloc (.cells #[.int .i64 (k : Int), .int .u32 (A : Int), .int .u32 0, .string ⟨#[]⟩, .slice none 0 0, .slice none 0 0, .int .i32 0, .int .i64 0] 38) = V at *
  obtain ⟨X, hX⟩ : ∃ X, w.heap.size = X := ⟨_, rfl⟩
  have HX := Lib.hid hX
  rw [hX] at bx b2 b3 hs3 ⊢
  have HBX := Lib.hid bx
  have HB2 := Lib.hid b2
  have HB3 := Lib.hid b3
  have HB := Lib.hid hb
  have HS := Lib.hid hs3
  have c0 := b3.cell (j := 0) rfl
  have c1 := b3.cell (j := 1) rfl
  have c2 := b3.cell (j := 2) rfl
  have f1 := b3.frozen 1
  have f2 := b3.frozen 2
  have f3 := b3.frozen 3
  have f4 := b3.frozen 4
  have x0 := bx.at_ 0 _ rfl
  have x1 := bx.at_ 1 _ rfl
  have x2 := bx.at_ 2 _ rfl
  have x3 := bx.at_ 3 _ rfl
  have x4 := bx.at_ 4 _ rfl
  have x5 := bx.at_ 5 _ rfl
  have x6 := bx.at_ 6 _ rfl
  clear bx b2 b3 hb hs1 hs2 hs3 hX
  go_upto_region 18 with fail
  have HE3 := Lib.hid (HB3.out.set 2 (.int .u32 (B : Int)))
  have HE2 := Lib.hid (HB2.out.grown (grown_set1 V (X + 1 + 1) 2 (.int .u32 (B : Int))) (by simp))
  have HEB := Lib.hid (HB.out.grown (grown_set1 V (X + 1 + 1) 2 (.int .u32 (B : Int))) HB.out.size (fun j hj => by cases hj; have := HX.out; omega))
  clear HB3 HB2 HB HBX HS c0 c1 c2 f1 f2 f3 f4 x0 x1 x2 x3 x4 x5 x6
  generalize V.setCell ⟨X + 1 + 1, 2, none⟩ (.int .u32 (B : Int)) = wE at *
  simp only [List.set_cons_zero, List.set_cons_succ] at HE3
  have e0 := HE3.out.cell (j := 0) rfl
  have e1 := HE3.out.cell (j := 1) rfl
  have e2 := HE3.out.cell (j := 2) rfl
  have e3 := HE3.out.cell (j := 3) rfl
  have e4 := HE3.out.cell (j := 4) rfl
  have e5 := HE3.out.cell (j := 5) rfl
  have e6 := HE3.out.cell (j := 6) rfl
  have e7 := HE3.out.cell (j := 7) rfl
  have g0 := HE2.out.frozen 0
  have g1 := HE2.out.frozen 1
  have g2 := HE2.out.frozen 2
  have g3 := HE2.out.frozen 3
  have g4 := HE2.out.frozen 4
  have g5 := HE2.out.frozen 5
  have g6 := HE2.out.frozen 6
  have g7 := HE2.out.frozen 7
  have h0 := HE2.out.cell (j := 0) rfl
  have h1 := HE2.out.cell (j := 1) rfl
  have h2 := HE2.out.cell (j := 2) rfl
  have h3 := HE2.out.cell (j := 3) rfl
  have h4 := HE2.out.cell (j := 4) rfl
  have h5 := HE2.out.cell (j := 5) rfl
  have h6 := HE2.out.cell (j := 6) rfl
  have h7 := HE2.out.cell (j := 7) rfl
  have GR := grown_sets8 wE (X + 1) (.int .i64 (k : Int)) (.int .u32 (A : Int)) (.int .u32 (B : Int)) (.string ⟨#[]⟩) (.slice none 0 0) (.slice none 0 0) (.int .i32 0) (.int .i64 0)
  have HR := Lib.hid (HE2.out.set8 (.int .i64 (k : Int)) (.int .u32 (A : Int)) (.int .u32 (B : Int)) (.string ⟨#[]⟩) (.slice none 0 0) (.slice none 0 0) (.int .i32 0) (.int .i64 0))
  have PB := Lib.hid (HEB.out.grown GR HEB.out.size (fun j hj => by cases hj; have := HX.out; omega))
  clear GR
  go_wp2_with fail
  have y0 := HR.out.cell (j := 0) rfl
  have y1 := HR.out.cell (j := 1) rfl
  have y2 := HR.out.cell (j := 2) rfl
  have y3 := HR.out.cell (j := 3) rfl
  have y4 := HR.out.cell (j := 4) rfl
  have y5 := HR.out.cell (j := 5) rfl
  have y6 := HR.out.cell (j := 6) rfl
  have y7 := HR.out.cell (j := 7) rfl
  refine bodyPost_ret (v := .agg #[.int .i64 (k : Int), .int .u32 (A : Int), .int .u32 (B : Int), .string ⟨#[]⟩, .slice none 0 0, .slice none 0 0, .int .i32 0, .int .i64 0]) (by simp [results, Tryz.results10, go_sem, y0, y1, y2, y3, y4, y5, y6, y7]) rfl ?_
  refine ⟨.slice none 0 0, .slice none 0 0, ?_, ?_, PB.out⟩
  · rw [HRO.out]; rfl
  · rw [HRO.out]
    exact ⟨⟨rfl, .inl ⟨rfl, rfl⟩⟩, ⟨rfl, .inl ⟨rfl, rfl⟩⟩, by simp⟩
set_option maxHeartbeats 4000000 in
set_option maxRecDepth 100000 in
theorem raw_2 (q : Oi) (w : World) (hM : OnM w q) (h2 : q.x.kind % 8 = 2) : Calls Tryz.prog 10 #[onV q] w fun e w' => RawR w q.x e w' := by
  unfold RawR onV
  obtain ⟨⟨K0, a, b, nm, ps, fi, lo⟩, vP, vL⟩ := q
  obtain ⟨rP, cP, eP, _⟩ := hM.parts.form
  obtain ⟨rL, cL, eL, _⟩ := hM.long.form
  have hok := hM.ok
  simp only at *
  subst eP
  subst eL
  have HP := Lib.hid hM.parts
  have HLO := Lib.hid hM.long
  have hin := hok
  obtain ⟨i1, i2, i3, i4, i5, i6⟩ := hok
  have HOK := Lib.hid hin
  simp only at i1 i2 i3 i4 i5 i6 HP HLO
  have HI5 := Lib.hid i5
  clear hM i5 hin
  obtain ⟨LP, hLP⟩ : ∃ n, ps.length = n := ⟨_, rfl⟩
  obtain ⟨LL, hLL⟩ : ∃ n, lo.length = n := ⟨_, rfl⟩
  have HLP := Lib.hid hLP
  have hLm : LP ≤ 9223372036854775807 := by rw [← hLP]; assumption
  rw [hLP] at HP ⊢
  rw [hLL] at HLO ⊢
  clear hLP hLL
  obtain ⟨A, hA⟩ : ∃ A, 1 + a = A := ⟨_, rfl⟩
  have w1 : IntKind.u32.wrap (a : Int) = (a : Int) := by rw [IntKind.wrap_u32]; omega
  have w2 : IntKind.u32.wrap (1 + (a : Int)) = (A : Int) := by rw [IntKind.wrap_u32]; omega
  have w5 : (1 : Int) + (a : Int) = (A : Int) := by omega
  have w6 : IntKind.u32.wrap (b : Int) = (b : Int) := by rw [IntKind.wrap_u32]; omega
  obtain ⟨B, hB⟩ : ∃ B, 1 + b = B := ⟨_, rfl⟩
  have w7 : (1 : Int) + (b : Int) = (B : Int) := by omega
  have w8 : IntKind.u32.wrap (B : Int) = (B : Int) := by rw [IntKind.wrap_u32]; omega
  have w11 : IntKind.u32.wrap (1 + (b : Int)) = (B : Int) := by rw [IntKind.wrap_u32]; omega
  have HBB := Lib.hid hB
  clear hB
  have w9 : IntKind.u32.wrap (A : Int) = (A : Int) := by rw [IntKind.wrap_u32]; omega
  have HA := Lib.hid hA
  clear hA
  have HRO : Hid (rawO ⟨K0, a, b, nm, ps, fi, lo⟩ = ⟨2, A, b, [], [], [], 0⟩) := Lib.hid (by rw [← HA.out]; exact rawO_2 _ h2)
  have w3 : (K0 : Int) % 8 = 2 := by omega
  clear h2
  go_enter Tryz.func10, Tryz.ntmps10
  go_upto_region 2 with fail
  have bx := ((RBox.new w [.int .u8 (K0 : Int), .int .u8 (a : Int), .int .u8 (b : Int), .int .u8 (nm : Int), .slice rP LP cP, .int .i16 fi, .slice rL LL cL] 29).alloc (.cells #[.int .i64 0, .int .u32 0, .int .u32 0, .string ⟨#[]⟩, .slice none 0 0, .slice none 0 0, .int .i32 0, .int .i64 0] 38)).alloc (.cells #[.int .i64 2, .int .u32 (A : Int), .int .u32 0, .string ⟨#[]⟩, .slice none 0 0, .slice none 0 0, .int .i32 0, .int .i64 0] 38)
  have hs1 : (w.alloc (.cells #[.int .u8 (K0 : Int), .int .u8 (a : Int), .int .u8 (b : Int), .int .u8 (nm : Int), .slice rP LP cP, .int .i16 fi, .slice rL LL cL] 29)).heap.size = w.heap.size + 1 := by simp
  have hs2 : ((w.alloc (.cells #[.int .u8 (K0 : Int), .int .u8 (a : Int), .int .u8 (b : Int), .int .u8 (nm : Int), .slice rP LP cP, .int .i16 fi, .slice rL LL cL] 29)).alloc (.cells #[.int .i64 0, .int .u32 0, .int .u32 0, .string ⟨#[]⟩, .slice none 0 0, .slice none 0 0, .int .i32 0, .int .i64 0] 38)).heap.size = w.heap.size + 1 + 1 := by simp
  have hs3 : (((w.alloc (.cells #[.int .u8 (K0 : Int), .int .u8 (a : Int), .int .u8 (b : Int), .int .u8 (nm : Int), .slice rP LP cP, .int .i16 fi, .slice rL LL cL] 29)).alloc (.cells #[.int .i64 0, .int .u32 0, .int .u32 0, .string ⟨#[]⟩, .slice none 0 0, .slice none 0 0, .int .i32 0, .int .i64 0] 38)).alloc (.cells #[.int .i64 2, .int .u32 (A : Int), .int .u32 0, .string ⟨#[]⟩, .slice none 0 0, .slice none 0 0, .int .i32 0, .int .i64 0] 38)).heap.size = w.heap.size + 1 + 1 + 1 := by simp
  have b2 := (HBox.new (w.alloc (.cells #[.int .u8 (K0 : Int), .int .u8 (a : Int), .int .u8 (b : Int), .int .u8 (nm : Int), .slice rP LP cP, .int .i16 fi, .slice rL LL cL] 29)) [.int .i64 0, .int .u32 0, .int .u32 0, .string ⟨#[]⟩, .slice none 0 0, .slice none 0 0, .int .i32 0, .int .i64 0] 38).alloc (.cells #[.int .i64 2, .int .u32 (A : Int), .int .u32 0, .string ⟨#[]⟩, .slice none 0 0, .slice none 0 0, .int .i32 0, .int .i64 0] 38)
  have b3 := HBox.new ((w.alloc (.cells #[.int .u8 (K0 : Int), .int .u8 (a : Int), .int .u8 (b : Int), .int .u8 (nm : Int), .slice rP LP cP, .int .i16 fi, .slice rL LL cL] 29)).alloc (.cells #[.int .i64 0, .int .u32 0, .int .u32 0, .string ⟨#[]⟩, .slice none 0 0, .slice none 0 0, .int .i32 0, .int .i64 0] 38)) [.int .i64 2, .int .u32 (A : Int), .int .u32 0, .string ⟨#[]⟩, .slice none 0 0, .slice none 0 0, .int .i32 0, .int .i64 0] 38
  rw [hs1] at b2
  rw [hs2] at b3
  have hb := (((Below.refl w.heap.size w).alloc (Nat.le_refl _) (.cells #[.int .u8 (K0 : Int), .int .u8 (a : Int), .int .u8 (b : Int), .int .u8 (nm : Int), .slice rP LP cP, .int .i16 fi, .slice rL LL cL] 29)).alloc (by simp) (.cells #[.int .i64 0, .int .u32 0, .int .u32 0, .string ⟨#[]⟩, .slice none 0 0, .slice none 0 0, .int .i32 0, .int .i64 0] 38)).alloc (by simp; omega) (.cells #[.int .i64 2, .int .u32 (A : Int), .int .u32 0, .string ⟨#[]⟩, .slice none 0 0, .slice none 0 0, .int .i32 0, .int .i64 0] 38)
  change RBox (((w.alloc (.cells #[.int .u8 (K0 : Int), .int .u8 (a : Int), .int .u8 (b : Int), .int .u8 (nm : Int), .slice rP LP cP, .int .i16 fi, .slice rL LL cL] 29)).alloc (.cells #[.int .i64 0, .int .u32 0, .int .u32 0, .string ⟨#[]⟩, .slice none 0 0, .slice none 0 0, .int .i32 0, .int .i64 0] 38)).alloc (.cells #[.int .i64 2, .int .u32 (A : Int), .int .u32 0, .string ⟨#[]⟩, .slice none 0 0, .slice none 0 0, .int .i32 0, .int .i64 0] 38)) _ _ at bx
  change HBox (((w.alloc (.cells #[.int .u8 (K0 : Int), .int .u8 (a : Int), .int .u8 (b : Int), .int .u8 (nm : Int), .slice rP LP cP, .int .i16 fi, .slice rL LL cL] 29)).alloc (.cells #[.int .i64 0, .int .u32 0, .int .u32 0, .string ⟨#[]⟩, .slice none 0 0, .slice none 0 0, .int .i32 0, .int .i64 0] 38)).alloc (.cells #[.int .i64 2, .int .u32 (A : Int), .int .u32 0, .string ⟨#[]⟩, .slice none 0 0, .slice none 0 0, .int .i32 0, .int .i64 0] 38)) _ _ _ at b2
  change HBox (((w.alloc (.cells #[.int .u8 (K0 : Int), .int .u8 (a : Int), .int .u8 (b : Int), .int .u8 (nm : Int), .slice rP LP cP, .int .i16 fi, .slice rL LL cL] 29)).alloc (.cells #[.int .i64 0, .int .u32 0, .int .u32 0, .string ⟨#[]⟩, .slice none 0 0, .slice none 0 0, .int .i32 0, .int .i64 0] 38)).alloc (.cells #[.int .i64 2, .int .u32 (A : Int), .int .u32 0, .string ⟨#[]⟩, .slice none 0 0, .slice none 0 0, .int .i32 0, .int .i64 0] 38)) _ _ _ at b3
  generalize ((w.alloc (.cells #[.int .u8 (K0 : Int), .int .u8 (a : Int), .int .u8 (b : Int), .int .u8 (nm : Int), .slice rP LP cP, .int .i16 fi, .slice rL LL cL] 29)).alloc (.cells #[.int .i64 0, .int .u32 0, .int .u32 0, .string ⟨#[]⟩, .slice none 0 0, .slice none 0 0, .int .i32 0, .int .i64 0] 38)).alloc (.cells #[.int .i64 2, .int .u32 (A : Int), .int .u32 0, .string ⟨#[]⟩, .slice none 0 0, .slice none 0 0, .int .i32 0, .int .i64 0] 38) = V at *
  obtain ⟨X, hX⟩ : ∃ X, w.heap.size = X := ⟨_, rfl⟩
  have HX := Lib.hid hX
  rw [hX] at bx b2 b3 hs3 ⊢
  have HBX := Lib.hid bx
  have HB2 := Lib.hid b2
  have HB3 := Lib.hid b3
  have HB := Lib.hid hb
  have HS := Lib.hid hs3
  have c0 := b3.cell (j := 0) rfl
  have c1 := b3.cell (j := 1) rfl
  have c2 := b3.cell (j := 2) rfl
  have f1 := b3.frozen 1
  have f2 := b3.frozen 2
  have f3 := b3.frozen 3
  have f4 := b3.frozen 4
  have x0 := bx.at_ 0 _ rfl
  have x1 := bx.at_ 1 _ rfl
  have x2 := bx.at_ 2 _ rfl
  have x3 := bx.at_ 3 _ rfl
  have x4 := bx.at_ 4 _ rfl
  have x5 := bx.at_ 5 _ rfl
  have x6 := bx.at_ 6 _ rfl
  clear bx b2 b3 hb hs1 hs2 hs3 hX
  go_upto_region 18 with fail
  have HE3 := Lib.hid (HB3.out.set 2 (.int .u32 (b : Int)))
  have HE2 := Lib.hid (HB2.out.grown (grown_set1 V (X + 1 + 1) 2 (.int .u32 (b : Int))) (by simp))
  have HEB := Lib.hid (HB.out.grown (grown_set1 V (X + 1 + 1) 2 (.int .u32 (b : Int))) HB.out.size (fun j hj => by cases hj; have := HX.out; omega))
  clear HB3 HB2 HB HBX HS c0 c1 c2 f1 f2 f3 f4 x0 x1 x2 x3 x4 x5 x6
  generalize V.setCell ⟨X + 1 + 1, 2, none⟩ (.int .u32 (b : Int)) = wE at *
  simp only [List.set_cons_zero, List.set_cons_succ] at HE3
  have e0 := HE3.out.cell (j := 0) rfl
  have e1 := HE3.out.cell (j := 1) rfl
  have e2 := HE3.out.cell (j := 2) rfl
  have e3 := HE3.out.cell (j := 3) rfl
  have e4 := HE3.out.cell (j := 4) rfl
  have e5 := HE3.out.cell (j := 5) rfl
  have e6 := HE3.out.cell (j := 6) rfl
  have e7 := HE3.out.cell (j := 7) rfl
  have g0 := HE2.out.frozen 0
  have g1 := HE2.out.frozen 1
  have g2 := HE2.out.frozen 2
  have g3 := HE2.out.frozen 3
  have g4 := HE2.out.frozen 4
  have g5 := HE2.out.frozen 5
  have g6 := HE2.out.frozen 6
  have g7 := HE2.out.frozen 7
  have h0 := HE2.out.cell (j := 0) rfl
  have h1 := HE2.out.cell (j := 1) rfl
  have h2 := HE2.out.cell (j := 2) rfl
  have h3 := HE2.out.cell (j := 3) rfl
  have h4 := HE2.out.cell (j := 4) rfl
  have h5 := HE2.out.cell (j := 5) rfl
  have h6 := HE2.out.cell (j := 6) rfl
  have h7 := HE2.out.cell (j := 7) rfl
  have GR := grown_sets8 wE (X + 1) (.int .i64 2) (.int .u32 (A : Int)) (.int .u32 (b : Int)) (.string ⟨#[]⟩) (.slice none 0 0) (.slice none 0 0) (.int .i32 0) (.int .i64 0)
  have HR := Lib.hid (HE2.out.set8 (.int .i64 2) (.int .u32 (A : Int)) (.int .u32 (b : Int)) (.string ⟨#[]⟩) (.slice none 0 0) (.slice none 0 0) (.int .i32 0) (.int .i64 0))
  have PB := Lib.hid (HEB.out.grown GR HEB.out.size (fun j hj => by cases hj; have := HX.out; omega))
  clear GR
  go_wp2_with fail
  have y0 := HR.out.cell (j := 0) rfl
  have y1 := HR.out.cell (j := 1) rfl
  have y2 := HR.out.cell (j := 2) rfl
  have y3 := HR.out.cell (j := 3) rfl
  have y4 := HR.out.cell (j := 4) rfl
  have y5 := HR.out.cell (j := 5) rfl
  have y6 := HR.out.cell (j := 6) rfl
  have y7 := HR.out.cell (j := 7) rfl
  refine bodyPost_ret (v := .agg #[.int .i64 2, .int .u32 (A : Int), .int .u32 (b : Int), .string ⟨#[]⟩, .slice none 0 0, .slice none 0 0, .int .i32 0, .int .i64 0]) (by simp [results, Tryz.results10, go_sem, y0, y1, y2, y3, y4, y5, y6, y7]) rfl ?_
  refine ⟨.slice none 0 0, .slice none 0 0, ?_, ?_, PB.out⟩
  · rw [HRO.out]; rfl
  · rw [HRO.out]
    exact ⟨⟨rfl, .inl ⟨rfl, rfl⟩⟩, ⟨rfl, .inl ⟨rfl, rfl⟩⟩, by simp⟩
set_option maxHeartbeats 4000000 in
set_option maxRecDepth 100000 in
theorem raw_1 (q : Oi) (w : World) (hM : OnM w q) (h1 : q.x.kind % 8 = 1) : Calls Tryz.prog 10 #[onV q] w fun e w' => RawR w q.x e w' := by
  unfold RawR onV
  obtain ⟨⟨K0, a, b, nm, ps, fi, lo⟩, vP, vL⟩ := q
  obtain ⟨rP, cP, eP, _⟩ := hM.parts.form
  obtain ⟨rL, cL, eL, _⟩ := hM.long.form
  have hok := hM.ok
  simp only at *
  subst eP
  subst eL
  have HP := Lib.hid hM.parts
  have HLO := Lib.hid hM.long
  have hin := hok
  obtain ⟨i1, i2, i3, i4, i5, i6⟩ := hok
  have HOK := Lib.hid hin
  simp only at i1 i2 i3 i4 i5 i6 HP HLO
  have HI5 := Lib.hid i5
  clear hM i5 hin
  obtain ⟨LP, hLP⟩ : ∃ n, ps.length = n := ⟨_, rfl⟩
  obtain ⟨LL, hLL⟩ : ∃ n, lo.length = n := ⟨_, rfl⟩
  have HLP := Lib.hid hLP
  have hLm : LP ≤ 9223372036854775807 := by rw [← hLP]; assumption
  rw [hLP] at HP ⊢
  rw [hLL] at HLO ⊢
  clear hLP hLL
  obtain ⟨A, hA⟩ : ∃ A, 1 + a = A := ⟨_, rfl⟩
  have w1 : IntKind.u32.wrap (a : Int) = (a : Int) := by rw [IntKind.wrap_u32]; omega
  have w2 : IntKind.u32.wrap (1 + (a : Int)) = (A : Int) := by rw [IntKind.wrap_u32]; omega
  have w5 : (1 : Int) + (a : Int) = (A : Int) := by omega
  have w6 : IntKind.u32.wrap (b : Int) = (b : Int) := by rw [IntKind.wrap_u32]; omega
  obtain ⟨B, hB⟩ : ∃ B, 1 + b = B := ⟨_, rfl⟩
  have w7 : (1 : Int) + (b : Int) = (B : Int) := by omega
  have w8 : IntKind.u32.wrap (B : Int) = (B : Int) := by rw [IntKind.wrap_u32]; omega
  have w11 : IntKind.u32.wrap (1 + (b : Int)) = (B : Int) := by rw [IntKind.wrap_u32]; omega
  have HBB := Lib.hid hB
  clear hB
  have w9 : IntKind.u32.wrap (A : Int) = (A : Int) := by rw [IntKind.wrap_u32]; omega
  have HA := Lib.hid hA
  clear hA
  have HRO : Hid (rawO ⟨K0, a, b, nm, ps, fi, lo⟩ = ⟨1, A, 0, (nm5 (nm % 5)).data.toList, [], [], 0⟩) := Lib.hid (by rw [← HA.out]; exact rawO_1 _ h1)
  have w3 : (K0 : Int) % 8 = 1 := by omega
  clear h1
  go_enter Tryz.func10, Tryz.ntmps10
  go_upto_region 2 with fail
  have bx := ((RBox.new w [.int .u8 (K0 : Int), .int .u8 (a : Int), .int .u8 (b : Int), .int .u8 (nm : Int), .slice rP LP cP, .int .i16 fi, .slice rL LL cL] 29).alloc (.cells #[.int .i64 0, .int .u32 0, .int .u32 0, .string ⟨#[]⟩, .slice none 0 0, .slice none 0 0, .int .i32 0, .int .i64 0] 38)).alloc (.cells #[.int .i64 1, .int .u32 (A : Int), .int .u32 0, .string ⟨#[]⟩, .slice none 0 0, .slice none 0 0, .int .i32 0, .int .i64 0] 38)
  have hs1 : (w.alloc (.cells #[.int .u8 (K0 : Int), .int .u8 (a : Int), .int .u8 (b : Int), .int .u8 (nm : Int), .slice rP LP cP, .int .i16 fi, .slice rL LL cL] 29)).heap.size = w.heap.size + 1 := by simp
  have hs2 : ((w.alloc (.cells #[.int .u8 (K0 : Int), .int .u8 (a : Int), .int .u8 (b : Int), .int .u8 (nm : Int), .slice rP LP cP, .int .i16 fi, .slice rL LL cL] 29)).alloc (.cells #[.int .i64 0, .int .u32 0, .int .u32 0, .string ⟨#[]⟩, .slice none 0 0, .slice none 0 0, .int .i32 0, .int .i64 0] 38)).heap.size = w.heap.size + 1 + 1 := by simp
  have hs3 : (((w.alloc (.cells #[.int .u8 (K0 : Int), .int .u8 (a : Int), .int .u8 (b : Int), .int .u8 (nm : Int), .slice rP LP cP, .int .i16 fi, .slice rL LL cL] 29)).alloc (.cells #[.int .i64 0, .int .u32 0, .int .u32 0, .string ⟨#[]⟩, .slice none 0 0, .slice none 0 0, .int .i32 0, .int .i64 0] 38)).alloc (.cells #[.int .i64 1, .int .u32 (A : Int), .int .u32 0, .string ⟨#[]⟩, .slice none 0 0, .slice none 0 0, .int .i32 0, .int .i64 0] 38)).heap.size = w.heap.size + 1 + 1 + 1 := by simp
  have b2 := (HBox.new (w.alloc (.cells #[.int .u8 (K0 : Int), .int .u8 (a : Int), .int .u8 (b : Int), .int .u8 (nm : Int), .slice rP LP cP, .int .i16 fi, .slice rL LL cL] 29)) [.int .i64 0, .int .u32 0, .int .u32 0, .string ⟨#[]⟩, .slice none 0 0, .slice none 0 0, .int .i32 0, .int .i64 0] 38).alloc (.cells #[.int .i64 1, .int .u32 (A : Int), .int .u32 0, .string ⟨#[]⟩, .slice none 0 0, .slice none 0 0, .int .i32 0, .int .i64 0] 38)
  have b3 := HBox.new ((w.alloc (.cells #[.int .u8 (K0 : Int), .int .u8 (a : Int), .int .u8 (b : Int), .int .u8 (nm : Int), .slice rP LP cP, .int .i16 fi, .slice rL LL cL] 29)).alloc (.cells #[.int .i64 0, .int .u32 0, .int .u32 0, .string ⟨#[]⟩, .slice none 0 0, .slice none 0 0, .int .i32 0, .int .i64 0] 38)) [.int .i64 1, .int .u32 (A : Int), .int .u32 0, .string ⟨#[]⟩, .slice none 0 0, .slice none 0 0, .int .i32 0, .int .i64 0] 38
  rw [hs1] at b2
  rw [hs2] at b3
  have hb := (((Below.refl w.heap.size w).alloc (Nat.le_refl _) (.cells #[.int .u8 (K0 : Int), .int .u8 (a : Int), .int .u8 (b : Int), .int .u8 (nm : Int), .slice rP LP cP, .int .i16 fi, .slice rL LL cL] 29)).alloc (by simp) (.cells #[.int .i64 0, .int .u32 0, .int .u32 0, .string ⟨#[]⟩, .slice none 0 0, .slice none 0 0, .int .i32 0, .int .i64 0] 38)).alloc (by simp; omega) (.cells #[.int .i64 1, .int .u32 (A : Int), .int .u32 0, .string ⟨#[]⟩, .slice none 0 0, .slice none 0 0, .int .i32 0, .int .i64 0] 38)
  change RBox (((w.alloc (.cells #[.int .u8 (K0 : Int), .int .u8 (a : Int), .int .u8 (b : Int), .int .u8 (nm : Int), .slice rP LP cP, .int .i16 fi, .slice rL LL cL] 29)).alloc (.cells #[.int .i64 0, .int .u32 0, .int .u32 0, .string ⟨#[]⟩, .slice none 0 0, .slice none 0 0, .int .i32 0, .int .i64 0] 38)).alloc (.cells #[.int .i64 1, .int .u32 (A : Int), .int .u32 0, .string ⟨#[]⟩, .slice none 0 0, .slice none 0 0, .int .i32 0, .int .i64 0] 38)) _ _ at bx
  change HBox (((w.alloc (.cells #[.int .u8 (K0 : Int), .int .u8 (a : Int), .int .u8 (b : Int), .int .u8 (nm : Int), .slice rP LP cP, .int .i16 fi, .slice rL LL cL] 29)).alloc (.cells #[.int .i64 0, .int .u32 0, .int .u32 0, .string ⟨#[]⟩, .slice none 0 0, .slice none 0 0, .int .i32 0, .int .i64 0] 38)).alloc (.cells #[.int .i64 1, .int .u32 (A : Int), .int .u32 0, .string ⟨#[]⟩, .slice none 0 0, .slice none 0 0, .int .i32 0, .int .i64 0] 38)) _ _ _ at b2
  change HBox (((w.alloc (.cells #[.int .u8 (K0 : Int), .int .u8 (a : Int), .int .u8 (b : Int), .int .u8 (nm : Int), .slice rP LP cP, .int .i16 fi, .slice rL LL cL] 29)).alloc (.cells #[.int .i64 0, .int .u32 0, .int .u32 0, .string ⟨#[]⟩, .slice none 0 0, .slice none 0 0, .int .i32 0, .int .i64 0] 38)).alloc (.cells #[.int .i64 1, .int .u32 (A : Int), .int .u32 0, .string ⟨#[]⟩, .slice none 0 0, .slice none 0 0, .int .i32 0, .int .i64 0] 38)) _ _ _ at b3
  generalize ((w.alloc (.cells #[.int .u8 (K0 : Int), .int .u8 (a : Int), .int .u8 (b : Int), .int .u8 (nm : Int), .slice rP LP cP, .int .i16 fi, .slice rL LL cL] 29)).alloc (.cells #[.int .i64 0, .int .u32 0, .int .u32 0, .string ⟨#[]⟩, .slice none 0 0, .slice none 0 0, .int .i32 0, .int .i64 0] 38)).alloc (.cells #[.int .i64 1, .int .u32 (A : Int), .int .u32 0, .string ⟨#[]⟩, .slice none 0 0, .slice none 0 0, .int .i32 0, .int .i64 0] 38) = V at *
  obtain ⟨X, hX⟩ : ∃ X, w.heap.size = X := ⟨_, rfl⟩
  have HX := Lib.hid hX
  rw [hX] at bx b2 b3 hs3 ⊢
  have HBX := Lib.hid bx
  have HB2 := Lib.hid b2
  have HB3 := Lib.hid b3
  have HB := Lib.hid hb
  have HS := Lib.hid hs3
  have c0 := b3.cell (j := 0) rfl
  have c1 := b3.cell (j := 1) rfl
  have c2 := b3.cell (j := 2) rfl
  have f1 := b3.frozen 1
  have f2 := b3.frozen 2
  have f3 := b3.frozen 3
  have f4 := b3.frozen 4
  have x0 := bx.at_ 0 _ rfl
  have x1 := bx.at_ 1 _ rfl
  have x2 := bx.at_ 2 _ rfl
  have x3 := bx.at_ 3 _ rfl
  have x4 := bx.at_ 4 _ rfl
  have x5 := bx.at_ 5 _ rfl
  have x6 := bx.at_ 6 _ rfl
  clear bx b2 b3 hb hs1 hs2 hs3 hX
  obtain ⟨NM, hNM⟩ : ∃ z, nm5 (nm % 5) = z := ⟨_, rfl⟩
  rw [hNM] at HRO
  go_upto_region 18 with (go_at_call 22; refine (lname_c nm _).mono ?_; rintro e w2 ⟨rfl, h2⟩; have GB3 := Lib.hid (HB3.out.stay h2); have GB2 := Lib.hid (HB2.out.stay h2); have GB := Lib.hid (HB.out.trans (h2.mono HB.out.size)); have k3 := GB3.out.cell (j := 3) rfl; have l3 := GB3.out.frozen 3; rw [hNM]; clear h2 HB3 HB2 HB)
  have HE3 := Lib.hid (GB3.out.set 3 (.string NM))
  have HE2 := Lib.hid (GB2.out.grown (grown_set1 w2 (X + 1 + 1) 3 (.string NM)) (by simp))
  have HEB := Lib.hid (GB.out.grown (grown_set1 w2 (X + 1 + 1) 3 (.string NM)) GB.out.size (fun j hj => by cases hj; have := HX.out; omega))
  clear k3 l3 hNM GB3 GB2 GB HBX HS c0 c1 c2 f1 f2 f3 f4 x0 x1 x2 x3 x4 x5 x6
  generalize w2.setCell ⟨X + 1 + 1, 3, none⟩ (.string NM) = wE at *
  simp only [List.set_cons_zero, List.set_cons_succ] at HE3
  have e0 := HE3.out.cell (j := 0) rfl
  have e1 := HE3.out.cell (j := 1) rfl
  have e2 := HE3.out.cell (j := 2) rfl
  have e3 := HE3.out.cell (j := 3) rfl
  have e4 := HE3.out.cell (j := 4) rfl
  have e5 := HE3.out.cell (j := 5) rfl
  have e6 := HE3.out.cell (j := 6) rfl
  have e7 := HE3.out.cell (j := 7) rfl
  have g0 := HE2.out.frozen 0
  have g1 := HE2.out.frozen 1
  have g2 := HE2.out.frozen 2
  have g3 := HE2.out.frozen 3
  have g4 := HE2.out.frozen 4
  have g5 := HE2.out.frozen 5
  have g6 := HE2.out.frozen 6
  have g7 := HE2.out.frozen 7
  have h0 := HE2.out.cell (j := 0) rfl
  have h1 := HE2.out.cell (j := 1) rfl
  have h2 := HE2.out.cell (j := 2) rfl
  have h3 := HE2.out.cell (j := 3) rfl
  have h4 := HE2.out.cell (j := 4) rfl
  have h5 := HE2.out.cell (j := 5) rfl
  have h6 := HE2.out.cell (j := 6) rfl
  have h7 := HE2.out.cell (j := 7) rfl
  have GR := grown_sets8 wE (X + 1) (.int .i64 1) (.int .u32 (A : Int)) (.int .u32 0) (.string NM) (.slice none 0 0) (.slice none 0 0) (.int .i32 0) (.int .i64 0)
  have HR := Lib.hid (HE2.out.set8 (.int .i64 1) (.int .u32 (A : Int)) (.int .u32 0) (.string NM) (.slice none 0 0) (.slice none 0 0) (.int .i32 0) (.int .i64 0))
  have PB := Lib.hid (HEB.out.grown GR HEB.out.size (fun j hj => by cases hj; have := HX.out; omega))
  clear GR
  go_wp2_with fail
  have y0 := HR.out.cell (j := 0) rfl
  have y1 := HR.out.cell (j := 1) rfl
  have y2 := HR.out.cell (j := 2) rfl
  have y3 := HR.out.cell (j := 3) rfl
  have y4 := HR.out.cell (j := 4) rfl
  have y5 := HR.out.cell (j := 5) rfl
  have y6 := HR.out.cell (j := 6) rfl
  have y7 := HR.out.cell (j := 7) rfl
  refine bodyPost_ret (v := .agg #[.int .i64 1, .int .u32 (A : Int), .int .u32 0, .string NM, .slice none 0 0, .slice none 0 0, .int .i32 0, .int .i64 0]) (by simp [results, Tryz.results10, go_sem, y0, y1, y2, y3, y4, y5, y6, y7]) rfl ?_
  refine ⟨.slice none 0 0, .slice none 0 0, ?_, ?_, PB.out⟩
  · rw [HRO.out]; rfl
  · rw [HRO.out]
    exact ⟨⟨rfl, .inl ⟨rfl, rfl⟩⟩, ⟨rfl, .inl ⟨rfl, rfl⟩⟩, by simp⟩
set_option maxHeartbeats 4000000 in
set_option maxRecDepth 100000 in
theorem raw_7 (q : Oi) (w : World) (hM : OnM w q) (h7 : q.x.kind % 8 = 7) : Calls Tryz.prog 10 #[onV q] w fun e w' => RawR w q.x e w' := by
  unfold RawR onV
  obtain ⟨⟨K0, a, b, nm, ps, fi, lo⟩, vP, vL⟩ := q
  obtain ⟨rP, cP, eP, _⟩ := hM.parts.form
  obtain ⟨rL, cL, eL, _⟩ := hM.long.form
  have hok := hM.ok
  simp only at *
  subst eP
  subst eL
  have HP := Lib.hid hM.parts
  have HLO := Lib.hid hM.long
  have hin := hok
  obtain ⟨i1, i2, i3, i4, i5, i6⟩ := hok
  have HOK := Lib.hid hin
  simp only at i1 i2 i3 i4 i5 i6 HP HLO
  have HI5 := Lib.hid i5
  clear hM i5 hin
  obtain ⟨LP, hLP⟩ : ∃ n, ps.length = n := ⟨_, rfl⟩
  obtain ⟨LL, hLL⟩ : ∃ n, lo.length = n := ⟨_, rfl⟩
  have HLP := Lib.hid hLP
  have hLm : LP ≤ 9223372036854775807 := by rw [← hLP]; assumption
  rw [hLP] at HP ⊢
  rw [hLL] at HLO ⊢
  clear hLP hLL
  obtain ⟨A, hA⟩ : ∃ A, 1 + a = A := ⟨_, rfl⟩
  have w1 : IntKind.u32.wrap (a : Int) = (a : Int) := by rw [IntKind.wrap_u32]; omega
  have w2 : IntKind.u32.wrap (1 + (a : Int)) = (A : Int) := by rw [IntKind.wrap_u32]; omega
  have w5 : (1 : Int) + (a : Int) = (A : Int) := by omega
  have w6 : IntKind.u32.wrap (b : Int) = (b : Int) := by rw [IntKind.wrap_u32]; omega
  obtain ⟨B, hB⟩ : ∃ B, 1 + b = B := ⟨_, rfl⟩
  have w7 : (1 : Int) + (b : Int) = (B : Int) := by omega
  have w8 : IntKind.u32.wrap (B : Int) = (B : Int) := by rw [IntKind.wrap_u32]; omega
  have w11 : IntKind.u32.wrap (1 + (b : Int)) = (B : Int) := by rw [IntKind.wrap_u32]; omega
  have HBB := Lib.hid hB
  clear hB
  have w9 : IntKind.u32.wrap (A : Int) = (A : Int) := by rw [IntKind.wrap_u32]; omega
  have HA := Lib.hid hA
  clear hA
  have HRO : Hid (rawO ⟨K0, a, b, nm, ps, fi, lo⟩ = ⟨7, 0, 0, [], [], mkS fi lo, mkE fi lo⟩) := Lib.hid (by exact rawO_7 _ h7)
  have w3 : (K0 : Int) % 8 = 7 := by omega
  clear h7
  go_enter Tryz.func10, Tryz.ntmps10
  go_upto_region 2 with fail
  have bx := ((RBox.new w [.int .u8 (K0 : Int), .int .u8 (a : Int), .int .u8 (b : Int), .int .u8 (nm : Int), .slice rP LP cP, .int .i16 fi, .slice rL LL cL] 29).alloc (.cells #[.int .i64 0, .int .u32 0, .int .u32 0, .string ⟨#[]⟩, .slice none 0 0, .slice none 0 0, .int .i32 0, .int .i64 0] 38)).alloc (.cells #[.int .i64 7, .int .u32 (A : Int), .int .u32 0, .string ⟨#[]⟩, .slice none 0 0, .slice none 0 0, .int .i32 0, .int .i64 0] 38)
  have hs1 : (w.alloc (.cells #[.int .u8 (K0 : Int), .int .u8 (a : Int), .int .u8 (b : Int), .int .u8 (nm : Int), .slice rP LP cP, .int .i16 fi, .slice rL LL cL] 29)).heap.size = w.heap.size + 1 := by simp
  have hs2 : ((w.alloc (.cells #[.int .u8 (K0 : Int), .int .u8 (a : Int), .int .u8 (b : Int), .int .u8 (nm : Int), .slice rP LP cP, .int .i16 fi, .slice rL LL cL] 29)).alloc (.cells #[.int .i64 0, .int .u32 0, .int .u32 0, .string ⟨#[]⟩, .slice none 0 0, .slice none 0 0, .int .i32 0, .int .i64 0] 38)).heap.size = w.heap.size + 1 + 1 := by simp
  have hs3 : (((w.alloc (.cells #[.int .u8 (K0 : Int), .int .u8 (a : Int), .int .u8 (b : Int), .int .u8 (nm : Int), .slice rP LP cP, .int .i16 fi, .slice rL LL cL] 29)).alloc (.cells #[.int .i64 0, .int .u32 0, .int .u32 0, .string ⟨#[]⟩, .slice none 0 0, .slice none 0 0, .int .i32 0, .int .i64 0] 38)).alloc (.cells #[.int .i64 7, .int .u32 (A : Int), .int .u32 0, .string ⟨#[]⟩, .slice none 0 0, .slice none 0 0, .int .i32 0, .int .i64 0] 38)).heap.size = w.heap.size + 1 + 1 + 1 := by simp
  have b2 := (HBox.new (w.alloc (.cells #[.int .u8 (K0 : Int), .int .u8 (a : Int), .int .u8 (b : Int), .int .u8 (nm : Int), .slice rP LP cP, .int .i16 fi, .slice rL LL cL] 29)) [.int .i64 0, .int .u32 0, .int .u32 0, .string ⟨#[]⟩, .slice none 0 0, .slice none 0 0, .int .i32 0, .int .i64 0] 38).alloc (.cells #[.int .i64 7, .int .u32 (A : Int), .int .u32 0, .string ⟨#[]⟩, .slice none 0 0, .slice none 0 0, .int .i32 0, .int .i64 0] 38)
  have b3 := HBox.new ((w.alloc (.cells #[.int .u8 (K0 : Int), .int .u8 (a : Int), .int .u8 (b : Int), .int .u8 (nm : Int), .slice rP LP cP, .int .i16 fi, .slice rL LL cL] 29)).alloc (.cells #[.int .i64 0, .int .u32 0, .int .u32 0, .string ⟨#[]⟩, .slice none 0 0, .slice none 0 0, .int .i32 0, .int .i64 0] 38)) [.int .i64 7, .int .u32 (A : Int), .int .u32 0, .string ⟨#[]⟩, .slice none 0 0, .slice none 0 0, .int .i32 0, .int .i64 0] 38
  rw [hs1] at b2
  rw [hs2] at b3
  have hb := (((Below.refl w.heap.size w).alloc (Nat.le_refl _) (.cells #[.int .u8 (K0 : Int), .int .u8 (a : Int), .int .u8 (b : Int), .int .u8 (nm : Int), .slice rP LP cP, .int .i16 fi, .slice rL LL cL] 29)).alloc (by simp) (.cells #[.int .i64 0, .int .u32 0, .int .u32 0, .string ⟨#[]⟩, .slice none 0 0, .slice none 0 0, .int .i32 0, .int .i64 0] 38)).alloc (by simp; omega) (.cells #[.int .i64 7, .int .u32 (A : Int), .int .u32 0, .string ⟨#[]⟩, .slice none 0 0, .slice none 0 0, .int .i32 0, .int .i64 0] 38)
  change RBox (((w.alloc (.cells #[.int .u8 (K0 : Int), .int .u8 (a : Int), .int .u8 (b : Int), .int .u8 (nm : Int), .slice rP LP cP, .int .i16 fi, .slice rL LL cL] 29)).alloc (.cells #[.int .i64 0, .int .u32 0, .int .u32 0, .string ⟨#[]⟩, .slice none 0 0, .slice none 0 0, .int .i32 0, .int .i64 0] 38)).alloc (.cells #[.int .i64 7, .int .u32 (A : Int), .int .u32 0, .string ⟨#[]⟩, .slice none 0 0, .slice none 0 0, .int .i32 0, .int .i64 0] 38)) _ _ at bx
  change HBox (((w.alloc (.cells #[.int .u8 (K0 : Int), .int .u8 (a : Int), .int .u8 (b : Int), .int .u8 (nm : Int), .slice rP LP cP, .int .i16 fi, .slice rL LL cL] 29)).alloc (.cells #[.int .i64 0, .int .u32 0, .int .u32 0, .string ⟨#[]⟩, .slice none 0 0, .slice none 0 0, .int .i32 0, .int .i64 0] 38)).alloc (.cells #[.int .i64 7, .int .u32 (A : Int), .int .u32 0, .string ⟨#[]⟩, .slice none 0 0, .slice none 0 0, .int .i32 0, .int .i64 0] 38)) _ _ _ at b2
  change HBox (((w.alloc (.cells #[.int .u8 (K0 : Int), .int .u8 (a : Int), .int .u8 (b : Int), .int .u8 (nm : Int), .slice rP LP cP, .int .i16 fi, .slice rL LL cL] 29)).alloc (.cells #[.int .i64 0, .int .u32 0, .int .u32 0, .string ⟨#[]⟩, .slice none 0 0, .slice none 0 0, .int .i32 0, .int .i64 0] 38)).alloc (.cells #[.int .i64 7, .int .u32 (A : Int), .int .u32 0, .string ⟨#[]⟩, .slice none 0 0, .slice none 0 0, .int .i32 0, .int .i64 0] 38)) _ _ _ at b3
  generalize ((w.alloc (.cells #[.int .u8 (K0 : Int), .int .u8 (a : Int), .int .u8 (b : Int), .int .u8 (nm : Int), .slice rP LP cP, .int .i16 fi, .slice rL LL cL] 29)).alloc (.cells #[.int .i64 0, .int .u32 0, .int .u32 0, .string ⟨#[]⟩, .slice none 0 0, .slice none 0 0, .int .i32 0, .int .i64 0] 38)).alloc (.cells #[.int .i64 7, .int .u32 (A : Int), .int .u32 0, .string ⟨#[]⟩, .slice none 0 0, .slice none 0 0, .int .i32 0, .int .i64 0] 38) = V at *
  obtain ⟨X, hX⟩ : ∃ X, w.heap.size = X := ⟨_, rfl⟩
  have HX := Lib.hid hX
  rw [hX] at bx b2 b3 hs3 ⊢
  have HBX := Lib.hid bx
  have HB2 := Lib.hid b2
  have HB3 := Lib.hid b3
  have HB := Lib.hid hb
  have HS := Lib.hid hs3
  have c0 := b3.cell (j := 0) rfl
  have c1 := b3.cell (j := 1) rfl
  have c2 := b3.cell (j := 2) rfl
  have f1 := b3.frozen 1
  have f2 := b3.frozen 2
  have f3 := b3.frozen 3
  have f4 := b3.frozen 4
  have x0 := bx.at_ 0 _ rfl
  have x1 := bx.at_ 1 _ rfl
  have x2 := bx.at_ 2 _ rfl
  have x3 := bx.at_ 3 _ rfl
  have x4 := bx.at_ 4 _ rfl
  have x5 := bx.at_ 5 _ rfl
  have x6 := bx.at_ 6 _ rfl
  clear bx b2 b3 hb hs1 hs2 hs3 hX
  have HVS : Hid (X + 1 + 1 < V.heap.size) := Lib.hid (by have := HS.out; omega)
  go_upto_region 18 with (go_at_call 23; refine (makeC_c _ lo fi i6 V (HLO.out.stay HB.out)).mono ?_; rintro e w2 ⟨vS, rfl, oS, h2⟩; have GB3 := Lib.hid (HB3.out.stay h2); have GB2 := Lib.hid (HB2.out.stay h2); have GB := Lib.hid (HB.out.trans (h2.mono HB.out.size)); have GS := Lib.hid oS; obtain ⟨rS, cS, rfl⟩ := owns_form oS; have k1 := GB3.out.cell (j := 1) rfl; have l1 := GB3.out.frozen 1; have k5 := GB3.out.cell (j := 5) rfl; have l5 := GB3.out.frozen 5; have k6 := GB3.out.cell (j := 6) rfl; have l6 := GB3.out.frozen 6; clear h2 oS HB3 HB2 HB)
  have G1 := ((grown_set1 w2 (X + 1 + 1) 1 (.int .u32 0)).trans (grown_set1 _ (X + 1 + 1) 5 (.slice rS (mkS fi lo).length cS))).trans (grown_set1 _ (X + 1 + 1) 6 (.int .i32 (mkE fi lo)))
  have HE3 := Lib.hid (((GB3.out.set 1 (.int .u32 0)).set 5 (.slice rS (mkS fi lo).length cS)).set 6 (.int .i32 (mkE fi lo)))
  have HE2 := Lib.hid (GB2.out.grown G1 (by simp))
  have HEB := Lib.hid (GB.out.grown G1 GB.out.size (fun j hj => by cases hj; have := HX.out; omega))
  have HES := Lib.hid (GS.out.kept G1 (.inr (owns_far GS.out (m := X + 1 + 1) (.inl (by have := HS.out; omega)))))
  clear GB3 GB2 GB GS G1 HBX HS c0 c1 c2 f1 f2 f3 f4 x0 x1 x2 x3 x4 x5 x6 k1 l1 k5 l5 k6 l6
  generalize ((w2.setCell ⟨X + 1 + 1, 1, none⟩ (.int .u32 0)).setCell ⟨X + 1 + 1, 5, none⟩ (.slice rS (mkS fi lo).length cS)).setCell ⟨X + 1 + 1, 6, none⟩ (.int .i32 (mkE fi lo)) = wE at *
  simp only [List.set_cons_zero, List.set_cons_succ] at HE3
  have HLN : Hid ((mkS fi lo).length ≤ 13) := Lib.hid (by rw [mkS_len]; omega)
  have e0 := HE3.out.cell (j := 0) rfl
  have e1 := HE3.out.cell (j := 1) rfl
  have e2 := HE3.out.cell (j := 2) rfl
  have e3 := HE3.out.cell (j := 3) rfl
  have e4 := HE3.out.cell (j := 4) rfl
  have e5 := HE3.out.cell (j := 5) rfl
  have e6 := HE3.out.cell (j := 6) rfl
  have e7 := HE3.out.cell (j := 7) rfl
  have g0 := HE2.out.frozen 0
  have g1 := HE2.out.frozen 1
  have g2 := HE2.out.frozen 2
  have g3 := HE2.out.frozen 3
  have g4 := HE2.out.frozen 4
  have g5 := HE2.out.frozen 5
  have g6 := HE2.out.frozen 6
  have g7 := HE2.out.frozen 7
  have h0 := HE2.out.cell (j := 0) rfl
  have h1 := HE2.out.cell (j := 1) rfl
  have h2 := HE2.out.cell (j := 2) rfl
  have h3 := HE2.out.cell (j := 3) rfl
  have h4 := HE2.out.cell (j := 4) rfl
  have h5 := HE2.out.cell (j := 5) rfl
  have h6 := HE2.out.cell (j := 6) rfl
  have h7 := HE2.out.cell (j := 7) rfl
  have GR := grown_sets8 wE (X + 1) (.int .i64 7) (.int .u32 0) (.int .u32 0) (.string ⟨#[]⟩) (.slice none 0 0) (.slice rS (mkS fi lo).length cS) (.int .i32 (mkE fi lo)) (.int .i64 0)
  have HR := Lib.hid (HE2.out.set8 (.int .i64 7) (.int .u32 0) (.int .u32 0) (.string ⟨#[]⟩) (.slice none 0 0) (.slice rS (mkS fi lo).length cS) (.int .i32 (mkE fi lo)) (.int .i64 0))
  have PB := Lib.hid (HEB.out.grown GR HEB.out.size (fun j hj => by cases hj; have := HX.out; omega))
  have HOS := Lib.hid (HES.out.kept GR (.inr (owns_far HES.out (m := X + 1) (.inl (by have := HVS.out; omega)))))
  clear GR
  go_wp2_with fail
  have y0 := HR.out.cell (j := 0) rfl
  have y1 := HR.out.cell (j := 1) rfl
  have y2 := HR.out.cell (j := 2) rfl
  have y3 := HR.out.cell (j := 3) rfl
  have y4 := HR.out.cell (j := 4) rfl
  have y5 := HR.out.cell (j := 5) rfl
  have y6 := HR.out.cell (j := 6) rfl
  have y7 := HR.out.cell (j := 7) rfl
  refine bodyPost_ret (v := .agg #[.int .i64 7, .int .u32 0, .int .u32 0, .string ⟨#[]⟩, .slice none 0 0, .slice rS (mkS fi lo).length cS, .int .i32 (mkE fi lo), .int .i64 0]) (by simp [results, Tryz.results10, go_sem, y0, y1, y2, y3, y4, y5, y6, y7]) rfl ?_
  refine ⟨.slice none 0 0, .slice rS (mkS fi lo).length cS, ?_, ?_, PB.out⟩
  · rw [HRO.out]; rfl
  · rw [HRO.out]
    exact ⟨⟨rfl, .inl ⟨rfl, rfl⟩⟩, by have h := owns_mono HOS.out (base' := w.heap.size) (by have := HVS.out; have := HX.out; omega); exact h, ⟨Nat.zero_le _, Nat.le_trans HLN.out (by decide)⟩⟩
end Go.Proofs.YtffhnedladiaoaaGreatDoor
/- Contract of law 13's Raw: splits; all kinds. -/
namespace Go.Proofs.YtffhnedladiaoaaGreatDoor
open Go.RowKit Go.Lib
set_option linter.unusedVariables false
set_option linter.unusedSimpArgs false
theorem infoPt : (Tryz.prog.info? 60).map (fun i => (i.zero, i.size, i.bytes)) = some (some (.agg #[.int .u32 0, .int .i64 0]), 2, 16) := by kernel_rfl
set_option maxHeartbeats 4000000 in
set_option maxRecDepth 100000 in
theorem raw_4 (q : Oi) (w : World) (hM : OnM w q) (h4 : q.x.kind % 8 = 4) : Calls Tryz.prog 10 #[onV q] w fun e w' => RawR w q.x e w' := by
  unfold RawR onV
  obtain ⟨⟨K0, a, b, nm, ps, fi, lo⟩, vP, vL⟩ := q
  obtain ⟨rP, cP, eP, _⟩ := hM.parts.form
  obtain ⟨rL, cL, eL, _⟩ := hM.long.form
  have hok := hM.ok
  simp only at *
  subst eP
  subst eL
  have HP := Lib.hid hM.parts
  have HLO := Lib.hid hM.long
  have hin := hok
  obtain ⟨i1, i2, i3, i4, i5, i6⟩ := hok
  have HOK := Lib.hid hin
  simp only at i1 i2 i3 i4 i5 i6 HP HLO
  have HI5 := Lib.hid i5
  clear hM i5 hin
  obtain ⟨LP, hLP⟩ : ∃ n, ps.length = n := ⟨_, rfl⟩
  obtain ⟨LL, hLL⟩ : ∃ n, lo.length = n := ⟨_, rfl⟩
  have HLP := Lib.hid hLP
  have hLm : LP ≤ 9223372036854775807 := by rw [← hLP]; assumption
  rw [hLP] at HP ⊢
  rw [hLL] at HLO ⊢
  clear hLP hLL
  obtain ⟨A, hA⟩ : ∃ A, 1 + a = A := ⟨_, rfl⟩
  have w1 : IntKind.u32.wrap (a : Int) = (a : Int) := by rw [IntKind.wrap_u32]; omega
  have w2 : IntKind.u32.wrap (1 + (a : Int)) = (A : Int) := by rw [IntKind.wrap_u32]; omega
  have w5 : (1 : Int) + (a : Int) = (A : Int) := by omega
  have w6 : IntKind.u32.wrap (b : Int) = (b : Int) := by rw [IntKind.wrap_u32]; omega
  obtain ⟨B, hB⟩ : ∃ B, 1 + b = B := ⟨_, rfl⟩
  have w7 : (1 : Int) + (b : Int) = (B : Int) := by omega
  have w8 : IntKind.u32.wrap (B : Int) = (B : Int) := by rw [IntKind.wrap_u32]; omega
  have w11 : IntKind.u32.wrap (1 + (b : Int)) = (B : Int) := by rw [IntKind.wrap_u32]; omega
  have HBB := Lib.hid hB
  clear hB
  have w9 : IntKind.u32.wrap (A : Int) = (A : Int) := by rw [IntKind.wrap_u32]; omega
  have HA := Lib.hid hA
  clear hA
  have HRO : Hid (rawO ⟨K0, a, b, nm, ps, fi, lo⟩ = ⟨4, A, 0, [], rawP ⟨K0, a, b, nm, ps, fi, lo⟩, [], 0⟩) := Lib.hid (by rw [← HA.out]; exact rawO_4 _ h4)
  have w3 : (K0 : Int) % 8 = 4 := by omega
  clear h4
  go_enter Tryz.func10, Tryz.ntmps10
  go_upto_region 2 with fail
  have bx := ((RBox.new w [.int .u8 (K0 : Int), .int .u8 (a : Int), .int .u8 (b : Int), .int .u8 (nm : Int), .slice rP LP cP, .int .i16 fi, .slice rL LL cL] 29).alloc (.cells #[.int .i64 0, .int .u32 0, .int .u32 0, .string ⟨#[]⟩, .slice none 0 0, .slice none 0 0, .int .i32 0, .int .i64 0] 38)).alloc (.cells #[.int .i64 4, .int .u32 (A : Int), .int .u32 0, .string ⟨#[]⟩, .slice none 0 0, .slice none 0 0, .int .i32 0, .int .i64 0] 38)
  have hs1 : (w.alloc (.cells #[.int .u8 (K0 : Int), .int .u8 (a : Int), .int .u8 (b : Int), .int .u8 (nm : Int), .slice rP LP cP, .int .i16 fi, .slice rL LL cL] 29)).heap.size = w.heap.size + 1 := by simp
  have hs2 : ((w.alloc (.cells #[.int .u8 (K0 : Int), .int .u8 (a : Int), .int .u8 (b : Int), .int .u8 (nm : Int), .slice rP LP cP, .int .i16 fi, .slice rL LL cL] 29)).alloc (.cells #[.int .i64 0, .int .u32 0, .int .u32 0, .string ⟨#[]⟩, .slice none 0 0, .slice none 0 0, .int .i32 0, .int .i64 0] 38)).heap.size = w.heap.size + 1 + 1 := by simp
  have hs3 : (((w.alloc (.cells #[.int .u8 (K0 : Int), .int .u8 (a : Int), .int .u8 (b : Int), .int .u8 (nm : Int), .slice rP LP cP, .int .i16 fi, .slice rL LL cL] 29)).alloc (.cells #[.int .i64 0, .int .u32 0, .int .u32 0, .string ⟨#[]⟩, .slice none 0 0, .slice none 0 0, .int .i32 0, .int .i64 0] 38)).alloc (.cells #[.int .i64 4, .int .u32 (A : Int), .int .u32 0, .string ⟨#[]⟩, .slice none 0 0, .slice none 0 0, .int .i32 0, .int .i64 0] 38)).heap.size = w.heap.size + 1 + 1 + 1 := by simp
  have b2 := (HBox.new (w.alloc (.cells #[.int .u8 (K0 : Int), .int .u8 (a : Int), .int .u8 (b : Int), .int .u8 (nm : Int), .slice rP LP cP, .int .i16 fi, .slice rL LL cL] 29)) [.int .i64 0, .int .u32 0, .int .u32 0, .string ⟨#[]⟩, .slice none 0 0, .slice none 0 0, .int .i32 0, .int .i64 0] 38).alloc (.cells #[.int .i64 4, .int .u32 (A : Int), .int .u32 0, .string ⟨#[]⟩, .slice none 0 0, .slice none 0 0, .int .i32 0, .int .i64 0] 38)
  have b3 := HBox.new ((w.alloc (.cells #[.int .u8 (K0 : Int), .int .u8 (a : Int), .int .u8 (b : Int), .int .u8 (nm : Int), .slice rP LP cP, .int .i16 fi, .slice rL LL cL] 29)).alloc (.cells #[.int .i64 0, .int .u32 0, .int .u32 0, .string ⟨#[]⟩, .slice none 0 0, .slice none 0 0, .int .i32 0, .int .i64 0] 38)) [.int .i64 4, .int .u32 (A : Int), .int .u32 0, .string ⟨#[]⟩, .slice none 0 0, .slice none 0 0, .int .i32 0, .int .i64 0] 38
  rw [hs1] at b2
  rw [hs2] at b3
  have hb := (((Below.refl w.heap.size w).alloc (Nat.le_refl _) (.cells #[.int .u8 (K0 : Int), .int .u8 (a : Int), .int .u8 (b : Int), .int .u8 (nm : Int), .slice rP LP cP, .int .i16 fi, .slice rL LL cL] 29)).alloc (by simp) (.cells #[.int .i64 0, .int .u32 0, .int .u32 0, .string ⟨#[]⟩, .slice none 0 0, .slice none 0 0, .int .i32 0, .int .i64 0] 38)).alloc (by simp; omega) (.cells #[.int .i64 4, .int .u32 (A : Int), .int .u32 0, .string ⟨#[]⟩, .slice none 0 0, .slice none 0 0, .int .i32 0, .int .i64 0] 38)
  change RBox (((w.alloc (.cells #[.int .u8 (K0 : Int), .int .u8 (a : Int), .int .u8 (b : Int), .int .u8 (nm : Int), .slice rP LP cP, .int .i16 fi, .slice rL LL cL] 29)).alloc (.cells #[.int .i64 0, .int .u32 0, .int .u32 0, .string ⟨#[]⟩, .slice none 0 0, .slice none 0 0, .int .i32 0, .int .i64 0] 38)).alloc (.cells #[.int .i64 4, .int .u32 (A : Int), .int .u32 0, .string ⟨#[]⟩, .slice none 0 0, .slice none 0 0, .int .i32 0, .int .i64 0] 38)) _ _ at bx
  change HBox (((w.alloc (.cells #[.int .u8 (K0 : Int), .int .u8 (a : Int), .int .u8 (b : Int), .int .u8 (nm : Int), .slice rP LP cP, .int .i16 fi, .slice rL LL cL] 29)).alloc (.cells #[.int .i64 0, .int .u32 0, .int .u32 0, .string ⟨#[]⟩, .slice none 0 0, .slice none 0 0, .int .i32 0, .int .i64 0] 38)).alloc (.cells #[.int .i64 4, .int .u32 (A : Int), .int .u32 0, .string ⟨#[]⟩, .slice none 0 0, .slice none 0 0, .int .i32 0, .int .i64 0] 38)) _ _ _ at b2
  change HBox (((w.alloc (.cells #[.int .u8 (K0 : Int), .int .u8 (a : Int), .int .u8 (b : Int), .int .u8 (nm : Int), .slice rP LP cP, .int .i16 fi, .slice rL LL cL] 29)).alloc (.cells #[.int .i64 0, .int .u32 0, .int .u32 0, .string ⟨#[]⟩, .slice none 0 0, .slice none 0 0, .int .i32 0, .int .i64 0] 38)).alloc (.cells #[.int .i64 4, .int .u32 (A : Int), .int .u32 0, .string ⟨#[]⟩, .slice none 0 0, .slice none 0 0, .int .i32 0, .int .i64 0] 38)) _ _ _ at b3
  generalize ((w.alloc (.cells #[.int .u8 (K0 : Int), .int .u8 (a : Int), .int .u8 (b : Int), .int .u8 (nm : Int), .slice rP LP cP, .int .i16 fi, .slice rL LL cL] 29)).alloc (.cells #[.int .i64 0, .int .u32 0, .int .u32 0, .string ⟨#[]⟩, .slice none 0 0, .slice none 0 0, .int .i32 0, .int .i64 0] 38)).alloc (.cells #[.int .i64 4, .int .u32 (A : Int), .int .u32 0, .string ⟨#[]⟩, .slice none 0 0, .slice none 0 0, .int .i32 0, .int .i64 0] 38) = V at *
  obtain ⟨X, hX⟩ : ∃ X, w.heap.size = X := ⟨_, rfl⟩
  have HX := Lib.hid hX
  rw [hX] at bx b2 b3 hs3 ⊢
  have HBX := Lib.hid bx
  have HB2 := Lib.hid b2
  have HB3 := Lib.hid b3
  have HB := Lib.hid hb
  have HS := Lib.hid hs3
  have c0 := b3.cell (j := 0) rfl
  have c1 := b3.cell (j := 1) rfl
  have c2 := b3.cell (j := 2) rfl
  have f1 := b3.frozen 1
  have f2 := b3.frozen 2
  have f3 := b3.frozen 3
  have f4 := b3.frozen 4
  have x0 := bx.at_ 0 _ rfl
  have x1 := bx.at_ 1 _ rfl
  have x2 := bx.at_ 2 _ rfl
  have x3 := bx.at_ 3 _ rfl
  have x4 := bx.at_ 4 _ rfl
  have x5 := bx.at_ 5 _ rfl
  have x6 := bx.at_ 6 _ rfl
  clear bx b2 b3 hb hs1 hs2 hs3 hX
  rw [w3]
  clear w3
  have hV : X + 1 + 1 < V.heap.size := by have := HS.out; omega
  have hWX : w.heap.size = X := HX.out
  have c4 := HB3.out.cell (j := 4) rfl
  have n1 := HB3.out.alloc (.cells #[.int .u32 (B : Int), .int .i64 1] 60)
  have hc4 := n1.cell (j := 4) rfl
  have hf4 := n1.frozen 4
  go_upto_region 8 with fail
  clear hc4 hf4 n1 c4
  have hsz : (V.setCell ⟨X + 1 + 1, 4, none⟩ (.slice (some ⟨V.heap.size, 0, none⟩) 1 1)).heap.size = V.heap.size := by simp
  have G1 := grown_set1 V (X + 1 + 1) 4 (.slice (some ⟨V.heap.size, 0, none⟩) 1 1)
  have M3 := (HB3.out.set 4 (.slice (some ⟨V.heap.size, 0, none⟩) 1 1)).alloc (.cells #[.int .u32 (B : Int), .int .i64 1] 60)
  have M2 := (HB2.out.grown G1 (by simp)).alloc (.cells #[.int .u32 (B : Int), .int .i64 1] 60)
  have MO := World.ownsRow_lit (base := X + 1 + 1 + 1) (e := 60) (size := 2) (V.setCell ⟨X + 1 + 1, 4, none⟩ (.slice (some ⟨V.heap.size, 0, none⟩) 1 1)) #[.int .u32 (B : Int), .int .i64 1] 1 (by rw [hsz]; omega) (by unfold maxLen; omega) rfl
  rw [hsz] at MO
  have MB := (HB.out.grown G1 HB.out.size (fun j hj => by cases hj; omega)).alloc (by rw [hsz]; exact HB.out.size) (.cells #[.int .u32 (B : Int), .int .i64 1] 60)
  have MX0 : RBox (V.setCell ⟨X + 1 + 1, 4, none⟩ (.slice (some ⟨V.heap.size, 0, none⟩) 1 1)) X [.int .u8 (K0 : Int), .int .u8 (a : Int), .int .u8 (b : Int), .int .u8 (nm : Int), .slice rP LP cP, .int .i16 fi, .slice rL LL cL] := ⟨Nat.lt_of_lt_of_le HBX.out.size G1.size, fun j v hj => by rw [G1.cell (HBX.out.at_ j v hj) (by simp; omega)]⟩
  have MX := MX0.alloc (.cells #[.int .u32 (B : Int), .int .i64 1] 60)
  change RBox ((V.setCell ⟨X + 1 + 1, 4, none⟩ (.slice (some ⟨V.heap.size, 0, none⟩) 1 1)).alloc (.cells #[.int .u32 (B : Int), .int .i64 1] 60)) _ _ at MX
  generalize (V.setCell ⟨X + 1 + 1, 4, none⟩ (.slice (some ⟨V.heap.size, 0, none⟩) 1 1)).alloc (.cells #[.int .u32 (B : Int), .int .i64 1] 60) = U at *
  simp only [List.set_cons_zero, List.set_cons_succ] at M3
  have N3 : Hid (HBox U (X + 1 + 1) _ 38) := Lib.hid M3
  have N2 := Lib.hid M2
  have NO : Hid (U.ownsRow (X + 1 + 1 + 1) 60 2 (.slice (some ⟨V.heap.size, 0, none⟩) 1 1) 1 (((B, 1) :: (ps.take (min 0 7)).map fun p => (1 + p.1, 1 + p.2 % 1000000)).flatMap ptc)) := Lib.hid MO
  have NB := Lib.hid MB
  have NX := Lib.hid MX
  have z4 := MX.at_ 4 _ rfl
  clear HBX HS c0 c1 c2 f1 f2 f3 f4 x0 x1 x2 x3 x4 x5 x6 HB2 HB3 HB G1 M3 M2 MO MB MX MX0 hV hWX hsz
  go_wp2
  clear z4
  obtain ⟨i0, hi, hz0, hz1, hz2⟩ := info_parts infoPt
  go_loopw [40] (fun i wr => ∃ (k m : Nat) (r : Option Addr) (cp : Nat), i = .int .i64 k ∧ k ≤ LP ∧ m ≤ 8 ∧ Hid (m = 1 + min k 7) ∧ Hid (HBox wr (X + 1 + 1) [.int .i64 4, .int .u32 (A : Int), .int .u32 0, .string ⟨#[]⟩, .slice r m cp, .slice none 0 0, .int .i32 0, .int .i64 0] 38) ∧ Hid (HBox wr (X + 1) [.int .i64 0, .int .u32 0, .int .u32 0, .string ⟨#[]⟩, .slice none 0 0, .slice none 0 0, .int .i32 0, .int .i64 0] 38) ∧ Hid (RBox wr X [.int .u8 (K0 : Int), .int .u8 (a : Int), .int .u8 (b : Int), .int .u8 (nm : Int), .slice rP LP cP, .int .i16 fi, .slice rL LL cL]) ∧ Hid (wr.ownsRow (X + 1 + 1 + 1) 60 2 (.slice r m cp) m (((B, 1) :: (ps.take (min k 7)).map fun p => (1 + p.1, 1 + p.2 % 1000000)).flatMap ptc)) ∧ Hid (Below w.heap.size w wr)) (fun i _ => LP - (RowKit.intOf i).toNat)
  case atStart => exact ⟨0, 1, _, _, rfl, Nat.zero_le _, by omega, rfl, N3, N2, NX, NO, NB⟩
  case round =>
    obtain ⟨k, m, r, cp, rfl, hk, hm8, HM, H3, H2, HX1, HO, HB⟩ := hrel
    rename World => wr
    clear N3 N2 NO NB NX
    by_cases hlt : k < LP
    · obtain ⟨p, hp⟩ : ∃ p, ps[k]? = some p := ⟨ps[k]'(by have := HLP.out; omega), List.getElem?_eq_getElem (by have := HLP.out; omega)⟩
      obtain ⟨g, off, rfl, _, d1⟩ := (HP.out.stay HB.out).at hp
      have a0 := d1 0 _ rfl
      have a1 := d1 1 _ rfl
      rw [Nat.add_zero] at a0
      obtain ⟨hp1, hp2⟩ := HI5.out p (List.mem_of_getElem? hp)
      have HTK : Hid (k < 7 → ((B, 1) :: (ps.take (min (k + 1) 7)).map fun p => (1 + p.1, 1 + p.2 % 1000000)).flatMap ptc = ((B, 1) :: (ps.take (min k 7)).map fun p => (1 + p.1, 1 + p.2 % 1000000)).flatMap ptc ++ [.int .u32 ((1 + p.1 : Nat) : Int), .int .i64 ((1 + p.2 % 1000000 : Nat) : Int)]) := Lib.hid (fun h7 => by
        rw [show min (k + 1) 7 = k + 1 by omega, show min k 7 = k by omega, List.take_add_one, hp, List.map_append, ← List.cons_append, List.flatMap_append]; rfl)
      clear d1 hp
      obtain ⟨P1, P2⟩ := p
      simp only at hp1 hp2 a0 a1 HTK
      obtain ⟨C1, hC1⟩ : ∃ C1, 1 + P1 = C1 := ⟨_, rfl⟩
      obtain ⟨R2, hR2⟩ : ∃ R2, P2 % 1000000 = R2 := ⟨_, rfl⟩
      obtain ⟨S2, hS2⟩ : ∃ S2, 1 + R2 = S2 := ⟨_, rfl⟩
      rw [hR2, hC1, hS2] at HTK
      have v1 : IntKind.u32.wrap (P1 : Int) = (P1 : Int) := by rw [IntKind.wrap_u32]; omega
      have v2 : (1 : Int) + (P1 : Int) = (C1 : Int) := by omega
      have v3 : IntKind.u32.wrap (1 + (P1 : Int)) = (C1 : Int) := by rw [IntKind.wrap_u32]; omega
      have v4 : (P2 : Int) % 1000000 = (R2 : Int) := by omega
      have v5 : IntKind.i64.wrap (R2 : Int) = (R2 : Int) := by rw [IntKind.wrap_i64]; omega
      have v6 : (1 : Int) + (R2 : Int) = (S2 : Int) := by omega
      have v7 : IntKind.i64.wrap (1 + (R2 : Int)) = (S2 : Int) := by rw [IntKind.wrap_i64]; omega
      have v8 : IntKind.u32.wrap (R2 : Int) = (R2 : Int) := by rw [IntKind.wrap_u32]; omega
      have v9 : IntKind.u32.wrap (C1 : Int) = (C1 : Int) := by rw [IntKind.wrap_u32]; omega
      have v10 : IntKind.i64.wrap (S2 : Int) = (S2 : Int) := by rw [IntKind.wrap_i64]; omega
      clear hC1 hR2 hS2
      go_upto_region 11 with fail
      have t1 := H3.out.alloc (.cells #[.int .u8 (P1 : Int), .int .u32 (P2 : Int)] 62)
      have t2 := H2.out.alloc (.cells #[.int .u8 (P1 : Int), .int .u32 (P2 : Int)] 62)
      have t3 := HX1.out.alloc (.cells #[.int .u8 (P1 : Int), .int .u32 (P2 : Int)] 62)
      have t4 := HO.out.alloc (.cells #[.int .u8 (P1 : Int), .int .u32 (P2 : Int)] 62)
      have t5 := HB.out.alloc HB.out.size (.cells #[.int .u8 (P1 : Int), .int .u32 (P2 : Int)] 62)
      have t6 := RBox.new wr [.int .u8 (P1 : Int), .int .u32 (P2 : Int)] 62
      change RBox (wr.alloc (.cells #[.int .u8 (P1 : Int), .int .u32 (P2 : Int)] 62)) _ _ at t6
      generalize wr.alloc (.cells #[.int .u8 (P1 : Int), .int .u32 (P2 : Int)] 62) = U1 at *
      generalize wr.heap.size = Y at *
      clear H3 H2 HX1 HO HB a0 a1
      have L3 := Lib.hid t1
      have L2 := Lib.hid t2
      have LX := Lib.hid t3
      have LO := Lib.hid t4
      have LB := Lib.hid t5
      have q4 := t1.cell (j := 4) rfl
      have y0 := t6.at_ 0 _ rfl
      have y1 := t6.at_ 1 _ rfl
      have hU : X + 1 + 1 + 1 ≤ U1.heap.size := by have := t1.size; omega
      clear t1 t2 t3 t4 t5 t6
      by_cases h7 : k < 7
      · have u1 : (k : Int) < 7 := by omega
        have HTK2 := Lib.hid (HTK.out h7)
        have HWX := HX.out
        clear HTK
        go_wp2_with (at_builtin; refine wpList_append_own_at _ rfl (.tmp 48) (.tmp 59) 32 rfl (X + 1 + 1 + 1) 60 i0 _ 2 16 Tryz.underlying32 hi hz0 hz1 hz2 rfl (by decide) _ m _ rfl (LO.out.alloc _) ⟨_, 0, none⟩ 1 1 [.int .u32 (C1 : Int), .int .i64 (S2 : Int)] rfl rfl (cells_new _ [.int .u32 (C1 : Int), .int .i64 (S2 : Int)] _) (fun v hv => by simp at hv; rcases hv with rfl | rfl <;> rfl) (by unfold maxLen; omega) (by omega) (by simp; omega) ?_; intro v5 w5 hown5 hgrow5 _ hat5
                     have hbw := (Below.refl U1.heap.size U1).alloc (Nat.le_refl _) (.cells #[.int .u32 (C1 : Int), .int .i64 (S2 : Int)] 60)
                     have r3 := (L3.out.stay hbw).grown hgrow5 (fun h => owns_far LO.out (m := X + 1 + 1) (.inl (by omega)) h.symm)
                     have r2 := (L2.out.stay hbw).grown hgrow5 (fun h => owns_far LO.out (m := X + 1) (.inl (by omega)) h.symm)
                     have rx0 := LX.out.stay hbw
                     have rx : RBox w5 X _ := ⟨Nat.lt_of_lt_of_le rx0.size hgrow5.size, fun j v hj => by rw [hgrow5.cell (rx0.at_ j v hj) (fun h => owns_far LO.out (m := X) (.inl (by omega)) h.symm)]⟩
                     have rb := (LB.out.trans (hbw.mono LB.out.size)).grown hgrow5 (Nat.le_trans LB.out.size hbw.size) (fun j hj => by have := LO.out.lt j hj; omega)
                     have hU5 : X + 1 + 1 + 1 ≤ w5.heap.size := Nat.le_trans (Nat.le_trans hU hbw.size) hgrow5.size
                     obtain ⟨r6, cap6, rfl⟩ := owns_form hown5
                     have E3 := Lib.hid r3
                     have E2 := Lib.hid r2
                     have EX := Lib.hid rx
                     have EO := Lib.hid hown5
                     have EB := Lib.hid rb
                     have j4 := r3.cell (j := 4) rfl
                     have jf := r3.frozen 4
                     clear hbw r3 r2 rx0 rx rb hgrow5 hown5 hat5)
        go_roundw
        case rel =>
          have G2 := grown_set1 w5 (X + 1 + 1) 4 (.slice r6 (m + 1) cap6)
          have rx := EX.out
          refine ⟨k + 1, m + 1, r6, cap6, by go_num, by omega, by have := HM.out; omega, Lib.hid (by have := HM.out; omega), Lib.hid (E3.out.set 4 _), Lib.hid (E2.out.grown G2 (by simp)), Lib.hid ⟨Nat.lt_of_lt_of_le rx.size G2.size, fun j v hj => by rw [G2.cell (rx.at_ j v hj) (by simp; omega)]⟩, Lib.hid ?_, Lib.hid (EB.out.grown G2 EB.out.size (fun j hj => by cases hj; omega))⟩
          rw [HTK2.out]
          exact EO.out.kept G2 (.inr (owns_far EO.out (m := X + 1 + 1) (.inl (by omega))))
        case measure => simp [RowKit.intOf]; omega
      · have u1 : ¬ (k : Int) < 7 := by omega
        go_wp2
        go_roundw
        case rel => exact ⟨k + 1, m, r, cp, by go_num, by omega, hm8, Lib.hid (by have := HM.out; omega), L3, L2, LX, by rw [show min (k + 1) 7 = min k 7 by omega]; exact LO, LB⟩
        case measure => simp [RowKit.intOf]; omega
    · obtain rfl : k = LP := by omega
      have HPR : Hid (((B, 1) :: (ps.take (min k 7)).map fun p => (1 + p.1, 1 + p.2 % 1000000)) = rawP ⟨K0, a, b, nm, ps, fi, lo⟩) := Lib.hid (by
        unfold rawP
        rw [HBB.out]
        congr 2
        have := HLP.out
        by_cases h : k ≤ 7
        · rw [show min k 7 = k by omega, List.take_of_length_le (show ps.length ≤ k by omega), List.take_of_length_le (show ps.length ≤ 7 by omega)]
        · rw [show min k 7 = 7 by omega])
      rw [HPR.out] at HO
      have HML : Hid (m = (rawP ⟨K0, a, b, nm, ps, fi, lo⟩).length) := Lib.hid (by rw [← HPR.out, HM.out, List.length_cons, List.length_map, List.length_take]; have := HLP.out; omega)
      have HE3 := H3
      have HE2 := H2
      have HEB := HB
      clear H3 H2 HB HX1
      have hrs : X + 1 + 1 < wr.heap.size := HE3.out.size
      have e0 := HE3.out.cell (j := 0) rfl
      have e1 := HE3.out.cell (j := 1) rfl
      have e2 := HE3.out.cell (j := 2) rfl
      have e3 := HE3.out.cell (j := 3) rfl
      have e4 := HE3.out.cell (j := 4) rfl
      have e5 := HE3.out.cell (j := 5) rfl
      have e6 := HE3.out.cell (j := 6) rfl
      have e7 := HE3.out.cell (j := 7) rfl
      have g0 := HE2.out.frozen 0
      have g1 := HE2.out.frozen 1
      have g2 := HE2.out.frozen 2
      have g3 := HE2.out.frozen 3
      have g4 := HE2.out.frozen 4
      have g5 := HE2.out.frozen 5
      have g6 := HE2.out.frozen 6
      have g7 := HE2.out.frozen 7
      have h0 := HE2.out.cell (j := 0) rfl
      have h1 := HE2.out.cell (j := 1) rfl
      have h2 := HE2.out.cell (j := 2) rfl
      have h3 := HE2.out.cell (j := 3) rfl
      have h4 := HE2.out.cell (j := 4) rfl
      have h5 := HE2.out.cell (j := 5) rfl
      have h6 := HE2.out.cell (j := 6) rfl
      have h7 := HE2.out.cell (j := 7) rfl
      have GR := grown_sets8 wr (X + 1) (.int .i64 4) (.int .u32 (A : Int)) (.int .u32 0) (.string ⟨#[]⟩) (.slice r m cp) (.slice none 0 0) (.int .i32 0) (.int .i64 0)
      have HR := Lib.hid (HE2.out.set8 (.int .i64 4) (.int .u32 (A : Int)) (.int .u32 0) (.string ⟨#[]⟩) (.slice r m cp) (.slice none 0 0) (.int .i32 0) (.int .i64 0))
      have PB := Lib.hid (HEB.out.grown GR HEB.out.size (fun j hj => by cases hj; have := HX.out; omega))
      have HOS := Lib.hid (HO.out.kept GR (.inr (owns_far HO.out (m := X + 1) (.inl (by omega)))))
      clear GR
      go_wp2_with fail
      have y0 := HR.out.cell (j := 0) rfl
      have y1 := HR.out.cell (j := 1) rfl
      have y2 := HR.out.cell (j := 2) rfl
      have y3 := HR.out.cell (j := 3) rfl
      have y4 := HR.out.cell (j := 4) rfl
      have y5 := HR.out.cell (j := 5) rfl
      have y6 := HR.out.cell (j := 6) rfl
      have y7 := HR.out.cell (j := 7) rfl
      refine bodyPost_ret (v := .agg #[.int .i64 4, .int .u32 (A : Int), .int .u32 0, .string ⟨#[]⟩, .slice r m cp, .slice none 0 0, .int .i32 0, .int .i64 0]) (by simp [results, Tryz.results10, go_sem, y0, y1, y2, y3, y4, y5, y6, y7]) rfl ?_
      refine ⟨.slice r m cp, .slice none 0 0, ?_, ?_, PB.out⟩
      · rw [HRO.out]; rfl
      · rw [HRO.out]
        exact ⟨by have h := owns_mono HOS.out (base' := w.heap.size) (by have := HX.out; omega); rw [HML.out] at h; rw [HML.out]; exact h, ⟨rfl, .inl ⟨rfl, rfl⟩⟩, ⟨by rw [← HML.out]; exact hm8, Nat.zero_le _⟩⟩
theorem raw_c (q : Oi) (w : World) (hM : OnM w q) : Calls Tryz.prog 10 #[onV q] w fun e w' => RawR w q.x e w' := by
  by_cases h1 : q.x.kind % 8 = 1
  · exact raw_1 q w hM h1
  · by_cases h4 : q.x.kind % 8 = 4
    · exact raw_4 q w hM h4
    · by_cases h7 : q.x.kind % 8 = 7
      · exact raw_7 q w hM h7
      · by_cases h2 : q.x.kind % 8 = 2
        · exact raw_2 q w hM h2
        · exact raw_d q w hM h1 h4 h7 h2
end Go.Proofs.YtffhnedladiaoaaGreatDoor

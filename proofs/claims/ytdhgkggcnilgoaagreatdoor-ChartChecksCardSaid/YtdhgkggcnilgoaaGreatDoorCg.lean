/- Contracts of law 6's get; of slices.Index, Contains, Equal at numbers of 32 bits. -/
import Derived.Test.YtdhgkggcnilgoaaGreatDoorCf
import Derived.Test.YtdhgkggcnilgoaaGreatDoorThree
import Derived.Deep.QuietTactic
namespace Go.Proofs.YtdhgkggcnilgoaaGreatDoor
open Go.RowKit
set_option linter.unusedVariables false
set_option linter.unusedSimpArgs false
theorem getA_at : ∀ {c : List Ac} {n k : Nat} {a : Ac}, (∀ j b, j < k → c[j]? = some b → b.code ≠ n) → c[k]? = some a → a.code = n → getA c n = some a
  | [], n, k, a, _, ha, _ => by simp at ha
  | x :: r, n, 0, a, _, ha, hn => by
    simp only [List.getElem?_cons_zero, Option.some.injEq] at ha
    subst ha
    unfold getA
    rw [List.find?_cons_of_pos (by simpa using hn)]
  | x :: r, n, k + 1, a, h, ha, hn => by
    have hx : x.code ≠ n := h 0 x (by omega) rfl
    have := getA_at (c := r) (k := k) (fun j b hj hb => h (j + 1) b (by omega) (by simpa using hb)) (by simpa using ha) hn
    unfold getA at this ⊢
    rw [List.find?_cons_of_neg (by simpa using hx)]
    exact this
theorem getA_out {c : List Ac} {n : Nat} (h : ∀ j b, j < c.length → c[j]? = some b → b.code ≠ n) : getA c n = none :=
  getA_none.2 fun a ha => by
    obtain ⟨i, hi, e⟩ := List.getElem_of_mem ha
    exact h i a hi (by rw [List.getElem?_eq_getElem hi, e])
set_option maxHeartbeats 1000000 in
set_option maxRecDepth 100000 in
theorem getl_c (v : Value) (c : List Ac) (n : Nat) (w : World) (hR : Recs cc 4 w v c) :
    Calls Tryz.prog 19 #[v, .int .u32 (n : Int)] w fun e w' => e = .returned (.tuple #[gv (getA c n), .bool (getA c n).isSome]) ∧ Below w.heap.size w w' := by
  have hB := (Below.refl w.heap.size w).alloc (Nat.le_refl _) (.cells #[.int .u32 0, .string ⟨#[]⟩, .int .u8 0, .int .u32 0] 34)
  obtain ⟨r, cap, rfl, hm⟩ := hR.form
  have HR := Lib.hid (hR.stay hB)
  obtain ⟨L, hL⟩ : ∃ L, c.length = L := ⟨_, rfl⟩
  obtain ⟨G, hG⟩ : ∃ G, getA c n = G := ⟨_, rfl⟩
  have HL := Lib.hid hL
  have HG := Lib.hid hG
  rw [hG]
  rw [hL] at HR hm ⊢
  clear hR hB hL hG
  go_enter Tryz.func19, Tryz.ntmps19
  go_wp2
  generalize hW : w.alloc (.cells #[.int .u32 0, .string ⟨#[]⟩, .int .u8 0, .int .u32 0] 34) = W at *
  have HW := Lib.hid hW
  clear hW
  go_loopw [10] (fun i wr => ∃ k : Nat, k ≤ L ∧ i = .int .i64 k ∧ Below W.heap.size W wr ∧ Hid (∀ j b, j < k → c[j]? = some b → b.code ≠ n)) (fun i _ => L - (intOf i).toNat)
  case atStart => exact ⟨0, Nat.zero_le _, rfl, Below.refl _ _, Lib.hid (fun j b hj => by omega)⟩
  case round =>
    obtain ⟨k, hk, rfl, hb, HN⟩ := hrel
    rename World => wr
    have hb' := hb
    rw [← HW.out] at hb'
    obtain ⟨⟨p0, p1, p2, p3⟩, f0, f1, f2, f3⟩ := box4 hb'
    have HB1 := Lib.hid (below_out hb')
    have hsz : w.heap.size < wr.heap.size := by have := hb'.size; simp at this; omega
    clear hb'
    by_cases hlt : k < L
    · obtain ⟨a, ha⟩ : ∃ a, c[k]? = some a := ⟨c[k]'(by have := HL.out; omega), List.getElem?_eq_getElem (by have := HL.out; omega)⟩
      obtain ⟨g, off, rfl, hg, hc⟩ := (HR.out.stay hb).at ha
      obtain ⟨c0, c1, c2, c3⟩ := Recs.cells4 (c := c) hc
      have HB3 := Lib.hid (hb.alloc hb.size (.cells #[.int .u32 (a.code : Int), .string a.name, .int .u8 (a.kind : Int), .int .u32 (a.par : Int)] 34))
      have HA := Lib.hid ha
      clear hc ha hb
      by_cases hn : a.code = n
      · have hd : ((a.code : Int) == (n : Int)) = true := by simp [hn]
        have e : G = some a := by rw [← HG.out]; exact getA_at HN.out HA.out hn
        subst e
        clear hn
        go_wp2
        exact bodyPost_ret (v := .tuple #[.agg #[.int .u32 (a.code : Int), .string a.name, .int .u8 (a.kind : Int), .int .u32 (a.par : Int)], .bool true]) (by simp [results, Tryz.results19, go_sem, p0, p1, p2, p3, hsz]) rfl ⟨rfl, ((((HB1.out.setCell (Nat.le_refl _) _).setCell (Nat.le_refl _) _).setCell (Nat.le_refl _) _).setCell (Nat.le_refl _) _).alloc (by simp; omega) _⟩
      · have hd : ((a.code : Int) == (n : Int)) = false := by simp; omega
        go_wp2
        go_roundw
        case rel =>
          refine ⟨k + 1, by omega, by go_num, HB3.out, Lib.hid (fun j b hj hb => ?_)⟩
          by_cases e : j = k
          · subst e; rw [HA.out] at hb; cases hb; exact hn
          · exact HN.out j b (by omega) hb
        case measure => simp [intOf]; omega
    · obtain rfl : k = L := by omega
      have e : G = none := by rw [← HG.out]; exact getA_out fun j b hj => HN.out j b (by have := HL.out; omega)
      subst e
      go_wp2
      exact bodyPost_ret (v := .tuple #[.agg #[.int .u32 0, .string ⟨#[]⟩, .int .u8 0, .int .u32 0], .bool false]) (by simp [results, Tryz.results19, go_sem, p0, p1, p2, p3]) rfl ⟨rfl, (((HB1.out.setCell (Nat.le_refl _) _).setCell (Nat.le_refl _) _).setCell (Nat.le_refl _) _).setCell (Nat.le_refl _) _⟩
end Go.Proofs.YtdhgkggcnilgoaaGreatDoor

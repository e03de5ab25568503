/- Law 14's same, where the ops and their places are the same. -/
import Derived.Test.YtffhnedladiaoaaGreatDoorZMdx
namespace Go.Proofs.YtffhnedladiaoaaGreatDoor
open Go.RowKit Go.Lib
set_option linter.unusedVariables false
set_option linter.unusedSimpArgs false
set_option maxHeartbeats 4000000 in
set_option maxRecDepth 100000 in
theorem same_14 (p q : Om) (w : World) (hp : OpM w p) (hq : OpM w q) (ho : p.o = q.o) (ha : p.pos = q.pos) : Calls Tryz.prog 30 #[opV p, opV q] w fun e w' => e = .returned (.bool true) ∧ Below w.heap.size w w' := by
  obtain ⟨⟨k, f, t, n, ps, ss, e⟩, a, xP, xS⟩ := p
  obtain ⟨⟨yk, yf, yt, yn, yp, ys, ye⟩, ya, yP, yS⟩ := q
  simp only at ho ha
  subst ha
  cases ho
  have KP := fun (w' : World) (h : Below w.heap.size w w') => equal_p xP yP ps ps w' (hp.parts.stay h) (hq.parts.stay h)
  rw [decide_eq_true rfl] at KP
  have KD := fun (w' : World) (h : Below w.heap.size w w') => equal_d xS yS ss ss w' (hp.starts.stay h) (hq.starts.stay h)
  rw [decide_eq_true rfl] at KD
  have KP := Lib.hid KP
  have KD := Lib.hid KD
  clear hp hq
  unfold opV
  simp only at *
  have bx := (RBox.new w [.int .i64 (k : Int), .int .u32 (f : Int), .int .u32 (t : Int), strV n, xP, xS, .int .i32 e, .int .i64 a] 38)
  change RBox (w.alloc (.cells #[.int .i64 (k : Int), .int .u32 (f : Int), .int .u32 (t : Int), strV n, xP, xS, .int .i32 e, .int .i64 a] 38)) _ _ at bx
  have hb := ((Below.refl w.heap.size w).alloc (Nat.le_refl _) (.cells #[.int .i64 (k : Int), .int .u32 (f : Int), .int .u32 (t : Int), strV n, xP, xS, .int .i32 e, .int .i64 a] 38))
  have hs : (w.alloc (.cells #[.int .i64 (k : Int), .int .u32 (f : Int), .int .u32 (t : Int), strV n, xP, xS, .int .i32 e, .int .i64 a] 38)).heap.size = w.heap.size + 1 := by simp
  go_enter Tryz.func30, Tryz.ntmps30
  go_upto_region 1 with fail
  generalize w.alloc (.cells #[.int .i64 (k : Int), .int .u32 (f : Int), .int .u32 (t : Int), strV n, xP, xS, .int .i32 e, .int .i64 a] 38) = w1 at *
  have bz := bx.alloc (.cells #[.int .i64 (k : Int), .int .u32 (f : Int), .int .u32 (t : Int), strV n, yP, yS, .int .i32 e, .int .i64 a] 38)
  have by_ := (RBox.new w1 [.int .i64 (k : Int), .int .u32 (f : Int), .int .u32 (t : Int), strV n, yP, yS, .int .i32 e, .int .i64 a] 38)
  change RBox (w1.alloc (.cells #[.int .i64 (k : Int), .int .u32 (f : Int), .int .u32 (t : Int), strV n, yP, yS, .int .i32 e, .int .i64 a] 38)) _ _ at by_
  have hb2 := hb.alloc hb.size (.cells #[.int .i64 (k : Int), .int .u32 (f : Int), .int .u32 (t : Int), strV n, yP, yS, .int .i32 e, .int .i64 a] 38)
  rw [hs] at by_
  generalize w1.alloc (.cells #[.int .i64 (k : Int), .int .u32 (f : Int), .int .u32 (t : Int), strV n, yP, yS, .int .i32 e, .int .i64 a] 38) = W at *
  have HB := Lib.hid hb2
  have x0 := bz.at_ 0 _ rfl
  have y0 := by_.at_ 0 _ rfl
  have x1 := bz.at_ 1 _ rfl
  have y1 := by_.at_ 1 _ rfl
  have x2 := bz.at_ 2 _ rfl
  have y2 := by_.at_ 2 _ rfl
  have x3 := bz.at_ 3 _ rfl
  have y3 := by_.at_ 3 _ rfl
  have x4 := bz.at_ 4 _ rfl
  have y4 := by_.at_ 4 _ rfl
  have x5 := bz.at_ 5 _ rfl
  have y5 := by_.at_ 5 _ rfl
  have x6 := bz.at_ 6 _ rfl
  have y6 := by_.at_ 6 _ rfl
  have x7 := bz.at_ 7 _ rfl
  have y7 := by_.at_ 7 _ rfl
  have HX := Lib.hid bz
  have HY := Lib.hid by_
  clear bx bz by_ hb hb2 hs
  generalize w.heap.size + 1 = Y at *
  unfold strV at x3 y3
  have HB1 : Hid (∀ w', Below W.heap.size W w' → Below w.heap.size w w') := Lib.hid (fun w' h => HB.out.trans (h.mono HB.out.size))
  have K1 := Lib.hid (KP.out W HB.out)
  clear KP
  go_wp2_with (first
    | (go_at_call 32; refine (KD.out _ HB5.out).mono ?_; rintro e w6 ⟨rfl, h6⟩; have HB6 := Lib.hid (HB5.out.trans (h6.mono HB5.out.size)); have h56 := H5.out.trans (h6.mono H5.out.size); have x5 := (HX.out.stay h56).at_ 5 _ rfl; have y5 := (HY.out.stay h56).at_ 5 _ rfl; have x6 := (HX.out.stay h56).at_ 6 _ rfl; have y6 := (HY.out.stay h56).at_ 6 _ rfl; clear h6 h56)
    | (go_at_call 31; refine K1.out.mono ?_; rintro e w5 ⟨rfl, h5⟩; have HB5 := Lib.hid (HB1.out _ h5); have H5 := Lib.hid h5; have x5 := (HX.out.stay h5).at_ 5 _ rfl; have y5 := (HY.out.stay h5).at_ 5 _ rfl; have x6 := (HX.out.stay h5).at_ 6 _ rfl; have y6 := (HY.out.stay h5).at_ 6 _ rfl; clear h5))
  go_ret
  exact ⟨rfl, HB6.out⟩
set_option maxHeartbeats 4000000 in
set_option maxRecDepth 100000 in
theorem equalfunc_14 (v1 v2 : Value) (xs ys : List Om) (w : World) (h1 : ORow w v1 xs) (h2 : ORow w v2 ys) (he : xs.map (fun p => (p.o, p.pos)) = ys.map (fun p => (p.o, p.pos))) :
    Calls Tryz.prog 29 #[v1, v2, .func (.func 30) #[] #[]] w fun e w' => e = .returned (.bool true) ∧ Below w.heap.size w w' := by
  obtain ⟨r1, cap1, rfl, hm⟩ := h1.1.form
  obtain ⟨r2, cap2, rfl, _⟩ := h2.1.form
  have hne : xs.length = ys.length := by have := congrArg List.length he; simpa using this
  have HEQ := Lib.hid he
  clear he
  obtain ⟨n, hn⟩ : ∃ n, xs.length = n := ⟨_, rfl⟩
  have HN := Lib.hid hn
  have HN' := Lib.hid (hne ▸ hn)
  rw [hn] at h1 hm ⊢
  rw [← hne, hn] at h2 ⊢
  have H1 := Lib.hid h1
  have H2 := Lib.hid h2
  clear h1 h2 hn hne
  go_enter Tryz.func29, Tryz.ntmps29
  go_wp2
  go_loopw [17] (fun i wr => ∃ j : Nat, j ≤ n ∧ i = .int .i64 j ∧ Hid (Below w.heap.size w wr)) (fun i _ => n - (RowKit.intOf i).toNat)
  case atStart => exact ⟨0, Nat.zero_le _, rfl, Lib.hid (Below.refl _ _)⟩
  case round =>
    obtain ⟨j, hj, rfl, HB⟩ := hrel
    rename World => wr
    by_cases hlt : j < n
    · obtain ⟨x, hx⟩ : ∃ x, xs[j]? = some x := ⟨xs[j]'(by have := HN.out; omega), List.getElem?_eq_getElem (by have := HN.out; omega)⟩
      obtain ⟨y, hy⟩ : ∃ y, ys[j]? = some y := ⟨ys[j]'(by have := HN'.out; omega), List.getElem?_eq_getElem (by have := HN'.out; omega)⟩
      obtain ⟨g1, o1, q1, e1, _, _, c1, m1⟩ := (H1.out.stay HB.out).at hx
      obtain ⟨g2, o2, q2, e2, _, _, c2, m2⟩ := (H2.out.stay HB.out).at hy
      injection e1 with e1 en1 e3
      injection e2 with e2 en2 e4
      subst e1
      subst e2
      clear e3 e4 en1 en2
      have a0 := c1 0 _ rfl
      have a1 := c1 1 _ rfl
      have a2 := c1 2 _ rfl
      have a3 := c1 3 _ rfl
      have a4 := c1 4 _ rfl
      have a5 := c1 5 _ rfl
      have a6 := c1 6 _ rfl
      have a7 := c1 7 _ rfl
      have b0 := c2 0 _ rfl
      have b1 := c2 1 _ rfl
      have b2 := c2 2 _ rfl
      have b3 := c2 3 _ rfl
      have b4 := c2 4 _ rfl
      have b5 := c2 5 _ rfl
      have b6 := c2 6 _ rfl
      have b7 := c2 7 _ rfl
      rw [Nat.add_zero] at a0 b0
      have hxy : (x.o, x.pos) = (y.o, y.pos) := by
        have h3 := congrArg (·[j]?) HEQ.out
        simp only [List.getElem?_map, hx, hy, Option.map_some] at h3
        exact Option.some.inj h3
      have hxo : x.o = y.o := congrArg Prod.fst hxy
      have hxa : x.pos = y.pos := congrArg Prod.snd hxy
      clear hxy
      have KS := Lib.hid (fun (w' : World) (h : Below wr.heap.size wr w') => same_14 x y w' (m1.stay h) (m2.stay h) hxo hxa)
      unfold opV at KS
      obtain ⟨xpr, xpc, xe1, _⟩ := m1.parts.form
      obtain ⟨xsr, xsc, xe2, _⟩ := m1.starts.form
      obtain ⟨ypr, ypc, ye1, _⟩ := m2.parts.form
      obtain ⟨ysr, ysc, ye2, _⟩ := m2.starts.form
      clear hx hy c1 c2 m1 m2 hxo hxa
      obtain ⟨⟨xk, xf, xt, xn, xp, xs', xe⟩, xa, xP, xS⟩ := x
      obtain ⟨⟨yk, yf, yt, yn, yp, ys', ye⟩, ya, yP, yS⟩ := y
      simp only at *
      subst xe1
      subst xe2
      subst ye1
      subst ye2
      unfold strV at *
      go_upto_region 6 with fail
      have hc1 := (Below.refl wr.heap.size wr).alloc (Nat.le_refl _) (.cells #[.int .i64 (xk : Int), .int .u32 (xf : Int), .int .u32 (xt : Int), .string ⟨xn.toArray⟩, .slice xpr xp.length xpc, .slice xsr xs'.length xsc, .int .i32 xe, .int .i64 xa] 38)
      have bx := RBox.new wr [.int .i64 (xk : Int), .int .u32 (xf : Int), .int .u32 (xt : Int), .string ⟨xn.toArray⟩, .slice xpr xp.length xpc, .slice xsr xs'.length xsc, .int .i32 xe, .int .i64 xa] 38
      change RBox (wr.alloc (.cells #[.int .i64 (xk : Int), .int .u32 (xf : Int), .int .u32 (xt : Int), .string ⟨xn.toArray⟩, .slice xpr xp.length xpc, .slice xsr xs'.length xsc, .int .i32 xe, .int .i64 xa] 38)) _ _ at bx
      have hs : (wr.alloc (.cells #[.int .i64 (xk : Int), .int .u32 (xf : Int), .int .u32 (xt : Int), .string ⟨xn.toArray⟩, .slice xpr xp.length xpc, .slice xsr xs'.length xsc, .int .i32 xe, .int .i64 xa] 38)).heap.size = wr.heap.size + 1 := by simp
      have HC : Hid (∀ (p : Addr) (u : Value), wr.cell? p = some u → (wr.alloc (.cells #[.int .i64 (xk : Int), .int .u32 (xf : Int), .int .u32 (xt : Int), .string ⟨xn.toArray⟩, .slice xpr xp.length xpc, .slice xsr xs'.length xsc, .int .i32 xe, .int .i64 xa] 38)).cell? p = some u) := Lib.hid (fun p u h => by rw [hc1.cell (World.block_lt_of_cell? wr _ h)]; exact h)
      generalize wr.alloc (.cells #[.int .i64 (xk : Int), .int .u32 (xf : Int), .int .u32 (xt : Int), .string ⟨xn.toArray⟩, .slice xpr xp.length xpc, .slice xsr xs'.length xsc, .int .i32 xe, .int .i64 xa] 38) = w1 at *
      replace b0 := HC.out _ _ b0
      replace b1 := HC.out _ _ b1
      replace b2 := HC.out _ _ b2
      replace b3 := HC.out _ _ b3
      replace b4 := HC.out _ _ b4
      replace b5 := HC.out _ _ b5
      replace b6 := HC.out _ _ b6
      replace b7 := HC.out _ _ b7
      clear a0 a1 a2 a3 a4 a5 a6 a7 HC
      go_upto_region 7 with fail
      have bz := bx.alloc (.cells #[.int .i64 (yk : Int), .int .u32 (yf : Int), .int .u32 (yt : Int), .string ⟨yn.toArray⟩, .slice ypr yp.length ypc, .slice ysr ys'.length ysc, .int .i32 ye, .int .i64 ya] 38)
      have by_ := (RBox.new w1 [.int .i64 (yk : Int), .int .u32 (yf : Int), .int .u32 (yt : Int), .string ⟨yn.toArray⟩, .slice ypr yp.length ypc, .slice ysr ys'.length ysc, .int .i32 ye, .int .i64 ya] 38)
      change RBox (w1.alloc (.cells #[.int .i64 (yk : Int), .int .u32 (yf : Int), .int .u32 (yt : Int), .string ⟨yn.toArray⟩, .slice ypr yp.length ypc, .slice ysr ys'.length ysc, .int .i32 ye, .int .i64 ya] 38)) _ _ at by_
      have hc2 := hc1.alloc hc1.size (.cells #[.int .i64 (yk : Int), .int .u32 (yf : Int), .int .u32 (yt : Int), .string ⟨yn.toArray⟩, .slice ypr yp.length ypc, .slice ysr ys'.length ysc, .int .i32 ye, .int .i64 ya] 38)
      rw [hs] at by_
      generalize w1.alloc (.cells #[.int .i64 (yk : Int), .int .u32 (yf : Int), .int .u32 (yt : Int), .string ⟨yn.toArray⟩, .slice ypr yp.length ypc, .slice ysr ys'.length ysc, .int .i32 ye, .int .i64 ya] 38) = W at *
      obtain ⟨X, hX⟩ : ∃ X, wr.heap.size = X := ⟨_, rfl⟩
      have K1 := Lib.hid (KS.out W hc2)
      have HBW := Lib.hid (HB.out.trans (hc2.mono HB.out.size))
      rw [hX] at bz by_ ⊢
      have x0 := bz.at_ 0 _ rfl
      have x1 := bz.at_ 1 _ rfl
      have x2 := bz.at_ 2 _ rfl
      have x3 := bz.at_ 3 _ rfl
      have x4 := bz.at_ 4 _ rfl
      have x5 := bz.at_ 5 _ rfl
      have x6 := bz.at_ 6 _ rfl
      have x7 := bz.at_ 7 _ rfl
      have y0 := by_.at_ 0 _ rfl
      have y1 := by_.at_ 1 _ rfl
      have y2 := by_.at_ 2 _ rfl
      have y3 := by_.at_ 3 _ rfl
      have y4 := by_.at_ 4 _ rfl
      have y5 := by_.at_ 5 _ rfl
      have y6 := by_.at_ 6 _ rfl
      have y7 := by_.at_ 7 _ rfl
      clear bz by_ bx hc1 hc2 hX hs b0 b1 b2 b3 b4 b5 b6 b7 KS HB
      go_wp2_with (go_at_call 30; refine K1.out.mono ?_; rintro e w5 ⟨rfl, h5⟩; have HB5 := Lib.hid (HBW.out.trans (h5.mono HBW.out.size)); clear h5)
      go_roundw
      case rel => exact ⟨j + 1, by omega, by go_num, HB5⟩
      case measure => simp [RowKit.intOf]; omega
    · obtain rfl : j = n := by omega
      go_wp2
      go_ret
      exact ⟨rfl, HB.out⟩
set_option maxRecDepth 100000 in
theorem same14 (v1 v2 : Value) (xs ys : List Om) (w : World) (h1 : ORow w v1 xs) (h2 : ORow w v2 ys) (he : xs.map (fun p => (p.o, p.pos)) = ys.map (fun p => (p.o, p.pos))) :
    Calls Tryz.prog 13 #[v1, v2] w fun e w' => e = .returned (.bool true) ∧ Below w.heap.size w w' := by
  have K := Lib.hid (equalfunc_14 v1 v2 xs ys w h1 h2 he)
  clear h1 h2 he
  go_enter Tryz.func13, Tryz.ntmps13
  go_wp2_with (go_at_call 29; refine K.out.mono ?_; rintro e w5 ⟨rfl, h5⟩; have HB5 := Lib.hid h5; clear h5)
  go_ret
  exact ⟨rfl, HB5.out⟩
end Go.Proofs.YtffhnedladiaoaaGreatDoor

/- Package script: parts compared. -/
import Derived.Test.YtffhnedladiaoaaGreatDoorMt1
import Derived.Laws.StructEq
import Derived.LoopTactic
import Derived.Outline
import Derived.Deep.QuietTactic
import Derived.BigQuiet
import Derived.Test.YtffhnedladiaoaaGreatDoorMdall
import Derived.Test.YtffhnedladiaoaaGreatDoorJw
namespace Go.Proofs.YtffhnedladiaoaaGreatDoor
open Go.RowKit Go.Lib
set_option linter.unusedVariables false
set_option linter.unusedSimpArgs false
theorem take_stepP {xs ys : List (Nat × Nat)} {j : Nat} {x y : Nat × Nat} (h : xs.take j = ys.take j) (hx : xs[j]? = some x) (hy : ys[j]? = some y) (e : x = y) : xs.take (j + 1) = ys.take (j + 1) := by
  rw [List.take_add_one, List.take_add_one, h, hx, hy, e]
set_option maxRecDepth 100000 in
theorem neq_p (x y : Nat × Nat) (w : World) : (binOp .neq 60 (.agg #[.int .u32 (x.1 : Int), .int .i64 (x.2 : Int)]) (.agg #[.int .u32 (y.1 : Int), .int .i64 (y.2 : Int)])).run Tryz.prog w = .ok (.bool (!decide (x = y))) w := by
  have hp : Tryz.prog.stoodInHeld 60 = false := by kernel_rfl
  have ht := Tryz.underlying60
  have hf : Tryz.prog.underlying 60 = some (.struct (Tryz.prog.fieldsOf 60)) := by kernel_rfl
  have hd : decide (x = y) = (((x.1 : Int) == (y.1 : Int)) && ((x.2 : Int) == (y.2 : Int))) := by
    rw [Bool.eq_iff_iff]
    simp only [decide_eq_true_eq, Bool.and_eq_true, beq_iff_eq]
    constructor
    · rintro rfl; exact ⟨rfl, rfl⟩
    · rintro ⟨h1, h2⟩; exact Prod.ext (by omega) (by omega)
  rw [hd, run_neq_struct, show (10000 : Nat) = 9999 + 1 from rfl, run_equalIn_agg w 9999 _ _ _ hf hp]
  have he : (Tryz.prog.fieldsOf 60) = (match Tryz.prog.underlying 60 with | some (.struct fs) => fs | _ => #[]) := rfl
  rw [he, ht]
  clear hd he hf hp ht
  generalize (x.1 : Int) = a
  generalize (x.2 : Int) = b
  generalize (y.1 : Int) = c
  generalize (y.2 : Int) = d
  cases h1 : (a == c) <;> cases h2 : (b == d) <;> simp [Op.eqFields, go_sem, Tryz.underlying31, Tryz.underlying2, h1, h2]
/-- What only draws leaves all. -/
theorem below_drewP (B : Nat) (w : World) (q : Nat) : Below B w (w.drewN q) := ⟨rfl, rfl, rfl, Nat.le_refl _, fun _ _ => rfl⟩
theorem equal_plen (r1 r2 : Option Addr) (n1 n2 c1 c2 : Nat) (w : World) (h : n1 ≠ n2) :
    Calls Tryz.prog 31 #[.slice r1 n1 c1, .slice r2 n2 c2] w fun e w' => e = .returned (.bool false) ∧ Below w.heap.size w w' := by
  have h1 : ((n1 : Int) != (n2 : Int)) = true := by simp; omega
  go_enter Tryz.func31, Tryz.ntmps31
  go_wp2
  go_ret
  exact ⟨rfl, Below.refl _ _⟩
set_option maxHeartbeats 2000000 in
set_option maxRecDepth 100000 in
theorem equal_p (v1 v2 : Value) (S S' : List (Nat × Nat)) (w : World) (h1 : Recs ptc 2 w v1 S) (h2 : Recs ptc 2 w v2 S') :
    Calls Tryz.prog 31 #[v1, v2] w fun e w' => e = .returned (.bool (decide (S = S'))) ∧ Below w.heap.size w w' := by
  obtain ⟨r1, cap1, rfl, hm⟩ := h1.form
  obtain ⟨r2, cap2, rfl, _⟩ := h2.form
  by_cases hne : S.length = S'.length
  · obtain ⟨n, hn⟩ : ∃ n, S.length = n := ⟨_, rfl⟩
    have HN := Lib.hid hn
    have HN' := Lib.hid (hne ▸ hn)
    rw [← hne, hn] at h2 ⊢
    rw [hn] at h1 hm
    have H1 := Lib.hid h1
    have H2 := Lib.hid h2
    obtain ⟨T, hT⟩ : ∃ T, decide (S = S') = T := ⟨_, rfl⟩
    have HT := Lib.hid hT
    rw [hT]
    clear h1 h2 hn hne hT
    go_enter Tryz.func31, Tryz.ntmps31
    go_wp2
    go_loopw [13] (fun i wr => ∃ j : Nat, j ≤ n ∧ i = .int .i64 j ∧ Hid (S.take j = S'.take j) ∧ Below w.heap.size w wr) (fun i _ => n - (RowKit.intOf i).toNat)
    case atStart => exact ⟨0, Nat.zero_le _, rfl, rfl, Below.refl _ _⟩
    case round =>
      obtain ⟨j, hj, rfl, hE, hB⟩ := hrel
      rename World => wr
      by_cases hlt : j < n
      · obtain ⟨x, hx⟩ : ∃ x, S[j]? = some x := ⟨S[j]'(by have := HN.out; omega), List.getElem?_eq_getElem (by have := HN.out; omega)⟩
        obtain ⟨y, hy⟩ : ∃ y, S'[j]? = some y := ⟨S'[j]'(by have := HN'.out; omega), List.getElem?_eq_getElem (by have := HN'.out; omega)⟩
        obtain ⟨g1, o1, rfl, _, c1⟩ := (H1.out.stay hB).at hx
        obtain ⟨g2, o2, rfl, _, c2⟩ := (H2.out.stay hB).at hy
        have a0 := c1 0 _ rfl
        have a1 := c1 1 _ rfl
        have b0 := c2 0 _ rfl
        have b1 := c2 1 _ rfl
        rw [Nat.add_zero] at a0 b0
        have HS := Lib.hid (fun e => take_stepP hE.out hx hy e)
        have HF : Hid (x ≠ y → T = false) := Lib.hid (fun e => by
          rw [← HT.out]
          refine decide_eq_false fun h => e ?_
          rw [h, hy] at hx
          exact (Option.some.inj hx).symm)
        have HB := Lib.hid hB
        have hne := fun w => neq_p x y w
        clear hx hy c1 c2 hE hB
        by_cases hxy : x = y
        · rw [decide_eq_true hxy] at hne
          have HS2 := Lib.hid (HS.out hxy)
          clear HS HF hxy
          go_wp2_with fail
          go_quiet (fail)
          go_wp2
          go_roundw
          case rel => exact ⟨j + 1, by omega, by go_num, HS2, HB.out.trans (below_drewP _ _ _)⟩
          case measure => simp [RowKit.intOf]; omega
        · rw [decide_eq_false hxy] at hne
          obtain rfl := HF.out hxy
          clear HS HF hxy
          go_wp2_with fail
          go_quiet (fail)
          go_wp2
          go_ret
          exact ⟨rfl, HB.out.trans (below_drewP _ _ _)⟩
      · obtain rfl : j = n := by omega
        have e : T = true := by
          rw [← HT.out]
          refine decide_eq_true ?_
          have := hE.out
          rwa [List.take_of_length_le (by have := HN.out; omega), List.take_of_length_le (by have := HN'.out; omega)] at this
        subst e
        go_wp2
        go_ret
        exact ⟨rfl, hB⟩
  · rw [decide_eq_false fun h => hne (by rw [h])]
    exact equal_plen _ _ _ _ _ _ _ hne
end Go.Proofs.YtffhnedladiaoaaGreatDoor
/- Package script: ops compared. -/
namespace Go.Proofs.YtffhnedladiaoaaGreatDoor
open Go.RowKit Go.Lib
set_option linter.unusedVariables false
set_option linter.unusedSimpArgs false
theorem opp_eq {o p : Opp} : o = p ↔ o.kind = p.kind ∧ o.frm = p.frm ∧ o.to = p.to ∧ o.name = p.name ∧ o.parts = p.parts ∧ o.starts = p.starts ∧ o.en = p.en :=
  ⟨fun h => by subst h; simp, fun ⟨h1, h2, h3, h4, h5, h6, h7⟩ => Opp.eq_of h1 h2 h3 h4 h5 h6 h7⟩
set_option maxHeartbeats 4000000 in
set_option maxRecDepth 100000 in
theorem same_s (p q : Om) (w : World) (hp : OpM w p) (hq : OpM w q) : Calls Tryz.prog 48 #[opV p, opV q] w fun e w' => ∃ b, e = .returned (.bool b) ∧ (b = true ↔ p.o = q.o) ∧ Below w.heap.size w w' := by
  have KP := Lib.hid (fun (w' : World) (h : Below w.heap.size w w') => equal_p p.vP q.vP p.o.parts q.o.parts w' (hp.parts.stay h) (hq.parts.stay h))
  have KC := Lib.hid (fun (w' : World) (h : Below w.heap.size w w') => same_c p.vS q.vS p.o.starts q.o.starts p.o.en q.o.en w' (hp.starts.stay h) (hq.starts.stay h))
  clear hp hq
  unfold opV
  obtain ⟨⟨xk, xf, xt, xn, xp, xs, xe⟩, xa, xP, xS⟩ := p
  obtain ⟨⟨yk, yf, yt, yn, yp, ys, ye⟩, ya, yP, yS⟩ := q
  simp only at *
  have bx := (RBox.new w [.int .i64 (xk : Int), .int .u32 (xf : Int), .int .u32 (xt : Int), strV xn, xP, xS, .int .i32 xe, .int .i64 xa] 38)
  change RBox (w.alloc (.cells #[.int .i64 (xk : Int), .int .u32 (xf : Int), .int .u32 (xt : Int), strV xn, xP, xS, .int .i32 xe, .int .i64 xa] 38)) _ _ at bx
  have hb := ((Below.refl w.heap.size w).alloc (Nat.le_refl _) (.cells #[.int .i64 (xk : Int), .int .u32 (xf : Int), .int .u32 (xt : Int), strV xn, xP, xS, .int .i32 xe, .int .i64 xa] 38))
  have hs : (w.alloc (.cells #[.int .i64 (xk : Int), .int .u32 (xf : Int), .int .u32 (xt : Int), strV xn, xP, xS, .int .i32 xe, .int .i64 xa] 38)).heap.size = w.heap.size + 1 := by simp
  go_enter Tryz.func48, Tryz.ntmps48
  go_upto_region 1 with fail
  generalize w.alloc (.cells #[.int .i64 (xk : Int), .int .u32 (xf : Int), .int .u32 (xt : Int), strV xn, xP, xS, .int .i32 xe, .int .i64 xa] 38) = w1 at *
  have bz := bx.alloc (.cells #[.int .i64 (yk : Int), .int .u32 (yf : Int), .int .u32 (yt : Int), strV yn, yP, yS, .int .i32 ye, .int .i64 ya] 38)
  have by_ := (RBox.new w1 [.int .i64 (yk : Int), .int .u32 (yf : Int), .int .u32 (yt : Int), strV yn, yP, yS, .int .i32 ye, .int .i64 ya] 38)
  change RBox (w1.alloc (.cells #[.int .i64 (yk : Int), .int .u32 (yf : Int), .int .u32 (yt : Int), strV yn, yP, yS, .int .i32 ye, .int .i64 ya] 38)) _ _ at by_
  have hb2 := hb.alloc hb.size (.cells #[.int .i64 (yk : Int), .int .u32 (yf : Int), .int .u32 (yt : Int), strV yn, yP, yS, .int .i32 ye, .int .i64 ya] 38)
  rw [hs] at by_
  generalize w1.alloc (.cells #[.int .i64 (yk : Int), .int .u32 (yf : Int), .int .u32 (yt : Int), strV yn, yP, yS, .int .i32 ye, .int .i64 ya] 38) = W at *
  have HB := Lib.hid hb2
  have x0 := bz.at_ 0 _ rfl
  have x1 := bz.at_ 1 _ rfl
  have x2 := bz.at_ 2 _ rfl
  have x3 := bz.at_ 3 _ rfl
  have x4 := bz.at_ 4 _ rfl
  have y0 := by_.at_ 0 _ rfl
  have y1 := by_.at_ 1 _ rfl
  have y2 := by_.at_ 2 _ rfl
  have y3 := by_.at_ 3 _ rfl
  have y4 := by_.at_ 4 _ rfl
  have HX := Lib.hid bz
  have HY := Lib.hid by_
  clear bx bz by_ hb hb2 hs
  generalize w.heap.size + 1 = Y at *
  unfold strV at x3 y3
  by_cases ek : xk = yk
  case neg =>
    have e1 : ((xk : Int) == (yk : Int)) = false := by simp; omega
    clear KP KC
    go_wp2
    go_ret
    exact ⟨false, rfl, by simp [opp_eq, ek], HB.out⟩
  by_cases ef : xf = yf
  case neg =>
    have e1 : ((xk : Int) == (yk : Int)) = true := by simp; omega
    have e2 : ((xf : Int) == (yf : Int)) = false := by simp; omega
    clear KP KC
    go_wp2
    go_ret
    exact ⟨false, rfl, by simp [opp_eq, ef], HB.out⟩
  by_cases et : xt = yt
  case neg =>
    have e1 : ((xk : Int) == (yk : Int)) = true := by simp; omega
    have e2 : ((xf : Int) == (yf : Int)) = true := by simp; omega
    have e3 : ((xt : Int) == (yt : Int)) = false := by simp; omega
    clear KP KC
    go_wp2
    go_ret
    exact ⟨false, rfl, by simp [opp_eq, et], HB.out⟩
  have e1 : ((xk : Int) == (yk : Int)) = true := by simp; omega
  have e2 : ((xf : Int) == (yf : Int)) = true := by simp; omega
  have e3 : ((xt : Int) == (yt : Int)) = true := by simp; omega
  by_cases en : xn = yn
  case neg =>
    have e4 : (xn == yn) = false := by simpa using en
    clear KP KC
    go_wp2
    go_ret
    exact ⟨false, rfl, by simp [opp_eq, en], HB.out⟩
  have e4 : (xn == yn) = true := by simpa using en
  have HE := Lib.hid (And.intro ek (And.intro ef (And.intro et en)))
  clear ek ef et en
  by_cases ep : xp = yp
  case neg =>
    have K1 := Lib.hid (KP.out W HB.out)
    rw [decide_eq_false ep] at K1
    clear KP KC
    go_wp2_with (go_at_call 31; refine K1.out.mono ?_; rintro e w5 ⟨rfl, h5⟩; have HB5 := Lib.hid (HB.out.trans (h5.mono HB.out.size)); clear h5)
    go_ret
    exact ⟨false, rfl, by simp [opp_eq, ep], HB5.out⟩
  have K1 := Lib.hid (KP.out W HB.out)
  rw [decide_eq_true ep] at K1
  have HEP := Lib.hid ep
  clear KP ep
  have HB1 : Hid (∀ w', Below W.heap.size W w' → Below w.heap.size w w') := Lib.hid (fun w' h => HB.out.trans (h.mono HB.out.size))
  go_wp2_with (first
    | (go_at_call 73; refine (KC.out _ HB5.out).mono ?_; rintro e w6 ⟨rfl, h6⟩; have HB6 := Lib.hid (HB5.out.trans (h6.mono HB5.out.size)); clear h6)
    | (go_at_call 31; refine K1.out.mono ?_; rintro e w5 ⟨rfl, h5⟩; have HB5 := Lib.hid (HB1.out _ h5); have x5 := (HX.out.stay h5).at_ 5 _ rfl; have x6 := (HX.out.stay h5).at_ 6 _ rfl; have y5 := (HY.out.stay h5).at_ 5 _ rfl; have y6 := (HY.out.stay h5).at_ 6 _ rfl; clear h5))
  go_ret
  obtain ⟨q1, q2, q3, q4⟩ := HE.out
  refine ⟨_, rfl, ?_, HB6.out⟩
  rw [opp_eq]
  simp only [Bool.and_eq_true, decide_eq_true_eq]
  exact ⟨fun ⟨a, b⟩ => ⟨q1, q2, q3, q4, HEP.out, a, b⟩, fun ⟨_, _, _, _, _, a, b⟩ => ⟨a, b⟩⟩
end Go.Proofs.YtffhnedladiaoaaGreatDoor
/- Package script: rows of ops compared. -/
namespace Go.Proofs.YtffhnedladiaoaaGreatDoor
open Go.RowKit Go.Lib
set_option linter.unusedVariables false
set_option linter.unusedSimpArgs false
/-- Answered as a thing is so or isn't. -/
def EqB (A : Prop) (e : Ending) : Prop := ∃ b, e = .returned (.bool b) ∧ (b = true ↔ A)
theorem take_stepO {xs ys : List Om} {j : Nat} {x y : Om} (h : (xs.take j).map (·.o) = (ys.take j).map (·.o)) (hx : xs[j]? = some x) (hy : ys[j]? = some y) (e : x.o = y.o) : (xs.take (j + 1)).map (·.o) = (ys.take (j + 1)).map (·.o) := by
  rw [List.take_add_one, List.take_add_one, List.map_append, List.map_append, h, hx, hy]
  simp [e]
set_option maxHeartbeats 4000000 in
set_option maxRecDepth 100000 in
theorem equalfunc_s (v1 v2 : Value) (xs ys : List Om) (w : World) (h1 : ORow w v1 xs) (h2 : ORow w v2 ys) :
    Calls Tryz.prog 29 #[v1, v2, .func (.func 48) #[] #[]] w fun e w' => EqB (xs.map (·.o) = ys.map (·.o)) e ∧ Below w.heap.size w w' := by
  obtain ⟨r1, cap1, rfl, hm⟩ := h1.1.form
  obtain ⟨r2, cap2, rfl, _⟩ := h2.1.form
  by_cases hne : xs.length = ys.length
  case neg =>
    have e1 : ((xs.length : Int) != (ys.length : Int)) = true := by simp; omega
    clear h1 h2
    go_enter Tryz.func29, Tryz.ntmps29
    go_wp2
    go_ret
    exact ⟨⟨false, rfl, ⟨fun h => (by cases h), fun h => (by have := congrArg List.length h; simp at this; exact absurd this hne)⟩⟩, Below.refl _ _⟩
  obtain ⟨n, hn⟩ : ∃ n, xs.length = n := ⟨_, rfl⟩
  have HN := Lib.hid hn
  have HN' := Lib.hid (hne ▸ hn)
  rw [hn] at h1 hm ⊢
  rw [← hne, hn] at h2 ⊢
  have H1 := Lib.hid h1
  have H2 := Lib.hid h2
  clear h1 h2 hn hne
  go_enter Tryz.func29, Tryz.ntmps29
  go_wp2
  go_loopw [17] (fun i wr => ∃ j : Nat, j ≤ n ∧ i = .int .i64 j ∧ Hid ((xs.take j).map (·.o) = (ys.take j).map (·.o)) ∧ Hid (Below w.heap.size w wr)) (fun i _ => n - (RowKit.intOf i).toNat)
  case atStart => exact ⟨0, Nat.zero_le _, rfl, rfl, Lib.hid (Below.refl _ _)⟩
  case round =>
    obtain ⟨j, hj, rfl, hE, HB⟩ := hrel
    rename World => wr
    by_cases hlt : j < n
    · obtain ⟨x, hx⟩ : ∃ x, xs[j]? = some x := ⟨xs[j]'(by have := HN.out; omega), List.getElem?_eq_getElem (by have := HN.out; omega)⟩
      obtain ⟨y, hy⟩ : ∃ y, ys[j]? = some y := ⟨ys[j]'(by have := HN'.out; omega), List.getElem?_eq_getElem (by have := HN'.out; omega)⟩
      obtain ⟨g1, o1, q1, e1, _, _, c1, m1⟩ := (H1.out.stay HB.out).at hx
      obtain ⟨g2, o2, q2, e2, _, _, c2, m2⟩ := (H2.out.stay HB.out).at hy
      injection e1 with e1 en1 e3
      injection e2 with e2 en2 e4
      subst e1
      subst e2
      clear e3 e4 en1 en2
      have a0 := c1 0 _ rfl
      have a1 := c1 1 _ rfl
      have a2 := c1 2 _ rfl
      have a3 := c1 3 _ rfl
      have a4 := c1 4 _ rfl
      have a5 := c1 5 _ rfl
      have a6 := c1 6 _ rfl
      have a7 := c1 7 _ rfl
      have b0 := c2 0 _ rfl
      have b1 := c2 1 _ rfl
      have b2 := c2 2 _ rfl
      have b3 := c2 3 _ rfl
      have b4 := c2 4 _ rfl
      have b5 := c2 5 _ rfl
      have b6 := c2 6 _ rfl
      have b7 := c2 7 _ rfl
      rw [Nat.add_zero] at a0 b0
      have HS := Lib.hid (fun e => take_stepO hE.out hx hy e)
      have HF : Hid (x.o ≠ y.o → xs.map (·.o) ≠ ys.map (·.o)) := Lib.hid (fun e h => e (by
        have h3 := congrArg (·[j]?) h
        simp only [List.getElem?_map, hx, hy, Option.map_some] at h3
        exact Option.some.inj h3))
      have KS := Lib.hid (fun (w' : World) (h : Below wr.heap.size wr w') => same_s x y w' (m1.stay h) (m2.stay h))
      unfold opV at KS
      obtain ⟨xpr, xpc, xe1, _⟩ := m1.parts.form
      obtain ⟨xsr, xsc, xe2, _⟩ := m1.starts.form
      obtain ⟨ypr, ypc, ye1, _⟩ := m2.parts.form
      obtain ⟨ysr, ysc, ye2, _⟩ := m2.starts.form
      clear hx hy c1 c2 hE m1 m2
      obtain ⟨⟨xk, xf, xt, xn, xp, xs', xe⟩, xa, xP, xS⟩ := x
      obtain ⟨⟨yk, yf, yt, yn, yp, ys', ye⟩, ya, yP, yS⟩ := y
      simp only at *
      subst xe1
      subst xe2
      subst ye1
      subst ye2
      unfold strV at *
      go_upto_region 6 with fail
      have hc1 := (Below.refl wr.heap.size wr).alloc (Nat.le_refl _) (.cells #[.int .i64 (xk : Int), .int .u32 (xf : Int), .int .u32 (xt : Int), .string ⟨xn.toArray⟩, .slice xpr xp.length xpc, .slice xsr xs'.length xsc, .int .i32 xe, .int .i64 xa] 38)
      have bx := RBox.new wr [.int .i64 (xk : Int), .int .u32 (xf : Int), .int .u32 (xt : Int), .string ⟨xn.toArray⟩, .slice xpr xp.length xpc, .slice xsr xs'.length xsc, .int .i32 xe, .int .i64 xa] 38
      change RBox (wr.alloc (.cells #[.int .i64 (xk : Int), .int .u32 (xf : Int), .int .u32 (xt : Int), .string ⟨xn.toArray⟩, .slice xpr xp.length xpc, .slice xsr xs'.length xsc, .int .i32 xe, .int .i64 xa] 38)) _ _ at bx
      have hs : (wr.alloc (.cells #[.int .i64 (xk : Int), .int .u32 (xf : Int), .int .u32 (xt : Int), .string ⟨xn.toArray⟩, .slice xpr xp.length xpc, .slice xsr xs'.length xsc, .int .i32 xe, .int .i64 xa] 38)).heap.size = wr.heap.size + 1 := by simp
      have HC : Hid (∀ (p : Addr) (u : Value), wr.cell? p = some u → (wr.alloc (.cells #[.int .i64 (xk : Int), .int .u32 (xf : Int), .int .u32 (xt : Int), .string ⟨xn.toArray⟩, .slice xpr xp.length xpc, .slice xsr xs'.length xsc, .int .i32 xe, .int .i64 xa] 38)).cell? p = some u) := Lib.hid (fun p u h => by rw [hc1.cell (World.block_lt_of_cell? wr _ h)]; exact h)
      generalize wr.alloc (.cells #[.int .i64 (xk : Int), .int .u32 (xf : Int), .int .u32 (xt : Int), .string ⟨xn.toArray⟩, .slice xpr xp.length xpc, .slice xsr xs'.length xsc, .int .i32 xe, .int .i64 xa] 38) = w1 at *
      replace b0 := HC.out _ _ b0
      replace b1 := HC.out _ _ b1
      replace b2 := HC.out _ _ b2
      replace b3 := HC.out _ _ b3
      replace b4 := HC.out _ _ b4
      replace b5 := HC.out _ _ b5
      replace b6 := HC.out _ _ b6
      replace b7 := HC.out _ _ b7
      clear a0 a1 a2 a3 a4 a5 a6 a7 HC
      go_upto_region 7 with fail
      have bz := bx.alloc (.cells #[.int .i64 (yk : Int), .int .u32 (yf : Int), .int .u32 (yt : Int), .string ⟨yn.toArray⟩, .slice ypr yp.length ypc, .slice ysr ys'.length ysc, .int .i32 ye, .int .i64 ya] 38)
      have by_ := (RBox.new w1 [.int .i64 (yk : Int), .int .u32 (yf : Int), .int .u32 (yt : Int), .string ⟨yn.toArray⟩, .slice ypr yp.length ypc, .slice ysr ys'.length ysc, .int .i32 ye, .int .i64 ya] 38)
      change RBox (w1.alloc (.cells #[.int .i64 (yk : Int), .int .u32 (yf : Int), .int .u32 (yt : Int), .string ⟨yn.toArray⟩, .slice ypr yp.length ypc, .slice ysr ys'.length ysc, .int .i32 ye, .int .i64 ya] 38)) _ _ at by_
      have hc2 := hc1.alloc hc1.size (.cells #[.int .i64 (yk : Int), .int .u32 (yf : Int), .int .u32 (yt : Int), .string ⟨yn.toArray⟩, .slice ypr yp.length ypc, .slice ysr ys'.length ysc, .int .i32 ye, .int .i64 ya] 38)
      rw [hs] at by_
      generalize w1.alloc (.cells #[.int .i64 (yk : Int), .int .u32 (yf : Int), .int .u32 (yt : Int), .string ⟨yn.toArray⟩, .slice ypr yp.length ypc, .slice ysr ys'.length ysc, .int .i32 ye, .int .i64 ya] 38) = W at *
      obtain ⟨X, hX⟩ : ∃ X, wr.heap.size = X := ⟨_, rfl⟩
      have K1 := Lib.hid (KS.out W hc2)
      have HBW := Lib.hid (HB.out.trans (hc2.mono HB.out.size))
      rw [hX] at bz by_ ⊢
      have x0 := bz.at_ 0 _ rfl
      have x1 := bz.at_ 1 _ rfl
      have x2 := bz.at_ 2 _ rfl
      have x3 := bz.at_ 3 _ rfl
      have x4 := bz.at_ 4 _ rfl
      have x5 := bz.at_ 5 _ rfl
      have x6 := bz.at_ 6 _ rfl
      have x7 := bz.at_ 7 _ rfl
      have y0 := by_.at_ 0 _ rfl
      have y1 := by_.at_ 1 _ rfl
      have y2 := by_.at_ 2 _ rfl
      have y3 := by_.at_ 3 _ rfl
      have y4 := by_.at_ 4 _ rfl
      have y5 := by_.at_ 5 _ rfl
      have y6 := by_.at_ 6 _ rfl
      have y7 := by_.at_ 7 _ rfl
      clear bz by_ bx hc1 hc2 hX hs b0 b1 b2 b3 b4 b5 b6 b7 KS HB
      by_cases hxy : (⟨xk, xf, xt, xn, xp, xs', xe⟩ : Opp) = ⟨yk, yf, yt, yn, yp, ys', ye⟩
      · have HS2 := Lib.hid (HS.out hxy)
        have K2 := Lib.hid (K1.out.mono fun e w5 (⟨q, h1, h2, h3⟩ : ∃ b, e = Ending.returned (.bool b) ∧ _ ∧ _) => (⟨by rw [h1, h2.2 hxy], h3⟩ : e = Ending.returned (.bool true) ∧ Below W.heap.size W w5))
        clear HS HF K1 hxy
        go_wp2_with (go_at_call 48; refine K2.out.mono ?_; rintro e w5 ⟨rfl, h5⟩; have HB5 := Lib.hid (HBW.out.trans (h5.mono HBW.out.size)); clear h5)
        go_roundw
        case rel => exact ⟨j + 1, by omega, by go_num, HS2, HB5⟩
        case measure => simp [RowKit.intOf]; omega
      · have HF2 := Lib.hid (HF.out hxy)
        have K2 := Lib.hid (K1.out.mono fun e w5 (⟨q, h1, h2, h3⟩ : ∃ b, e = Ending.returned (.bool b) ∧ _ ∧ _) => (⟨by rw [h1]; cases q with | true => exact absurd (h2.1 rfl) hxy | false => rfl, h3⟩ : e = Ending.returned (.bool false) ∧ Below W.heap.size W w5))
        clear HS HF K1 hxy
        go_wp2_with (go_at_call 48; refine K2.out.mono ?_; rintro e w5 ⟨rfl, h5⟩; have HB5 := Lib.hid (HBW.out.trans (h5.mono HBW.out.size)); clear h5)
        go_ret
        exact ⟨⟨false, rfl, ⟨fun h => (by cases h), fun h => absurd h HF2.out⟩⟩, HB5.out⟩
    · obtain rfl : j = n := by omega
      have e := hE.out
      rw [List.take_of_length_le (by have := HN.out; omega), List.take_of_length_le (by have := HN'.out; omega)] at e
      have HE := Lib.hid e
      clear e hE
      go_wp2
      go_ret
      exact ⟨⟨true, rfl, ⟨fun _ => HE.out, fun _ => rfl⟩⟩, HB.out⟩
set_option maxRecDepth 100000 in
theorem Same_s (v1 v2 : Value) (xs ys : List Om) (w : World) (h1 : ORow w v1 xs) (h2 : ORow w v2 ys) :
    Calls Tryz.prog 20 #[v1, v2] w fun e w' => EqB (xs.map (·.o) = ys.map (·.o)) e ∧ Below w.heap.size w w' := by
  have K := Lib.hid (equalfunc_s v1 v2 xs ys w h1 h2)
  clear h1 h2
  go_enter Tryz.func20, Tryz.ntmps20
  go_wp2_with (go_at_call 29; refine K.out.mono ?_; rintro e w5 ⟨⟨q, rfl, hq⟩, h5⟩; have HB5 := Lib.hid h5; have HQ := Lib.hid hq; clear h5 hq)
  go_ret
  exact ⟨⟨_, rfl, HQ.out⟩, HB5.out⟩
end Go.Proofs.YtffhnedladiaoaaGreatDoor

/- Law 3's shares in plain words: what is known of weights, the shares, what owns a row, types. -/
import Derived.Test.YtibipjncpojifaaDoorSd
namespace Go.Proofs.YtibipjncpojifaaDoor
open Go.RowKit
set_option linter.unusedVariables false
set_option linter.unusedSimpArgs false
/-- What the first loops know of the weights. -/
structure Ws (w : World) (b off cap : Nat) (zs : List Int) : Prop where
  blk : b < w.heap.size
  pos : 0 < zs.length
  few : zs.length ≤ 8
  cap : zs.length ≤ cap
  cell : ∀ i, i < zs.length → w.cell? ⟨b, off + i, none⟩ = some (.int .i64 (wOf zs i : Nat)) ∧ 1 ≤ wOf zs i ∧ wOf zs i ≤ 1000000
theorem Ws.sum {w : World} {b off cap : Nat} {zs : List Int} (h : Ws w b off cap zs) (j : Nat) (hj : j ≤ zs.length) : sumTo (wOf zs) j ≤ j * 1000000 :=
  sumTo_bound _ _ _ (fun i hi => (h.cell i (by omega)).2.2)
theorem Ws.total {w : World} {b off cap : Nat} {zs : List Int} (h : Ws w b off cap zs) : 0 < sumTo (wOf zs) zs.length ∧ sumTo (wOf zs) zs.length ≤ 8000000 := by
  have h1 := h.sum zs.length (Nat.le_refl _)
  have h2 := h.few
  have h3 := (h.cell 0 h.pos).2.1
  have h4 : sumTo (wOf zs) 1 ≤ sumTo (wOf zs) zs.length := sumTo_mono _ h.pos
  have h5 : sumTo (wOf zs) 1 = wOf zs 0 := by show 0 + wOf zs 0 = _; omega
  constructor <;> omega
/-- What the document's rounds leave of all parts, if they end. -/
def sharesL (S n : Nat) (W : Nat → Nat) : Option (Nat → Int) :=
  give n (fun t => S * W t % sumTo W n) (S - sumTo (fun t => S * W t / sumTo W n) n) (fun _ => 0) (fun t => ((S * W t / sumTo W n : Nat) : Int))
theorem owns_lower {w : World} {base base' : Nat} {e : TypeId} {size : Nat} {v : Value} {n : Nat} {xs : List Value} (h : w.ownsRow base e size v n xs) (hb : base' ≤ base) : w.ownsRow base' e size v n xs := by
  refine ⟨h.1, ?_⟩
  rcases h.2 with hn | ⟨g, cap, cur, rfl, hg, rest⟩
  · exact .inl hn
  · exact .inr ⟨g, cap, cur, rfl, by omega, rest⟩
theorem infoN : (Tryd.prog.info? 3).map (fun i => (i.zero, i.size, i.bytes)) = some (some (.int .i64 0), 1, 8) := by kernel_rfl
theorem infoU : (Tryd.prog.info? 55).map (fun i => (i.zero, i.size, i.bytes)) = some (some (.int .u64 0), 1, 8) := by kernel_rfl
end Go.Proofs.YtibipjncpojifaaDoor

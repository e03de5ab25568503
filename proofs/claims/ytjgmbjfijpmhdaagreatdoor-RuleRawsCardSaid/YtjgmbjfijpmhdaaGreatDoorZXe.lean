/- Contract of law 10's lines: lines by small numbers, and behind them what makes them sum to nothing. -/
import Derived.Test.YtjgmbjfijpmhdaaGreatDoorZXd
import Derived.Test.YtjgmbjfijpmhdaaGreatDoorZOw
import Derived.Test.YtjgmbjfijpmhdaaGreatDoorZIall
import Derived.Laws.OwnMore
namespace Go.Proofs.YtjgmbjfijpmhdaaGreatDoor
open Go.RowKit
set_option linter.unusedVariables false
set_option linter.unusedSimpArgs false
theorem Box4.grown {w w':World} {b:Nat} {c0 c1 c2 c3:Value} {row:Option Nat} (h:Box4 w b c0 c1 c2 c3) (hg:w.grownBy w' row) (hne:some b≠row):Box4 w' b c0 c1 c2 c3:=by
 have e:=hg.block b h.size hne
 exact ⟨(World.cell?_of_block (a:=⟨b,0,none⟩) e).trans h.a0,(World.cell?_of_block (a:=⟨b,1,none⟩) e).trans h.a1,(World.cell?_of_block (a:=⟨b,2,none⟩) e).trans h.a2,(World.cell?_of_block (a:=⟨b,3,none⟩) e).trans h.a3,
  (World.frozen?_of_block (a:=⟨b,0,none⟩) e).trans h.f0,(World.frozen?_of_block (a:=⟨b,1,none⟩) e).trans h.f1,(World.frozen?_of_block (a:=⟨b,2,none⟩) e).trans h.f2,(World.frozen?_of_block (a:=⟨b,3,none⟩) e).trans h.f3,Nat.lt_of_lt_of_le h.size hg.size⟩

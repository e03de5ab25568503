/- Contract of law 10's line. -/
import Derived.Test.YtjgmbjfijpmhdaaGreatDoorZXall
import Derived.Test.YtjgmbjfijpmhdaaGreatDoorZTall
import Derived.Test.YtjgmbjfijpmhdaaGreatDoorZCkl
import Derived.StillTailTactics
namespace Go.Proofs.YtjgmbjfijpmhdaaGreatDoor
open Go.RowKit
set_option linter.unusedVariables false
set_option linter.unusedSimpArgs false
theorem Box4.alloc {w:World} {b:Nat} {c0 c1 c2 c3:Value} (h:Box4 w b c0 c1 c2 c3) (o:Obj):Box4 (w.alloc o) b c0 c1 c2 c3:=h.stay ((Below.refl _ _).alloc (Nat.le_refl _) o)
theorem Box4.other {w:World} {b:Nat} {c0 c1 c2 c3:Value} (h:Box4 w b c0 c1 c2 c3) (a:Addr) (hne:b≠a.block) (u:Value):Box4 (w.setCell a u) b c0 c1 c2 c3:=by
 have e:=Below.heap_setCell w a u b hne
 exact ⟨(World.cell?_of_block (a:=⟨b,0,none⟩) e).trans h.a0,(World.cell?_of_block (a:=⟨b,1,none⟩) e).trans h.a1,(World.cell?_of_block (a:=⟨b,2,none⟩) e).trans h.a2,(World.cell?_of_block (a:=⟨b,3,none⟩) e).trans h.a3,
  (World.frozen?_of_block (a:=⟨b,0,none⟩) e).trans h.f0,(World.frozen?_of_block (a:=⟨b,1,none⟩) e).trans h.f1,(World.frozen?_of_block (a:=⟨b,2,none⟩) e).trans h.f2,(World.frozen?_of_block (a:=⟨b,3,none⟩) e).trans h.f3,by simpa using h.size⟩

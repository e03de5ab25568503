/- Scripts' ops in plain words: from their texts, one behind the other, the ops are told. -/
import Derived.Test.YtjgmbjfijpmhdaaGreatDoorZMsa
import Derived.Test.YtjgmbjfijpmhdaaGreatDoorZLxz
import Derived.Test.YtjgmbjfijpmhdaaGreatDoorZKall
namespace Go.Proofs.YtjgmbjfijpmhdaaGreatDoor
open Go.RowKit Go.Lib
set_option linter.unusedVariables false
set_option linter.unusedSimpArgs false
theorem Opp.eq_of {o p : Opp} (h1 : o.kind = p.kind) (h2 : o.frm = p.frm) (h3 : o.to = p.to) (h4 : o.name = p.name) (h5 : o.parts = p.parts) (h6 : o.starts = p.starts) (h7 : o.en = p.en) : o = p := by
  cases o; cases p; simp only at h1 h2 h3 h4 h5 h6 h7; subst h1 h2 h3 h4 h5 h6 h7; rfl
end Go.Proofs.YtjgmbjfijpmhdaaGreatDoor

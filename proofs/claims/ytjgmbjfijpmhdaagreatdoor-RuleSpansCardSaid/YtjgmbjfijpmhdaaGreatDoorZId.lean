/- Contract of slices.Clone at lines; the walk of law EntrySums. -/
import Derived.Test.YtjgmbjfijpmhdaaGreatDoorZIall
import Derived.Laws.OwnMore
namespace Go.Proofs.YtjgmbjfijpmhdaaGreatDoor
open Go.RowKit
set_option linter.unusedVariables false
set_option linter.unusedSimpArgs false
theorem infoL : (Tryz.prog.info? 125).map (fun i => (i.zero, i.size, i.bytes)) = some (some (.agg #[.int .u32 0, .int .u16 0, .int .u16 0, .int .i64 0]), 4, 16) := by kernel_rfl
end Go.Proofs.YtjgmbjfijpmhdaaGreatDoor

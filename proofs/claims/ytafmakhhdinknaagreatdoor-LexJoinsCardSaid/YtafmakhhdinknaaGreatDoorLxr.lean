/- What law LexLong asks of the library. -/
import Derived.Test.YtafmakhhdinknaaGreatDoorLxh
import Derived.Test.YtafmakhhdinknaaGreatDoorShelf
namespace Go.Proofs.YtafmakhhdinknaaGreatDoor
open Go.RowKit Go.Lib
theorem repC : RepC := fun c w h => Tryz.strings_Repeat ⟨#[32]⟩ c w (by omega) (by show 1 * c ≤ _; omega)
end Go.Proofs.YtafmakhhdinknaaGreatDoor

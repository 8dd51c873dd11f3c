/- Contracts of functions of the program, by a machine over abstract values; part 10. No condition beyond those of each theorem. -/
import Derived.Test.YtfpejlbfdpeofaaGreatDoorSm8
namespace Go.Proofs.Yt
open Go Go.FA Go.Proofs Go.RowKit Go.Proofs.Y
set_option maxRecDepth 1000000
theorem EC : isB (call 1000 56 []) = true := by kernel_rfl
end Go.Proofs.Yt

/- Contracts of functions of the program, by a machine over abstract values; part 21. No condition beyond those of each theorem. -/
import Derived.Test.YtfpejlbfdpeofaaGreatDoorSm19
set_option linter.unusedVariables false
set_option linter.unusedSimpArgs false
namespace Go.Proofs.Yt
open Go Go.FA Go.Proofs Go.RowKit Go.Proofs.Y
set_option maxRecDepth 1000000
theorem k29a : Qjl [69, 120, 112] 0 (call8 1000 29 (Qkq QfZ (sumT (QkQ 1) (QkQ 2)))) = true := by kernel_rfl
theorem k29b : Qjl [] 13 (call8 1000 29 (Qkq QfZ nopeT)) = true := by kernel_rfl
end Go.Proofs.Yt

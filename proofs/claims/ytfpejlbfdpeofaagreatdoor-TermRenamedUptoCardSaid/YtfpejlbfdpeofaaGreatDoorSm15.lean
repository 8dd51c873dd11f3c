/- Contracts of functions of the program, by a machine over abstract values; part 16. No condition beyond those of each theorem. -/
import Derived.Test.YtfpejlbfdpeofaaGreatDoorSm14
set_option linter.unusedVariables false
set_option linter.unusedSimpArgs false
namespace Go.Proofs.Yt
open Go Go.FA Go.Proofs Go.RowKit Go.Proofs.Y
set_option maxRecDepth 1000000
theorem k29a : QhW [69, 120, 112] 0 (call8 1000 29 (QiY Qfj (sumT (Qjy 1) (Qjy 2)))) = true := by kernel_rfl
theorem k29b : QhW [] 13 (call8 1000 29 (QiY Qfj nopeT)) = true := by kernel_rfl
end Go.Proofs.Yt

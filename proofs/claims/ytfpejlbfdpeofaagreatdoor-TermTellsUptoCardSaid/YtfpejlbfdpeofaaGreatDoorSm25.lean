/- Contracts of functions of the program, by a machine over abstract values; part 26. No condition beyond those of each theorem. -/
import Derived.Test.YtfpejlbfdpeofaaGreatDoorSm24
set_option linter.unusedVariables false
set_option linter.unusedSimpArgs false
namespace Go.Proofs.Yt
open Go Go.FA Go.Proofs Go.RowKit Go.Proofs.Y
set_option maxRecDepth 1000000
theorem k37 : Qjq Enc.intErr (eqII 5 0) (call8 1000 37 (argT t0T)) = true := by kernel_rfl
theorem k39 : Qjq Enc.intErr (eqII 3 0) (call8 1000 39 (argT t0T)) = true := by kernel_rfl
end Go.Proofs.Yt

/- Contracts of functions of the program, by a machine over abstract values; part 22. No condition beyond those of each theorem. -/
import Derived.Test.YtfpejlbfdpeofaaGreatDoorSm20
set_option linter.unusedVariables false
set_option linter.unusedSimpArgs false
namespace Go.Proofs.Yt
open Go Go.FA Go.Proofs Go.RowKit Go.Proofs.Y
set_option maxRecDepth 1000000
theorem k31 : QkC true 0 (call8 1000 31 (Qkq QfZ (QkQ 3))) = true := by kernel_rfl
theorem k25 : isLit (.bool false) (call8 1000 25 (Qkq QfZ t0T)) = true := by kernel_rfl
theorem k27 : isLit (.bool true) (call8 1000 27 (Qkq QfZ (sumT (QkQ 1) (QkQ 2)))) = true := by kernel_rfl
end Go.Proofs.Yt

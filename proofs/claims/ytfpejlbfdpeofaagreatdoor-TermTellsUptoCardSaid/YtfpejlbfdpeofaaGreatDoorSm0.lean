/- Contracts of functions of the program, by a machine over abstract values; part 1. No condition beyond those of each theorem. -/
import Derived.Test.YtfpejlbfdpeofaaGreatDoorRows
import Derived.JoinedOf
import Derived.KernelRfl
set_option linter.unusedVariables false
set_option linter.unusedSimpArgs false
namespace Go.Proofs.Yt
open Go Go.Proofs
set_option maxRecDepth 100000
theorem pf_mayEnter : (Tryz.prog.mayEnter) = true := by kernel_rfl
end Go.Proofs.Yt

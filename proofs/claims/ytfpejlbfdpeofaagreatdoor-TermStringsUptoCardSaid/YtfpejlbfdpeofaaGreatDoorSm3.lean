/- Contracts of functions of the program, by a machine over abstract values; part 4. No condition beyond those of each theorem. -/
import Derived.Test.YtfpejlbfdpeofaaGreatDoorSm2
set_option linter.unusedVariables false
set_option linter.unusedSimpArgs false
namespace Go.Proofs.Yt
open Go Go.Proofs
open YtfpejlbfdpeofaaGreatDoor
set_option maxRecDepth 100000
theorem main9 : Tryz.pinned.checked.prog.mainIs = some (Rows.termStringsUptoCard.stood.harness.1, Rows.termStringsUptoCard.stood.harness.2.toList) := by kernel_rfl
theorem wft9 : Rows.termStringsUptoRow.wfByText (Rows.OpenSpec.upto Rows.termStringsSpec) = true := by kernel_rfl
end Go.Proofs.Yt

/- Contracts of functions of the program, by a machine over abstract values; part 4. No condition beyond those of each theorem. -/
import Derived.Test.YtfpejlbfdpeofaaGreatDoorSm2
set_option linter.unusedVariables false
set_option linter.unusedSimpArgs false
namespace Go.Proofs.Yt
open Go Go.Proofs
open YtfpejlbfdpeofaaGreatDoor
set_option maxRecDepth 100000
theorem main5 : Tryz.pinned.checked.prog.mainIs = some (Rows.termTellsUptoCard.stood.harness.1, Rows.termTellsUptoCard.stood.harness.2.toList) := by kernel_rfl
theorem wft5 : Rows.termTellsUptoRow.wfByText (Rows.OpenSpec.upto Rows.termTellsSpec) = true := by kernel_rfl
end Go.Proofs.Yt

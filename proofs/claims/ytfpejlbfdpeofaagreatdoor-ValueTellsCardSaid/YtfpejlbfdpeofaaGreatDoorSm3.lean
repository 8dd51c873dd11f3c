/- Contracts of functions of the program, by a machine over abstract values; part 4. No condition beyond those of each theorem. -/
import Derived.Test.YtfpejlbfdpeofaaGreatDoorSm2
namespace Go.Proofs.Yt
open Go Go.Proofs
open YtfpejlbfdpeofaaGreatDoor
set_option maxRecDepth 100000
theorem main14 : Tryz.pinned.checked.prog.mainIs = some (Rows.valueTellsCard.stood.harness.1, Rows.valueTellsCard.stood.harness.2.toList) := by kernel_rfl
theorem wft14 : Rows.valueTellsRow.wfByText (OpenSpec.ofChange Rows.valueTellsSpec) = true := by kernel_rfl
end Go.Proofs.Yt

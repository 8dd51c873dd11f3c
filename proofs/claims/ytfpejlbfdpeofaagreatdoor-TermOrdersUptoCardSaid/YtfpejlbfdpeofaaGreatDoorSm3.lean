/- Contracts of functions of the program, by a machine over abstract values; part 4. No condition beyond those of each theorem. -/
import Derived.Test.YtfpejlbfdpeofaaGreatDoorSm2
namespace Go.Proofs.Yt
open Go Go.Proofs
open YtfpejlbfdpeofaaGreatDoor
set_option maxRecDepth 100000
theorem main4 : Tryz.pinned.checked.prog.mainIs = some (Rows.termOrdersUptoCard.stood.harness.1, Rows.termOrdersUptoCard.stood.harness.2.toList) := by kernel_rfl
theorem wft4 : Rows.termOrdersUptoRow.wfByText (Rows.OpenSpec.upto Rows.termOrdersSpec) = true := by kernel_rfl
end Go.Proofs.Yt

/- Contracts of functions of the program, by a machine over abstract values; part 3. No condition beyond those of each theorem. -/
import Derived.Test.YtfpejlbfdpeofaaGreatDoorSm1
import Derived.Test.YtfpejlbfdpeofaaGreatDoorCards
import Derived.Test.YtfpejlbfdpeofaaGreatDoorTie
set_option linter.unusedVariables false
set_option linter.unusedSimpArgs false
namespace Go.Proofs.Yt
open Go Go.Proofs
open YtfpejlbfdpeofaaGreatDoor
set_option maxRecDepth 100000
theorem goes5 : false = Rows.termTellsUptoRow.goesBy Tryz.pinned.checked.prog := by kernel_rfl
end Go.Proofs.Yt

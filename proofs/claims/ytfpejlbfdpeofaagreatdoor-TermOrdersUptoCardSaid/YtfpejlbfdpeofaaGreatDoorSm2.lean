/- Contracts of functions of the program, by a machine over abstract values; part 3. No condition beyond those of each theorem. -/
import Derived.Test.YtfpejlbfdpeofaaGreatDoorSm1
import Derived.Test.YtfpejlbfdpeofaaGreatDoorCards
import Derived.Test.YtfpejlbfdpeofaaGreatDoorTie
namespace Go.Proofs.Yt
open Go Go.Proofs
open YtfpejlbfdpeofaaGreatDoor
set_option maxRecDepth 100000
theorem goes4 : false = Rows.termOrdersUptoRow.goesBy Tryz.pinned.checked.prog := by kernel_rfl
end Go.Proofs.Yt

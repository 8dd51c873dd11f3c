/- Contracts of functions of the program, by a machine over abstract values; part 2. No condition beyond those of each theorem. -/
import Derived.Test.YtfpejlbfdpeofaaGreatDoorSm0
set_option linter.unusedVariables false
set_option linter.unusedSimpArgs false
namespace Go.Proofs.Yt
open Go Go.Proofs
open YtfpejlbfdpeofaaGreatDoor
set_option maxRecDepth 100000
theorem pf_lifted : Tryz.prog.liftsFinal = Rows.valueTellsRow.lifted := by kernel_rfl
theorem pf_make : Tryz.prog.make = some Rows.valueTellsRow.make := by kernel_rfl
theorem pf_laidOut : laidOutB Tryz.prog = true := by kernel_rfl
theorem pf_mapsRowed : mapsRowed Tryz.prog = true := by kernel_rfl
theorem pf_stopsHeard : Tryz.prog.stopsHeard = true := by kernel_rfl
theorem pf_plainKeys : Tryz.prog.plainKeys = Rows.valueTellsRow.plainKeys := by kernel_rfl
end Go.Proofs.Yt

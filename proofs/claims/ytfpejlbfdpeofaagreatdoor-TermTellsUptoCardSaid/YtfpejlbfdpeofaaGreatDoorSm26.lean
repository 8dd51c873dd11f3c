/- Contracts of functions of the program, by a machine over abstract values; part 27. No condition beyond those of each theorem. -/
import Derived.Test.YtfpejlbfdpeofaaGreatDoorSm25
set_option linter.unusedVariables false
set_option linter.unusedSimpArgs false
namespace Go.Proofs.Yt
open Go Go.FA Go.Proofs Go.RowKit Go.Proofs.Y
set_option maxRecDepth 1000000
theorem k41 : Qjq Enc.strsErr (eqLE [⟨#[76]⟩, ⟨#[88]⟩] 0) (call8 1000 41 (argT t0T)) = true := by kernel_rfl
end Go.Proofs.Yt

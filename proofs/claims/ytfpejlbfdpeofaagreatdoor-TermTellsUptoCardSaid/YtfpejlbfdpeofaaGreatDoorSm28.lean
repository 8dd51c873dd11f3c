/- Contracts of functions of the program, by a machine over abstract values; part 29. No condition beyond those of each theorem. -/
import Derived.Test.YtfpejlbfdpeofaaGreatDoorSm27
set_option linter.unusedVariables false
set_option linter.unusedSimpArgs false
namespace Go.Proofs.Yt
open Go Go.FA Go.Proofs Go.RowKit Go.Proofs.Y
set_option maxRecDepth 1000000
theorem EC22 : isB (call10 1000 22 []) = true := by kernel_rfl
def s22x : Sp := fun xs => match xs with
  | [] => some (.lit (.bool true))
  | _ => none
theorem e22x : Go.FA.Good Tryz.prog (22, s22x) := by
  refine ⟨Qb.of_pure fun xs r hr => ?_, Tryz.f22, _, Tryz.func22, rfl, by decide⟩
  simp only [s22x] at hr
  split at hr
  · simp only [Option.some.injEq] at hr; subst hr
    exact ⟨rfl, rfl, 0, hcTrue10 EC22⟩
  · simp at hr
end Go.Proofs.Yt

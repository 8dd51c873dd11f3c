/- Contracts of functions of the program, by a machine over abstract values; part 13. No condition beyond those of each theorem. -/
import Derived.Test.YtfpejlbfdpeofaaGreatDoorSm11
namespace Go.Proofs.Yt
open Go Go.FA Go.Proofs Go.RowKit Go.Proofs.Y
set_option maxRecDepth 1000000
theorem tell_add : isB (call2 1000 14 [.lit (.string ⟨#[97, 100, 100]⟩)]) = true := by kernel_rfl
theorem tell_le : isB (call2 1000 14 [.lit (.string ⟨#[108, 101]⟩)]) = true := by kernel_rfl
theorem tell_not : isB (call2 1000 14 [.lit (.string ⟨#[110, 111, 116]⟩)]) = true := by kernel_rfl
theorem tell_put : isB (call2 1000 14 [.lit (.string ⟨#[112, 117, 116]⟩)]) = true := by kernel_rfl
end Go.Proofs.Yt

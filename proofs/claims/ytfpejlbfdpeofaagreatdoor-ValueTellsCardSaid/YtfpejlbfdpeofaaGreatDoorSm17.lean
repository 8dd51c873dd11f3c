/- Contracts of functions of the program, by a machine over abstract values; part 18. No condition beyond those of each theorem. -/
import Derived.Test.YtfpejlbfdpeofaaGreatDoorSm16
namespace Go.Proofs.Yt
open Go Go.FA Go.Proofs Go.RowKit Go.Proofs.Y
set_option maxRecDepth 1000000
theorem tell_neg : isB (call2 1000 14 [.lit (.string ⟨#[110, 101, 103]⟩)]) = true := by kernel_rfl
theorem tell_and : isB (call2 1000 14 [.lit (.string ⟨#[97, 110, 100]⟩)]) = true := by kernel_rfl
theorem tell_join : isB (call2 1000 14 [.lit (.string ⟨#[106, 111, 105, 110]⟩)]) = true := by kernel_rfl
theorem tell_is : isB (call2 1000 14 [.lit (.string ⟨#[105, 115]⟩)]) = true := by kernel_rfl
end Go.Proofs.Yt

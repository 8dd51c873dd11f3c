/- Contracts of functions of the program, by a machine over abstract values; part 14. No condition beyond those of each theorem. -/
import Derived.Test.YtfpejlbfdpeofaaGreatDoorSm12
namespace Go.Proofs.Yt
open Go Go.FA Go.Proofs Go.RowKit Go.Proofs.Y
set_option maxRecDepth 1000000
theorem tell_sub : isB (call2 1000 14 [.lit (.string ⟨#[115, 117, 98]⟩)]) = true := by kernel_rfl
theorem tell_gt : isB (call2 1000 14 [.lit (.string ⟨#[103, 116]⟩)]) = true := by kernel_rfl
theorem tell_pick : isB (call2 1000 14 [.lit (.string ⟨#[112, 105, 99, 107]⟩)]) = true := by kernel_rfl
theorem tell_has : isB (call2 1000 14 [.lit (.string ⟨#[104, 97, 115]⟩)]) = true := by kernel_rfl
end Go.Proofs.Yt

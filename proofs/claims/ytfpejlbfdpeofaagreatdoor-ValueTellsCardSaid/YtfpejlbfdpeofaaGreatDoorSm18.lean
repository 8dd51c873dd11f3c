/- Contracts of functions of the program, by a machine over abstract values; part 19. No condition beyond those of each theorem. -/
import Derived.Test.YtfpejlbfdpeofaaGreatDoorSm17
namespace Go.Proofs.Yt
open Go Go.FA Go.Proofs Go.RowKit Go.Proofs.Y
set_option maxRecDepth 1000000
theorem tell_lt : isB (call2 1000 14 [.lit (.string ⟨#[108, 116]⟩)]) = true := by kernel_rfl
theorem tell_or : isB (call2 1000 14 [.lit (.string ⟨#[111, 114]⟩)]) = true := by kernel_rfl
theorem tell_get : isB (call2 1000 14 [.lit (.string ⟨#[103, 101, 116]⟩)]) = true := by kernel_rfl
theorem tell_isvalue : isB (call2 1000 14 [.lit (.string ⟨#[105, 115, 118, 97, 108, 117, 101]⟩)]) = true := by kernel_rfl
end Go.Proofs.Yt

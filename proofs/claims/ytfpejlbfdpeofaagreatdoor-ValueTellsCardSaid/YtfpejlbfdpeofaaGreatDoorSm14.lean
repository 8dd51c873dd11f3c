/- Contracts of functions of the program, by a machine over abstract values; part 15. No condition beyond those of each theorem. -/
import Derived.Test.YtfpejlbfdpeofaaGreatDoorSm13
namespace Go.Proofs.Yt
open Go Go.FA Go.Proofs Go.RowKit Go.Proofs.Y
set_option maxRecDepth 1000000
theorem tell_mul : isB (call2 1000 14 [.lit (.string ⟨#[109, 117, 108]⟩)]) = true := by kernel_rfl
theorem tell_ge : isB (call2 1000 14 [.lit (.string ⟨#[103, 101]⟩)]) = true := by kernel_rfl
theorem tell_cat : isB (call2 1000 14 [.lit (.string ⟨#[99, 97, 116]⟩)]) = true := by kernel_rfl
theorem tell_del : isB (call2 1000 14 [.lit (.string ⟨#[100, 101, 108]⟩)]) = true := by kernel_rfl
end Go.Proofs.Yt

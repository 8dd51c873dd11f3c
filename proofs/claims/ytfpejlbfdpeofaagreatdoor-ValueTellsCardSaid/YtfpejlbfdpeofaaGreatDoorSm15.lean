/- Contracts of functions of the program, by a machine over abstract values; part 16. No condition beyond those of each theorem. -/
import Derived.Test.YtfpejlbfdpeofaaGreatDoorSm14
namespace Go.Proofs.Yt
open Go Go.FA Go.Proofs Go.RowKit Go.Proofs.Y
set_option maxRecDepth 1000000
theorem tell_div : isB (call2 1000 14 [.lit (.string ⟨#[100, 105, 118]⟩)]) = true := by kernel_rfl
theorem tell_eq : isB (call2 1000 14 [.lit (.string ⟨#[101, 113]⟩)]) = true := by kernel_rfl
theorem tell_length : isB (call2 1000 14 [.lit (.string ⟨#[108, 101, 110, 103, 116, 104]⟩)]) = true := by kernel_rfl
theorem tell_keys : isB (call2 1000 14 [.lit (.string ⟨#[107, 101, 121, 115]⟩)]) = true := by kernel_rfl
end Go.Proofs.Yt

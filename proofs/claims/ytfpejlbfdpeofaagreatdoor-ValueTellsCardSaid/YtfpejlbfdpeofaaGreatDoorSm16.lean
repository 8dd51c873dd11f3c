/- Contracts of functions of the program, by a machine over abstract values; part 17. No condition beyond those of each theorem. -/
import Derived.Test.YtfpejlbfdpeofaaGreatDoorSm15
namespace Go.Proofs.Yt
open Go Go.FA Go.Proofs Go.RowKit Go.Proofs.Y
set_option maxRecDepth 1000000
theorem tell_mod : isB (call2 1000 14 [.lit (.string ⟨#[109, 111, 100]⟩)]) = true := by kernel_rfl
theorem tell_ne : isB (call2 1000 14 [.lit (.string ⟨#[110, 101]⟩)]) = true := by kernel_rfl
theorem tell_text : isB (call2 1000 14 [.lit (.string ⟨#[116, 101, 120, 116]⟩)]) = true := by kernel_rfl
theorem tell_size : isB (call2 1000 14 [.lit (.string ⟨#[115, 105, 122, 101]⟩)]) = true := by kernel_rfl
end Go.Proofs.Yt

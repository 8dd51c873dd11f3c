/- Contracts of functions of the program, by a machine over abstract values; part 12. No condition beyond those of each theorem. -/
import Derived.Test.YtfpejlbfdpeofaaGreatDoorSm10
namespace Go.Proofs.Yt
open Go Go.FA Go.Proofs Go.RowKit Go.Proofs.Y
set_option maxRecDepth 1000000
def outs : List ByteArray := [⟨#[97, 100, 100]⟩, ⟨#[115, 117, 98]⟩, ⟨#[109, 117, 108]⟩, ⟨#[100, 105, 118]⟩, ⟨#[109, 111, 100]⟩, ⟨#[110, 101, 103]⟩, ⟨#[108, 116]⟩, ⟨#[108, 101]⟩, ⟨#[103, 116]⟩, ⟨#[103, 101]⟩, ⟨#[101, 113]⟩, ⟨#[110, 101]⟩, ⟨#[97, 110, 100]⟩, ⟨#[111, 114]⟩, ⟨#[110, 111, 116]⟩, ⟨#[112, 105, 99, 107]⟩, ⟨#[99, 97, 116]⟩, ⟨#[108, 101, 110, 103, 116, 104]⟩, ⟨#[116, 101, 120, 116]⟩, ⟨#[106, 111, 105, 110]⟩, ⟨#[103, 101, 116]⟩, ⟨#[112, 117, 116]⟩, ⟨#[104, 97, 115]⟩, ⟨#[100, 101, 108]⟩, ⟨#[107, 101, 121, 115]⟩, ⟨#[115, 105, 122, 101]⟩, ⟨#[105, 115]⟩, ⟨#[105, 115, 118, 97, 108, 117, 101]⟩]
theorem tell_none : isB (call2 1000 14 [.strNot outs]) = true := by kernel_rfl
end Go.Proofs.Yt

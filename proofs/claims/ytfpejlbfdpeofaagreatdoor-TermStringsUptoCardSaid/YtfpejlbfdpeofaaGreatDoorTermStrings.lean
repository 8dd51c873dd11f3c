/- TermStrings, in its form for arguments of bulk at most 1048576: it returns true, and its arguments read as they did. Its conditions are those of the row. -/
import Derived.Test.YtfpejlbfdpeofaaGreatDoorSm31
set_option linter.unusedVariables false
set_option linter.unusedSimpArgs false
namespace Go.Proofs.Yt
open Go Go.FA Go.Proofs Go.RowKit Go.ChangeShapes
open YtfpejlbfdpeofaaGreatDoor
set_option maxRecDepth 100000
theorem named9 : Tryz.pinned.checked.prog.funcNamed Rows.termStringsUptoRow.func = some 9 := by kernel_rfl
theorem inst9 : Tryz.f9.isInstance Tryz.pinned.checked.prog Rows.termStringsUptoRow.origin Rows.termStringsUptoRow.targs := of_decide_eq_true (by kernel_rfl)
theorem wrap9 : Tryz.f9.isWrapper Tryz.pinned.checked.prog Rows.termStringsUptoRow.wrapper Rows.termStringsUptoRow.mainSum := by unfold Func.isWrapper; first | (rw [if_pos (by decide +kernel)]; kernel_rfl) | (rw [if_neg (by decide +kernel)]; exact ⟨rfl, rfl⟩)
theorem lift9 (os : Os) (started : os.Started) (H : Type) (enc : TypeId × Value → H) (F : Stop.Interp) : ReturnsInHanded Rows.termStringsUptoRow.assume Tryz.pinned.checked os 9 .any (Rows.termStringsUptoRow.pre enc Tryz.pinned.checked.prog Tryz.f9 (Rows.OpenSpec.upto Rows.termStringsSpec)) (((Rows.OpenSpec.upto Rows.termStringsSpec).at F).post enc Tryz.pinned.checked.prog Tryz.f9 false true false false) := by
  rw [OpenClaim.pre_eq_preRow]; exact lifted9 os started H enc F
theorem said9 : Rows.TermStringsUptoSaid :=
  OpenClaim.holds_of_cond 9 Tryz.f9 rfl rfl rfl rfl rfl rfl rfl ⟨rfl, rfl, rfl, rfl, rfl⟩ rfl rfl rfl rfl rfl named9 Tryz.func9 closed9 inst9 wrap9 (fun os started H enc _ F => lift9 os started H enc F)
theorem plain9 (f : FuncId) (fn : Func) (hf : Tryz.pinned.checked.prog.funcNamed "voussoir/voussoirlaw02.TermStrings" = some f) (hfn : Tryz.pinned.checked.prog.funcs[f]? = some fn) :
    false = Tryz.pinned.checked.prog.looks [] ∧ ∀ (j : Nat) t, fn.params[j]? = some t → Tryz.pinned.checked.prog.wantsStandIn t = false := by
  obtain rfl : f = 9 := Option.some.inj ((show Tryz.prog.funcNamed "voussoir/voussoirlaw02.TermStrings" = some 9 by kernel_rfl).symm.trans hf) |>.symm
  obtain rfl : fn = Tryz.f9 := (Option.some.inj (Tryz.func9.symm.trans hfn)).symm
  refine ⟨by kernel_rfl, fun j t ht => ?_⟩
  have ht' : (#[30, 30] : Array TypeId)[j]? = some t := ht
  have hm := Array.mem_of_getElem? ht'
  simp only [List.mem_toArray, List.mem_cons, List.not_mem_nil, or_false] at hm
  rcases hm with rfl | rfl
  · exact (show Tryz.prog.wantsStandIn 30 = false by kernel_rfl)
  · exact (show Tryz.prog.wantsStandIn 30 = false by kernel_rfl)
theorem card9 : Rows.TermStringsUptoCardSaid :=
  Claim7.holds_tied_plain_at .later [] _ _ _ _ said9 (fun _ h => by cases h) wft9 (fun _ h => by cases h) termStringsUpto_row_tie rfl ⟨rfl, rfl⟩ main9 rfl plain9 goes9
end Go.Proofs.Yt
namespace Go.Proofs.YtfpejlbfdpeofaaGreatDoor
theorem termStringsUptoCard : Rows.TermStringsUptoCardSaid := Go.Proofs.Yt.card9
end Go.Proofs.YtfpejlbfdpeofaaGreatDoor

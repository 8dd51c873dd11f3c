/- TermLimits, in its form for arguments of bulk at most 1048576: it returns true, and its arguments read as they did. Its conditions are those of the row. -/
import Derived.Test.YtfpejlbfdpeofaaGreatDoorSm26
set_option linter.unusedVariables false
set_option linter.unusedSimpArgs false
namespace Go.Proofs.Yt
open Go Go.FA Go.Proofs Go.RowKit Go.ChangeShapes
open YtfpejlbfdpeofaaGreatDoor
set_option maxRecDepth 100000
theorem named7 : Tryz.pinned.checked.prog.funcNamed Rows.termLimitsUptoRow.func = some 7 := by kernel_rfl
theorem inst7 : Tryz.f7.isInstance Tryz.pinned.checked.prog Rows.termLimitsUptoRow.origin Rows.termLimitsUptoRow.targs := of_decide_eq_true (by kernel_rfl)
theorem wrap7 : Tryz.f7.isWrapper Tryz.pinned.checked.prog Rows.termLimitsUptoRow.wrapper Rows.termLimitsUptoRow.mainSum := by unfold Func.isWrapper; first | (rw [if_pos (by decide +kernel)]; kernel_rfl) | (rw [if_neg (by decide +kernel)]; exact ⟨rfl, rfl⟩)
theorem lift7 (os : Os) (started : os.Started) (H : Type) (enc : TypeId × Value → H) (F : Stop.Interp) : ReturnsInHanded Rows.termLimitsUptoRow.assume Tryz.pinned.checked os 7 .any (Rows.termLimitsUptoRow.pre enc Tryz.pinned.checked.prog Tryz.f7 (Rows.OpenSpec.upto Rows.termLimitsSpec)) (((Rows.OpenSpec.upto Rows.termLimitsSpec).at F).post enc Tryz.pinned.checked.prog Tryz.f7 false true false false) := by
  rw [OpenClaim.pre_eq_preRow]; exact lifted7 os started H enc F
theorem said7 : Rows.TermLimitsUptoSaid :=
  OpenClaim.holds_of_cond 7 Tryz.f7 rfl rfl rfl rfl rfl rfl rfl ⟨rfl, rfl, rfl, rfl, rfl⟩ rfl rfl rfl rfl rfl named7 Tryz.func7 closed7 inst7 wrap7 (fun os started H enc _ F => lift7 os started H enc F)
theorem plain7 (f : FuncId) (fn : Func) (hf : Tryz.pinned.checked.prog.funcNamed "voussoir/voussoirlaw02.TermLimits" = some f) (hfn : Tryz.pinned.checked.prog.funcs[f]? = some fn) :
    false = Tryz.pinned.checked.prog.looks [] ∧ ∀ (j : Nat) t, fn.params[j]? = some t → Tryz.pinned.checked.prog.wantsStandIn t = false := by
  obtain rfl : f = 7 := Option.some.inj ((show Tryz.prog.funcNamed "voussoir/voussoirlaw02.TermLimits" = some 7 by kernel_rfl).symm.trans hf) |>.symm
  obtain rfl : fn = Tryz.f7 := (Option.some.inj (Tryz.func7.symm.trans hfn)).symm
  refine ⟨by kernel_rfl, fun j t ht => ?_⟩
  have ht' : (#[5, 5] : Array TypeId)[j]? = some t := ht
  have hm := Array.mem_of_getElem? ht'
  simp only [List.mem_toArray, List.mem_cons, List.not_mem_nil, or_false] at hm
  rcases hm with rfl | rfl
  · exact (show Tryz.prog.wantsStandIn 5 = false by kernel_rfl)
  · exact (show Tryz.prog.wantsStandIn 5 = false by kernel_rfl)
theorem card7 : Rows.TermLimitsUptoCardSaid :=
  Claim7.holds_tied_plain_at .later [] _ _ _ _ said7 (fun _ h => by cases h) wft7 (fun _ h => by cases h) termLimitsUpto_row_tie rfl ⟨rfl, rfl⟩ main7 rfl plain7 goes7
end Go.Proofs.Yt
namespace Go.Proofs.YtfpejlbfdpeofaaGreatDoor
theorem termLimitsUptoCard : Rows.TermLimitsUptoCardSaid := Go.Proofs.Yt.card7
end Go.Proofs.YtfpejlbfdpeofaaGreatDoor

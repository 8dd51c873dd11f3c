/- TermOrdered, in its form for arguments of bulk at most 1048576: it returns true, and its arguments read as they did. Its conditions are those of the row. -/
import Derived.Test.YtfpejlbfdpeofaaGreatDoorSm26
set_option linter.unusedVariables false
set_option linter.unusedSimpArgs false
namespace Go.Proofs.Yt
open Go Go.FA Go.Proofs Go.RowKit Go.ChangeShapes
open YtfpejlbfdpeofaaGreatDoor
set_option maxRecDepth 100000
theorem named8 : Tryz.pinned.checked.prog.funcNamed Rows.termOrderedUptoRow.func = some 8 := by kernel_rfl
theorem inst8 : Tryz.f8.isInstance Tryz.pinned.checked.prog Rows.termOrderedUptoRow.origin Rows.termOrderedUptoRow.targs := of_decide_eq_true (by kernel_rfl)
theorem wrap8 : Tryz.f8.isWrapper Tryz.pinned.checked.prog Rows.termOrderedUptoRow.wrapper Rows.termOrderedUptoRow.mainSum := by unfold Func.isWrapper; first | (rw [if_pos (by decide +kernel)]; kernel_rfl) | (rw [if_neg (by decide +kernel)]; exact ⟨rfl, rfl⟩)
theorem lift8 (os : Os) (started : os.Started) (H : Type) (enc : TypeId × Value → H) (F : Stop.Interp) : ReturnsInHanded Rows.termOrderedUptoRow.assume Tryz.pinned.checked os 8 .any (Rows.termOrderedUptoRow.pre enc Tryz.pinned.checked.prog Tryz.f8 (Rows.OpenSpec.upto Rows.termOrderedSpec)) (((Rows.OpenSpec.upto Rows.termOrderedSpec).at F).post enc Tryz.pinned.checked.prog Tryz.f8 false true false false) := by
  rw [OpenClaim.pre_eq_preRow]; exact lifted8 os started H enc F
theorem said8 : Rows.TermOrderedUptoSaid :=
  OpenClaim.holds_of_cond 8 Tryz.f8 rfl rfl rfl rfl rfl rfl rfl ⟨rfl, rfl, rfl, rfl, rfl⟩ rfl rfl rfl rfl rfl named8 Tryz.func8 closed8 inst8 wrap8 (fun os started H enc _ F => lift8 os started H enc F)
theorem plain8 (f : FuncId) (fn : Func) (hf : Tryz.pinned.checked.prog.funcNamed "voussoir/voussoirlaw02.TermOrdered" = some f) (hfn : Tryz.pinned.checked.prog.funcs[f]? = some fn) :
    false = Tryz.pinned.checked.prog.looks [] ∧ ∀ (j : Nat) t, fn.params[j]? = some t → Tryz.pinned.checked.prog.wantsStandIn t = false := by
  obtain rfl : f = 8 := Option.some.inj ((show Tryz.prog.funcNamed "voussoir/voussoirlaw02.TermOrdered" = some 8 by kernel_rfl).symm.trans hf) |>.symm
  obtain rfl : fn = Tryz.f8 := (Option.some.inj (Tryz.func8.symm.trans hfn)).symm
  refine ⟨by kernel_rfl, fun j t ht => ?_⟩
  have ht' : (#[59] : Array TypeId)[j]? = some t := ht
  have hm := Array.mem_of_getElem? ht'
  simp only [List.mem_toArray, List.mem_cons, List.not_mem_nil, or_false] at hm
  rcases hm with rfl
  · exact (show Tryz.prog.wantsStandIn 59 = false by kernel_rfl)
theorem card8 : Rows.TermOrderedUptoCardSaid :=
  Claim7.holds_tied_plain_at .later [] _ _ _ _ said8 (fun _ h => by cases h) wft8 (fun _ h => by cases h) termOrderedUpto_row_tie rfl ⟨rfl, rfl⟩ main8 rfl plain8 goes8
end Go.Proofs.Yt
namespace Go.Proofs.YtfpejlbfdpeofaaGreatDoor
theorem termOrderedUptoCard : Rows.TermOrderedUptoCardSaid := Go.Proofs.Yt.card8
end Go.Proofs.YtfpejlbfdpeofaaGreatDoor

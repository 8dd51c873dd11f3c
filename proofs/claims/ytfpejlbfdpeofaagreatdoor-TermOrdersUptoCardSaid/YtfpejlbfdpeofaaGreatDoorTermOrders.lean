/- TermOrders, in its form for arguments of bulk at most 1048576: it returns true, and its arguments read as they did. Its conditions are those of the row. -/
import Derived.Test.YtfpejlbfdpeofaaGreatDoorSm26
set_option linter.unusedVariables false
set_option linter.unusedSimpArgs false
namespace Go.Proofs.Yt
open Go Go.FA Go.Proofs Go.RowKit Go.ChangeShapes
open YtfpejlbfdpeofaaGreatDoor
set_option maxRecDepth 100000
theorem named4 : Tryz.pinned.checked.prog.funcNamed Rows.termOrdersUptoRow.func = some 4 := by kernel_rfl
theorem inst4 : Tryz.f4.isInstance Tryz.pinned.checked.prog Rows.termOrdersUptoRow.origin Rows.termOrdersUptoRow.targs := of_decide_eq_true (by kernel_rfl)
theorem wrap4 : Tryz.f4.isWrapper Tryz.pinned.checked.prog Rows.termOrdersUptoRow.wrapper Rows.termOrdersUptoRow.mainSum := by unfold Func.isWrapper; first | (rw [if_pos (by decide +kernel)]; kernel_rfl) | (rw [if_neg (by decide +kernel)]; exact ⟨rfl, rfl⟩)
theorem lift4 (os : Os) (started : os.Started) (H : Type) (enc : TypeId × Value → H) (F : Stop.Interp) : ReturnsInHanded Rows.termOrdersUptoRow.assume Tryz.pinned.checked os 4 .any (Rows.termOrdersUptoRow.pre enc Tryz.pinned.checked.prog Tryz.f4 (Rows.OpenSpec.upto Rows.termOrdersSpec)) (((Rows.OpenSpec.upto Rows.termOrdersSpec).at F).post enc Tryz.pinned.checked.prog Tryz.f4 false true false false) := by
  rw [OpenClaim.pre_eq_preRow]; exact lifted4 os started H enc F
theorem said4 : Rows.TermOrdersUptoSaid :=
  OpenClaim.holds_of_cond 4 Tryz.f4 rfl rfl rfl rfl rfl rfl rfl ⟨rfl, rfl, rfl, rfl, rfl⟩ rfl rfl rfl rfl rfl named4 Tryz.func4 closed4 inst4 wrap4 (fun os started H enc _ F => lift4 os started H enc F)
theorem plain4 (f : FuncId) (fn : Func) (hf : Tryz.pinned.checked.prog.funcNamed "voussoir/voussoirlaw02.TermOrders" = some f) (hfn : Tryz.pinned.checked.prog.funcs[f]? = some fn) :
    false = Tryz.pinned.checked.prog.looks [] ∧ ∀ (j : Nat) t, fn.params[j]? = some t → Tryz.pinned.checked.prog.wantsStandIn t = false := by
  obtain rfl : f = 4 := Option.some.inj ((show Tryz.prog.funcNamed "voussoir/voussoirlaw02.TermOrders" = some 4 by kernel_rfl).symm.trans hf) |>.symm
  obtain rfl : fn = Tryz.f4 := (Option.some.inj (Tryz.func4.symm.trans hfn)).symm
  refine ⟨by kernel_rfl, fun j t ht => ?_⟩
  have ht' : (#[30, 30] : Array TypeId)[j]? = some t := ht
  obtain rfl : t = 30 := by simpa using Array.mem_of_getElem? ht'
  exact (show Tryz.prog.wantsStandIn 30 = false by kernel_rfl)
theorem card4 : Rows.TermOrdersUptoCardSaid :=
  Claim7.holds_tied_plain_at .later [] _ _ _ _ said4 (fun _ h => by cases h) wft4 (fun _ h => by cases h) termOrdersUpto_row_tie rfl ⟨rfl, rfl⟩ main4 rfl plain4 goes4
end Go.Proofs.Yt
namespace Go.Proofs.YtfpejlbfdpeofaaGreatDoor
theorem termOrdersUptoCard : Rows.TermOrdersUptoCardSaid := Go.Proofs.Yt.card4
end Go.Proofs.YtfpejlbfdpeofaaGreatDoor

/- The statement ValueTells holds: for every string the Go function voussoirlaw03.ValueTells returns true, and its argument reads as before; no condition beyond the card's own. -/
import Derived.Test.YtfpejlbfdpeofaaGreatDoorSm21
namespace Go.Proofs.Yt
open Go Go.FA Go.Proofs Go.RowKit Go.ChangeShapes
open YtfpejlbfdpeofaaGreatDoor
set_option linter.unusedVariables false
set_option maxRecDepth 100000
theorem named14 : Tryz.pinned.checked.prog.funcNamed Rows.valueTellsRow.func = some 14 := by kernel_rfl
theorem inst14 : Tryz.f14.isInstance Tryz.pinned.checked.prog Rows.valueTellsRow.origin Rows.valueTellsRow.targs := of_decide_eq_true (by kernel_rfl)
theorem wrap14 : Tryz.f14.isWrapper Tryz.pinned.checked.prog Rows.valueTellsRow.wrapper Rows.valueTellsRow.mainSum := by unfold Func.isWrapper; first | (rw [if_pos (by decide +kernel)]; kernel_rfl) | (rw [if_neg (by decide +kernel)]; exact ⟨rfl, rfl⟩)
theorem lift14 (os : Os) (started : os.Started) (H : Type) (enc : TypeId × Value → H) (F : Stop.Interp) : ReturnsInHanded Rows.valueTellsRow.assume Tryz.pinned.checked os 14 .any (Rows.valueTellsRow.pre enc Tryz.pinned.checked.prog Tryz.f14 (OpenSpec.ofChange Rows.valueTellsSpec)) (((OpenSpec.ofChange Rows.valueTellsSpec).at F).post enc Tryz.pinned.checked.prog Tryz.f14 Rows.valueTellsRow.apart Rows.valueTellsRow.fresh Rows.valueTellsRow.handsOn Rows.valueTellsRow.again) := by
  rw [OpenClaim.pre_eq_preRow]; exact lifted14 os started H enc F
theorem said14 : Rows.ValueTellsSaid :=
  OpenClaim.holds_of_cond 14 Tryz.f14 rfl rfl rfl rfl rfl rfl rfl ⟨rfl, rfl, rfl, rfl, rfl⟩ rfl rfl rfl rfl rfl named14 Tryz.func14 closed14 inst14 wrap14 (fun os started H enc _ F => lift14 os started H enc F)
theorem plain14 (f : FuncId) (fn : Func) (hf : Tryz.pinned.checked.prog.funcNamed "voussoir/voussoirlaw03.ValueTells" = some f) (hfn : Tryz.pinned.checked.prog.funcs[f]? = some fn) :
    false = Tryz.pinned.checked.prog.looks [] ∧ ∀ (j : Nat) t, fn.params[j]? = some t → Tryz.pinned.checked.prog.wantsStandIn t = false := by
  obtain rfl : f = 14 := Option.some.inj ((show Tryz.prog.funcNamed "voussoir/voussoirlaw03.ValueTells" = some 14 by kernel_rfl).symm.trans hf) |>.symm
  obtain rfl : fn = Tryz.f14 := (Option.some.inj (Tryz.func14.symm.trans hfn)).symm
  refine ⟨by kernel_rfl, fun j t ht => ?_⟩
  have ht' : (#[9] : Array TypeId)[j]? = some t := ht
  obtain rfl : t = 9 := by simpa using Array.mem_of_getElem? ht'
  exact (show Tryz.prog.wantsStandIn 9 = false by kernel_rfl)

theorem card14 : Rows.ValueTellsCardSaid :=
  Claim7.holds_tied_plain_at .later [] _ _ _ _ said14 (fun _ h => by cases h) wft14 (fun _ h => by cases h) valueTells_row_tie rfl ⟨rfl, rfl⟩ main14 rfl plain14 goes14
end Go.Proofs.Yt
namespace Go.Proofs.YtfpejlbfdpeofaaGreatDoor
theorem valueTellsCard : Rows.ValueTellsCardSaid := Go.Proofs.Yt.card14
end Go.Proofs.YtfpejlbfdpeofaaGreatDoor

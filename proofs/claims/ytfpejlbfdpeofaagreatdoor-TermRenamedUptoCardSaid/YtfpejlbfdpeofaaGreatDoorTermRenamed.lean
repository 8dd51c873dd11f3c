/- TermRenamed, in its form for arguments of bulk at most 1048576: it returns true, and its arguments read as they did. Its conditions are those of the row. -/
import Derived.Test.YtfpejlbfdpeofaaGreatDoorSm29
set_option linter.unusedVariables false
set_option linter.unusedSimpArgs false
namespace Go.Proofs.Yt
open Go Go.FA Go.Proofs Go.RowKit Go.ChangeShapes
open YtfpejlbfdpeofaaGreatDoor
set_option maxRecDepth 100000
theorem named11 : Tryz.pinned.checked.prog.funcNamed Rows.termRenamedUptoRow.func = some 11 := by kernel_rfl
theorem inst11 : Tryz.f11.isInstance Tryz.pinned.checked.prog Rows.termRenamedUptoRow.origin Rows.termRenamedUptoRow.targs := of_decide_eq_true (by kernel_rfl)
theorem wrap11 : Tryz.f11.isWrapper Tryz.pinned.checked.prog Rows.termRenamedUptoRow.wrapper Rows.termRenamedUptoRow.mainSum := by unfold Func.isWrapper; first | (rw [if_pos (by decide +kernel)]; kernel_rfl) | (rw [if_neg (by decide +kernel)]; exact ⟨rfl, rfl⟩)
theorem lift11 (os : Os) (started : os.Started) (H : Type) (enc : TypeId × Value → H) (F : Stop.Interp) : ReturnsInHanded Rows.termRenamedUptoRow.assume Tryz.pinned.checked os 11 .any (Rows.termRenamedUptoRow.pre enc Tryz.pinned.checked.prog Tryz.f11 (Rows.OpenSpec.upto Rows.termRenamedSpec)) (((Rows.OpenSpec.upto Rows.termRenamedSpec).at F).post enc Tryz.pinned.checked.prog Tryz.f11 false true false false) := by
  rw [OpenClaim.pre_eq_preRow]; exact lifted11 os started H enc F
theorem said11 : Rows.TermRenamedUptoSaid :=
  OpenClaim.holds_of_cond 11 Tryz.f11 rfl rfl rfl rfl rfl rfl rfl ⟨rfl, rfl, rfl, rfl, rfl⟩ rfl rfl rfl rfl rfl named11 Tryz.func11 closed11 inst11 wrap11 (fun os started H enc _ F => lift11 os started H enc F)
theorem plain11 (f : FuncId) (fn : Func) (hf : Tryz.pinned.checked.prog.funcNamed "voussoir/voussoirlaw02.TermRenamed" = some f) (hfn : Tryz.pinned.checked.prog.funcs[f]? = some fn) :
    false = Tryz.pinned.checked.prog.looks [] ∧ ∀ (j : Nat) t, fn.params[j]? = some t → Tryz.pinned.checked.prog.wantsStandIn t = false := by
  obtain rfl : f = 11 := Option.some.inj ((show Tryz.prog.funcNamed "voussoir/voussoirlaw02.TermRenamed" = some 11 by kernel_rfl).symm.trans hf) |>.symm
  obtain rfl : fn = Tryz.f11 := (Option.some.inj (Tryz.func11.symm.trans hfn)).symm
  refine ⟨by kernel_rfl, fun j t ht => ?_⟩
  have ht' : (#[30, 9, 9] : Array TypeId)[j]? = some t := ht
  have hm := Array.mem_of_getElem? ht'
  simp only [List.mem_toArray, List.mem_cons, List.not_mem_nil, or_false] at hm
  rcases hm with rfl | rfl | rfl
  · exact (show Tryz.prog.wantsStandIn 30 = false by kernel_rfl)
  · exact (show Tryz.prog.wantsStandIn 9 = false by kernel_rfl)
  · exact (show Tryz.prog.wantsStandIn 9 = false by kernel_rfl)
theorem card11 : Rows.TermRenamedUptoCardSaid :=
  Claim7.holds_tied_plain_at .later [] _ _ _ _ said11 (fun _ h => by cases h) wft11 (fun _ h => by cases h) termRenamedUpto_row_tie rfl ⟨rfl, rfl⟩ main11 rfl plain11 goes11
end Go.Proofs.Yt
namespace Go.Proofs.YtfpejlbfdpeofaaGreatDoor
theorem termRenamedUptoCard : Rows.TermRenamedUptoCardSaid := Go.Proofs.Yt.card11
end Go.Proofs.YtfpejlbfdpeofaaGreatDoor

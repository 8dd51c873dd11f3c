/- TermTells, in its form for arguments of bulk at most 1048576: it returns true, and its arguments read as they did. Its conditions are those of the row. -/
import Derived.Test.YtfpejlbfdpeofaaGreatDoorSm35
set_option linter.unusedVariables false
set_option linter.unusedSimpArgs false
namespace Go.Proofs.Yt
open Go Go.FA Go.Proofs Go.RowKit Go.ChangeShapes
open YtfpejlbfdpeofaaGreatDoor
set_option maxRecDepth 100000
theorem named5 : Tryz.pinned.checked.prog.funcNamed Rows.termTellsUptoRow.func = some 5 := by kernel_rfl
theorem inst5 : Tryz.f5.isInstance Tryz.pinned.checked.prog Rows.termTellsUptoRow.origin Rows.termTellsUptoRow.targs := of_decide_eq_true (by kernel_rfl)
theorem wrap5 : Tryz.f5.isWrapper Tryz.pinned.checked.prog Rows.termTellsUptoRow.wrapper Rows.termTellsUptoRow.mainSum := by unfold Func.isWrapper; first | (rw [if_pos (by decide +kernel)]; kernel_rfl) | (rw [if_neg (by decide +kernel)]; exact ⟨rfl, rfl⟩)
theorem lift5 (os : Os) (started : os.Started) (H : Type) (enc : TypeId × Value → H) (F : Stop.Interp) : ReturnsInHanded Rows.termTellsUptoRow.assume Tryz.pinned.checked os 5 .any (Rows.termTellsUptoRow.pre enc Tryz.pinned.checked.prog Tryz.f5 (Rows.OpenSpec.upto Rows.termTellsSpec)) (((Rows.OpenSpec.upto Rows.termTellsSpec).at F).post enc Tryz.pinned.checked.prog Tryz.f5 false true false false) := by
  rw [OpenClaim.pre_eq_preRow]; exact lifted5 os started H enc F
theorem said5 : Rows.TermTellsUptoSaid :=
  OpenClaim.holds_of_cond 5 Tryz.f5 rfl rfl rfl rfl rfl rfl rfl ⟨rfl, rfl, rfl, rfl, rfl⟩ rfl rfl rfl rfl rfl named5 Tryz.func5 closed5 inst5 wrap5 (fun os started H enc _ F => lift5 os started H enc F)
theorem plain5 (f : FuncId) (fn : Func) (hf : Tryz.pinned.checked.prog.funcNamed "voussoir/voussoirlaw02.TermTells" = some f) (hfn : Tryz.pinned.checked.prog.funcs[f]? = some fn) :
    false = Tryz.pinned.checked.prog.looks [] ∧ ∀ (j : Nat) t, fn.params[j]? = some t → Tryz.pinned.checked.prog.wantsStandIn t = false := by
  obtain rfl : f = 5 := Option.some.inj ((show Tryz.prog.funcNamed "voussoir/voussoirlaw02.TermTells" = some 5 by kernel_rfl).symm.trans hf) |>.symm
  obtain rfl : fn = Tryz.f5 := (Option.some.inj (Tryz.func5.symm.trans hfn)).symm
  refine ⟨by kernel_rfl, fun j t ht => ?_⟩
  have ht' : (#[30] : Array TypeId)[j]? = some t := ht
  have hm := Array.mem_of_getElem? ht'
  simp only [List.mem_toArray, List.mem_cons, List.not_mem_nil, or_false] at hm
  rcases hm with rfl
  · exact (show Tryz.prog.wantsStandIn 30 = false by kernel_rfl)
theorem card5 : Rows.TermTellsUptoCardSaid :=
  Claim7.holds_tied_plain_at .later [] _ _ _ _ said5 (fun _ h => by cases h) wft5 (fun _ h => by cases h) termTellsUpto_row_tie rfl ⟨rfl, rfl⟩ main5 rfl plain5 goes5
end Go.Proofs.Yt
namespace Go.Proofs.YtfpejlbfdpeofaaGreatDoor
theorem termTellsUptoCard : Rows.TermTellsUptoCardSaid := Go.Proofs.Yt.card5
end Go.Proofs.YtfpejlbfdpeofaaGreatDoor

/- Contracts of functions of the program, by a machine over abstract values; part 27. No condition beyond those of each theorem. -/
import Derived.Test.YtfpejlbfdpeofaaGreatDoorSm25
set_option linter.unusedVariables false
set_option linter.unusedSimpArgs false
namespace Go.Proofs.Yt
open Go Go.FA Go.Proofs Go.RowKit Go.ChangeShapes
open YtfpejlbfdpeofaaGreatDoor
set_option maxRecDepth 100000
theorem cf7_0 : (Rows.termLimitsUptoRow.wf (OpenSpec.ofChange Rows.termLimitsSpec)) = true := by kernel_rfl
theorem cf7_1 : (laidOutB Tryz.prog) = true := pf_laidOut
theorem cf7_2 : (mapsRowed Tryz.prog) = true := pf_mapsRowed
theorem cf7_3 : (Tryz.f7.params.all (Tryz.prog.readableRec ·)) = true := by kernel_rfl
theorem cf7_4 : (namedTie Tryz.prog Rows.termLimitsUptoRow.named Rows.termLimitsSpec.vars) = true := by kernel_rfl
theorem cf7_5 : ((Rows.termLimitsUptoRow.stops == [])) = true := by kernel_rfl
theorem cf7_6 : ((Tryz.prog.stops == [])) = true := by kernel_rfl
theorem cf7_7 : ((Rows.termLimitsUptoRow.knobs == [])) = true := by kernel_rfl
theorem cf7_8 : ((Tryz.prog.stopKnobs == [])) = true := by kernel_rfl
theorem cf7_9 : ((Rows.termLimitsUptoRow.inPlace == Tryz.prog.inPlace 7)) = true := by kernel_rfl
theorem cf7_10 : ((Rows.termLimitsUptoRow.unfollowed == Tryz.prog.unfollowed 7)) = true := by kernel_rfl
theorem cf7_11 : ((Rows.termLimitsUptoRow.recurses == Tryz.prog.recurses 7)) = true := by kernel_rfl
theorem cf7_12 : ((Rows.termLimitsUptoRow.named == Tryz.prog.varsNamed 7)) = true := by kernel_rfl
theorem cf7_13 : ((Rows.termLimitsUptoRow.maps == (Tryz.f7.params.toList ++ Rows.termLimitsSpec.plain.varTypes Tryz.prog).any (Tryz.prog.mapsRec ·))) = true := by kernel_rfl
theorem cf7_14 : ((Rows.termLimitsUptoRow.ifaces == (Tryz.f7.params.toList ++ Rows.termLimitsSpec.plain.varTypes Tryz.prog).any (Tryz.prog.ifacesRec ·))) = true := by kernel_rfl
theorem cf7_15 : ((Rows.termLimitsUptoRow.mapsOut == Tryz.prog.mapsAmong Tryz.f7.resultTypes.toList)) = true := by kernel_rfl
theorem cf7_16 : ((Rows.termLimitsUptoRow.loops == (Tryz.f7.params.toList ++ Rows.termLimitsSpec.plain.varTypes Tryz.prog).any (Tryz.prog.loopsFrom ·))) = true := by kernel_rfl
theorem cf7_17 : ((Rows.termLimitsUptoRow.wideKeys == (Tryz.f7.params.toList ++ Rows.termLimitsSpec.plain.varTypes Tryz.prog ++ Tryz.f7.resultTypes.toList).any (Tryz.prog.wideKeysFrom ·))) = true := by kernel_rfl
theorem cf7_18 : (Rows.termLimitsSpec.vars.all (Tryz.prog.varReadable ·)) = true := by kernel_rfl
theorem cf7_19 : (Tryz.f7.resultTypes.all (fun t => Tryz.prog.readableRec t && decide (t < Tryz.prog.types.size))) = true := by kernel_rfl
theorem cf7_20 : ((Rows.termLimitsUptoRow.ifacesOut == Tryz.f7.resultTypes.toList.any (Tryz.prog.ifacesRec ·))) = true := by kernel_rfl
theorem cf7_21 : ((Rows.termLimitsUptoRow.loopsOut == Tryz.f7.resultTypes.toList.any (Tryz.prog.loopsFrom ·))) = true := by kernel_rfl
theorem cf7_22 : ((Rows.termLimitsUptoRow.plainKeys == Tryz.prog.plainKeys)) = true := by rw [pf_plainKeys]; rfl
theorem cf7_23 : (Rows.termLimitsUptoRow.shortTexts.isNone) = true := by kernel_rfl
theorem cf7_24 : (Tryz.prog.stopsHeard) = true := pf_stopsHeard
theorem cf7_25 : (Tryz.prog.mayEnter) = true := pf_mayEnter
theorem cf7_26 : ((Rows.termLimitsUptoRow.lifted == Tryz.prog.liftsFinal)) = true := by rw [pf_lifted]; rfl
theorem cf7_27 : ((Tryz.prog.make == some Rows.termLimitsUptoRow.make)) = true := by rw [pf_make]; rfl
theorem cf7_28 : ((Rows.termLimitsUptoRow.kinds == (if Rows.termLimitsUptoRow.domain.isEmpty then [] else Tryz.f7.params.toList.map fun t => match Tryz.prog.underlying t with | some (.int k) => some k | _ => none))) = true := by kernel_rfl
theorem cf7_29 : ((Rows.termLimitsUptoRow.pinned == Rows.termLimitsUptoRow.pinnedBy)) = true := by kernel_rfl
theorem cf7_30 : ((Rows.termLimitsUptoRow.veiled == (Tryz.f7.params.toList ++ Rows.termLimitsSpec.plain.varTypes Tryz.prog ++ Tryz.f7.resultTypes.toList).any (Tryz.prog.veiledRec ·))) = true := by kernel_rfl
theorem cf7_31 : (Rows.termLimitsUptoRow.veiledFits Tryz.prog Tryz.f7.params.toList (Tryz.f7.params.toList ++ Rows.termLimitsSpec.plain.varTypes Tryz.prog ++ Tryz.f7.resultTypes.toList)) = true := by kernel_rfl
theorem closed7 : joinedFacts Tryz.prog 7 Tryz.f7 Rows.termLimitsSpec Rows.termLimitsUptoRow = true := by
  rw [joinedFacts]
  simp only [Bool.and_eq_true]
  exact ⟨⟨⟨⟨⟨⟨⟨⟨⟨⟨⟨⟨⟨⟨⟨⟨⟨⟨⟨⟨⟨⟨⟨⟨⟨⟨⟨⟨⟨⟨⟨cf7_0, cf7_1⟩, cf7_2⟩, cf7_3⟩, cf7_4⟩, cf7_5⟩, cf7_6⟩, cf7_7⟩, cf7_8⟩, cf7_9⟩, cf7_10⟩, cf7_11⟩, cf7_12⟩, cf7_13⟩, cf7_14⟩, cf7_15⟩, cf7_16⟩, cf7_17⟩, cf7_18⟩, cf7_19⟩, cf7_20⟩, cf7_21⟩, cf7_22⟩, cf7_23⟩, cf7_24⟩, cf7_25⟩, cf7_26⟩, cf7_27⟩, cf7_28⟩, cf7_29⟩, cf7_30⟩, cf7_31⟩
end Go.Proofs.Yt

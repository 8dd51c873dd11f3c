/- Contracts of functions of the program, by a machine over abstract values; part 27. No condition beyond those of each theorem. -/
import Derived.Test.YtfpejlbfdpeofaaGreatDoorSm25
set_option linter.unusedVariables false
set_option linter.unusedSimpArgs false
namespace Go.Proofs.Yt
open Go Go.FA Go.Proofs Go.RowKit Go.ChangeShapes
open YtfpejlbfdpeofaaGreatDoor
set_option maxRecDepth 100000
theorem cf8_0 : (Rows.termOrderedUptoRow.wf (OpenSpec.ofChange Rows.termOrderedSpec)) = true := by kernel_rfl
theorem cf8_1 : (laidOutB Tryz.prog) = true := pf_laidOut
theorem cf8_2 : (mapsRowed Tryz.prog) = true := pf_mapsRowed
theorem cf8_3 : (Tryz.f8.params.all (Tryz.prog.readableRec ·)) = true := by kernel_rfl
theorem cf8_4 : (namedTie Tryz.prog Rows.termOrderedUptoRow.named Rows.termOrderedSpec.vars) = true := by kernel_rfl
theorem cf8_5 : ((Rows.termOrderedUptoRow.stops == [])) = true := by kernel_rfl
theorem cf8_6 : ((Tryz.prog.stops == [])) = true := by kernel_rfl
theorem cf8_7 : ((Rows.termOrderedUptoRow.knobs == [])) = true := by kernel_rfl
theorem cf8_8 : ((Tryz.prog.stopKnobs == [])) = true := by kernel_rfl
theorem cf8_9 : ((Rows.termOrderedUptoRow.inPlace == Tryz.prog.inPlace 8)) = true := by kernel_rfl
theorem cf8_10 : ((Rows.termOrderedUptoRow.unfollowed == Tryz.prog.unfollowed 8)) = true := by kernel_rfl
theorem cf8_11 : ((Rows.termOrderedUptoRow.recurses == Tryz.prog.recurses 8)) = true := by kernel_rfl
theorem cf8_12 : ((Rows.termOrderedUptoRow.named == Tryz.prog.varsNamed 8)) = true := by kernel_rfl
theorem cf8_13 : ((Rows.termOrderedUptoRow.maps == (Tryz.f8.params.toList ++ Rows.termOrderedSpec.plain.varTypes Tryz.prog).any (Tryz.prog.mapsRec ·))) = true := by kernel_rfl
theorem cf8_14 : ((Rows.termOrderedUptoRow.ifaces == (Tryz.f8.params.toList ++ Rows.termOrderedSpec.plain.varTypes Tryz.prog).any (Tryz.prog.ifacesRec ·))) = true := by kernel_rfl
theorem cf8_15 : ((Rows.termOrderedUptoRow.mapsOut == Tryz.prog.mapsAmong Tryz.f8.resultTypes.toList)) = true := by kernel_rfl
theorem cf8_16 : ((Rows.termOrderedUptoRow.loops == (Tryz.f8.params.toList ++ Rows.termOrderedSpec.plain.varTypes Tryz.prog).any (Tryz.prog.loopsFrom ·))) = true := by kernel_rfl
theorem cf8_17 : ((Rows.termOrderedUptoRow.wideKeys == (Tryz.f8.params.toList ++ Rows.termOrderedSpec.plain.varTypes Tryz.prog ++ Tryz.f8.resultTypes.toList).any (Tryz.prog.wideKeysFrom ·))) = true := by kernel_rfl
theorem cf8_18 : (Rows.termOrderedSpec.vars.all (Tryz.prog.varReadable ·)) = true := by kernel_rfl
theorem cf8_19 : (Tryz.f8.resultTypes.all (fun t => Tryz.prog.readableRec t && decide (t < Tryz.prog.types.size))) = true := by kernel_rfl
theorem cf8_20 : ((Rows.termOrderedUptoRow.ifacesOut == Tryz.f8.resultTypes.toList.any (Tryz.prog.ifacesRec ·))) = true := by kernel_rfl
theorem cf8_21 : ((Rows.termOrderedUptoRow.loopsOut == Tryz.f8.resultTypes.toList.any (Tryz.prog.loopsFrom ·))) = true := by kernel_rfl
theorem cf8_22 : ((Rows.termOrderedUptoRow.plainKeys == Tryz.prog.plainKeys)) = true := by rw [pf_plainKeys]; rfl
theorem cf8_23 : (Rows.termOrderedUptoRow.shortTexts.isNone) = true := by kernel_rfl
theorem cf8_24 : (Tryz.prog.stopsHeard) = true := pf_stopsHeard
theorem cf8_25 : (Tryz.prog.mayEnter) = true := pf_mayEnter
theorem cf8_26 : ((Rows.termOrderedUptoRow.lifted == Tryz.prog.liftsFinal)) = true := by rw [pf_lifted]; rfl
theorem cf8_27 : ((Tryz.prog.make == some Rows.termOrderedUptoRow.make)) = true := by rw [pf_make]; rfl
theorem cf8_28 : ((Rows.termOrderedUptoRow.kinds == (if Rows.termOrderedUptoRow.domain.isEmpty then [] else Tryz.f8.params.toList.map fun t => match Tryz.prog.underlying t with | some (.int k) => some k | _ => none))) = true := by kernel_rfl
theorem cf8_29 : ((Rows.termOrderedUptoRow.pinned == Rows.termOrderedUptoRow.pinnedBy)) = true := by kernel_rfl
theorem cf8_30 : ((Rows.termOrderedUptoRow.veiled == (Tryz.f8.params.toList ++ Rows.termOrderedSpec.plain.varTypes Tryz.prog ++ Tryz.f8.resultTypes.toList).any (Tryz.prog.veiledRec ·))) = true := by kernel_rfl
theorem cf8_31 : (Rows.termOrderedUptoRow.veiledFits Tryz.prog Tryz.f8.params.toList (Tryz.f8.params.toList ++ Rows.termOrderedSpec.plain.varTypes Tryz.prog ++ Tryz.f8.resultTypes.toList)) = true := by kernel_rfl
theorem closed8 : joinedFacts Tryz.prog 8 Tryz.f8 Rows.termOrderedSpec Rows.termOrderedUptoRow = true := by
  rw [joinedFacts]
  simp only [Bool.and_eq_true]
  exact ⟨⟨⟨⟨⟨⟨⟨⟨⟨⟨⟨⟨⟨⟨⟨⟨⟨⟨⟨⟨⟨⟨⟨⟨⟨⟨⟨⟨⟨⟨⟨cf8_0, cf8_1⟩, cf8_2⟩, cf8_3⟩, cf8_4⟩, cf8_5⟩, cf8_6⟩, cf8_7⟩, cf8_8⟩, cf8_9⟩, cf8_10⟩, cf8_11⟩, cf8_12⟩, cf8_13⟩, cf8_14⟩, cf8_15⟩, cf8_16⟩, cf8_17⟩, cf8_18⟩, cf8_19⟩, cf8_20⟩, cf8_21⟩, cf8_22⟩, cf8_23⟩, cf8_24⟩, cf8_25⟩, cf8_26⟩, cf8_27⟩, cf8_28⟩, cf8_29⟩, cf8_30⟩, cf8_31⟩
end Go.Proofs.Yt

/- Contracts of functions of the program, by a machine over abstract values; part 22. No condition beyond those of each theorem. -/
import Derived.Test.YtfpejlbfdpeofaaGreatDoorSm20
namespace Go.Proofs.Yt
open Go Go.FA Go.Proofs Go.RowKit Go.ChangeShapes
open YtfpejlbfdpeofaaGreatDoor
set_option linter.unusedVariables false
set_option maxRecDepth 100000
theorem cf14_0 : (Rows.valueTellsRow.wf (OpenSpec.ofChange Rows.valueTellsSpec)) = true := by kernel_rfl
theorem cf14_1 : (laidOutB Tryz.prog) = true := pf_laidOut
theorem cf14_2 : (mapsRowed Tryz.prog) = true := pf_mapsRowed
theorem cf14_3 : (Tryz.f14.params.all (Tryz.prog.readableRec ·)) = true := by kernel_rfl
theorem cf14_4 : (namedTie Tryz.prog Rows.valueTellsRow.named Rows.valueTellsSpec.vars) = true := by kernel_rfl
theorem cf14_5 : ((Rows.valueTellsRow.stops == [])) = true := by kernel_rfl
theorem cf14_6 : ((Tryz.prog.stops == [])) = true := by kernel_rfl
theorem cf14_7 : ((Rows.valueTellsRow.knobs == [])) = true := by kernel_rfl
theorem cf14_8 : ((Tryz.prog.stopKnobs == [])) = true := by kernel_rfl
theorem cf14_9 : ((Rows.valueTellsRow.inPlace == Tryz.prog.inPlace 14)) = true := by kernel_rfl
theorem cf14_10 : ((Rows.valueTellsRow.unfollowed == Tryz.prog.unfollowed 14)) = true := by kernel_rfl
theorem cf14_11 : ((Rows.valueTellsRow.recurses == Tryz.prog.recurses 14)) = true := by kernel_rfl
theorem cf14_12 : ((Rows.valueTellsRow.named == Tryz.prog.varsNamed 14)) = true := by kernel_rfl
theorem cf14_13 : ((Rows.valueTellsRow.maps == (Tryz.f14.params.toList ++ Rows.valueTellsSpec.plain.varTypes Tryz.prog).any (Tryz.prog.mapsRec ·))) = true := by kernel_rfl
theorem cf14_14 : ((Rows.valueTellsRow.ifaces == (Tryz.f14.params.toList ++ Rows.valueTellsSpec.plain.varTypes Tryz.prog).any (Tryz.prog.ifacesRec ·))) = true := by kernel_rfl
theorem cf14_15 : ((Rows.valueTellsRow.mapsOut == Tryz.prog.mapsAmong Tryz.f14.resultTypes.toList)) = true := by kernel_rfl
theorem cf14_16 : ((Rows.valueTellsRow.loops == (Tryz.f14.params.toList ++ Rows.valueTellsSpec.plain.varTypes Tryz.prog).any (Tryz.prog.loopsFrom ·))) = true := by kernel_rfl
theorem cf14_17 : ((Rows.valueTellsRow.wideKeys == (Tryz.f14.params.toList ++ Rows.valueTellsSpec.plain.varTypes Tryz.prog ++ Tryz.f14.resultTypes.toList).any (Tryz.prog.wideKeysFrom ·))) = true := by kernel_rfl
theorem cf14_18 : (Rows.valueTellsSpec.vars.all (Tryz.prog.varReadable ·)) = true := by kernel_rfl
theorem cf14_19 : (Tryz.f14.resultTypes.all (fun t => Tryz.prog.readableRec t && decide (t < Tryz.prog.types.size))) = true := by kernel_rfl
theorem cf14_20 : ((Rows.valueTellsRow.ifacesOut == Tryz.f14.resultTypes.toList.any (Tryz.prog.ifacesRec ·))) = true := by kernel_rfl
theorem cf14_21 : ((Rows.valueTellsRow.loopsOut == Tryz.f14.resultTypes.toList.any (Tryz.prog.loopsFrom ·))) = true := by kernel_rfl
theorem cf14_22 : ((Rows.valueTellsRow.plainKeys == Tryz.prog.plainKeys)) = true := by rw [pf_plainKeys]; rfl
theorem cf14_23 : (Rows.valueTellsRow.shortTexts.isNone) = true := by kernel_rfl
theorem cf14_24 : (Tryz.prog.stopsHeard) = true := pf_stopsHeard
theorem cf14_25 : (Tryz.prog.mayEnter) = true := pf_mayEnter
theorem cf14_26 : ((Rows.valueTellsRow.lifted == Tryz.prog.liftsFinal)) = true := by rw [pf_lifted]; rfl
theorem cf14_27 : ((Tryz.prog.make == some Rows.valueTellsRow.make)) = true := by rw [pf_make]; rfl
theorem cf14_28 : ((Rows.valueTellsRow.kinds == (if Rows.valueTellsRow.domain.isEmpty then [] else Tryz.f14.params.toList.map fun t => match Tryz.prog.underlying t with | some (.int k) => some k | _ => none))) = true := by kernel_rfl
theorem cf14_29 : ((Rows.valueTellsRow.pinned == Rows.valueTellsRow.pinnedBy)) = true := by kernel_rfl
theorem cf14_30 : ((Rows.valueTellsRow.veiled == (Tryz.f14.params.toList ++ Rows.valueTellsSpec.plain.varTypes Tryz.prog ++ Tryz.f14.resultTypes.toList).any (Tryz.prog.veiledRec ·))) = true := by kernel_rfl
theorem cf14_31 : (Rows.valueTellsRow.veiledFits Tryz.prog Tryz.f14.params.toList (Tryz.f14.params.toList ++ Rows.valueTellsSpec.plain.varTypes Tryz.prog ++ Tryz.f14.resultTypes.toList)) = true := by kernel_rfl
theorem closed14 : joinedFacts Tryz.prog 14 Tryz.f14 Rows.valueTellsSpec Rows.valueTellsRow = true := by
  rw [joinedFacts]
  simp only [Bool.and_eq_true]
  exact ⟨⟨⟨⟨⟨⟨⟨⟨⟨⟨⟨⟨⟨⟨⟨⟨⟨⟨⟨⟨⟨⟨⟨⟨⟨⟨⟨⟨⟨⟨⟨cf14_0, cf14_1⟩, cf14_2⟩, cf14_3⟩, cf14_4⟩, cf14_5⟩, cf14_6⟩, cf14_7⟩, cf14_8⟩, cf14_9⟩, cf14_10⟩, cf14_11⟩, cf14_12⟩, cf14_13⟩, cf14_14⟩, cf14_15⟩, cf14_16⟩, cf14_17⟩, cf14_18⟩, cf14_19⟩, cf14_20⟩, cf14_21⟩, cf14_22⟩, cf14_23⟩, cf14_24⟩, cf14_25⟩, cf14_26⟩, cf14_27⟩, cf14_28⟩, cf14_29⟩, cf14_30⟩, cf14_31⟩
end Go.Proofs.Yt

/- Contracts of functions of the program, by a machine over abstract values; part 36. No condition beyond those of each theorem. -/
import Derived.Test.YtfpejlbfdpeofaaGreatDoorSm34
set_option linter.unusedVariables false
set_option linter.unusedSimpArgs false
namespace Go.Proofs.Yt
open Go Go.FA Go.Proofs Go.RowKit Go.ChangeShapes
open YtfpejlbfdpeofaaGreatDoor
set_option maxRecDepth 100000
theorem cf5_0 : (Rows.termTellsUptoRow.wf (OpenSpec.ofChange Rows.termTellsSpec)) = true := by kernel_rfl
theorem cf5_1 : (laidOutB Tryz.prog) = true := pf_laidOut
theorem cf5_2 : (mapsRowed Tryz.prog) = true := pf_mapsRowed
theorem cf5_3 : (Tryz.f5.params.all (Tryz.prog.readableRec ·)) = true := by kernel_rfl
theorem cf5_4 : (namedTie Tryz.prog Rows.termTellsUptoRow.named Rows.termTellsSpec.vars) = true := by kernel_rfl
theorem cf5_5 : ((Rows.termTellsUptoRow.stops == [])) = true := by kernel_rfl
theorem cf5_6 : ((Tryz.prog.stops == [])) = true := by kernel_rfl
theorem cf5_7 : ((Rows.termTellsUptoRow.knobs == [])) = true := by kernel_rfl
theorem cf5_8 : ((Tryz.prog.stopKnobs == [])) = true := by kernel_rfl
theorem cf5_9 : ((Rows.termTellsUptoRow.inPlace == Tryz.prog.inPlace 5)) = true := by kernel_rfl
theorem cf5_10 : ((Rows.termTellsUptoRow.unfollowed == Tryz.prog.unfollowed 5)) = true := by kernel_rfl
theorem cf5_11 : ((Rows.termTellsUptoRow.recurses == Tryz.prog.recurses 5)) = true := by kernel_rfl
theorem cf5_12 : ((Rows.termTellsUptoRow.named == Tryz.prog.varsNamed 5)) = true := by kernel_rfl
theorem cf5_13 : ((Rows.termTellsUptoRow.maps == (Tryz.f5.params.toList ++ Rows.termTellsSpec.plain.varTypes Tryz.prog).any (Tryz.prog.mapsRec ·))) = true := by kernel_rfl
theorem cf5_14 : ((Rows.termTellsUptoRow.ifaces == (Tryz.f5.params.toList ++ Rows.termTellsSpec.plain.varTypes Tryz.prog).any (Tryz.prog.ifacesRec ·))) = true := by kernel_rfl
theorem cf5_15 : ((Rows.termTellsUptoRow.mapsOut == Tryz.prog.mapsAmong Tryz.f5.resultTypes.toList)) = true := by kernel_rfl
theorem cf5_16 : ((Rows.termTellsUptoRow.loops == (Tryz.f5.params.toList ++ Rows.termTellsSpec.plain.varTypes Tryz.prog).any (Tryz.prog.loopsFrom ·))) = true := by kernel_rfl
theorem cf5_17 : ((Rows.termTellsUptoRow.wideKeys == (Tryz.f5.params.toList ++ Rows.termTellsSpec.plain.varTypes Tryz.prog ++ Tryz.f5.resultTypes.toList).any (Tryz.prog.wideKeysFrom ·))) = true := by kernel_rfl
theorem cf5_18 : (Rows.termTellsSpec.vars.all (Tryz.prog.varReadable ·)) = true := by kernel_rfl
theorem cf5_19 : (Tryz.f5.resultTypes.all (fun t => Tryz.prog.readableRec t && decide (t < Tryz.prog.types.size))) = true := by kernel_rfl
theorem cf5_20 : ((Rows.termTellsUptoRow.ifacesOut == Tryz.f5.resultTypes.toList.any (Tryz.prog.ifacesRec ·))) = true := by kernel_rfl
theorem cf5_21 : ((Rows.termTellsUptoRow.loopsOut == Tryz.f5.resultTypes.toList.any (Tryz.prog.loopsFrom ·))) = true := by kernel_rfl
theorem cf5_22 : ((Rows.termTellsUptoRow.plainKeys == Tryz.prog.plainKeys)) = true := by rw [pf_plainKeys]; rfl
theorem cf5_23 : (Rows.termTellsUptoRow.shortTexts.isNone) = true := by kernel_rfl
theorem cf5_24 : (Tryz.prog.stopsHeard) = true := pf_stopsHeard
theorem cf5_25 : (Tryz.prog.mayEnter) = true := pf_mayEnter
theorem cf5_26 : ((Rows.termTellsUptoRow.lifted == Tryz.prog.liftsFinal)) = true := by rw [pf_lifted]; rfl
theorem cf5_27 : ((Tryz.prog.make == some Rows.termTellsUptoRow.make)) = true := by rw [pf_make]; rfl
theorem cf5_28 : ((Rows.termTellsUptoRow.kinds == (if Rows.termTellsUptoRow.domain.isEmpty then [] else Tryz.f5.params.toList.map fun t => match Tryz.prog.underlying t with | some (.int k) => some k | _ => none))) = true := by kernel_rfl
theorem cf5_29 : ((Rows.termTellsUptoRow.pinned == Rows.termTellsUptoRow.pinnedBy)) = true := by kernel_rfl
theorem cf5_30 : ((Rows.termTellsUptoRow.veiled == (Tryz.f5.params.toList ++ Rows.termTellsSpec.plain.varTypes Tryz.prog ++ Tryz.f5.resultTypes.toList).any (Tryz.prog.veiledRec ·))) = true := by kernel_rfl
theorem cf5_31 : (Rows.termTellsUptoRow.veiledFits Tryz.prog Tryz.f5.params.toList (Tryz.f5.params.toList ++ Rows.termTellsSpec.plain.varTypes Tryz.prog ++ Tryz.f5.resultTypes.toList)) = true := by kernel_rfl
theorem closed5 : joinedFacts Tryz.prog 5 Tryz.f5 Rows.termTellsSpec Rows.termTellsUptoRow = true := by
  rw [joinedFacts]
  simp only [Bool.and_eq_true]
  exact ⟨⟨⟨⟨⟨⟨⟨⟨⟨⟨⟨⟨⟨⟨⟨⟨⟨⟨⟨⟨⟨⟨⟨⟨⟨⟨⟨⟨⟨⟨⟨cf5_0, cf5_1⟩, cf5_2⟩, cf5_3⟩, cf5_4⟩, cf5_5⟩, cf5_6⟩, cf5_7⟩, cf5_8⟩, cf5_9⟩, cf5_10⟩, cf5_11⟩, cf5_12⟩, cf5_13⟩, cf5_14⟩, cf5_15⟩, cf5_16⟩, cf5_17⟩, cf5_18⟩, cf5_19⟩, cf5_20⟩, cf5_21⟩, cf5_22⟩, cf5_23⟩, cf5_24⟩, cf5_25⟩, cf5_26⟩, cf5_27⟩, cf5_28⟩, cf5_29⟩, cf5_30⟩, cf5_31⟩
end Go.Proofs.Yt

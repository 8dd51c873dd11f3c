/- Contracts of functions of the program, by a machine over abstract values; part 32. No condition beyond those of each theorem. -/
import Derived.Test.YtfpejlbfdpeofaaGreatDoorSm30
set_option linter.unusedVariables false
set_option linter.unusedSimpArgs false
namespace Go.Proofs.Yt
open Go Go.FA Go.Proofs Go.RowKit Go.ChangeShapes
open YtfpejlbfdpeofaaGreatDoor
set_option maxRecDepth 100000
theorem cf9_0 : (Rows.termStringsUptoRow.wf (OpenSpec.ofChange Rows.termStringsSpec)) = true := by kernel_rfl
theorem cf9_1 : (laidOutB Tryz.prog) = true := pf_laidOut
theorem cf9_2 : (mapsRowed Tryz.prog) = true := pf_mapsRowed
theorem cf9_3 : (Tryz.f9.params.all (Tryz.prog.readableRec ·)) = true := by kernel_rfl
theorem cf9_4 : (namedTie Tryz.prog Rows.termStringsUptoRow.named Rows.termStringsSpec.vars) = true := by kernel_rfl
theorem cf9_5 : ((Rows.termStringsUptoRow.stops == [])) = true := by kernel_rfl
theorem cf9_6 : ((Tryz.prog.stops == [])) = true := by kernel_rfl
theorem cf9_7 : ((Rows.termStringsUptoRow.knobs == [])) = true := by kernel_rfl
theorem cf9_8 : ((Tryz.prog.stopKnobs == [])) = true := by kernel_rfl
theorem cf9_9 : ((Rows.termStringsUptoRow.inPlace == Tryz.prog.inPlace 9)) = true := by kernel_rfl
theorem cf9_10 : ((Rows.termStringsUptoRow.unfollowed == Tryz.prog.unfollowed 9)) = true := by kernel_rfl
theorem cf9_11 : ((Rows.termStringsUptoRow.recurses == Tryz.prog.recurses 9)) = true := by kernel_rfl
theorem cf9_12 : ((Rows.termStringsUptoRow.named == Tryz.prog.varsNamed 9)) = true := by kernel_rfl
theorem cf9_13 : ((Rows.termStringsUptoRow.maps == (Tryz.f9.params.toList ++ Rows.termStringsSpec.plain.varTypes Tryz.prog).any (Tryz.prog.mapsRec ·))) = true := by kernel_rfl
theorem cf9_14 : ((Rows.termStringsUptoRow.ifaces == (Tryz.f9.params.toList ++ Rows.termStringsSpec.plain.varTypes Tryz.prog).any (Tryz.prog.ifacesRec ·))) = true := by kernel_rfl
theorem cf9_15 : ((Rows.termStringsUptoRow.mapsOut == Tryz.prog.mapsAmong Tryz.f9.resultTypes.toList)) = true := by kernel_rfl
theorem cf9_16 : ((Rows.termStringsUptoRow.loops == (Tryz.f9.params.toList ++ Rows.termStringsSpec.plain.varTypes Tryz.prog).any (Tryz.prog.loopsFrom ·))) = true := by kernel_rfl
theorem cf9_17 : ((Rows.termStringsUptoRow.wideKeys == (Tryz.f9.params.toList ++ Rows.termStringsSpec.plain.varTypes Tryz.prog ++ Tryz.f9.resultTypes.toList).any (Tryz.prog.wideKeysFrom ·))) = true := by kernel_rfl
theorem cf9_18 : (Rows.termStringsSpec.vars.all (Tryz.prog.varReadable ·)) = true := by kernel_rfl
theorem cf9_19 : (Tryz.f9.resultTypes.all (fun t => Tryz.prog.readableRec t && decide (t < Tryz.prog.types.size))) = true := by kernel_rfl
theorem cf9_20 : ((Rows.termStringsUptoRow.ifacesOut == Tryz.f9.resultTypes.toList.any (Tryz.prog.ifacesRec ·))) = true := by kernel_rfl
theorem cf9_21 : ((Rows.termStringsUptoRow.loopsOut == Tryz.f9.resultTypes.toList.any (Tryz.prog.loopsFrom ·))) = true := by kernel_rfl
theorem cf9_22 : ((Rows.termStringsUptoRow.plainKeys == Tryz.prog.plainKeys)) = true := by rw [pf_plainKeys]; rfl
theorem cf9_23 : (Rows.termStringsUptoRow.shortTexts.isNone) = true := by kernel_rfl
theorem cf9_24 : (Tryz.prog.stopsHeard) = true := pf_stopsHeard
theorem cf9_25 : (Tryz.prog.mayEnter) = true := pf_mayEnter
theorem cf9_26 : ((Rows.termStringsUptoRow.lifted == Tryz.prog.liftsFinal)) = true := by rw [pf_lifted]; rfl
theorem cf9_27 : ((Tryz.prog.make == some Rows.termStringsUptoRow.make)) = true := by rw [pf_make]; rfl
theorem cf9_28 : ((Rows.termStringsUptoRow.kinds == (if Rows.termStringsUptoRow.domain.isEmpty then [] else Tryz.f9.params.toList.map fun t => match Tryz.prog.underlying t with | some (.int k) => some k | _ => none))) = true := by kernel_rfl
theorem cf9_29 : ((Rows.termStringsUptoRow.pinned == Rows.termStringsUptoRow.pinnedBy)) = true := by kernel_rfl
theorem cf9_30 : ((Rows.termStringsUptoRow.veiled == (Tryz.f9.params.toList ++ Rows.termStringsSpec.plain.varTypes Tryz.prog ++ Tryz.f9.resultTypes.toList).any (Tryz.prog.veiledRec ·))) = true := by kernel_rfl
theorem cf9_31 : (Rows.termStringsUptoRow.veiledFits Tryz.prog Tryz.f9.params.toList (Tryz.f9.params.toList ++ Rows.termStringsSpec.plain.varTypes Tryz.prog ++ Tryz.f9.resultTypes.toList)) = true := by kernel_rfl
theorem closed9 : joinedFacts Tryz.prog 9 Tryz.f9 Rows.termStringsSpec Rows.termStringsUptoRow = true := by
  rw [joinedFacts]
  simp only [Bool.and_eq_true]
  exact ⟨⟨⟨⟨⟨⟨⟨⟨⟨⟨⟨⟨⟨⟨⟨⟨⟨⟨⟨⟨⟨⟨⟨⟨⟨⟨⟨⟨⟨⟨⟨cf9_0, cf9_1⟩, cf9_2⟩, cf9_3⟩, cf9_4⟩, cf9_5⟩, cf9_6⟩, cf9_7⟩, cf9_8⟩, cf9_9⟩, cf9_10⟩, cf9_11⟩, cf9_12⟩, cf9_13⟩, cf9_14⟩, cf9_15⟩, cf9_16⟩, cf9_17⟩, cf9_18⟩, cf9_19⟩, cf9_20⟩, cf9_21⟩, cf9_22⟩, cf9_23⟩, cf9_24⟩, cf9_25⟩, cf9_26⟩, cf9_27⟩, cf9_28⟩, cf9_29⟩, cf9_30⟩, cf9_31⟩
end Go.Proofs.Yt

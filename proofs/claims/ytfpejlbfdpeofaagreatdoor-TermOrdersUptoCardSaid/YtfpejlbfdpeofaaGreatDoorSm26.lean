/- Contracts of functions of the program, by a machine over abstract values; part 27. No condition beyond those of each theorem. -/
import Derived.Test.YtfpejlbfdpeofaaGreatDoorSm25
set_option linter.unusedVariables false
set_option linter.unusedSimpArgs false
namespace Go.Proofs.Yt
open Go Go.FA Go.Proofs Go.RowKit Go.ChangeShapes
open YtfpejlbfdpeofaaGreatDoor
set_option maxRecDepth 100000
theorem cf4_0 : (Rows.termOrdersUptoRow.wf (OpenSpec.ofChange Rows.termOrdersSpec)) = true := by kernel_rfl
theorem cf4_1 : (laidOutB Tryz.prog) = true := pf_laidOut
theorem cf4_2 : (mapsRowed Tryz.prog) = true := pf_mapsRowed
theorem cf4_3 : (Tryz.f4.params.all (Tryz.prog.readableRec ·)) = true := by kernel_rfl
theorem cf4_4 : (namedTie Tryz.prog Rows.termOrdersUptoRow.named Rows.termOrdersSpec.vars) = true := by kernel_rfl
theorem cf4_5 : ((Rows.termOrdersUptoRow.stops == [])) = true := by kernel_rfl
theorem cf4_6 : ((Tryz.prog.stops == [])) = true := by kernel_rfl
theorem cf4_7 : ((Rows.termOrdersUptoRow.knobs == [])) = true := by kernel_rfl
theorem cf4_8 : ((Tryz.prog.stopKnobs == [])) = true := by kernel_rfl
theorem cf4_9 : ((Rows.termOrdersUptoRow.inPlace == Tryz.prog.inPlace 4)) = true := by kernel_rfl
theorem cf4_10 : ((Rows.termOrdersUptoRow.unfollowed == Tryz.prog.unfollowed 4)) = true := by kernel_rfl
theorem cf4_11 : ((Rows.termOrdersUptoRow.recurses == Tryz.prog.recurses 4)) = true := by kernel_rfl
theorem cf4_12 : ((Rows.termOrdersUptoRow.named == Tryz.prog.varsNamed 4)) = true := by kernel_rfl
theorem cf4_13 : ((Rows.termOrdersUptoRow.maps == (Tryz.f4.params.toList ++ Rows.termOrdersSpec.plain.varTypes Tryz.prog).any (Tryz.prog.mapsRec ·))) = true := by kernel_rfl
theorem cf4_14 : ((Rows.termOrdersUptoRow.ifaces == (Tryz.f4.params.toList ++ Rows.termOrdersSpec.plain.varTypes Tryz.prog).any (Tryz.prog.ifacesRec ·))) = true := by kernel_rfl
theorem cf4_15 : ((Rows.termOrdersUptoRow.mapsOut == Tryz.prog.mapsAmong Tryz.f4.resultTypes.toList)) = true := by kernel_rfl
theorem cf4_16 : ((Rows.termOrdersUptoRow.loops == (Tryz.f4.params.toList ++ Rows.termOrdersSpec.plain.varTypes Tryz.prog).any (Tryz.prog.loopsFrom ·))) = true := by kernel_rfl
theorem cf4_17 : ((Rows.termOrdersUptoRow.wideKeys == (Tryz.f4.params.toList ++ Rows.termOrdersSpec.plain.varTypes Tryz.prog ++ Tryz.f4.resultTypes.toList).any (Tryz.prog.wideKeysFrom ·))) = true := by kernel_rfl
theorem cf4_18 : (Rows.termOrdersSpec.vars.all (Tryz.prog.varReadable ·)) = true := by kernel_rfl
theorem cf4_19 : (Tryz.f4.resultTypes.all (fun t => Tryz.prog.readableRec t && decide (t < Tryz.prog.types.size))) = true := by kernel_rfl
theorem cf4_20 : ((Rows.termOrdersUptoRow.ifacesOut == Tryz.f4.resultTypes.toList.any (Tryz.prog.ifacesRec ·))) = true := by kernel_rfl
theorem cf4_21 : ((Rows.termOrdersUptoRow.loopsOut == Tryz.f4.resultTypes.toList.any (Tryz.prog.loopsFrom ·))) = true := by kernel_rfl
theorem cf4_22 : ((Rows.termOrdersUptoRow.plainKeys == Tryz.prog.plainKeys)) = true := by rw [pf_plainKeys]; rfl
theorem cf4_23 : (Rows.termOrdersUptoRow.shortTexts.isNone) = true := by kernel_rfl
theorem cf4_24 : (Tryz.prog.stopsHeard) = true := pf_stopsHeard
theorem cf4_25 : (Tryz.prog.mayEnter) = true := pf_mayEnter
theorem cf4_26 : ((Rows.termOrdersUptoRow.lifted == Tryz.prog.liftsFinal)) = true := by rw [pf_lifted]; rfl
theorem cf4_27 : ((Tryz.prog.make == some Rows.termOrdersUptoRow.make)) = true := by rw [pf_make]; rfl
theorem cf4_28 : ((Rows.termOrdersUptoRow.kinds == (if Rows.termOrdersUptoRow.domain.isEmpty then [] else Tryz.f4.params.toList.map fun t => match Tryz.prog.underlying t with | some (.int k) => some k | _ => none))) = true := by kernel_rfl
theorem cf4_29 : ((Rows.termOrdersUptoRow.pinned == Rows.termOrdersUptoRow.pinnedBy)) = true := by kernel_rfl
theorem cf4_30 : ((Rows.termOrdersUptoRow.veiled == (Tryz.f4.params.toList ++ Rows.termOrdersSpec.plain.varTypes Tryz.prog ++ Tryz.f4.resultTypes.toList).any (Tryz.prog.veiledRec ·))) = true := by kernel_rfl
theorem cf4_31 : (Rows.termOrdersUptoRow.veiledFits Tryz.prog Tryz.f4.params.toList (Tryz.f4.params.toList ++ Rows.termOrdersSpec.plain.varTypes Tryz.prog ++ Tryz.f4.resultTypes.toList)) = true := by kernel_rfl
theorem closed4 : joinedFacts Tryz.prog 4 Tryz.f4 Rows.termOrdersSpec Rows.termOrdersUptoRow = true := by
  rw [joinedFacts]
  simp only [Bool.and_eq_true]
  exact ⟨⟨⟨⟨⟨⟨⟨⟨⟨⟨⟨⟨⟨⟨⟨⟨⟨⟨⟨⟨⟨⟨⟨⟨⟨⟨⟨⟨⟨⟨⟨cf4_0, cf4_1⟩, cf4_2⟩, cf4_3⟩, cf4_4⟩, cf4_5⟩, cf4_6⟩, cf4_7⟩, cf4_8⟩, cf4_9⟩, cf4_10⟩, cf4_11⟩, cf4_12⟩, cf4_13⟩, cf4_14⟩, cf4_15⟩, cf4_16⟩, cf4_17⟩, cf4_18⟩, cf4_19⟩, cf4_20⟩, cf4_21⟩, cf4_22⟩, cf4_23⟩, cf4_24⟩, cf4_25⟩, cf4_26⟩, cf4_27⟩, cf4_28⟩, cf4_29⟩, cf4_30⟩, cf4_31⟩
end Go.Proofs.Yt

/- Contracts of functions of the program, by a machine over abstract values; part 30. No condition beyond those of each theorem. -/
import Derived.Test.YtfpejlbfdpeofaaGreatDoorSm28
set_option linter.unusedVariables false
set_option linter.unusedSimpArgs false
namespace Go.Proofs.Yt
open Go Go.FA Go.Proofs Go.RowKit Go.ChangeShapes
open YtfpejlbfdpeofaaGreatDoor
set_option maxRecDepth 100000
theorem cf11_0 : (Rows.termRenamedUptoRow.wf (OpenSpec.ofChange Rows.termRenamedSpec)) = true := by kernel_rfl
theorem cf11_1 : (laidOutB Tryz.prog) = true := pf_laidOut
theorem cf11_2 : (mapsRowed Tryz.prog) = true := pf_mapsRowed
theorem cf11_3 : (Tryz.f11.params.all (Tryz.prog.readableRec ·)) = true := by kernel_rfl
theorem cf11_4 : (namedTie Tryz.prog Rows.termRenamedUptoRow.named Rows.termRenamedSpec.vars) = true := by kernel_rfl
theorem cf11_5 : ((Rows.termRenamedUptoRow.stops == [])) = true := by kernel_rfl
theorem cf11_6 : ((Tryz.prog.stops == [])) = true := by kernel_rfl
theorem cf11_7 : ((Rows.termRenamedUptoRow.knobs == [])) = true := by kernel_rfl
theorem cf11_8 : ((Tryz.prog.stopKnobs == [])) = true := by kernel_rfl
theorem cf11_9 : ((Rows.termRenamedUptoRow.inPlace == Tryz.prog.inPlace 11)) = true := by kernel_rfl
theorem cf11_10 : ((Rows.termRenamedUptoRow.unfollowed == Tryz.prog.unfollowed 11)) = true := by kernel_rfl
theorem cf11_11 : ((Rows.termRenamedUptoRow.recurses == Tryz.prog.recurses 11)) = true := by kernel_rfl
theorem cf11_12 : ((Rows.termRenamedUptoRow.named == Tryz.prog.varsNamed 11)) = true := by kernel_rfl
theorem cf11_13 : ((Rows.termRenamedUptoRow.maps == (Tryz.f11.params.toList ++ Rows.termRenamedSpec.plain.varTypes Tryz.prog).any (Tryz.prog.mapsRec ·))) = true := by kernel_rfl
theorem cf11_14 : ((Rows.termRenamedUptoRow.ifaces == (Tryz.f11.params.toList ++ Rows.termRenamedSpec.plain.varTypes Tryz.prog).any (Tryz.prog.ifacesRec ·))) = true := by kernel_rfl
theorem cf11_15 : ((Rows.termRenamedUptoRow.mapsOut == Tryz.prog.mapsAmong Tryz.f11.resultTypes.toList)) = true := by kernel_rfl
theorem cf11_16 : ((Rows.termRenamedUptoRow.loops == (Tryz.f11.params.toList ++ Rows.termRenamedSpec.plain.varTypes Tryz.prog).any (Tryz.prog.loopsFrom ·))) = true := by kernel_rfl
theorem cf11_17 : ((Rows.termRenamedUptoRow.wideKeys == (Tryz.f11.params.toList ++ Rows.termRenamedSpec.plain.varTypes Tryz.prog ++ Tryz.f11.resultTypes.toList).any (Tryz.prog.wideKeysFrom ·))) = true := by kernel_rfl
theorem cf11_18 : (Rows.termRenamedSpec.vars.all (Tryz.prog.varReadable ·)) = true := by kernel_rfl
theorem cf11_19 : (Tryz.f11.resultTypes.all (fun t => Tryz.prog.readableRec t && decide (t < Tryz.prog.types.size))) = true := by kernel_rfl
theorem cf11_20 : ((Rows.termRenamedUptoRow.ifacesOut == Tryz.f11.resultTypes.toList.any (Tryz.prog.ifacesRec ·))) = true := by kernel_rfl
theorem cf11_21 : ((Rows.termRenamedUptoRow.loopsOut == Tryz.f11.resultTypes.toList.any (Tryz.prog.loopsFrom ·))) = true := by kernel_rfl
theorem cf11_22 : ((Rows.termRenamedUptoRow.plainKeys == Tryz.prog.plainKeys)) = true := by rw [pf_plainKeys]; rfl
theorem cf11_23 : (Rows.termRenamedUptoRow.shortTexts.isNone) = true := by kernel_rfl
theorem cf11_24 : (Tryz.prog.stopsHeard) = true := pf_stopsHeard
theorem cf11_25 : (Tryz.prog.mayEnter) = true := pf_mayEnter
theorem cf11_26 : ((Rows.termRenamedUptoRow.lifted == Tryz.prog.liftsFinal)) = true := by rw [pf_lifted]; rfl
theorem cf11_27 : ((Tryz.prog.make == some Rows.termRenamedUptoRow.make)) = true := by rw [pf_make]; rfl
theorem cf11_28 : ((Rows.termRenamedUptoRow.kinds == (if Rows.termRenamedUptoRow.domain.isEmpty then [] else Tryz.f11.params.toList.map fun t => match Tryz.prog.underlying t with | some (.int k) => some k | _ => none))) = true := by kernel_rfl
theorem cf11_29 : ((Rows.termRenamedUptoRow.pinned == Rows.termRenamedUptoRow.pinnedBy)) = true := by kernel_rfl
theorem cf11_30 : ((Rows.termRenamedUptoRow.veiled == (Tryz.f11.params.toList ++ Rows.termRenamedSpec.plain.varTypes Tryz.prog ++ Tryz.f11.resultTypes.toList).any (Tryz.prog.veiledRec ·))) = true := by kernel_rfl
theorem cf11_31 : (Rows.termRenamedUptoRow.veiledFits Tryz.prog Tryz.f11.params.toList (Tryz.f11.params.toList ++ Rows.termRenamedSpec.plain.varTypes Tryz.prog ++ Tryz.f11.resultTypes.toList)) = true := by kernel_rfl
theorem closed11 : joinedFacts Tryz.prog 11 Tryz.f11 Rows.termRenamedSpec Rows.termRenamedUptoRow = true := by
  rw [joinedFacts]
  simp only [Bool.and_eq_true]
  exact ⟨⟨⟨⟨⟨⟨⟨⟨⟨⟨⟨⟨⟨⟨⟨⟨⟨⟨⟨⟨⟨⟨⟨⟨⟨⟨⟨⟨⟨⟨⟨cf11_0, cf11_1⟩, cf11_2⟩, cf11_3⟩, cf11_4⟩, cf11_5⟩, cf11_6⟩, cf11_7⟩, cf11_8⟩, cf11_9⟩, cf11_10⟩, cf11_11⟩, cf11_12⟩, cf11_13⟩, cf11_14⟩, cf11_15⟩, cf11_16⟩, cf11_17⟩, cf11_18⟩, cf11_19⟩, cf11_20⟩, cf11_21⟩, cf11_22⟩, cf11_23⟩, cf11_24⟩, cf11_25⟩, cf11_26⟩, cf11_27⟩, cf11_28⟩, cf11_29⟩, cf11_30⟩, cf11_31⟩
end Go.Proofs.Yt

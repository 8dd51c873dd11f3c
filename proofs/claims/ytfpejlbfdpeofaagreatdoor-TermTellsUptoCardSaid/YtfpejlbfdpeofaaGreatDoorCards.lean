/-
  DERIVED. GIVEN WITH THE SEED: THE CARDS: each row of YtfpejlbfdpeofaaGreatDoorRows.lean that lists a variable, with what it lists TIED to the program's text (the seventh form; the later family's looks); each row that meets fmt, with fmt's text TOLD by the authors' own Lean function (tested against real Go, not proved from fmt's source: count such statements apart). THE CARD IS WHAT COUNTS. Prove the row's statement (the work); the ties are given (YtfpejlbfdpeofaaGreatDoorTie.lean); close each card by the builder's one call (the guide's Derived/Test/ToyasCard.lean, 'card_holds'). Laid BY PROGRAM, IN A SANDBOX (cutbox-door.mjs). By AI agents, Wed Nov 11 2026. No macro, syntax, notation, axiom, sorry.
-/
import Derived.Test.YtfpejlbfdpeofaaGreatDoorRows
import GoSem.ClaimSeven
namespace Go.Proofs.YtfpejlbfdpeofaaGreatDoor
namespace Rows

/-- THE TIED CARD OF 'voussoirlaw02.TermForms'. -/
def termFormsCard : Claim7 := { stood := { row := termFormsRow, standIns := [], harness := (true, "c100d7ad5c41dc1eda2a608e67d0cbad1db132884d407ebcc1030443b227306d"), looks := false }, kinds := [], alts := [], laidByText := true, laidKinds := [.data, .data, .data], laidTests := true, laidLooks := .later }
def TermFormsCardSaid : Prop := Claim7.holds Tryz.pinned (.plain (OpenSpec.ofChange termFormsSpec)) termFormsCard

/-- THE TIED CARD OF 'voussoirlaw02.TermOrders'. -/
def termOrdersCard : Claim7 := { stood := { row := termOrdersRow, standIns := [], harness := (true, "c100d7ad5c41dc1eda2a608e67d0cbad1db132884d407ebcc1030443b227306d"), looks := false }, kinds := [], alts := [], laidByText := true, laidKinds := [.data, .data, .data], laidTests := true, laidLooks := .later }
def TermOrdersCardSaid : Prop := Claim7.holds Tryz.pinned (.plain (OpenSpec.ofChange termOrdersSpec)) termOrdersCard

/-- THE TIED CARD OF 'voussoirlaw02.TermTells'. -/
def termTellsCard : Claim7 := { stood := { row := termTellsRow, standIns := [], harness := (true, "c100d7ad5c41dc1eda2a608e67d0cbad1db132884d407ebcc1030443b227306d"), looks := false }, kinds := [], alts := [], laidByText := true, laidKinds := [.data, .data, .data], laidTests := true, laidLooks := .later }
def TermTellsCardSaid : Prop := Claim7.holds Tryz.pinned (.plain (OpenSpec.ofChange termTellsSpec)) termTellsCard

/-- THE TIED CARD OF 'voussoirlaw02.TermParts'. -/
def termPartsCard : Claim7 := { stood := { row := termPartsRow, standIns := [], harness := (true, "c100d7ad5c41dc1eda2a608e67d0cbad1db132884d407ebcc1030443b227306d"), looks := false }, kinds := [], alts := [], laidByText := true, laidKinds := [.data, .data, .data], laidTests := true, laidLooks := .later }
def TermPartsCardSaid : Prop := Claim7.holds Tryz.pinned (.plain (OpenSpec.ofChange termPartsSpec)) termPartsCard

/-- THE TIED CARD OF 'voussoirlaw02.TermLimits'. -/
def termLimitsCard : Claim7 := { stood := { row := termLimitsRow, standIns := [], harness := (true, "c100d7ad5c41dc1eda2a608e67d0cbad1db132884d407ebcc1030443b227306d"), looks := false }, kinds := [], alts := [], laidByText := true, laidKinds := [.data, .data, .data], laidTests := true, laidLooks := .later }
def TermLimitsCardSaid : Prop := Claim7.holds Tryz.pinned (.plain (OpenSpec.ofChange termLimitsSpec)) termLimitsCard

/-- THE TIED CARD OF 'voussoirlaw02.TermOrdered'. -/
def termOrderedCard : Claim7 := { stood := { row := termOrderedRow, standIns := [], harness := (true, "c100d7ad5c41dc1eda2a608e67d0cbad1db132884d407ebcc1030443b227306d"), looks := false }, kinds := [], alts := [], laidByText := true, laidKinds := [.data, .data, .data], laidTests := true, laidLooks := .later }
def TermOrderedCardSaid : Prop := Claim7.holds Tryz.pinned (.plain (OpenSpec.ofChange termOrderedSpec)) termOrderedCard

/-- THE TIED CARD OF 'voussoirlaw02.TermStrings'. -/
def termStringsCard : Claim7 := { stood := { row := termStringsRow, standIns := [], harness := (true, "c100d7ad5c41dc1eda2a608e67d0cbad1db132884d407ebcc1030443b227306d"), looks := false }, kinds := [], alts := [], laidByText := true, laidKinds := [.data, .data, .data], laidTests := true, laidLooks := .later }
def TermStringsCardSaid : Prop := Claim7.holds Tryz.pinned (.plain (OpenSpec.ofChange termStringsSpec)) termStringsCard

/-- THE TIED CARD OF 'voussoirlaw02.TermWith'. -/
def termWithCard : Claim7 := { stood := { row := termWithRow, standIns := [], harness := (true, "c100d7ad5c41dc1eda2a608e67d0cbad1db132884d407ebcc1030443b227306d"), looks := false }, kinds := [], alts := [], laidByText := true, laidKinds := [.data, .data, .data], laidTests := true, laidLooks := .later }
def TermWithCardSaid : Prop := Claim7.holds Tryz.pinned (.plain (OpenSpec.ofChange termWithSpec)) termWithCard

/-- THE TIED CARD OF 'voussoirlaw02.TermRenamed'. -/
def termRenamedCard : Claim7 := { stood := { row := termRenamedRow, standIns := [], harness := (true, "c100d7ad5c41dc1eda2a608e67d0cbad1db132884d407ebcc1030443b227306d"), looks := false }, kinds := [], alts := [], laidByText := true, laidKinds := [.data, .data, .data], laidTests := true, laidLooks := .later }
def TermRenamedCardSaid : Prop := Claim7.holds Tryz.pinned (.plain (OpenSpec.ofChange termRenamedSpec)) termRenamedCard

/-- THE TIED CARD OF 'voussoirlaw02.TermPlain'. -/
def termPlainCard : Claim7 := { stood := { row := termPlainRow, standIns := [], harness := (true, "c100d7ad5c41dc1eda2a608e67d0cbad1db132884d407ebcc1030443b227306d"), looks := false }, kinds := [], alts := [], laidByText := true, laidKinds := [.data, .data, .data], laidTests := true, laidLooks := .later }
def TermPlainCardSaid : Prop := Claim7.holds Tryz.pinned (.plain (OpenSpec.ofChange termPlainSpec)) termPlainCard

/-- THE TIED CARD OF 'voussoirlaw03.ValueApplies'. -/
def valueAppliesCard : Claim7 := { stood := { row := valueAppliesRow, standIns := [], harness := (true, "c100d7ad5c41dc1eda2a608e67d0cbad1db132884d407ebcc1030443b227306d"), looks := false }, kinds := [], alts := [], laidByText := true, laidKinds := [.data, .data, .data], laidTests := true, laidLooks := .later }
def ValueAppliesCardSaid : Prop := Claim7.holds Tryz.pinned (.plain (OpenSpec.ofChange valueAppliesSpec)) valueAppliesCard

/-- THE TIED CARD OF 'voussoirlaw03.ValueTells'. -/
def valueTellsCard : Claim7 := { stood := { row := valueTellsRow, standIns := [], harness := (true, "c100d7ad5c41dc1eda2a608e67d0cbad1db132884d407ebcc1030443b227306d"), looks := false }, kinds := [], alts := [], laidByText := true, laidKinds := [.data, .data, .data], laidTests := true, laidLooks := .later }
def ValueTellsCardSaid : Prop := Claim7.holds Tryz.pinned (.plain (OpenSpec.ofChange valueTellsSpec)) valueTellsCard

/-- THE TIED CARD OF 'voussoirlaw03.ValueNumbers'. -/
def valueNumbersCard : Claim7 := { stood := { row := valueNumbersRow, standIns := [], harness := (true, "c100d7ad5c41dc1eda2a608e67d0cbad1db132884d407ebcc1030443b227306d"), looks := false }, kinds := [], alts := [], laidByText := true, laidKinds := [.data, .data, .data], laidTests := true, laidLooks := .later }
def ValueNumbersCardSaid : Prop := Claim7.holds Tryz.pinned (.plain (OpenSpec.ofChange valueNumbersSpec)) valueNumbersCard

/-- THE TIED CARD OF 'voussoirlaw03.ValueCompares'. -/
def valueComparesCard : Claim7 := { stood := { row := valueComparesRow, standIns := [], harness := (true, "c100d7ad5c41dc1eda2a608e67d0cbad1db132884d407ebcc1030443b227306d"), looks := false }, kinds := [], alts := [], laidByText := true, laidKinds := [.data, .data, .data], laidTests := true, laidLooks := .later }
def ValueComparesCardSaid : Prop := Claim7.holds Tryz.pinned (.plain (OpenSpec.ofChange valueComparesSpec)) valueComparesCard

/-- THE TIED CARD OF 'voussoirlaw03.ValueMaps'. -/
def valueMapsCard : Claim7 := { stood := { row := valueMapsRow, standIns := [], harness := (true, "c100d7ad5c41dc1eda2a608e67d0cbad1db132884d407ebcc1030443b227306d"), looks := false }, kinds := [], alts := [], laidByText := true, laidKinds := [.data, .data, .data], laidTests := true, laidLooks := .later }
def ValueMapsCardSaid : Prop := Claim7.holds Tryz.pinned (.plain (OpenSpec.ofChange valueMapsSpec)) valueMapsCard

/-- THE TIED CARD OF 'voussoirlaw03.ValueLists'. -/
def valueListsCard : Claim7 := { stood := { row := valueListsRow, standIns := [], harness := (true, "c100d7ad5c41dc1eda2a608e67d0cbad1db132884d407ebcc1030443b227306d"), looks := false }, kinds := [], alts := [], laidByText := true, laidKinds := [.data, .data, .data], laidTests := true, laidLooks := .later }
def ValueListsCardSaid : Prop := Claim7.holds Tryz.pinned (.plain (OpenSpec.ofChange valueListsSpec)) valueListsCard

/-- THE TIED CARD OF 'voussoirlaw03.ValuePlain'. -/
def valuePlainCard : Claim7 := { stood := { row := valuePlainRow, standIns := [], harness := (true, "c100d7ad5c41dc1eda2a608e67d0cbad1db132884d407ebcc1030443b227306d"), looks := false }, kinds := [], alts := [], laidByText := true, laidKinds := [.data, .data, .data], laidTests := true, laidLooks := .later }
def ValuePlainCardSaid : Prop := Claim7.holds Tryz.pinned (.plain (OpenSpec.ofChange valuePlainSpec)) valuePlainCard

/-- THE SECOND FORM's CARD OF 'voussoirlaw02.TermForms'. -/
def termFormsUptoCard : Claim7 := { stood := { row := termFormsUptoRow, standIns := [], harness := (true, "c100d7ad5c41dc1eda2a608e67d0cbad1db132884d407ebcc1030443b227306d"), looks := false }, kinds := [], alts := [], laidByText := true, laidKinds := [.data, .data, .data], laidTests := true, laidLooks := .later }
def TermFormsUptoCardSaid : Prop := Claim7.holds Tryz.pinned (.plain (OpenSpec.upto termFormsSpec)) termFormsUptoCard

/-- THE SECOND FORM's CARD OF 'voussoirlaw02.TermOrders'. -/
def termOrdersUptoCard : Claim7 := { stood := { row := termOrdersUptoRow, standIns := [], harness := (true, "c100d7ad5c41dc1eda2a608e67d0cbad1db132884d407ebcc1030443b227306d"), looks := false }, kinds := [], alts := [], laidByText := true, laidKinds := [.data, .data, .data], laidTests := true, laidLooks := .later }
def TermOrdersUptoCardSaid : Prop := Claim7.holds Tryz.pinned (.plain (OpenSpec.upto termOrdersSpec)) termOrdersUptoCard

/-- THE SECOND FORM's CARD OF 'voussoirlaw02.TermTells'. -/
def termTellsUptoCard : Claim7 := { stood := { row := termTellsUptoRow, standIns := [], harness := (true, "c100d7ad5c41dc1eda2a608e67d0cbad1db132884d407ebcc1030443b227306d"), looks := false }, kinds := [], alts := [], laidByText := true, laidKinds := [.data, .data, .data], laidTests := true, laidLooks := .later }
def TermTellsUptoCardSaid : Prop := Claim7.holds Tryz.pinned (.plain (OpenSpec.upto termTellsSpec)) termTellsUptoCard

/-- THE SECOND FORM's CARD OF 'voussoirlaw02.TermParts'. -/
def termPartsUptoCard : Claim7 := { stood := { row := termPartsUptoRow, standIns := [], harness := (true, "c100d7ad5c41dc1eda2a608e67d0cbad1db132884d407ebcc1030443b227306d"), looks := false }, kinds := [], alts := [], laidByText := true, laidKinds := [.data, .data, .data], laidTests := true, laidLooks := .later }
def TermPartsUptoCardSaid : Prop := Claim7.holds Tryz.pinned (.plain (OpenSpec.upto termPartsSpec)) termPartsUptoCard

/-- THE SECOND FORM's CARD OF 'voussoirlaw02.TermLimits'. -/
def termLimitsUptoCard : Claim7 := { stood := { row := termLimitsUptoRow, standIns := [], harness := (true, "c100d7ad5c41dc1eda2a608e67d0cbad1db132884d407ebcc1030443b227306d"), looks := false }, kinds := [], alts := [], laidByText := true, laidKinds := [.data, .data, .data], laidTests := true, laidLooks := .later }
def TermLimitsUptoCardSaid : Prop := Claim7.holds Tryz.pinned (.plain (OpenSpec.upto termLimitsSpec)) termLimitsUptoCard

/-- THE SECOND FORM's CARD OF 'voussoirlaw02.TermOrdered'. -/
def termOrderedUptoCard : Claim7 := { stood := { row := termOrderedUptoRow, standIns := [], harness := (true, "c100d7ad5c41dc1eda2a608e67d0cbad1db132884d407ebcc1030443b227306d"), looks := false }, kinds := [], alts := [], laidByText := true, laidKinds := [.data, .data, .data], laidTests := true, laidLooks := .later }
def TermOrderedUptoCardSaid : Prop := Claim7.holds Tryz.pinned (.plain (OpenSpec.upto termOrderedSpec)) termOrderedUptoCard

/-- THE SECOND FORM's CARD OF 'voussoirlaw02.TermStrings'. -/
def termStringsUptoCard : Claim7 := { stood := { row := termStringsUptoRow, standIns := [], harness := (true, "c100d7ad5c41dc1eda2a608e67d0cbad1db132884d407ebcc1030443b227306d"), looks := false }, kinds := [], alts := [], laidByText := true, laidKinds := [.data, .data, .data], laidTests := true, laidLooks := .later }
def TermStringsUptoCardSaid : Prop := Claim7.holds Tryz.pinned (.plain (OpenSpec.upto termStringsSpec)) termStringsUptoCard

/-- THE SECOND FORM's CARD OF 'voussoirlaw02.TermWith'. -/
def termWithUptoCard : Claim7 := { stood := { row := termWithUptoRow, standIns := [], harness := (true, "c100d7ad5c41dc1eda2a608e67d0cbad1db132884d407ebcc1030443b227306d"), looks := false }, kinds := [], alts := [], laidByText := true, laidKinds := [.data, .data, .data], laidTests := true, laidLooks := .later }
def TermWithUptoCardSaid : Prop := Claim7.holds Tryz.pinned (.plain (OpenSpec.upto termWithSpec)) termWithUptoCard

/-- THE SECOND FORM's CARD OF 'voussoirlaw02.TermRenamed'. -/
def termRenamedUptoCard : Claim7 := { stood := { row := termRenamedUptoRow, standIns := [], harness := (true, "c100d7ad5c41dc1eda2a608e67d0cbad1db132884d407ebcc1030443b227306d"), looks := false }, kinds := [], alts := [], laidByText := true, laidKinds := [.data, .data, .data], laidTests := true, laidLooks := .later }
def TermRenamedUptoCardSaid : Prop := Claim7.holds Tryz.pinned (.plain (OpenSpec.upto termRenamedSpec)) termRenamedUptoCard

/-- THE SECOND FORM's CARD OF 'voussoirlaw02.TermPlain'. -/
def termPlainUptoCard : Claim7 := { stood := { row := termPlainUptoRow, standIns := [], harness := (true, "c100d7ad5c41dc1eda2a608e67d0cbad1db132884d407ebcc1030443b227306d"), looks := false }, kinds := [], alts := [], laidByText := true, laidKinds := [.data, .data, .data], laidTests := true, laidLooks := .later }
def TermPlainUptoCardSaid : Prop := Claim7.holds Tryz.pinned (.plain (OpenSpec.upto termPlainSpec)) termPlainUptoCard

/-- THE SECOND FORM's CARD OF 'voussoirlaw03.ValueApplies'. -/
def valueAppliesUptoCard : Claim7 := { stood := { row := valueAppliesUptoRow, standIns := [], harness := (true, "c100d7ad5c41dc1eda2a608e67d0cbad1db132884d407ebcc1030443b227306d"), looks := false }, kinds := [], alts := [], laidByText := true, laidKinds := [.data, .data, .data], laidTests := true, laidLooks := .later }
def ValueAppliesUptoCardSaid : Prop := Claim7.holds Tryz.pinned (.plain (OpenSpec.upto valueAppliesSpec)) valueAppliesUptoCard

/-- THE SECOND FORM's CARD OF 'voussoirlaw03.ValueTells'. -/
def valueTellsUptoCard : Claim7 := { stood := { row := valueTellsUptoRow, standIns := [], harness := (true, "c100d7ad5c41dc1eda2a608e67d0cbad1db132884d407ebcc1030443b227306d"), looks := false }, kinds := [], alts := [], laidByText := true, laidKinds := [.data, .data, .data], laidTests := true, laidLooks := .later }
def ValueTellsUptoCardSaid : Prop := Claim7.holds Tryz.pinned (.plain (OpenSpec.upto valueTellsSpec)) valueTellsUptoCard

/-- THE SECOND FORM's CARD OF 'voussoirlaw03.ValueNumbers'. -/
def valueNumbersUptoCard : Claim7 := { stood := { row := valueNumbersUptoRow, standIns := [], harness := (true, "c100d7ad5c41dc1eda2a608e67d0cbad1db132884d407ebcc1030443b227306d"), looks := false }, kinds := [], alts := [], laidByText := true, laidKinds := [.data, .data, .data], laidTests := true, laidLooks := .later }
def ValueNumbersUptoCardSaid : Prop := Claim7.holds Tryz.pinned (.plain (OpenSpec.upto valueNumbersSpec)) valueNumbersUptoCard

/-- THE SECOND FORM's CARD OF 'voussoirlaw03.ValueCompares'. -/
def valueComparesUptoCard : Claim7 := { stood := { row := valueComparesUptoRow, standIns := [], harness := (true, "c100d7ad5c41dc1eda2a608e67d0cbad1db132884d407ebcc1030443b227306d"), looks := false }, kinds := [], alts := [], laidByText := true, laidKinds := [.data, .data, .data], laidTests := true, laidLooks := .later }
def ValueComparesUptoCardSaid : Prop := Claim7.holds Tryz.pinned (.plain (OpenSpec.upto valueComparesSpec)) valueComparesUptoCard

/-- THE SECOND FORM's CARD OF 'voussoirlaw03.ValueMaps'. -/
def valueMapsUptoCard : Claim7 := { stood := { row := valueMapsUptoRow, standIns := [], harness := (true, "c100d7ad5c41dc1eda2a608e67d0cbad1db132884d407ebcc1030443b227306d"), looks := false }, kinds := [], alts := [], laidByText := true, laidKinds := [.data, .data, .data], laidTests := true, laidLooks := .later }
def ValueMapsUptoCardSaid : Prop := Claim7.holds Tryz.pinned (.plain (OpenSpec.upto valueMapsSpec)) valueMapsUptoCard

/-- THE SECOND FORM's CARD OF 'voussoirlaw03.ValueLists'. -/
def valueListsUptoCard : Claim7 := { stood := { row := valueListsUptoRow, standIns := [], harness := (true, "c100d7ad5c41dc1eda2a608e67d0cbad1db132884d407ebcc1030443b227306d"), looks := false }, kinds := [], alts := [], laidByText := true, laidKinds := [.data, .data, .data], laidTests := true, laidLooks := .later }
def ValueListsUptoCardSaid : Prop := Claim7.holds Tryz.pinned (.plain (OpenSpec.upto valueListsSpec)) valueListsUptoCard

/-- THE SECOND FORM's CARD OF 'voussoirlaw03.ValuePlain'. -/
def valuePlainUptoCard : Claim7 := { stood := { row := valuePlainUptoRow, standIns := [], harness := (true, "c100d7ad5c41dc1eda2a608e67d0cbad1db132884d407ebcc1030443b227306d"), looks := false }, kinds := [], alts := [], laidByText := true, laidKinds := [.data, .data, .data], laidTests := true, laidLooks := .later }
def ValuePlainUptoCardSaid : Prop := Claim7.holds Tryz.pinned (.plain (OpenSpec.upto valuePlainSpec)) valuePlainUptoCard
end Rows
end Go.Proofs.YtfpejlbfdpeofaaGreatDoor

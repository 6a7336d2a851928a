/-
  DERIVED. GIVEN WITH THE SEED: THE CARDS: each row of YtmooanfcedgfnaaDoorRows.lean that lists a variable, with what it lists TIED to the program's text (the seventh form; the later family's looks); each row that meets fmt, with fmt's text TOLD by the authors' own Lean function (tested against real Go, not proved from fmt's source: count such statements apart). THE CARD IS WHAT COUNTS. Prove the row's statement (the work); the ties are given (YtmooanfcedgfnaaDoorTie.lean); close each card by the builder's one call (the guide's Derived/Test/ToyasCard.lean, 'card_holds'). Laid BY PROGRAM, IN A SANDBOX (cutbox-door.mjs). By AI agents, Wed Nov 11 2026. No macro, syntax, notation, axiom, sorry.
-/
import Derived.Test.YtmooanfcedgfnaaDoorRows
import GoSem.ClaimSeven
namespace Go.Proofs.YtmooanfcedgfnaaDoor
namespace Rows

/-- THE TIED CARD OF 'laws.FnExactConcatenate'. -/
def fnExactConcatenateCard : Claim7 := { stood := { row := fnExactConcatenateRow, standIns := [], harness := (true, "500666d6d2a59a7e43ab55dc4dc51abbad35ed11f64a9e30139f0dd7703934da"), looks := false }, kinds := [], alts := [], laidByText := true, laidKinds := [.data], laidTests := true, laidLooks := .later }
def FnExactConcatenateCardSaid : Prop := Claim7.holds Tryd.pinned (.plain (OpenSpec.ofChange fnExactConcatenateSpec)) fnExactConcatenateCard

/-- THE TIED CARD OF 'laws.FnExactIsPrefix'. -/
def fnExactIsPrefixCard : Claim7 := { stood := { row := fnExactIsPrefixRow, standIns := [], harness := (true, "500666d6d2a59a7e43ab55dc4dc51abbad35ed11f64a9e30139f0dd7703934da"), looks := false }, kinds := [], alts := [], laidByText := true, laidKinds := [.data], laidTests := true, laidLooks := .later }
def FnExactIsPrefixCardSaid : Prop := Claim7.holds Tryd.pinned (.plain (OpenSpec.ofChange fnExactIsPrefixSpec)) fnExactIsPrefixCard

/-- THE TIED CARD OF 'laws.FnExactLeftQuotient'. -/
def fnExactLeftQuotientCard : Claim7 := { stood := { row := fnExactLeftQuotientRow, standIns := [], harness := (true, "500666d6d2a59a7e43ab55dc4dc51abbad35ed11f64a9e30139f0dd7703934da"), looks := false }, kinds := [], alts := [], laidByText := true, laidKinds := [.data], laidTests := true, laidLooks := .later }
def FnExactLeftQuotientCardSaid : Prop := Claim7.holds Tryd.pinned (.plain (OpenSpec.ofChange fnExactLeftQuotientSpec)) fnExactLeftQuotientCard

/-- THE TIED CARD OF 'laws.FnExactRightQuotient'. -/
def fnExactRightQuotientCard : Claim7 := { stood := { row := fnExactRightQuotientRow, standIns := [], harness := (true, "500666d6d2a59a7e43ab55dc4dc51abbad35ed11f64a9e30139f0dd7703934da"), looks := false }, kinds := [], alts := [], laidByText := true, laidKinds := [.data], laidTests := true, laidLooks := .later }
def FnExactRightQuotientCardSaid : Prop := Claim7.holds Tryd.pinned (.plain (OpenSpec.ofChange fnExactRightQuotientSpec)) fnExactRightQuotientCard

/-- THE TIED CARD OF 'laws.FnExactAreIndependent'. -/
def fnExactAreIndependentCard : Claim7 := { stood := { row := fnExactAreIndependentRow, standIns := [], harness := (true, "500666d6d2a59a7e43ab55dc4dc51abbad35ed11f64a9e30139f0dd7703934da"), looks := false }, kinds := [], alts := [], laidByText := true, laidKinds := [.data], laidTests := true, laidLooks := .later }
def FnExactAreIndependentCardSaid : Prop := Claim7.holds Tryd.pinned (.plain (OpenSpec.ofChange fnExactAreIndependentSpec)) fnExactAreIndependentCard

/-- THE TIED CARD OF 'laws.FnExactMeetOf'. -/
def fnExactMeetOfCard : Claim7 := { stood := { row := fnExactMeetOfRow, standIns := [], harness := (true, "500666d6d2a59a7e43ab55dc4dc51abbad35ed11f64a9e30139f0dd7703934da"), looks := false }, kinds := [], alts := [], laidByText := true, laidKinds := [.data], laidTests := true, laidLooks := .later }
def FnExactMeetOfCardSaid : Prop := Claim7.holds Tryd.pinned (.plain (OpenSpec.ofChange fnExactMeetOfSpec)) fnExactMeetOfCard

/-- THE TIED CARD OF 'laws.FnExactJoinOf'. -/
def fnExactJoinOfCard : Claim7 := { stood := { row := fnExactJoinOfRow, standIns := [], harness := (true, "500666d6d2a59a7e43ab55dc4dc51abbad35ed11f64a9e30139f0dd7703934da"), looks := false }, kinds := [], alts := [], laidByText := true, laidKinds := [.data], laidTests := true, laidLooks := .later }
def FnExactJoinOfCardSaid : Prop := Claim7.holds Tryd.pinned (.plain (OpenSpec.ofChange fnExactJoinOfSpec)) fnExactJoinOfCard

/-- THE TIED CARD OF 'laws.FnExactResidualAfter'. -/
def fnExactResidualAfterCard : Claim7 := { stood := { row := fnExactResidualAfterRow, standIns := [], harness := (true, "500666d6d2a59a7e43ab55dc4dc51abbad35ed11f64a9e30139f0dd7703934da"), looks := false }, kinds := [], alts := [], laidByText := true, laidKinds := [.data], laidTests := true, laidLooks := .later }
def FnExactResidualAfterCardSaid : Prop := Claim7.holds Tryd.pinned (.plain (OpenSpec.ofChange fnExactResidualAfterSpec)) fnExactResidualAfterCard

/-- THE TIED CARD OF 'laws.FnExactPrefixIn'. -/
def fnExactPrefixInCard : Claim7 := { stood := { row := fnExactPrefixInRow, standIns := [], harness := (true, "500666d6d2a59a7e43ab55dc4dc51abbad35ed11f64a9e30139f0dd7703934da"), looks := false }, kinds := [], alts := [], laidByText := true, laidKinds := [.data], laidTests := true, laidLooks := .later }
def FnExactPrefixInCardSaid : Prop := Claim7.holds Tryd.pinned (.plain (OpenSpec.ofChange fnExactPrefixInSpec)) fnExactPrefixInCard

/-- THE TIED CARD OF 'laws.FnExactLeviOf'. -/
def fnExactLeviOfCard : Claim7 := { stood := { row := fnExactLeviOfRow, standIns := [], harness := (true, "500666d6d2a59a7e43ab55dc4dc51abbad35ed11f64a9e30139f0dd7703934da"), looks := false }, kinds := [], alts := [], laidByText := true, laidKinds := [.data], laidTests := true, laidLooks := .later }
def FnExactLeviOfCardSaid : Prop := Claim7.holds Tryd.pinned (.plain (OpenSpec.ofChange fnExactLeviOfSpec)) fnExactLeviOfCard

/-- THE TIED CARD OF 'laws.FnExactCommonContinuation'. -/
def fnExactCommonContinuationCard : Claim7 := { stood := { row := fnExactCommonContinuationRow, standIns := [], harness := (true, "500666d6d2a59a7e43ab55dc4dc51abbad35ed11f64a9e30139f0dd7703934da"), looks := false }, kinds := [], alts := [], laidByText := true, laidKinds := [.data], laidTests := true, laidLooks := .later }
def FnExactCommonContinuationCardSaid : Prop := Claim7.holds Tryd.pinned (.plain (OpenSpec.ofChange fnExactCommonContinuationSpec)) fnExactCommonContinuationCard

/-- THE TIED CARD OF 'laws.FnExactFactorBefore'. -/
def fnExactFactorBeforeCard : Claim7 := { stood := { row := fnExactFactorBeforeRow, standIns := [], harness := (true, "500666d6d2a59a7e43ab55dc4dc51abbad35ed11f64a9e30139f0dd7703934da"), looks := false }, kinds := [], alts := [], laidByText := true, laidKinds := [.data], laidTests := true, laidLooks := .later }
def FnExactFactorBeforeCardSaid : Prop := Claim7.holds Tryd.pinned (.plain (OpenSpec.ofChange fnExactFactorBeforeSpec)) fnExactFactorBeforeCard

/-- THE SECOND FORM's CARD OF 'laws.FnExactConcatenate'. -/
def fnExactConcatenateUptoCard : Claim7 := { stood := { row := fnExactConcatenateUptoRow, standIns := [], harness := (true, "500666d6d2a59a7e43ab55dc4dc51abbad35ed11f64a9e30139f0dd7703934da"), looks := false }, kinds := [], alts := [], laidByText := true, laidKinds := [.data], laidTests := true, laidLooks := .later }
def FnExactConcatenateUptoCardSaid : Prop := Claim7.holds Tryd.pinned (.plain (OpenSpec.upto fnExactConcatenateSpec)) fnExactConcatenateUptoCard

/-- THE SECOND FORM's CARD OF 'laws.FnExactIsPrefix'. -/
def fnExactIsPrefixUptoCard : Claim7 := { stood := { row := fnExactIsPrefixUptoRow, standIns := [], harness := (true, "500666d6d2a59a7e43ab55dc4dc51abbad35ed11f64a9e30139f0dd7703934da"), looks := false }, kinds := [], alts := [], laidByText := true, laidKinds := [.data], laidTests := true, laidLooks := .later }
def FnExactIsPrefixUptoCardSaid : Prop := Claim7.holds Tryd.pinned (.plain (OpenSpec.upto fnExactIsPrefixSpec)) fnExactIsPrefixUptoCard

/-- THE SECOND FORM's CARD OF 'laws.FnExactLeftQuotient'. -/
def fnExactLeftQuotientUptoCard : Claim7 := { stood := { row := fnExactLeftQuotientUptoRow, standIns := [], harness := (true, "500666d6d2a59a7e43ab55dc4dc51abbad35ed11f64a9e30139f0dd7703934da"), looks := false }, kinds := [], alts := [], laidByText := true, laidKinds := [.data], laidTests := true, laidLooks := .later }
def FnExactLeftQuotientUptoCardSaid : Prop := Claim7.holds Tryd.pinned (.plain (OpenSpec.upto fnExactLeftQuotientSpec)) fnExactLeftQuotientUptoCard

/-- THE SECOND FORM's CARD OF 'laws.FnExactRightQuotient'. -/
def fnExactRightQuotientUptoCard : Claim7 := { stood := { row := fnExactRightQuotientUptoRow, standIns := [], harness := (true, "500666d6d2a59a7e43ab55dc4dc51abbad35ed11f64a9e30139f0dd7703934da"), looks := false }, kinds := [], alts := [], laidByText := true, laidKinds := [.data], laidTests := true, laidLooks := .later }
def FnExactRightQuotientUptoCardSaid : Prop := Claim7.holds Tryd.pinned (.plain (OpenSpec.upto fnExactRightQuotientSpec)) fnExactRightQuotientUptoCard

/-- THE SECOND FORM's CARD OF 'laws.FnExactAreIndependent'. -/
def fnExactAreIndependentUptoCard : Claim7 := { stood := { row := fnExactAreIndependentUptoRow, standIns := [], harness := (true, "500666d6d2a59a7e43ab55dc4dc51abbad35ed11f64a9e30139f0dd7703934da"), looks := false }, kinds := [], alts := [], laidByText := true, laidKinds := [.data], laidTests := true, laidLooks := .later }
def FnExactAreIndependentUptoCardSaid : Prop := Claim7.holds Tryd.pinned (.plain (OpenSpec.upto fnExactAreIndependentSpec)) fnExactAreIndependentUptoCard

/-- THE SECOND FORM's CARD OF 'laws.FnExactMeetOf'. -/
def fnExactMeetOfUptoCard : Claim7 := { stood := { row := fnExactMeetOfUptoRow, standIns := [], harness := (true, "500666d6d2a59a7e43ab55dc4dc51abbad35ed11f64a9e30139f0dd7703934da"), looks := false }, kinds := [], alts := [], laidByText := true, laidKinds := [.data], laidTests := true, laidLooks := .later }
def FnExactMeetOfUptoCardSaid : Prop := Claim7.holds Tryd.pinned (.plain (OpenSpec.upto fnExactMeetOfSpec)) fnExactMeetOfUptoCard

/-- THE SECOND FORM's CARD OF 'laws.FnExactJoinOf'. -/
def fnExactJoinOfUptoCard : Claim7 := { stood := { row := fnExactJoinOfUptoRow, standIns := [], harness := (true, "500666d6d2a59a7e43ab55dc4dc51abbad35ed11f64a9e30139f0dd7703934da"), looks := false }, kinds := [], alts := [], laidByText := true, laidKinds := [.data], laidTests := true, laidLooks := .later }
def FnExactJoinOfUptoCardSaid : Prop := Claim7.holds Tryd.pinned (.plain (OpenSpec.upto fnExactJoinOfSpec)) fnExactJoinOfUptoCard

/-- THE SECOND FORM's CARD OF 'laws.FnExactResidualAfter'. -/
def fnExactResidualAfterUptoCard : Claim7 := { stood := { row := fnExactResidualAfterUptoRow, standIns := [], harness := (true, "500666d6d2a59a7e43ab55dc4dc51abbad35ed11f64a9e30139f0dd7703934da"), looks := false }, kinds := [], alts := [], laidByText := true, laidKinds := [.data], laidTests := true, laidLooks := .later }
def FnExactResidualAfterUptoCardSaid : Prop := Claim7.holds Tryd.pinned (.plain (OpenSpec.upto fnExactResidualAfterSpec)) fnExactResidualAfterUptoCard

/-- THE SECOND FORM's CARD OF 'laws.FnExactPrefixIn'. -/
def fnExactPrefixInUptoCard : Claim7 := { stood := { row := fnExactPrefixInUptoRow, standIns := [], harness := (true, "500666d6d2a59a7e43ab55dc4dc51abbad35ed11f64a9e30139f0dd7703934da"), looks := false }, kinds := [], alts := [], laidByText := true, laidKinds := [.data], laidTests := true, laidLooks := .later }
def FnExactPrefixInUptoCardSaid : Prop := Claim7.holds Tryd.pinned (.plain (OpenSpec.upto fnExactPrefixInSpec)) fnExactPrefixInUptoCard

/-- THE SECOND FORM's CARD OF 'laws.FnExactLeviOf'. -/
def fnExactLeviOfUptoCard : Claim7 := { stood := { row := fnExactLeviOfUptoRow, standIns := [], harness := (true, "500666d6d2a59a7e43ab55dc4dc51abbad35ed11f64a9e30139f0dd7703934da"), looks := false }, kinds := [], alts := [], laidByText := true, laidKinds := [.data], laidTests := true, laidLooks := .later }
def FnExactLeviOfUptoCardSaid : Prop := Claim7.holds Tryd.pinned (.plain (OpenSpec.upto fnExactLeviOfSpec)) fnExactLeviOfUptoCard

/-- THE SECOND FORM's CARD OF 'laws.FnExactCommonContinuation'. -/
def fnExactCommonContinuationUptoCard : Claim7 := { stood := { row := fnExactCommonContinuationUptoRow, standIns := [], harness := (true, "500666d6d2a59a7e43ab55dc4dc51abbad35ed11f64a9e30139f0dd7703934da"), looks := false }, kinds := [], alts := [], laidByText := true, laidKinds := [.data], laidTests := true, laidLooks := .later }
def FnExactCommonContinuationUptoCardSaid : Prop := Claim7.holds Tryd.pinned (.plain (OpenSpec.upto fnExactCommonContinuationSpec)) fnExactCommonContinuationUptoCard

/-- THE SECOND FORM's CARD OF 'laws.FnExactFactorBefore'. -/
def fnExactFactorBeforeUptoCard : Claim7 := { stood := { row := fnExactFactorBeforeUptoRow, standIns := [], harness := (true, "500666d6d2a59a7e43ab55dc4dc51abbad35ed11f64a9e30139f0dd7703934da"), looks := false }, kinds := [], alts := [], laidByText := true, laidKinds := [.data], laidTests := true, laidLooks := .later }
def FnExactFactorBeforeUptoCardSaid : Prop := Claim7.holds Tryd.pinned (.plain (OpenSpec.upto fnExactFactorBeforeSpec)) fnExactFactorBeforeUptoCard
end Rows
end Go.Proofs.YtmooanfcedgfnaaDoor

/-
  DERIVED. GIVEN WITH THE SEED: THE CARDS: each row of YtbleimcajpelhaaDoorRows.lean that lists a variable, with what it lists TIED to the program's text (the seventh form; the later family's looks); each row that meets fmt, with fmt's text TOLD by the authors' own Lean function (tested against real Go, not proved from fmt's source: count such statements apart). THE CARD IS WHAT COUNTS. Prove the row's statement (the work); the ties are given (YtbleimcajpelhaaDoorTie.lean); close each card by the builder's one call (the guide's Derived/Test/ToyasCard.lean, 'card_holds'). Laid BY PROGRAM, IN A SANDBOX (cutbox-door.mjs). By AI agents, Wed Nov 11 2026. No macro, syntax, notation, axiom, sorry.
-/
import Derived.Test.YtbleimcajpelhaaDoorRows
import GoSem.ClaimSeven
namespace Go.Proofs.YtbleimcajpelhaaDoor
namespace Rows

/-- THE TIED CARD OF 'laws.FnExactIsSignedWord'. -/
def fnExactIsSignedWordCard : Claim7 := { stood := { row := fnExactIsSignedWordRow, standIns := [], harness := (true, "c2095ff0534cea24adc404c66f345be7793a85ba88411bbb288adca5116c0d2f"), looks := false }, kinds := [], alts := [], laidByText := true, laidKinds := [.data], laidTests := true, laidLooks := .later }
def FnExactIsSignedWordCardSaid : Prop := Claim7.holds Tryd.pinned (.plain (OpenSpec.ofChange fnExactIsSignedWordSpec)) fnExactIsSignedWordCard

/-- THE TIED CARD OF 'laws.FnExactExponentsOf'. -/
def fnExactExponentsOfCard : Claim7 := { stood := { row := fnExactExponentsOfRow, standIns := [], harness := (true, "c2095ff0534cea24adc404c66f345be7793a85ba88411bbb288adca5116c0d2f"), looks := false }, kinds := [], alts := [], laidByText := true, laidKinds := [.data], laidTests := true, laidLooks := .later }
def FnExactExponentsOfCardSaid : Prop := Claim7.holds Tryd.pinned (.plain (OpenSpec.ofChange fnExactExponentsOfSpec)) fnExactExponentsOfCard

/-- THE TIED CARD OF 'laws.FnExactGroupForm'. -/
def fnExactGroupFormCard : Claim7 := { stood := { row := fnExactGroupFormRow, standIns := [], harness := (true, "c2095ff0534cea24adc404c66f345be7793a85ba88411bbb288adca5116c0d2f"), looks := false }, kinds := [], alts := [], laidByText := true, laidKinds := [.data], laidTests := true, laidLooks := .later }
def FnExactGroupFormCardSaid : Prop := Claim7.holds Tryd.pinned (.plain (OpenSpec.ofChange fnExactGroupFormSpec)) fnExactGroupFormCard

/-- THE TIED CARD OF 'laws.FnExactAreGroupEqual'. -/
def fnExactAreGroupEqualCard : Claim7 := { stood := { row := fnExactAreGroupEqualRow, standIns := [], harness := (true, "c2095ff0534cea24adc404c66f345be7793a85ba88411bbb288adca5116c0d2f"), looks := false }, kinds := [], alts := [], laidByText := true, laidKinds := [.data], laidTests := true, laidLooks := .later }
def FnExactAreGroupEqualCardSaid : Prop := Claim7.holds Tryd.pinned (.plain (OpenSpec.ofChange fnExactAreGroupEqualSpec)) fnExactAreGroupEqualCard

/-- THE TIED CARD OF 'laws.FnExactGroupProduct'. -/
def fnExactGroupProductCard : Claim7 := { stood := { row := fnExactGroupProductRow, standIns := [], harness := (true, "c2095ff0534cea24adc404c66f345be7793a85ba88411bbb288adca5116c0d2f"), looks := false }, kinds := [], alts := [], laidByText := true, laidKinds := [.data], laidTests := true, laidLooks := .later }
def FnExactGroupProductCardSaid : Prop := Claim7.holds Tryd.pinned (.plain (OpenSpec.ofChange fnExactGroupProductSpec)) fnExactGroupProductCard

/-- THE TIED CARD OF 'laws.FnExactGroupInverse'. -/
def fnExactGroupInverseCard : Claim7 := { stood := { row := fnExactGroupInverseRow, standIns := [], harness := (true, "c2095ff0534cea24adc404c66f345be7793a85ba88411bbb288adca5116c0d2f"), looks := false }, kinds := [], alts := [], laidByText := true, laidKinds := [.data], laidTests := true, laidLooks := .later }
def FnExactGroupInverseCardSaid : Prop := Claim7.holds Tryd.pinned (.plain (OpenSpec.ofChange fnExactGroupInverseSpec)) fnExactGroupInverseCard

/-- THE TIED CARD OF 'laws.FnExactRetractOn'. -/
def fnExactRetractOnCard : Claim7 := { stood := { row := fnExactRetractOnRow, standIns := [], harness := (true, "c2095ff0534cea24adc404c66f345be7793a85ba88411bbb288adca5116c0d2f"), looks := false }, kinds := [], alts := [], laidByText := true, laidKinds := [.data], laidTests := true, laidLooks := .later }
def FnExactRetractOnCardSaid : Prop := Claim7.holds Tryd.pinned (.plain (OpenSpec.ofChange fnExactRetractOnSpec)) fnExactRetractOnCard

/-- THE TIED CARD OF 'laws.FnExactIsPositive'. -/
def fnExactIsPositiveCard : Claim7 := { stood := { row := fnExactIsPositiveRow, standIns := [], harness := (true, "c2095ff0534cea24adc404c66f345be7793a85ba88411bbb288adca5116c0d2f"), looks := false }, kinds := [], alts := [], laidByText := true, laidKinds := [.data], laidTests := true, laidLooks := .later }
def FnExactIsPositiveCardSaid : Prop := Claim7.holds Tryd.pinned (.plain (OpenSpec.ofChange fnExactIsPositiveSpec)) fnExactIsPositiveCard

/-- THE TIED CARD OF 'laws.FnExactGroupPower'. -/
def fnExactGroupPowerCard : Claim7 := { stood := { row := fnExactGroupPowerRow, standIns := [], harness := (true, "c2095ff0534cea24adc404c66f345be7793a85ba88411bbb288adca5116c0d2f"), looks := false }, kinds := [], alts := [], laidByText := true, laidKinds := [.data], laidTests := true, laidLooks := .later }
def FnExactGroupPowerCardSaid : Prop := Claim7.holds Tryd.pinned (.plain (OpenSpec.ofChange fnExactGroupPowerSpec)) fnExactGroupPowerCard

/-- THE TIED CARD OF 'laws.FnExactCyclicReduction'. -/
def fnExactCyclicReductionCard : Claim7 := { stood := { row := fnExactCyclicReductionRow, standIns := [], harness := (true, "c2095ff0534cea24adc404c66f345be7793a85ba88411bbb288adca5116c0d2f"), looks := false }, kinds := [], alts := [], laidByText := true, laidKinds := [.data], laidTests := true, laidLooks := .later }
def FnExactCyclicReductionCardSaid : Prop := Claim7.holds Tryd.pinned (.plain (OpenSpec.ofChange fnExactCyclicReductionSpec)) fnExactCyclicReductionCard

/-- THE TIED CARD OF 'laws.FnExactCountElements'. -/
def fnExactCountElementsCard : Claim7 := { stood := { row := fnExactCountElementsRow, standIns := [], harness := (true, "c2095ff0534cea24adc404c66f345be7793a85ba88411bbb288adca5116c0d2f"), looks := false }, kinds := [], alts := [], laidByText := true, laidKinds := [.data], laidTests := true, laidLooks := .later }
def FnExactCountElementsCardSaid : Prop := Claim7.holds Tryd.pinned (.plain (OpenSpec.ofChange fnExactCountElementsSpec)) fnExactCountElementsCard

/-- THE SECOND FORM's CARD OF 'laws.FnExactIsSignedWord'. -/
def fnExactIsSignedWordUptoCard : Claim7 := { stood := { row := fnExactIsSignedWordUptoRow, standIns := [], harness := (true, "c2095ff0534cea24adc404c66f345be7793a85ba88411bbb288adca5116c0d2f"), looks := false }, kinds := [], alts := [], laidByText := true, laidKinds := [.data], laidTests := true, laidLooks := .later }
def FnExactIsSignedWordUptoCardSaid : Prop := Claim7.holds Tryd.pinned (.plain (OpenSpec.upto fnExactIsSignedWordSpec)) fnExactIsSignedWordUptoCard

/-- THE SECOND FORM's CARD OF 'laws.FnExactExponentsOf'. -/
def fnExactExponentsOfUptoCard : Claim7 := { stood := { row := fnExactExponentsOfUptoRow, standIns := [], harness := (true, "c2095ff0534cea24adc404c66f345be7793a85ba88411bbb288adca5116c0d2f"), looks := false }, kinds := [], alts := [], laidByText := true, laidKinds := [.data], laidTests := true, laidLooks := .later }
def FnExactExponentsOfUptoCardSaid : Prop := Claim7.holds Tryd.pinned (.plain (OpenSpec.upto fnExactExponentsOfSpec)) fnExactExponentsOfUptoCard

/-- THE SECOND FORM's CARD OF 'laws.FnExactGroupForm'. -/
def fnExactGroupFormUptoCard : Claim7 := { stood := { row := fnExactGroupFormUptoRow, standIns := [], harness := (true, "c2095ff0534cea24adc404c66f345be7793a85ba88411bbb288adca5116c0d2f"), looks := false }, kinds := [], alts := [], laidByText := true, laidKinds := [.data], laidTests := true, laidLooks := .later }
def FnExactGroupFormUptoCardSaid : Prop := Claim7.holds Tryd.pinned (.plain (OpenSpec.upto fnExactGroupFormSpec)) fnExactGroupFormUptoCard

/-- THE SECOND FORM's CARD OF 'laws.FnExactAreGroupEqual'. -/
def fnExactAreGroupEqualUptoCard : Claim7 := { stood := { row := fnExactAreGroupEqualUptoRow, standIns := [], harness := (true, "c2095ff0534cea24adc404c66f345be7793a85ba88411bbb288adca5116c0d2f"), looks := false }, kinds := [], alts := [], laidByText := true, laidKinds := [.data], laidTests := true, laidLooks := .later }
def FnExactAreGroupEqualUptoCardSaid : Prop := Claim7.holds Tryd.pinned (.plain (OpenSpec.upto fnExactAreGroupEqualSpec)) fnExactAreGroupEqualUptoCard

/-- THE SECOND FORM's CARD OF 'laws.FnExactGroupProduct'. -/
def fnExactGroupProductUptoCard : Claim7 := { stood := { row := fnExactGroupProductUptoRow, standIns := [], harness := (true, "c2095ff0534cea24adc404c66f345be7793a85ba88411bbb288adca5116c0d2f"), looks := false }, kinds := [], alts := [], laidByText := true, laidKinds := [.data], laidTests := true, laidLooks := .later }
def FnExactGroupProductUptoCardSaid : Prop := Claim7.holds Tryd.pinned (.plain (OpenSpec.upto fnExactGroupProductSpec)) fnExactGroupProductUptoCard

/-- THE SECOND FORM's CARD OF 'laws.FnExactGroupInverse'. -/
def fnExactGroupInverseUptoCard : Claim7 := { stood := { row := fnExactGroupInverseUptoRow, standIns := [], harness := (true, "c2095ff0534cea24adc404c66f345be7793a85ba88411bbb288adca5116c0d2f"), looks := false }, kinds := [], alts := [], laidByText := true, laidKinds := [.data], laidTests := true, laidLooks := .later }
def FnExactGroupInverseUptoCardSaid : Prop := Claim7.holds Tryd.pinned (.plain (OpenSpec.upto fnExactGroupInverseSpec)) fnExactGroupInverseUptoCard

/-- THE SECOND FORM's CARD OF 'laws.FnExactRetractOn'. -/
def fnExactRetractOnUptoCard : Claim7 := { stood := { row := fnExactRetractOnUptoRow, standIns := [], harness := (true, "c2095ff0534cea24adc404c66f345be7793a85ba88411bbb288adca5116c0d2f"), looks := false }, kinds := [], alts := [], laidByText := true, laidKinds := [.data], laidTests := true, laidLooks := .later }
def FnExactRetractOnUptoCardSaid : Prop := Claim7.holds Tryd.pinned (.plain (OpenSpec.upto fnExactRetractOnSpec)) fnExactRetractOnUptoCard

/-- THE SECOND FORM's CARD OF 'laws.FnExactIsPositive'. -/
def fnExactIsPositiveUptoCard : Claim7 := { stood := { row := fnExactIsPositiveUptoRow, standIns := [], harness := (true, "c2095ff0534cea24adc404c66f345be7793a85ba88411bbb288adca5116c0d2f"), looks := false }, kinds := [], alts := [], laidByText := true, laidKinds := [.data], laidTests := true, laidLooks := .later }
def FnExactIsPositiveUptoCardSaid : Prop := Claim7.holds Tryd.pinned (.plain (OpenSpec.upto fnExactIsPositiveSpec)) fnExactIsPositiveUptoCard

/-- THE SECOND FORM's CARD OF 'laws.FnExactGroupPower'. -/
def fnExactGroupPowerUptoCard : Claim7 := { stood := { row := fnExactGroupPowerUptoRow, standIns := [], harness := (true, "c2095ff0534cea24adc404c66f345be7793a85ba88411bbb288adca5116c0d2f"), looks := false }, kinds := [], alts := [], laidByText := true, laidKinds := [.data], laidTests := true, laidLooks := .later }
def FnExactGroupPowerUptoCardSaid : Prop := Claim7.holds Tryd.pinned (.plain (OpenSpec.upto fnExactGroupPowerSpec)) fnExactGroupPowerUptoCard

/-- THE SECOND FORM's CARD OF 'laws.FnExactCyclicReduction'. -/
def fnExactCyclicReductionUptoCard : Claim7 := { stood := { row := fnExactCyclicReductionUptoRow, standIns := [], harness := (true, "c2095ff0534cea24adc404c66f345be7793a85ba88411bbb288adca5116c0d2f"), looks := false }, kinds := [], alts := [], laidByText := true, laidKinds := [.data], laidTests := true, laidLooks := .later }
def FnExactCyclicReductionUptoCardSaid : Prop := Claim7.holds Tryd.pinned (.plain (OpenSpec.upto fnExactCyclicReductionSpec)) fnExactCyclicReductionUptoCard

/-- THE SECOND FORM's CARD OF 'laws.FnExactCountElements'. -/
def fnExactCountElementsUptoCard : Claim7 := { stood := { row := fnExactCountElementsUptoRow, standIns := [], harness := (true, "c2095ff0534cea24adc404c66f345be7793a85ba88411bbb288adca5116c0d2f"), looks := false }, kinds := [], alts := [], laidByText := true, laidKinds := [.data], laidTests := true, laidLooks := .later }
def FnExactCountElementsUptoCardSaid : Prop := Claim7.holds Tryd.pinned (.plain (OpenSpec.upto fnExactCountElementsSpec)) fnExactCountElementsUptoCard
end Rows
end Go.Proofs.YtbleimcajpelhaaDoor

/-
  DERIVED. GIVEN WITH THE SEED: THE CARDS: each row of YtfbdbipopfjjnaaDoorRows.lean that lists a variable, with what it lists TIED to the program's text (the seventh form; the later family's looks); each row that meets fmt, with fmt's text TOLD by the authors' own Lean function (tested against real Go, not proved from fmt's source: count such statements apart). THE CARD IS WHAT COUNTS. Prove the row's statement (the work); the ties are given (YtfbdbipopfjjnaaDoorTie.lean); close each card by the builder's one call (the guide's Derived/Test/ToyasCard.lean, 'card_holds'). Laid BY PROGRAM, IN A SANDBOX (cutbox-door.mjs). By AI agents, Wed Nov 11 2026. No macro, syntax, notation, axiom, sorry.
-/
import Derived.Test.YtfbdbipopfjjnaaDoorRows
import GoSem.ClaimSeven
namespace Go.Proofs.YtfbdbipopfjjnaaDoor
namespace Rows

/-- THE TIED CARD OF 'laws.FnExactLongestChain'. -/
def fnExactLongestChainCard : Claim7 := { stood := { row := fnExactLongestChainRow, standIns := [], harness := (true, "e145e43dcbce14724354c49568487e442bff9846ce9945462ffd467979a2e921"), looks := false }, kinds := [], alts := [], laidByText := true, laidKinds := [.data], laidTests := true, laidLooks := .later }
def FnExactLongestChainCardSaid : Prop := Claim7.holds Tryd.pinned (.plain (OpenSpec.ofChange fnExactLongestChainSpec)) fnExactLongestChainCard

/-- THE TIED CARD OF 'laws.FnExactLatestSteps'. -/
def fnExactLatestStepsCard : Claim7 := { stood := { row := fnExactLatestStepsRow, standIns := [], harness := (true, "e145e43dcbce14724354c49568487e442bff9846ce9945462ffd467979a2e921"), looks := false }, kinds := [], alts := [], laidByText := true, laidKinds := [.data], laidTests := true, laidLooks := .later }
def FnExactLatestStepsCardSaid : Prop := Claim7.holds Tryd.pinned (.plain (OpenSpec.ofChange fnExactLatestStepsSpec)) fnExactLatestStepsCard

/-- THE TIED CARD OF 'laws.FnExactPrefixAt'. -/
def fnExactPrefixAtCard : Claim7 := { stood := { row := fnExactPrefixAtRow, standIns := [], harness := (true, "e145e43dcbce14724354c49568487e442bff9846ce9945462ffd467979a2e921"), looks := false }, kinds := [], alts := [], laidByText := true, laidKinds := [.data], laidTests := true, laidLooks := .later }
def FnExactPrefixAtCardSaid : Prop := Claim7.holds Tryd.pinned (.plain (OpenSpec.ofChange fnExactPrefixAtSpec)) fnExactPrefixAtCard

/-- THE TIED CARD OF 'laws.FnExactPairProjections'. -/
def fnExactPairProjectionsCard : Claim7 := { stood := { row := fnExactPairProjectionsRow, standIns := [], harness := (true, "e145e43dcbce14724354c49568487e442bff9846ce9945462ffd467979a2e921"), looks := false }, kinds := [], alts := [], laidByText := true, laidKinds := [.data], laidTests := true, laidLooks := .later }
def FnExactPairProjectionsCardSaid : Prop := Claim7.holds Tryd.pinned (.plain (OpenSpec.ofChange fnExactPairProjectionsSpec)) fnExactPairProjectionsCard

/-- THE TIED CARD OF 'laws.FnExactWordOfProjections'. -/
def fnExactWordOfProjectionsCard : Claim7 := { stood := { row := fnExactWordOfProjectionsRow, standIns := [], harness := (true, "e145e43dcbce14724354c49568487e442bff9846ce9945462ffd467979a2e921"), looks := false }, kinds := [], alts := [], laidByText := true, laidKinds := [.data], laidTests := true, laidLooks := .later }
def FnExactWordOfProjectionsCardSaid : Prop := Claim7.holds Tryd.pinned (.plain (OpenSpec.ofChange fnExactWordOfProjectionsSpec)) fnExactWordOfProjectionsCard

/-- THE TIED CARD OF 'laws.FnExactNeighboursOf'. -/
def fnExactNeighboursOfCard : Claim7 := { stood := { row := fnExactNeighboursOfRow, standIns := [], harness := (true, "e145e43dcbce14724354c49568487e442bff9846ce9945462ffd467979a2e921"), looks := false }, kinds := [], alts := [], laidByText := true, laidKinds := [.data], laidTests := true, laidLooks := .later }
def FnExactNeighboursOfCardSaid : Prop := Claim7.holds Tryd.pinned (.plain (OpenSpec.ofChange fnExactNeighboursOfSpec)) fnExactNeighboursOfCard

/-- THE TIED CARD OF 'laws.FnExactWidthOf'. -/
def fnExactWidthOfCard : Claim7 := { stood := { row := fnExactWidthOfRow, standIns := [], harness := (true, "e145e43dcbce14724354c49568487e442bff9846ce9945462ffd467979a2e921"), looks := false }, kinds := [], alts := [], laidByText := true, laidKinds := [.data], laidTests := true, laidLooks := .later }
def FnExactWidthOfCardSaid : Prop := Claim7.holds Tryd.pinned (.plain (OpenSpec.ofChange fnExactWidthOfSpec)) fnExactWidthOfCard

/-- THE TIED CARD OF 'laws.FnExactCountPrefixes'. -/
def fnExactCountPrefixesCard : Claim7 := { stood := { row := fnExactCountPrefixesRow, standIns := [], harness := (true, "e145e43dcbce14724354c49568487e442bff9846ce9945462ffd467979a2e921"), looks := false }, kinds := [], alts := [], laidByText := true, laidKinds := [.data], laidTests := true, laidLooks := .later }
def FnExactCountPrefixesCardSaid : Prop := Claim7.holds Tryd.pinned (.plain (OpenSpec.ofChange fnExactCountPrefixesSpec)) fnExactCountPrefixesCard

/-- THE TIED CARD OF 'laws.FnExactTraceOfOrder'. -/
def fnExactTraceOfOrderCard : Claim7 := { stood := { row := fnExactTraceOfOrderRow, standIns := [], harness := (true, "e145e43dcbce14724354c49568487e442bff9846ce9945462ffd467979a2e921"), looks := false }, kinds := [], alts := [], laidByText := true, laidKinds := [.data], laidTests := true, laidLooks := .later }
def FnExactTraceOfOrderCardSaid : Prop := Claim7.holds Tryd.pinned (.plain (OpenSpec.ofChange fnExactTraceOfOrderSpec)) fnExactTraceOfOrderCard

/-- THE TIED CARD OF 'laws.FnExactDownsetsOf'. -/
def fnExactDownsetsOfCard : Claim7 := { stood := { row := fnExactDownsetsOfRow, standIns := [], harness := (true, "e145e43dcbce14724354c49568487e442bff9846ce9945462ffd467979a2e921"), looks := false }, kinds := [], alts := [], laidByText := true, laidKinds := [.data], laidTests := true, laidLooks := .later }
def FnExactDownsetsOfCardSaid : Prop := Claim7.holds Tryd.pinned (.plain (OpenSpec.ofChange fnExactDownsetsOfSpec)) fnExactDownsetsOfCard

/-- THE SECOND FORM's CARD OF 'laws.FnExactLongestChain'. -/
def fnExactLongestChainUptoCard : Claim7 := { stood := { row := fnExactLongestChainUptoRow, standIns := [], harness := (true, "e145e43dcbce14724354c49568487e442bff9846ce9945462ffd467979a2e921"), looks := false }, kinds := [], alts := [], laidByText := true, laidKinds := [.data], laidTests := true, laidLooks := .later }
def FnExactLongestChainUptoCardSaid : Prop := Claim7.holds Tryd.pinned (.plain (OpenSpec.upto fnExactLongestChainSpec)) fnExactLongestChainUptoCard

/-- THE SECOND FORM's CARD OF 'laws.FnExactLatestSteps'. -/
def fnExactLatestStepsUptoCard : Claim7 := { stood := { row := fnExactLatestStepsUptoRow, standIns := [], harness := (true, "e145e43dcbce14724354c49568487e442bff9846ce9945462ffd467979a2e921"), looks := false }, kinds := [], alts := [], laidByText := true, laidKinds := [.data], laidTests := true, laidLooks := .later }
def FnExactLatestStepsUptoCardSaid : Prop := Claim7.holds Tryd.pinned (.plain (OpenSpec.upto fnExactLatestStepsSpec)) fnExactLatestStepsUptoCard

/-- THE SECOND FORM's CARD OF 'laws.FnExactPrefixAt'. -/
def fnExactPrefixAtUptoCard : Claim7 := { stood := { row := fnExactPrefixAtUptoRow, standIns := [], harness := (true, "e145e43dcbce14724354c49568487e442bff9846ce9945462ffd467979a2e921"), looks := false }, kinds := [], alts := [], laidByText := true, laidKinds := [.data], laidTests := true, laidLooks := .later }
def FnExactPrefixAtUptoCardSaid : Prop := Claim7.holds Tryd.pinned (.plain (OpenSpec.upto fnExactPrefixAtSpec)) fnExactPrefixAtUptoCard

/-- THE SECOND FORM's CARD OF 'laws.FnExactPairProjections'. -/
def fnExactPairProjectionsUptoCard : Claim7 := { stood := { row := fnExactPairProjectionsUptoRow, standIns := [], harness := (true, "e145e43dcbce14724354c49568487e442bff9846ce9945462ffd467979a2e921"), looks := false }, kinds := [], alts := [], laidByText := true, laidKinds := [.data], laidTests := true, laidLooks := .later }
def FnExactPairProjectionsUptoCardSaid : Prop := Claim7.holds Tryd.pinned (.plain (OpenSpec.upto fnExactPairProjectionsSpec)) fnExactPairProjectionsUptoCard

/-- THE SECOND FORM's CARD OF 'laws.FnExactWordOfProjections'. -/
def fnExactWordOfProjectionsUptoCard : Claim7 := { stood := { row := fnExactWordOfProjectionsUptoRow, standIns := [], harness := (true, "e145e43dcbce14724354c49568487e442bff9846ce9945462ffd467979a2e921"), looks := false }, kinds := [], alts := [], laidByText := true, laidKinds := [.data], laidTests := true, laidLooks := .later }
def FnExactWordOfProjectionsUptoCardSaid : Prop := Claim7.holds Tryd.pinned (.plain (OpenSpec.upto fnExactWordOfProjectionsSpec)) fnExactWordOfProjectionsUptoCard

/-- THE SECOND FORM's CARD OF 'laws.FnExactNeighboursOf'. -/
def fnExactNeighboursOfUptoCard : Claim7 := { stood := { row := fnExactNeighboursOfUptoRow, standIns := [], harness := (true, "e145e43dcbce14724354c49568487e442bff9846ce9945462ffd467979a2e921"), looks := false }, kinds := [], alts := [], laidByText := true, laidKinds := [.data], laidTests := true, laidLooks := .later }
def FnExactNeighboursOfUptoCardSaid : Prop := Claim7.holds Tryd.pinned (.plain (OpenSpec.upto fnExactNeighboursOfSpec)) fnExactNeighboursOfUptoCard

/-- THE SECOND FORM's CARD OF 'laws.FnExactWidthOf'. -/
def fnExactWidthOfUptoCard : Claim7 := { stood := { row := fnExactWidthOfUptoRow, standIns := [], harness := (true, "e145e43dcbce14724354c49568487e442bff9846ce9945462ffd467979a2e921"), looks := false }, kinds := [], alts := [], laidByText := true, laidKinds := [.data], laidTests := true, laidLooks := .later }
def FnExactWidthOfUptoCardSaid : Prop := Claim7.holds Tryd.pinned (.plain (OpenSpec.upto fnExactWidthOfSpec)) fnExactWidthOfUptoCard

/-- THE SECOND FORM's CARD OF 'laws.FnExactCountPrefixes'. -/
def fnExactCountPrefixesUptoCard : Claim7 := { stood := { row := fnExactCountPrefixesUptoRow, standIns := [], harness := (true, "e145e43dcbce14724354c49568487e442bff9846ce9945462ffd467979a2e921"), looks := false }, kinds := [], alts := [], laidByText := true, laidKinds := [.data], laidTests := true, laidLooks := .later }
def FnExactCountPrefixesUptoCardSaid : Prop := Claim7.holds Tryd.pinned (.plain (OpenSpec.upto fnExactCountPrefixesSpec)) fnExactCountPrefixesUptoCard

/-- THE SECOND FORM's CARD OF 'laws.FnExactTraceOfOrder'. -/
def fnExactTraceOfOrderUptoCard : Claim7 := { stood := { row := fnExactTraceOfOrderUptoRow, standIns := [], harness := (true, "e145e43dcbce14724354c49568487e442bff9846ce9945462ffd467979a2e921"), looks := false }, kinds := [], alts := [], laidByText := true, laidKinds := [.data], laidTests := true, laidLooks := .later }
def FnExactTraceOfOrderUptoCardSaid : Prop := Claim7.holds Tryd.pinned (.plain (OpenSpec.upto fnExactTraceOfOrderSpec)) fnExactTraceOfOrderUptoCard

/-- THE SECOND FORM's CARD OF 'laws.FnExactDownsetsOf'. -/
def fnExactDownsetsOfUptoCard : Claim7 := { stood := { row := fnExactDownsetsOfUptoRow, standIns := [], harness := (true, "e145e43dcbce14724354c49568487e442bff9846ce9945462ffd467979a2e921"), looks := false }, kinds := [], alts := [], laidByText := true, laidKinds := [.data], laidTests := true, laidLooks := .later }
def FnExactDownsetsOfUptoCardSaid : Prop := Claim7.holds Tryd.pinned (.plain (OpenSpec.upto fnExactDownsetsOfSpec)) fnExactDownsetsOfUptoCard
end Rows
end Go.Proofs.YtfbdbipopfjjnaaDoor

/-
  DERIVED. GIVEN WITH THE SEED: THE CARDS: each row of YtbjkpkgnjeaimaaDoorRows.lean that lists a variable, with what it lists TIED to the program's text (the seventh form; the later family's looks); each row that meets fmt, with fmt's text TOLD by the authors' own Lean function (tested against real Go, not proved from fmt's source: count such statements apart). THE CARD IS WHAT COUNTS. Prove the row's statement (the work); the ties are given (YtbjkpkgnjeaimaaDoorTie.lean); close each card by the builder's one call (the guide's Derived/Test/ToyasCard.lean, 'card_holds'). Laid BY PROGRAM, IN A SANDBOX (cutbox-door.mjs). By AI agents, Wed Nov 11 2026. No macro, syntax, notation, axiom, sorry.
-/
import Derived.Test.YtbjkpkgnjeaimaaDoorRows
import GoSem.ClaimSeven
namespace Go.Proofs.YtbjkpkgnjeaimaaDoor
namespace Rows

/-- THE TIED CARD OF 'laws.FnExactIsAlphabet'. -/
def fnExactIsAlphabetCard : Claim7 := { stood := { row := fnExactIsAlphabetRow, standIns := [], harness := (true, "41e7fabfd401d93b3cf03c5292ef3ee2e39f1dd9a73478d62478074a69665847"), looks := false }, kinds := [], alts := [], laidByText := true, laidKinds := [.data], laidTests := true, laidLooks := .later }
def FnExactIsAlphabetCardSaid : Prop := Claim7.holds Tryd.pinned (.plain (OpenSpec.ofChange fnExactIsAlphabetSpec)) fnExactIsAlphabetCard

/-- THE TIED CARD OF 'laws.FnExactAreDependent'. -/
def fnExactAreDependentCard : Claim7 := { stood := { row := fnExactAreDependentRow, standIns := [], harness := (true, "41e7fabfd401d93b3cf03c5292ef3ee2e39f1dd9a73478d62478074a69665847"), looks := false }, kinds := [], alts := [], laidByText := true, laidKinds := [.data], laidTests := true, laidLooks := .later }
def FnExactAreDependentCardSaid : Prop := Claim7.holds Tryd.pinned (.plain (OpenSpec.ofChange fnExactAreDependentSpec)) fnExactAreDependentCard

/-- THE TIED CARD OF 'laws.FnExactAlphabetOfProcesses'. -/
def fnExactAlphabetOfProcessesCard : Claim7 := { stood := { row := fnExactAlphabetOfProcessesRow, standIns := [], harness := (true, "41e7fabfd401d93b3cf03c5292ef3ee2e39f1dd9a73478d62478074a69665847"), looks := false }, kinds := [], alts := [], laidByText := true, laidKinds := [.data], laidTests := true, laidLooks := .later }
def FnExactAlphabetOfProcessesCardSaid : Prop := Claim7.holds Tryd.pinned (.plain (OpenSpec.ofChange fnExactAlphabetOfProcessesSpec)) fnExactAlphabetOfProcessesCard

/-- THE TIED CARD OF 'laws.FnExactDomainsOf'. -/
def fnExactDomainsOfCard : Claim7 := { stood := { row := fnExactDomainsOfRow, standIns := [], harness := (true, "41e7fabfd401d93b3cf03c5292ef3ee2e39f1dd9a73478d62478074a69665847"), looks := false }, kinds := [], alts := [], laidByText := true, laidKinds := [.data], laidTests := true, laidLooks := .later }
def FnExactDomainsOfCardSaid : Prop := Claim7.holds Tryd.pinned (.plain (OpenSpec.ofChange fnExactDomainsOfSpec)) fnExactDomainsOfCard

/-- THE TIED CARD OF 'laws.FnExactStepsOf'. -/
def fnExactStepsOfCard : Claim7 := { stood := { row := fnExactStepsOfRow, standIns := [], harness := (true, "41e7fabfd401d93b3cf03c5292ef3ee2e39f1dd9a73478d62478074a69665847"), looks := false }, kinds := [], alts := [], laidByText := true, laidKinds := [.data], laidTests := true, laidLooks := .later }
def FnExactStepsOfCardSaid : Prop := Claim7.holds Tryd.pinned (.plain (OpenSpec.ofChange fnExactStepsOfSpec)) fnExactStepsOfCard

/-- THE TIED CARD OF 'laws.FnExactComplementOf'. -/
def fnExactComplementOfCard : Claim7 := { stood := { row := fnExactComplementOfRow, standIns := [], harness := (true, "41e7fabfd401d93b3cf03c5292ef3ee2e39f1dd9a73478d62478074a69665847"), looks := false }, kinds := [], alts := [], laidByText := true, laidKinds := [.data], laidTests := true, laidLooks := .later }
def FnExactComplementOfCardSaid : Prop := Claim7.holds Tryd.pinned (.plain (OpenSpec.ofChange fnExactComplementOfSpec)) fnExactComplementOfCard

/-- THE TIED CARD OF 'laws.FnExactPartOfAlphabet'. -/
def fnExactPartOfAlphabetCard : Claim7 := { stood := { row := fnExactPartOfAlphabetRow, standIns := [], harness := (true, "41e7fabfd401d93b3cf03c5292ef3ee2e39f1dd9a73478d62478074a69665847"), looks := false }, kinds := [], alts := [], laidByText := true, laidKinds := [.data], laidTests := true, laidLooks := .later }
def FnExactPartOfAlphabetCardSaid : Prop := Claim7.holds Tryd.pinned (.plain (OpenSpec.ofChange fnExactPartOfAlphabetSpec)) fnExactPartOfAlphabetCard

/-- THE TIED CARD OF 'laws.FnExactDirectProduct'. -/
def fnExactDirectProductCard : Claim7 := { stood := { row := fnExactDirectProductRow, standIns := [], harness := (true, "41e7fabfd401d93b3cf03c5292ef3ee2e39f1dd9a73478d62478074a69665847"), looks := false }, kinds := [], alts := [], laidByText := true, laidKinds := [.data], laidTests := true, laidLooks := .later }
def FnExactDirectProductCardSaid : Prop := Claim7.holds Tryd.pinned (.plain (OpenSpec.ofChange fnExactDirectProductSpec)) fnExactDirectProductCard

/-- THE TIED CARD OF 'laws.FnExactFreeProduct'. -/
def fnExactFreeProductCard : Claim7 := { stood := { row := fnExactFreeProductRow, standIns := [], harness := (true, "41e7fabfd401d93b3cf03c5292ef3ee2e39f1dd9a73478d62478074a69665847"), looks := false }, kinds := [], alts := [], laidByText := true, laidKinds := [.data], laidTests := true, laidLooks := .later }
def FnExactFreeProductCardSaid : Prop := Claim7.holds Tryd.pinned (.plain (OpenSpec.ofChange fnExactFreeProductSpec)) fnExactFreeProductCard

/-- THE TIED CARD OF 'laws.FnExactPartsOfAlphabet'. -/
def fnExactPartsOfAlphabetCard : Claim7 := { stood := { row := fnExactPartsOfAlphabetRow, standIns := [], harness := (true, "41e7fabfd401d93b3cf03c5292ef3ee2e39f1dd9a73478d62478074a69665847"), looks := false }, kinds := [], alts := [], laidByText := true, laidKinds := [.data], laidTests := true, laidLooks := .later }
def FnExactPartsOfAlphabetCardSaid : Prop := Claim7.holds Tryd.pinned (.plain (OpenSpec.ofChange fnExactPartsOfAlphabetSpec)) fnExactPartsOfAlphabetCard

/-- THE TIED CARD OF 'laws.FnExactHasTransitiveExchange'. -/
def fnExactHasTransitiveExchangeCard : Claim7 := { stood := { row := fnExactHasTransitiveExchangeRow, standIns := [], harness := (true, "41e7fabfd401d93b3cf03c5292ef3ee2e39f1dd9a73478d62478074a69665847"), looks := false }, kinds := [], alts := [], laidByText := true, laidKinds := [.data], laidTests := true, laidLooks := .later }
def FnExactHasTransitiveExchangeCardSaid : Prop := Claim7.holds Tryd.pinned (.plain (OpenSpec.ofChange fnExactHasTransitiveExchangeSpec)) fnExactHasTransitiveExchangeCard

/-- THE TIED CARD OF 'laws.FnExactProcessesOf'. -/
def fnExactProcessesOfCard : Claim7 := { stood := { row := fnExactProcessesOfRow, standIns := [], harness := (true, "41e7fabfd401d93b3cf03c5292ef3ee2e39f1dd9a73478d62478074a69665847"), looks := false }, kinds := [], alts := [], laidByText := true, laidKinds := [.data], laidTests := true, laidLooks := .later }
def FnExactProcessesOfCardSaid : Prop := Claim7.holds Tryd.pinned (.plain (OpenSpec.ofChange fnExactProcessesOfSpec)) fnExactProcessesOfCard

/-- THE SECOND FORM's CARD OF 'laws.FnExactIsAlphabet'. -/
def fnExactIsAlphabetUptoCard : Claim7 := { stood := { row := fnExactIsAlphabetUptoRow, standIns := [], harness := (true, "41e7fabfd401d93b3cf03c5292ef3ee2e39f1dd9a73478d62478074a69665847"), looks := false }, kinds := [], alts := [], laidByText := true, laidKinds := [.data], laidTests := true, laidLooks := .later }
def FnExactIsAlphabetUptoCardSaid : Prop := Claim7.holds Tryd.pinned (.plain (OpenSpec.upto fnExactIsAlphabetSpec)) fnExactIsAlphabetUptoCard

/-- THE SECOND FORM's CARD OF 'laws.FnExactAreDependent'. -/
def fnExactAreDependentUptoCard : Claim7 := { stood := { row := fnExactAreDependentUptoRow, standIns := [], harness := (true, "41e7fabfd401d93b3cf03c5292ef3ee2e39f1dd9a73478d62478074a69665847"), looks := false }, kinds := [], alts := [], laidByText := true, laidKinds := [.data], laidTests := true, laidLooks := .later }
def FnExactAreDependentUptoCardSaid : Prop := Claim7.holds Tryd.pinned (.plain (OpenSpec.upto fnExactAreDependentSpec)) fnExactAreDependentUptoCard

/-- THE SECOND FORM's CARD OF 'laws.FnExactAlphabetOfProcesses'. -/
def fnExactAlphabetOfProcessesUptoCard : Claim7 := { stood := { row := fnExactAlphabetOfProcessesUptoRow, standIns := [], harness := (true, "41e7fabfd401d93b3cf03c5292ef3ee2e39f1dd9a73478d62478074a69665847"), looks := false }, kinds := [], alts := [], laidByText := true, laidKinds := [.data], laidTests := true, laidLooks := .later }
def FnExactAlphabetOfProcessesUptoCardSaid : Prop := Claim7.holds Tryd.pinned (.plain (OpenSpec.upto fnExactAlphabetOfProcessesSpec)) fnExactAlphabetOfProcessesUptoCard

/-- THE SECOND FORM's CARD OF 'laws.FnExactDomainsOf'. -/
def fnExactDomainsOfUptoCard : Claim7 := { stood := { row := fnExactDomainsOfUptoRow, standIns := [], harness := (true, "41e7fabfd401d93b3cf03c5292ef3ee2e39f1dd9a73478d62478074a69665847"), looks := false }, kinds := [], alts := [], laidByText := true, laidKinds := [.data], laidTests := true, laidLooks := .later }
def FnExactDomainsOfUptoCardSaid : Prop := Claim7.holds Tryd.pinned (.plain (OpenSpec.upto fnExactDomainsOfSpec)) fnExactDomainsOfUptoCard

/-- THE SECOND FORM's CARD OF 'laws.FnExactStepsOf'. -/
def fnExactStepsOfUptoCard : Claim7 := { stood := { row := fnExactStepsOfUptoRow, standIns := [], harness := (true, "41e7fabfd401d93b3cf03c5292ef3ee2e39f1dd9a73478d62478074a69665847"), looks := false }, kinds := [], alts := [], laidByText := true, laidKinds := [.data], laidTests := true, laidLooks := .later }
def FnExactStepsOfUptoCardSaid : Prop := Claim7.holds Tryd.pinned (.plain (OpenSpec.upto fnExactStepsOfSpec)) fnExactStepsOfUptoCard

/-- THE SECOND FORM's CARD OF 'laws.FnExactComplementOf'. -/
def fnExactComplementOfUptoCard : Claim7 := { stood := { row := fnExactComplementOfUptoRow, standIns := [], harness := (true, "41e7fabfd401d93b3cf03c5292ef3ee2e39f1dd9a73478d62478074a69665847"), looks := false }, kinds := [], alts := [], laidByText := true, laidKinds := [.data], laidTests := true, laidLooks := .later }
def FnExactComplementOfUptoCardSaid : Prop := Claim7.holds Tryd.pinned (.plain (OpenSpec.upto fnExactComplementOfSpec)) fnExactComplementOfUptoCard

/-- THE SECOND FORM's CARD OF 'laws.FnExactPartOfAlphabet'. -/
def fnExactPartOfAlphabetUptoCard : Claim7 := { stood := { row := fnExactPartOfAlphabetUptoRow, standIns := [], harness := (true, "41e7fabfd401d93b3cf03c5292ef3ee2e39f1dd9a73478d62478074a69665847"), looks := false }, kinds := [], alts := [], laidByText := true, laidKinds := [.data], laidTests := true, laidLooks := .later }
def FnExactPartOfAlphabetUptoCardSaid : Prop := Claim7.holds Tryd.pinned (.plain (OpenSpec.upto fnExactPartOfAlphabetSpec)) fnExactPartOfAlphabetUptoCard

/-- THE SECOND FORM's CARD OF 'laws.FnExactDirectProduct'. -/
def fnExactDirectProductUptoCard : Claim7 := { stood := { row := fnExactDirectProductUptoRow, standIns := [], harness := (true, "41e7fabfd401d93b3cf03c5292ef3ee2e39f1dd9a73478d62478074a69665847"), looks := false }, kinds := [], alts := [], laidByText := true, laidKinds := [.data], laidTests := true, laidLooks := .later }
def FnExactDirectProductUptoCardSaid : Prop := Claim7.holds Tryd.pinned (.plain (OpenSpec.upto fnExactDirectProductSpec)) fnExactDirectProductUptoCard

/-- THE SECOND FORM's CARD OF 'laws.FnExactFreeProduct'. -/
def fnExactFreeProductUptoCard : Claim7 := { stood := { row := fnExactFreeProductUptoRow, standIns := [], harness := (true, "41e7fabfd401d93b3cf03c5292ef3ee2e39f1dd9a73478d62478074a69665847"), looks := false }, kinds := [], alts := [], laidByText := true, laidKinds := [.data], laidTests := true, laidLooks := .later }
def FnExactFreeProductUptoCardSaid : Prop := Claim7.holds Tryd.pinned (.plain (OpenSpec.upto fnExactFreeProductSpec)) fnExactFreeProductUptoCard

/-- THE SECOND FORM's CARD OF 'laws.FnExactPartsOfAlphabet'. -/
def fnExactPartsOfAlphabetUptoCard : Claim7 := { stood := { row := fnExactPartsOfAlphabetUptoRow, standIns := [], harness := (true, "41e7fabfd401d93b3cf03c5292ef3ee2e39f1dd9a73478d62478074a69665847"), looks := false }, kinds := [], alts := [], laidByText := true, laidKinds := [.data], laidTests := true, laidLooks := .later }
def FnExactPartsOfAlphabetUptoCardSaid : Prop := Claim7.holds Tryd.pinned (.plain (OpenSpec.upto fnExactPartsOfAlphabetSpec)) fnExactPartsOfAlphabetUptoCard

/-- THE SECOND FORM's CARD OF 'laws.FnExactHasTransitiveExchange'. -/
def fnExactHasTransitiveExchangeUptoCard : Claim7 := { stood := { row := fnExactHasTransitiveExchangeUptoRow, standIns := [], harness := (true, "41e7fabfd401d93b3cf03c5292ef3ee2e39f1dd9a73478d62478074a69665847"), looks := false }, kinds := [], alts := [], laidByText := true, laidKinds := [.data], laidTests := true, laidLooks := .later }
def FnExactHasTransitiveExchangeUptoCardSaid : Prop := Claim7.holds Tryd.pinned (.plain (OpenSpec.upto fnExactHasTransitiveExchangeSpec)) fnExactHasTransitiveExchangeUptoCard

/-- THE SECOND FORM's CARD OF 'laws.FnExactProcessesOf'. -/
def fnExactProcessesOfUptoCard : Claim7 := { stood := { row := fnExactProcessesOfUptoRow, standIns := [], harness := (true, "41e7fabfd401d93b3cf03c5292ef3ee2e39f1dd9a73478d62478074a69665847"), looks := false }, kinds := [], alts := [], laidByText := true, laidKinds := [.data], laidTests := true, laidLooks := .later }
def FnExactProcessesOfUptoCardSaid : Prop := Claim7.holds Tryd.pinned (.plain (OpenSpec.upto fnExactProcessesOfSpec)) fnExactProcessesOfUptoCard
end Rows
end Go.Proofs.YtbjkpkgnjeaimaaDoor

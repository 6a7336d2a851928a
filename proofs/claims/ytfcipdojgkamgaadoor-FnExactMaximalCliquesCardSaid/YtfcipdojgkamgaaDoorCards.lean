/-
  DERIVED. GIVEN WITH THE SEED: THE CARDS: each row of YtfcipdojgkamgaaDoorRows.lean that lists a variable, with what it lists TIED to the program's text (the seventh form; the later family's looks); each row that meets fmt, with fmt's text TOLD by the authors' own Lean function (tested against real Go, not proved from fmt's source: count such statements apart). THE CARD IS WHAT COUNTS. Prove the row's statement (the work); the ties are given (YtfcipdojgkamgaaDoorTie.lean); close each card by the builder's one call (the guide's Derived/Test/ToyasCard.lean, 'card_holds'). Laid BY PROGRAM, IN A SANDBOX (cutbox-door.mjs). By AI agents, Wed Nov 11 2026. No macro, syntax, notation, axiom, sorry.
-/
import Derived.Test.YtfcipdojgkamgaaDoorRows
import GoSem.ClaimSeven
namespace Go.Proofs.YtfcipdojgkamgaaDoor
namespace Rows

/-- THE TIED CARD OF 'laws.FnExactMembersOf'. -/
def fnExactMembersOfCard : Claim7 := { stood := { row := fnExactMembersOfRow, standIns := [], harness := (true, "60b3c2c08eb97b48a84f910d7d5c79ad648d2ae7818548f3c487996ea346cb3e"), looks := false }, kinds := [], alts := [], laidByText := true, laidKinds := [.data], laidTests := true, laidLooks := .later }
def FnExactMembersOfCardSaid : Prop := Claim7.holds Tryd.pinned (.plain (OpenSpec.ofChange fnExactMembersOfSpec)) fnExactMembersOfCard

/-- THE TIED CARD OF 'laws.FnExactConverseOf'. -/
def fnExactConverseOfCard : Claim7 := { stood := { row := fnExactConverseOfRow, standIns := [], harness := (true, "60b3c2c08eb97b48a84f910d7d5c79ad648d2ae7818548f3c487996ea346cb3e"), looks := false }, kinds := [], alts := [], laidByText := true, laidKinds := [.data], laidTests := true, laidLooks := .later }
def FnExactConverseOfCardSaid : Prop := Claim7.holds Tryd.pinned (.plain (OpenSpec.ofChange fnExactConverseOfSpec)) fnExactConverseOfCard

/-- THE TIED CARD OF 'laws.FnExactIsOrder'. -/
def fnExactIsOrderCard : Claim7 := { stood := { row := fnExactIsOrderRow, standIns := [], harness := (true, "60b3c2c08eb97b48a84f910d7d5c79ad648d2ae7818548f3c487996ea346cb3e"), looks := false }, kinds := [], alts := [], laidByText := true, laidKinds := [.data], laidTests := true, laidLooks := .later }
def FnExactIsOrderCardSaid : Prop := Claim7.holds Tryd.pinned (.plain (OpenSpec.ofChange fnExactIsOrderSpec)) fnExactIsOrderCard

/-- THE TIED CARD OF 'laws.FnExactCoversOf'. -/
def fnExactCoversOfCard : Claim7 := { stood := { row := fnExactCoversOfRow, standIns := [], harness := (true, "60b3c2c08eb97b48a84f910d7d5c79ad648d2ae7818548f3c487996ea346cb3e"), looks := false }, kinds := [], alts := [], laidByText := true, laidKinds := [.data], laidTests := true, laidLooks := .later }
def FnExactCoversOfCardSaid : Prop := Claim7.holds Tryd.pinned (.plain (OpenSpec.ofChange fnExactCoversOfSpec)) fnExactCoversOfCard

/-- THE TIED CARD OF 'laws.FnExactComponentsOf'. -/
def fnExactComponentsOfCard : Claim7 := { stood := { row := fnExactComponentsOfRow, standIns := [], harness := (true, "60b3c2c08eb97b48a84f910d7d5c79ad648d2ae7818548f3c487996ea346cb3e"), looks := false }, kinds := [], alts := [], laidByText := true, laidKinds := [.data], laidTests := true, laidLooks := .later }
def FnExactComponentsOfCardSaid : Prop := Claim7.holds Tryd.pinned (.plain (OpenSpec.ofChange fnExactComponentsOfSpec)) fnExactComponentsOfCard

/-- THE TIED CARD OF 'laws.FnExactCliquesOf'. -/
def fnExactCliquesOfCard : Claim7 := { stood := { row := fnExactCliquesOfRow, standIns := [], harness := (true, "60b3c2c08eb97b48a84f910d7d5c79ad648d2ae7818548f3c487996ea346cb3e"), looks := false }, kinds := [], alts := [], laidByText := true, laidKinds := [.data], laidTests := true, laidLooks := .later }
def FnExactCliquesOfCardSaid : Prop := Claim7.holds Tryd.pinned (.plain (OpenSpec.ofChange fnExactCliquesOfSpec)) fnExactCliquesOfCard

/-- THE TIED CARD OF 'laws.FnExactMaximalCliques'. -/
def fnExactMaximalCliquesCard : Claim7 := { stood := { row := fnExactMaximalCliquesRow, standIns := [], harness := (true, "60b3c2c08eb97b48a84f910d7d5c79ad648d2ae7818548f3c487996ea346cb3e"), looks := false }, kinds := [], alts := [], laidByText := true, laidKinds := [.data], laidTests := true, laidLooks := .later }
def FnExactMaximalCliquesCardSaid : Prop := Claim7.holds Tryd.pinned (.plain (OpenSpec.ofChange fnExactMaximalCliquesSpec)) fnExactMaximalCliquesCard

/-- THE TIED CARD OF 'laws.FnExactDownsetsOf'. -/
def fnExactDownsetsOfCard : Claim7 := { stood := { row := fnExactDownsetsOfRow, standIns := [], harness := (true, "60b3c2c08eb97b48a84f910d7d5c79ad648d2ae7818548f3c487996ea346cb3e"), looks := false }, kinds := [], alts := [], laidByText := true, laidKinds := [.data], laidTests := true, laidLooks := .later }
def FnExactDownsetsOfCardSaid : Prop := Claim7.holds Tryd.pinned (.plain (OpenSpec.ofChange fnExactDownsetsOfSpec)) fnExactDownsetsOfCard

/-- THE TIED CARD OF 'laws.FnOrders'. -/
def fnOrdersCard : Claim7 := { stood := { row := fnOrdersRow, standIns := [], harness := (true, "60b3c2c08eb97b48a84f910d7d5c79ad648d2ae7818548f3c487996ea346cb3e"), looks := false }, kinds := [], alts := [], laidByText := true, laidKinds := [.data], laidTests := true, laidLooks := .later }
def FnOrdersCardSaid : Prop := Claim7.holds Tryd.pinned (.plain (OpenSpec.ofChange fnOrdersSpec)) fnOrdersCard

/-- THE TIED CARD OF 'laws.FnCliques'. -/
def fnCliquesCard : Claim7 := { stood := { row := fnCliquesRow, standIns := [], harness := (true, "60b3c2c08eb97b48a84f910d7d5c79ad648d2ae7818548f3c487996ea346cb3e"), looks := false }, kinds := [], alts := [], laidByText := true, laidKinds := [.data], laidTests := true, laidLooks := .later }
def FnCliquesCardSaid : Prop := Claim7.holds Tryd.pinned (.plain (OpenSpec.ofChange fnCliquesSpec)) fnCliquesCard

/-- THE TIED CARD OF 'laws.FnMasks'. -/
def fnMasksCard : Claim7 := { stood := { row := fnMasksRow, standIns := [], harness := (true, "60b3c2c08eb97b48a84f910d7d5c79ad648d2ae7818548f3c487996ea346cb3e"), looks := false }, kinds := [], alts := [], laidByText := true, laidKinds := [.data], laidTests := true, laidLooks := .later }
def FnMasksCardSaid : Prop := Claim7.holds Tryd.pinned (.plain (OpenSpec.ofChange fnMasksSpec)) fnMasksCard

/-- THE SECOND FORM's CARD OF 'laws.FnExactMembersOf'. -/
def fnExactMembersOfUptoCard : Claim7 := { stood := { row := fnExactMembersOfUptoRow, standIns := [], harness := (true, "60b3c2c08eb97b48a84f910d7d5c79ad648d2ae7818548f3c487996ea346cb3e"), looks := false }, kinds := [], alts := [], laidByText := true, laidKinds := [.data], laidTests := true, laidLooks := .later }
def FnExactMembersOfUptoCardSaid : Prop := Claim7.holds Tryd.pinned (.plain (OpenSpec.upto fnExactMembersOfSpec)) fnExactMembersOfUptoCard

/-- THE SECOND FORM's CARD OF 'laws.FnExactConverseOf'. -/
def fnExactConverseOfUptoCard : Claim7 := { stood := { row := fnExactConverseOfUptoRow, standIns := [], harness := (true, "60b3c2c08eb97b48a84f910d7d5c79ad648d2ae7818548f3c487996ea346cb3e"), looks := false }, kinds := [], alts := [], laidByText := true, laidKinds := [.data], laidTests := true, laidLooks := .later }
def FnExactConverseOfUptoCardSaid : Prop := Claim7.holds Tryd.pinned (.plain (OpenSpec.upto fnExactConverseOfSpec)) fnExactConverseOfUptoCard

/-- THE SECOND FORM's CARD OF 'laws.FnExactIsOrder'. -/
def fnExactIsOrderUptoCard : Claim7 := { stood := { row := fnExactIsOrderUptoRow, standIns := [], harness := (true, "60b3c2c08eb97b48a84f910d7d5c79ad648d2ae7818548f3c487996ea346cb3e"), looks := false }, kinds := [], alts := [], laidByText := true, laidKinds := [.data], laidTests := true, laidLooks := .later }
def FnExactIsOrderUptoCardSaid : Prop := Claim7.holds Tryd.pinned (.plain (OpenSpec.upto fnExactIsOrderSpec)) fnExactIsOrderUptoCard

/-- THE SECOND FORM's CARD OF 'laws.FnExactCoversOf'. -/
def fnExactCoversOfUptoCard : Claim7 := { stood := { row := fnExactCoversOfUptoRow, standIns := [], harness := (true, "60b3c2c08eb97b48a84f910d7d5c79ad648d2ae7818548f3c487996ea346cb3e"), looks := false }, kinds := [], alts := [], laidByText := true, laidKinds := [.data], laidTests := true, laidLooks := .later }
def FnExactCoversOfUptoCardSaid : Prop := Claim7.holds Tryd.pinned (.plain (OpenSpec.upto fnExactCoversOfSpec)) fnExactCoversOfUptoCard

/-- THE SECOND FORM's CARD OF 'laws.FnExactComponentsOf'. -/
def fnExactComponentsOfUptoCard : Claim7 := { stood := { row := fnExactComponentsOfUptoRow, standIns := [], harness := (true, "60b3c2c08eb97b48a84f910d7d5c79ad648d2ae7818548f3c487996ea346cb3e"), looks := false }, kinds := [], alts := [], laidByText := true, laidKinds := [.data], laidTests := true, laidLooks := .later }
def FnExactComponentsOfUptoCardSaid : Prop := Claim7.holds Tryd.pinned (.plain (OpenSpec.upto fnExactComponentsOfSpec)) fnExactComponentsOfUptoCard

/-- THE SECOND FORM's CARD OF 'laws.FnExactCliquesOf'. -/
def fnExactCliquesOfUptoCard : Claim7 := { stood := { row := fnExactCliquesOfUptoRow, standIns := [], harness := (true, "60b3c2c08eb97b48a84f910d7d5c79ad648d2ae7818548f3c487996ea346cb3e"), looks := false }, kinds := [], alts := [], laidByText := true, laidKinds := [.data], laidTests := true, laidLooks := .later }
def FnExactCliquesOfUptoCardSaid : Prop := Claim7.holds Tryd.pinned (.plain (OpenSpec.upto fnExactCliquesOfSpec)) fnExactCliquesOfUptoCard

/-- THE SECOND FORM's CARD OF 'laws.FnExactMaximalCliques'. -/
def fnExactMaximalCliquesUptoCard : Claim7 := { stood := { row := fnExactMaximalCliquesUptoRow, standIns := [], harness := (true, "60b3c2c08eb97b48a84f910d7d5c79ad648d2ae7818548f3c487996ea346cb3e"), looks := false }, kinds := [], alts := [], laidByText := true, laidKinds := [.data], laidTests := true, laidLooks := .later }
def FnExactMaximalCliquesUptoCardSaid : Prop := Claim7.holds Tryd.pinned (.plain (OpenSpec.upto fnExactMaximalCliquesSpec)) fnExactMaximalCliquesUptoCard

/-- THE SECOND FORM's CARD OF 'laws.FnExactDownsetsOf'. -/
def fnExactDownsetsOfUptoCard : Claim7 := { stood := { row := fnExactDownsetsOfUptoRow, standIns := [], harness := (true, "60b3c2c08eb97b48a84f910d7d5c79ad648d2ae7818548f3c487996ea346cb3e"), looks := false }, kinds := [], alts := [], laidByText := true, laidKinds := [.data], laidTests := true, laidLooks := .later }
def FnExactDownsetsOfUptoCardSaid : Prop := Claim7.holds Tryd.pinned (.plain (OpenSpec.upto fnExactDownsetsOfSpec)) fnExactDownsetsOfUptoCard

/-- THE SECOND FORM's CARD OF 'laws.FnOrders'. -/
def fnOrdersUptoCard : Claim7 := { stood := { row := fnOrdersUptoRow, standIns := [], harness := (true, "60b3c2c08eb97b48a84f910d7d5c79ad648d2ae7818548f3c487996ea346cb3e"), looks := false }, kinds := [], alts := [], laidByText := true, laidKinds := [.data], laidTests := true, laidLooks := .later }
def FnOrdersUptoCardSaid : Prop := Claim7.holds Tryd.pinned (.plain (OpenSpec.upto fnOrdersSpec)) fnOrdersUptoCard

/-- THE SECOND FORM's CARD OF 'laws.FnCliques'. -/
def fnCliquesUptoCard : Claim7 := { stood := { row := fnCliquesUptoRow, standIns := [], harness := (true, "60b3c2c08eb97b48a84f910d7d5c79ad648d2ae7818548f3c487996ea346cb3e"), looks := false }, kinds := [], alts := [], laidByText := true, laidKinds := [.data], laidTests := true, laidLooks := .later }
def FnCliquesUptoCardSaid : Prop := Claim7.holds Tryd.pinned (.plain (OpenSpec.upto fnCliquesSpec)) fnCliquesUptoCard

/-- THE SECOND FORM's CARD OF 'laws.FnMasks'. -/
def fnMasksUptoCard : Claim7 := { stood := { row := fnMasksUptoRow, standIns := [], harness := (true, "60b3c2c08eb97b48a84f910d7d5c79ad648d2ae7818548f3c487996ea346cb3e"), looks := false }, kinds := [], alts := [], laidByText := true, laidKinds := [.data], laidTests := true, laidLooks := .later }
def FnMasksUptoCardSaid : Prop := Claim7.holds Tryd.pinned (.plain (OpenSpec.upto fnMasksSpec)) fnMasksUptoCard
end Rows
end Go.Proofs.YtfcipdojgkamgaaDoor

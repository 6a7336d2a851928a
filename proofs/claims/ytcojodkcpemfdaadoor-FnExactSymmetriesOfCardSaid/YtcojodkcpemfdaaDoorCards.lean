/-
  DERIVED. GIVEN WITH THE SEED: THE CARDS: each row of YtcojodkcpemfdaaDoorRows.lean that lists a variable, with what it lists TIED to the program's text (the seventh form; the later family's looks); each row that meets fmt, with fmt's text TOLD by the authors' own Lean function (tested against real Go, not proved from fmt's source: count such statements apart). THE CARD IS WHAT COUNTS. Prove the row's statement (the work); the ties are given (YtcojodkcpemfdaaDoorTie.lean); close each card by the builder's one call (the guide's Derived/Test/ToyasCard.lean, 'card_holds'). Laid BY PROGRAM, IN A SANDBOX (cutbox-door.mjs). By AI agents, Wed Nov 11 2026. No macro, syntax, notation, axiom, sorry.
-/
import Derived.Test.YtcojodkcpemfdaaDoorRows
import GoSem.ClaimSeven
namespace Go.Proofs.YtcojodkcpemfdaaDoor
namespace Rows

/-- THE TIED CARD OF 'laws.FnExactIsMorphism'. -/
def fnExactIsMorphismCard : Claim7 := { stood := { row := fnExactIsMorphismRow, standIns := [], harness := (true, "29a37651cf0d335f43d44660ab0e407514cbc22b714692f39c292c59cc0dff15"), looks := false }, kinds := [], alts := [], laidByText := true, laidKinds := [.data], laidTests := true, laidLooks := .later }
def FnExactIsMorphismCardSaid : Prop := Claim7.holds Tryd.pinned (.plain (OpenSpec.ofChange fnExactIsMorphismSpec)) fnExactIsMorphismCard

/-- THE TIED CARD OF 'laws.FnExactImageOf'. -/
def fnExactImageOfCard : Claim7 := { stood := { row := fnExactImageOfRow, standIns := [], harness := (true, "29a37651cf0d335f43d44660ab0e407514cbc22b714692f39c292c59cc0dff15"), looks := false }, kinds := [], alts := [], laidByText := true, laidKinds := [.data], laidTests := true, laidLooks := .later }
def FnExactImageOfCardSaid : Prop := Claim7.holds Tryd.pinned (.plain (OpenSpec.ofChange fnExactImageOfSpec)) fnExactImageOfCard

/-- THE TIED CARD OF 'laws.FnExactErasedLetters'. -/
def fnExactErasedLettersCard : Claim7 := { stood := { row := fnExactErasedLettersRow, standIns := [], harness := (true, "29a37651cf0d335f43d44660ab0e407514cbc22b714692f39c292c59cc0dff15"), looks := false }, kinds := [], alts := [], laidByText := true, laidKinds := [.data], laidTests := true, laidLooks := .later }
def FnExactErasedLettersCardSaid : Prop := Claim7.holds Tryd.pinned (.plain (OpenSpec.ofChange fnExactErasedLettersSpec)) fnExactErasedLettersCard

/-- THE TIED CARD OF 'laws.FnExactComposeMorphisms'. -/
def fnExactComposeMorphismsCard : Claim7 := { stood := { row := fnExactComposeMorphismsRow, standIns := [], harness := (true, "29a37651cf0d335f43d44660ab0e407514cbc22b714692f39c292c59cc0dff15"), looks := false }, kinds := [], alts := [], laidByText := true, laidKinds := [.data], laidTests := true, laidLooks := .later }
def FnExactComposeMorphismsCardSaid : Prop := Claim7.holds Tryd.pinned (.plain (OpenSpec.ofChange fnExactComposeMorphismsSpec)) fnExactComposeMorphismsCard

/-- THE TIED CARD OF 'laws.FnExactApplySymmetry'. -/
def fnExactApplySymmetryCard : Claim7 := { stood := { row := fnExactApplySymmetryRow, standIns := [], harness := (true, "29a37651cf0d335f43d44660ab0e407514cbc22b714692f39c292c59cc0dff15"), looks := false }, kinds := [], alts := [], laidByText := true, laidKinds := [.data], laidTests := true, laidLooks := .later }
def FnExactApplySymmetryCardSaid : Prop := Claim7.holds Tryd.pinned (.plain (OpenSpec.ofChange fnExactApplySymmetrySpec)) fnExactApplySymmetryCard

/-- THE TIED CARD OF 'laws.FnExactSymmetriesOf'. -/
def fnExactSymmetriesOfCard : Claim7 := { stood := { row := fnExactSymmetriesOfRow, standIns := [], harness := (true, "29a37651cf0d335f43d44660ab0e407514cbc22b714692f39c292c59cc0dff15"), looks := false }, kinds := [], alts := [], laidByText := true, laidKinds := [.data], laidTests := true, laidLooks := .later }
def FnExactSymmetriesOfCardSaid : Prop := Claim7.holds Tryd.pinned (.plain (OpenSpec.ofChange fnExactSymmetriesOfSpec)) fnExactSymmetriesOfCard

/-- THE TIED CARD OF 'laws.FnExactCountLyndon'. -/
def fnExactCountLyndonCard : Claim7 := { stood := { row := fnExactCountLyndonRow, standIns := [], harness := (true, "29a37651cf0d335f43d44660ab0e407514cbc22b714692f39c292c59cc0dff15"), looks := false }, kinds := [], alts := [], laidByText := true, laidKinds := [.data], laidTests := true, laidLooks := .later }
def FnExactCountLyndonCardSaid : Prop := Claim7.holds Tryd.pinned (.plain (OpenSpec.ofChange fnExactCountLyndonSpec)) fnExactCountLyndonCard

/-- THE TIED CARD OF 'laws.FnExactTraceAtRank'. -/
def fnExactTraceAtRankCard : Claim7 := { stood := { row := fnExactTraceAtRankRow, standIns := [], harness := (true, "29a37651cf0d335f43d44660ab0e407514cbc22b714692f39c292c59cc0dff15"), looks := false }, kinds := [], alts := [], laidByText := true, laidKinds := [.data], laidTests := true, laidLooks := .later }
def FnExactTraceAtRankCardSaid : Prop := Claim7.holds Tryd.pinned (.plain (OpenSpec.ofChange fnExactTraceAtRankSpec)) fnExactTraceAtRankCard

/-- THE TIED CARD OF 'laws.FnSameTraces'. -/
def fnSameTracesCard : Claim7 := { stood := { row := fnSameTracesRow, standIns := [], harness := (true, "29a37651cf0d335f43d44660ab0e407514cbc22b714692f39c292c59cc0dff15"), looks := false }, kinds := [], alts := [], laidByText := true, laidKinds := [.data], laidTests := true, laidLooks := .later }
def FnSameTracesCardSaid : Prop := Claim7.holds Tryd.pinned (.plain (OpenSpec.ofChange fnSameTracesSpec)) fnSameTracesCard

/-- THE TIED CARD OF 'laws.FnComponents'. -/
def fnComponentsCard : Claim7 := { stood := { row := fnComponentsRow, standIns := [], harness := (true, "29a37651cf0d335f43d44660ab0e407514cbc22b714692f39c292c59cc0dff15"), looks := false }, kinds := [], alts := [], laidByText := true, laidKinds := [.data], laidTests := true, laidLooks := .later }
def FnComponentsCardSaid : Prop := Claim7.holds Tryd.pinned (.plain (OpenSpec.ofChange fnComponentsSpec)) fnComponentsCard

/-- THE TIED CARD OF 'laws.FnPrefixesIn'. -/
def fnPrefixesInCard : Claim7 := { stood := { row := fnPrefixesInRow, standIns := [], harness := (true, "29a37651cf0d335f43d44660ab0e407514cbc22b714692f39c292c59cc0dff15"), looks := false }, kinds := [], alts := [], laidByText := true, laidKinds := [.data], laidTests := true, laidLooks := .later }
def FnPrefixesInCardSaid : Prop := Claim7.holds Tryd.pinned (.plain (OpenSpec.ofChange fnPrefixesInSpec)) fnPrefixesInCard

/-- THE TIED CARD OF 'laws.FnFirstLetters'. -/
def fnFirstLettersCard : Claim7 := { stood := { row := fnFirstLettersRow, standIns := [], harness := (true, "29a37651cf0d335f43d44660ab0e407514cbc22b714692f39c292c59cc0dff15"), looks := false }, kinds := [], alts := [], laidByText := true, laidKinds := [.data], laidTests := true, laidLooks := .later }
def FnFirstLettersCardSaid : Prop := Claim7.holds Tryd.pinned (.plain (OpenSpec.ofChange fnFirstLettersSpec)) fnFirstLettersCard

/-- THE SECOND FORM's CARD OF 'laws.FnExactIsMorphism'. -/
def fnExactIsMorphismUptoCard : Claim7 := { stood := { row := fnExactIsMorphismUptoRow, standIns := [], harness := (true, "29a37651cf0d335f43d44660ab0e407514cbc22b714692f39c292c59cc0dff15"), looks := false }, kinds := [], alts := [], laidByText := true, laidKinds := [.data], laidTests := true, laidLooks := .later }
def FnExactIsMorphismUptoCardSaid : Prop := Claim7.holds Tryd.pinned (.plain (OpenSpec.upto fnExactIsMorphismSpec)) fnExactIsMorphismUptoCard

/-- THE SECOND FORM's CARD OF 'laws.FnExactImageOf'. -/
def fnExactImageOfUptoCard : Claim7 := { stood := { row := fnExactImageOfUptoRow, standIns := [], harness := (true, "29a37651cf0d335f43d44660ab0e407514cbc22b714692f39c292c59cc0dff15"), looks := false }, kinds := [], alts := [], laidByText := true, laidKinds := [.data], laidTests := true, laidLooks := .later }
def FnExactImageOfUptoCardSaid : Prop := Claim7.holds Tryd.pinned (.plain (OpenSpec.upto fnExactImageOfSpec)) fnExactImageOfUptoCard

/-- THE SECOND FORM's CARD OF 'laws.FnExactErasedLetters'. -/
def fnExactErasedLettersUptoCard : Claim7 := { stood := { row := fnExactErasedLettersUptoRow, standIns := [], harness := (true, "29a37651cf0d335f43d44660ab0e407514cbc22b714692f39c292c59cc0dff15"), looks := false }, kinds := [], alts := [], laidByText := true, laidKinds := [.data], laidTests := true, laidLooks := .later }
def FnExactErasedLettersUptoCardSaid : Prop := Claim7.holds Tryd.pinned (.plain (OpenSpec.upto fnExactErasedLettersSpec)) fnExactErasedLettersUptoCard

/-- THE SECOND FORM's CARD OF 'laws.FnExactComposeMorphisms'. -/
def fnExactComposeMorphismsUptoCard : Claim7 := { stood := { row := fnExactComposeMorphismsUptoRow, standIns := [], harness := (true, "29a37651cf0d335f43d44660ab0e407514cbc22b714692f39c292c59cc0dff15"), looks := false }, kinds := [], alts := [], laidByText := true, laidKinds := [.data], laidTests := true, laidLooks := .later }
def FnExactComposeMorphismsUptoCardSaid : Prop := Claim7.holds Tryd.pinned (.plain (OpenSpec.upto fnExactComposeMorphismsSpec)) fnExactComposeMorphismsUptoCard

/-- THE SECOND FORM's CARD OF 'laws.FnExactApplySymmetry'. -/
def fnExactApplySymmetryUptoCard : Claim7 := { stood := { row := fnExactApplySymmetryUptoRow, standIns := [], harness := (true, "29a37651cf0d335f43d44660ab0e407514cbc22b714692f39c292c59cc0dff15"), looks := false }, kinds := [], alts := [], laidByText := true, laidKinds := [.data], laidTests := true, laidLooks := .later }
def FnExactApplySymmetryUptoCardSaid : Prop := Claim7.holds Tryd.pinned (.plain (OpenSpec.upto fnExactApplySymmetrySpec)) fnExactApplySymmetryUptoCard

/-- THE SECOND FORM's CARD OF 'laws.FnExactSymmetriesOf'. -/
def fnExactSymmetriesOfUptoCard : Claim7 := { stood := { row := fnExactSymmetriesOfUptoRow, standIns := [], harness := (true, "29a37651cf0d335f43d44660ab0e407514cbc22b714692f39c292c59cc0dff15"), looks := false }, kinds := [], alts := [], laidByText := true, laidKinds := [.data], laidTests := true, laidLooks := .later }
def FnExactSymmetriesOfUptoCardSaid : Prop := Claim7.holds Tryd.pinned (.plain (OpenSpec.upto fnExactSymmetriesOfSpec)) fnExactSymmetriesOfUptoCard

/-- THE SECOND FORM's CARD OF 'laws.FnExactCountLyndon'. -/
def fnExactCountLyndonUptoCard : Claim7 := { stood := { row := fnExactCountLyndonUptoRow, standIns := [], harness := (true, "29a37651cf0d335f43d44660ab0e407514cbc22b714692f39c292c59cc0dff15"), looks := false }, kinds := [], alts := [], laidByText := true, laidKinds := [.data], laidTests := true, laidLooks := .later }
def FnExactCountLyndonUptoCardSaid : Prop := Claim7.holds Tryd.pinned (.plain (OpenSpec.upto fnExactCountLyndonSpec)) fnExactCountLyndonUptoCard

/-- THE SECOND FORM's CARD OF 'laws.FnExactTraceAtRank'. -/
def fnExactTraceAtRankUptoCard : Claim7 := { stood := { row := fnExactTraceAtRankUptoRow, standIns := [], harness := (true, "29a37651cf0d335f43d44660ab0e407514cbc22b714692f39c292c59cc0dff15"), looks := false }, kinds := [], alts := [], laidByText := true, laidKinds := [.data], laidTests := true, laidLooks := .later }
def FnExactTraceAtRankUptoCardSaid : Prop := Claim7.holds Tryd.pinned (.plain (OpenSpec.upto fnExactTraceAtRankSpec)) fnExactTraceAtRankUptoCard

/-- THE SECOND FORM's CARD OF 'laws.FnSameTraces'. -/
def fnSameTracesUptoCard : Claim7 := { stood := { row := fnSameTracesUptoRow, standIns := [], harness := (true, "29a37651cf0d335f43d44660ab0e407514cbc22b714692f39c292c59cc0dff15"), looks := false }, kinds := [], alts := [], laidByText := true, laidKinds := [.data], laidTests := true, laidLooks := .later }
def FnSameTracesUptoCardSaid : Prop := Claim7.holds Tryd.pinned (.plain (OpenSpec.upto fnSameTracesSpec)) fnSameTracesUptoCard

/-- THE SECOND FORM's CARD OF 'laws.FnComponents'. -/
def fnComponentsUptoCard : Claim7 := { stood := { row := fnComponentsUptoRow, standIns := [], harness := (true, "29a37651cf0d335f43d44660ab0e407514cbc22b714692f39c292c59cc0dff15"), looks := false }, kinds := [], alts := [], laidByText := true, laidKinds := [.data], laidTests := true, laidLooks := .later }
def FnComponentsUptoCardSaid : Prop := Claim7.holds Tryd.pinned (.plain (OpenSpec.upto fnComponentsSpec)) fnComponentsUptoCard

/-- THE SECOND FORM's CARD OF 'laws.FnPrefixesIn'. -/
def fnPrefixesInUptoCard : Claim7 := { stood := { row := fnPrefixesInUptoRow, standIns := [], harness := (true, "29a37651cf0d335f43d44660ab0e407514cbc22b714692f39c292c59cc0dff15"), looks := false }, kinds := [], alts := [], laidByText := true, laidKinds := [.data], laidTests := true, laidLooks := .later }
def FnPrefixesInUptoCardSaid : Prop := Claim7.holds Tryd.pinned (.plain (OpenSpec.upto fnPrefixesInSpec)) fnPrefixesInUptoCard

/-- THE SECOND FORM's CARD OF 'laws.FnFirstLetters'. -/
def fnFirstLettersUptoCard : Claim7 := { stood := { row := fnFirstLettersUptoRow, standIns := [], harness := (true, "29a37651cf0d335f43d44660ab0e407514cbc22b714692f39c292c59cc0dff15"), looks := false }, kinds := [], alts := [], laidByText := true, laidKinds := [.data], laidTests := true, laidLooks := .later }
def FnFirstLettersUptoCardSaid : Prop := Claim7.holds Tryd.pinned (.plain (OpenSpec.upto fnFirstLettersSpec)) fnFirstLettersUptoCard
end Rows
end Go.Proofs.YtcojodkcpemfdaaDoor

/-
  DERIVED. GIVEN WITH THE SEED: THE CARDS: each row of YtdafdffmkjhhcaaDoorRows.lean that lists a variable, with what it lists TIED to the program's text (the seventh form; the later family's looks); each row that meets fmt, with fmt's text TOLD by the authors' own Lean function (tested against real Go, not proved from fmt's source: count such statements apart). THE CARD IS WHAT COUNTS. Prove the row's statement (the work); the ties are given (YtdafdffmkjhhcaaDoorTie.lean); close each card by the builder's one call (the guide's Derived/Test/ToyasCard.lean, 'card_holds'). Laid BY PROGRAM, IN A SANDBOX (cutbox-door.mjs). By AI agents, Wed Nov 11 2026. No macro, syntax, notation, axiom, sorry.
-/
import Derived.Test.YtdafdffmkjhhcaaDoorRows
import GoSem.ClaimSeven
namespace Go.Proofs.YtdafdffmkjhhcaaDoor
namespace Rows

/-- THE TIED CARD OF 'laws.FnExactIsMorphism'. -/
def fnExactIsMorphismCard : Claim7 := { stood := { row := fnExactIsMorphismRow, standIns := [], harness := (true, "1b425bcd47dcf37d78ef17ff3afdfffac424df250b2619ca989c85650bb81716"), looks := false }, kinds := [], alts := [], laidByText := true, laidKinds := [.data], laidTests := true, laidLooks := .later }
def FnExactIsMorphismCardSaid : Prop := Claim7.holds Tryd.pinned (.plain (OpenSpec.ofChange fnExactIsMorphismSpec)) fnExactIsMorphismCard

/-- THE TIED CARD OF 'laws.FnExactImageOf'. -/
def fnExactImageOfCard : Claim7 := { stood := { row := fnExactImageOfRow, standIns := [], harness := (true, "1b425bcd47dcf37d78ef17ff3afdfffac424df250b2619ca989c85650bb81716"), looks := false }, kinds := [], alts := [], laidByText := true, laidKinds := [.data], laidTests := true, laidLooks := .later }
def FnExactImageOfCardSaid : Prop := Claim7.holds Tryd.pinned (.plain (OpenSpec.ofChange fnExactImageOfSpec)) fnExactImageOfCard

/-- THE TIED CARD OF 'laws.FnExactErasedLetters'. -/
def fnExactErasedLettersCard : Claim7 := { stood := { row := fnExactErasedLettersRow, standIns := [], harness := (true, "1b425bcd47dcf37d78ef17ff3afdfffac424df250b2619ca989c85650bb81716"), looks := false }, kinds := [], alts := [], laidByText := true, laidKinds := [.data], laidTests := true, laidLooks := .later }
def FnExactErasedLettersCardSaid : Prop := Claim7.holds Tryd.pinned (.plain (OpenSpec.ofChange fnExactErasedLettersSpec)) fnExactErasedLettersCard

/-- THE TIED CARD OF 'laws.FnExactComposeMorphisms'. -/
def fnExactComposeMorphismsCard : Claim7 := { stood := { row := fnExactComposeMorphismsRow, standIns := [], harness := (true, "1b425bcd47dcf37d78ef17ff3afdfffac424df250b2619ca989c85650bb81716"), looks := false }, kinds := [], alts := [], laidByText := true, laidKinds := [.data], laidTests := true, laidLooks := .later }
def FnExactComposeMorphismsCardSaid : Prop := Claim7.holds Tryd.pinned (.plain (OpenSpec.ofChange fnExactComposeMorphismsSpec)) fnExactComposeMorphismsCard

/-- THE TIED CARD OF 'laws.FnExactCommonContinuation'. -/
def fnExactCommonContinuationCard : Claim7 := { stood := { row := fnExactCommonContinuationRow, standIns := [], harness := (true, "1b425bcd47dcf37d78ef17ff3afdfffac424df250b2619ca989c85650bb81716"), looks := false }, kinds := [], alts := [], laidByText := true, laidKinds := [.data], laidTests := true, laidLooks := .later }
def FnExactCommonContinuationCardSaid : Prop := Claim7.holds Tryd.pinned (.plain (OpenSpec.ofChange fnExactCommonContinuationSpec)) fnExactCommonContinuationCard

/-- THE TIED CARD OF 'laws.FnExactCyclicReduction'. -/
def fnExactCyclicReductionCard : Claim7 := { stood := { row := fnExactCyclicReductionRow, standIns := [], harness := (true, "1b425bcd47dcf37d78ef17ff3afdfffac424df250b2619ca989c85650bb81716"), looks := false }, kinds := [], alts := [], laidByText := true, laidKinds := [.data], laidTests := true, laidLooks := .later }
def FnExactCyclicReductionCardSaid : Prop := Claim7.holds Tryd.pinned (.plain (OpenSpec.ofChange fnExactCyclicReductionSpec)) fnExactCyclicReductionCard

/-- THE TIED CARD OF 'laws.FnExactNextTrace'. -/
def fnExactNextTraceCard : Claim7 := { stood := { row := fnExactNextTraceRow, standIns := [], harness := (true, "1b425bcd47dcf37d78ef17ff3afdfffac424df250b2619ca989c85650bb81716"), looks := false }, kinds := [], alts := [], laidByText := true, laidKinds := [.data], laidTests := true, laidLooks := .later }
def FnExactNextTraceCardSaid : Prop := Claim7.holds Tryd.pinned (.plain (OpenSpec.ofChange fnExactNextTraceSpec)) fnExactNextTraceCard

/-- THE TIED CARD OF 'laws.FnExactRootOf'. -/
def fnExactRootOfCard : Claim7 := { stood := { row := fnExactRootOfRow, standIns := [], harness := (true, "1b425bcd47dcf37d78ef17ff3afdfffac424df250b2619ca989c85650bb81716"), looks := false }, kinds := [], alts := [], laidByText := true, laidKinds := [.data], laidTests := true, laidLooks := .later }
def FnExactRootOfCardSaid : Prop := Claim7.holds Tryd.pinned (.plain (OpenSpec.ofChange fnExactRootOfSpec)) fnExactRootOfCard

/-- THE TIED CARD OF 'laws.FnExactIsPrimitive'. -/
def fnExactIsPrimitiveCard : Claim7 := { stood := { row := fnExactIsPrimitiveRow, standIns := [], harness := (true, "1b425bcd47dcf37d78ef17ff3afdfffac424df250b2619ca989c85650bb81716"), looks := false }, kinds := [], alts := [], laidByText := true, laidKinds := [.data], laidTests := true, laidLooks := .later }
def FnExactIsPrimitiveCardSaid : Prop := Claim7.holds Tryd.pinned (.plain (OpenSpec.ofChange fnExactIsPrimitiveSpec)) fnExactIsPrimitiveCard

/-- THE TIED CARD OF 'laws.FnExactIsSystem'. -/
def fnExactIsSystemCard : Claim7 := { stood := { row := fnExactIsSystemRow, standIns := [], harness := (true, "1b425bcd47dcf37d78ef17ff3afdfffac424df250b2619ca989c85650bb81716"), looks := false }, kinds := [], alts := [], laidByText := true, laidKinds := [.data], laidTests := true, laidLooks := .later }
def FnExactIsSystemCardSaid : Prop := Claim7.holds Tryd.pinned (.plain (OpenSpec.ofChange fnExactIsSystemSpec)) fnExactIsSystemCard

/-- THE SECOND FORM's CARD OF 'laws.FnExactIsMorphism'. -/
def fnExactIsMorphismUptoCard : Claim7 := { stood := { row := fnExactIsMorphismUptoRow, standIns := [], harness := (true, "1b425bcd47dcf37d78ef17ff3afdfffac424df250b2619ca989c85650bb81716"), looks := false }, kinds := [], alts := [], laidByText := true, laidKinds := [.data], laidTests := true, laidLooks := .later }
def FnExactIsMorphismUptoCardSaid : Prop := Claim7.holds Tryd.pinned (.plain (OpenSpec.upto fnExactIsMorphismSpec)) fnExactIsMorphismUptoCard

/-- THE SECOND FORM's CARD OF 'laws.FnExactImageOf'. -/
def fnExactImageOfUptoCard : Claim7 := { stood := { row := fnExactImageOfUptoRow, standIns := [], harness := (true, "1b425bcd47dcf37d78ef17ff3afdfffac424df250b2619ca989c85650bb81716"), looks := false }, kinds := [], alts := [], laidByText := true, laidKinds := [.data], laidTests := true, laidLooks := .later }
def FnExactImageOfUptoCardSaid : Prop := Claim7.holds Tryd.pinned (.plain (OpenSpec.upto fnExactImageOfSpec)) fnExactImageOfUptoCard

/-- THE SECOND FORM's CARD OF 'laws.FnExactErasedLetters'. -/
def fnExactErasedLettersUptoCard : Claim7 := { stood := { row := fnExactErasedLettersUptoRow, standIns := [], harness := (true, "1b425bcd47dcf37d78ef17ff3afdfffac424df250b2619ca989c85650bb81716"), looks := false }, kinds := [], alts := [], laidByText := true, laidKinds := [.data], laidTests := true, laidLooks := .later }
def FnExactErasedLettersUptoCardSaid : Prop := Claim7.holds Tryd.pinned (.plain (OpenSpec.upto fnExactErasedLettersSpec)) fnExactErasedLettersUptoCard

/-- THE SECOND FORM's CARD OF 'laws.FnExactComposeMorphisms'. -/
def fnExactComposeMorphismsUptoCard : Claim7 := { stood := { row := fnExactComposeMorphismsUptoRow, standIns := [], harness := (true, "1b425bcd47dcf37d78ef17ff3afdfffac424df250b2619ca989c85650bb81716"), looks := false }, kinds := [], alts := [], laidByText := true, laidKinds := [.data], laidTests := true, laidLooks := .later }
def FnExactComposeMorphismsUptoCardSaid : Prop := Claim7.holds Tryd.pinned (.plain (OpenSpec.upto fnExactComposeMorphismsSpec)) fnExactComposeMorphismsUptoCard

/-- THE SECOND FORM's CARD OF 'laws.FnExactCommonContinuation'. -/
def fnExactCommonContinuationUptoCard : Claim7 := { stood := { row := fnExactCommonContinuationUptoRow, standIns := [], harness := (true, "1b425bcd47dcf37d78ef17ff3afdfffac424df250b2619ca989c85650bb81716"), looks := false }, kinds := [], alts := [], laidByText := true, laidKinds := [.data], laidTests := true, laidLooks := .later }
def FnExactCommonContinuationUptoCardSaid : Prop := Claim7.holds Tryd.pinned (.plain (OpenSpec.upto fnExactCommonContinuationSpec)) fnExactCommonContinuationUptoCard

/-- THE SECOND FORM's CARD OF 'laws.FnExactCyclicReduction'. -/
def fnExactCyclicReductionUptoCard : Claim7 := { stood := { row := fnExactCyclicReductionUptoRow, standIns := [], harness := (true, "1b425bcd47dcf37d78ef17ff3afdfffac424df250b2619ca989c85650bb81716"), looks := false }, kinds := [], alts := [], laidByText := true, laidKinds := [.data], laidTests := true, laidLooks := .later }
def FnExactCyclicReductionUptoCardSaid : Prop := Claim7.holds Tryd.pinned (.plain (OpenSpec.upto fnExactCyclicReductionSpec)) fnExactCyclicReductionUptoCard

/-- THE SECOND FORM's CARD OF 'laws.FnExactNextTrace'. -/
def fnExactNextTraceUptoCard : Claim7 := { stood := { row := fnExactNextTraceUptoRow, standIns := [], harness := (true, "1b425bcd47dcf37d78ef17ff3afdfffac424df250b2619ca989c85650bb81716"), looks := false }, kinds := [], alts := [], laidByText := true, laidKinds := [.data], laidTests := true, laidLooks := .later }
def FnExactNextTraceUptoCardSaid : Prop := Claim7.holds Tryd.pinned (.plain (OpenSpec.upto fnExactNextTraceSpec)) fnExactNextTraceUptoCard

/-- THE SECOND FORM's CARD OF 'laws.FnExactRootOf'. -/
def fnExactRootOfUptoCard : Claim7 := { stood := { row := fnExactRootOfUptoRow, standIns := [], harness := (true, "1b425bcd47dcf37d78ef17ff3afdfffac424df250b2619ca989c85650bb81716"), looks := false }, kinds := [], alts := [], laidByText := true, laidKinds := [.data], laidTests := true, laidLooks := .later }
def FnExactRootOfUptoCardSaid : Prop := Claim7.holds Tryd.pinned (.plain (OpenSpec.upto fnExactRootOfSpec)) fnExactRootOfUptoCard

/-- THE SECOND FORM's CARD OF 'laws.FnExactIsPrimitive'. -/
def fnExactIsPrimitiveUptoCard : Claim7 := { stood := { row := fnExactIsPrimitiveUptoRow, standIns := [], harness := (true, "1b425bcd47dcf37d78ef17ff3afdfffac424df250b2619ca989c85650bb81716"), looks := false }, kinds := [], alts := [], laidByText := true, laidKinds := [.data], laidTests := true, laidLooks := .later }
def FnExactIsPrimitiveUptoCardSaid : Prop := Claim7.holds Tryd.pinned (.plain (OpenSpec.upto fnExactIsPrimitiveSpec)) fnExactIsPrimitiveUptoCard

/-- THE SECOND FORM's CARD OF 'laws.FnExactIsSystem'. -/
def fnExactIsSystemUptoCard : Claim7 := { stood := { row := fnExactIsSystemUptoRow, standIns := [], harness := (true, "1b425bcd47dcf37d78ef17ff3afdfffac424df250b2619ca989c85650bb81716"), looks := false }, kinds := [], alts := [], laidByText := true, laidKinds := [.data], laidTests := true, laidLooks := .later }
def FnExactIsSystemUptoCardSaid : Prop := Claim7.holds Tryd.pinned (.plain (OpenSpec.upto fnExactIsSystemSpec)) fnExactIsSystemUptoCard
end Rows
end Go.Proofs.YtdafdffmkjhhcaaDoor

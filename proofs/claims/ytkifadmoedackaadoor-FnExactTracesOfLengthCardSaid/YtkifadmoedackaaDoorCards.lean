/-
  DERIVED. GIVEN WITH THE SEED: THE CARDS: each row of YtkifadmoedackaaDoorRows.lean that lists a variable, with what it lists TIED to the program's text (the seventh form; the later family's looks); each row that meets fmt, with fmt's text TOLD by the authors' own Lean function (tested against real Go, not proved from fmt's source: count such statements apart). THE CARD IS WHAT COUNTS. Prove the row's statement (the work); the ties are given (YtkifadmoedackaaDoorTie.lean); close each card by the builder's one call (the guide's Derived/Test/ToyasCard.lean, 'card_holds'). Laid BY PROGRAM, IN A SANDBOX (cutbox-door.mjs). By AI agents, Wed Nov 11 2026. No macro, syntax, notation, axiom, sorry.
-/
import Derived.Test.YtkifadmoedackaaDoorRows
import GoSem.ClaimSeven
namespace Go.Proofs.YtkifadmoedackaaDoor
namespace Rows

/-- THE TIED CARD OF 'laws.FnExactCliquePolynomial'. -/
def fnExactCliquePolynomialCard : Claim7 := { stood := { row := fnExactCliquePolynomialRow, standIns := [], harness := (true, "388ac03b93ba37b3a0a0e3536ab01a28409e30d5935172dad65fdb721309e241"), looks := false }, kinds := [], alts := [], laidByText := true, laidKinds := [.data], laidTests := true, laidLooks := .later }
def FnExactCliquePolynomialCardSaid : Prop := Claim7.holds Tryd.pinned (.plain (OpenSpec.ofChange fnExactCliquePolynomialSpec)) fnExactCliquePolynomialCard

/-- THE TIED CARD OF 'laws.FnExactCountOfContent'. -/
def fnExactCountOfContentCard : Claim7 := { stood := { row := fnExactCountOfContentRow, standIns := [], harness := (true, "388ac03b93ba37b3a0a0e3536ab01a28409e30d5935172dad65fdb721309e241"), looks := false }, kinds := [], alts := [], laidByText := true, laidKinds := [.data], laidTests := true, laidLooks := .later }
def FnExactCountOfContentCardSaid : Prop := Claim7.holds Tryd.pinned (.plain (OpenSpec.ofChange fnExactCountOfContentSpec)) fnExactCountOfContentCard

/-- THE TIED CARD OF 'laws.FnExactNextTrace'. -/
def fnExactNextTraceCard : Claim7 := { stood := { row := fnExactNextTraceRow, standIns := [], harness := (true, "388ac03b93ba37b3a0a0e3536ab01a28409e30d5935172dad65fdb721309e241"), looks := false }, kinds := [], alts := [], laidByText := true, laidKinds := [.data], laidTests := true, laidLooks := .later }
def FnExactNextTraceCardSaid : Prop := Claim7.holds Tryd.pinned (.plain (OpenSpec.ofChange fnExactNextTraceSpec)) fnExactNextTraceCard

/-- THE TIED CARD OF 'laws.FnExactCountTraces'. -/
def fnExactCountTracesCard : Claim7 := { stood := { row := fnExactCountTracesRow, standIns := [], harness := (true, "388ac03b93ba37b3a0a0e3536ab01a28409e30d5935172dad65fdb721309e241"), looks := false }, kinds := [], alts := [], laidByText := true, laidKinds := [.data], laidTests := true, laidLooks := .later }
def FnExactCountTracesCardSaid : Prop := Claim7.holds Tryd.pinned (.plain (OpenSpec.ofChange fnExactCountTracesSpec)) fnExactCountTracesCard

/-- THE TIED CARD OF 'laws.FnExactLeviOf'. -/
def fnExactLeviOfCard : Claim7 := { stood := { row := fnExactLeviOfRow, standIns := [], harness := (true, "388ac03b93ba37b3a0a0e3536ab01a28409e30d5935172dad65fdb721309e241"), looks := false }, kinds := [], alts := [], laidByText := true, laidKinds := [.data], laidTests := true, laidLooks := .later }
def FnExactLeviOfCardSaid : Prop := Claim7.holds Tryd.pinned (.plain (OpenSpec.ofChange fnExactLeviOfSpec)) fnExactLeviOfCard

/-- THE TIED CARD OF 'laws.FnExactTraceAtRank'. -/
def fnExactTraceAtRankCard : Claim7 := { stood := { row := fnExactTraceAtRankRow, standIns := [], harness := (true, "388ac03b93ba37b3a0a0e3536ab01a28409e30d5935172dad65fdb721309e241"), looks := false }, kinds := [], alts := [], laidByText := true, laidKinds := [.data], laidTests := true, laidLooks := .later }
def FnExactTraceAtRankCardSaid : Prop := Claim7.holds Tryd.pinned (.plain (OpenSpec.ofChange fnExactTraceAtRankSpec)) fnExactTraceAtRankCard

/-- THE TIED CARD OF 'laws.FnExactTracesOfLength'. -/
def fnExactTracesOfLengthCard : Claim7 := { stood := { row := fnExactTracesOfLengthRow, standIns := [], harness := (true, "388ac03b93ba37b3a0a0e3536ab01a28409e30d5935172dad65fdb721309e241"), looks := false }, kinds := [], alts := [], laidByText := true, laidKinds := [.data], laidTests := true, laidLooks := .later }
def FnExactTracesOfLengthCardSaid : Prop := Claim7.holds Tryd.pinned (.plain (OpenSpec.ofChange fnExactTracesOfLengthSpec)) fnExactTracesOfLengthCard

/-- THE TIED CARD OF 'laws.FnExactCountByFirst'. -/
def fnExactCountByFirstCard : Claim7 := { stood := { row := fnExactCountByFirstRow, standIns := [], harness := (true, "388ac03b93ba37b3a0a0e3536ab01a28409e30d5935172dad65fdb721309e241"), looks := false }, kinds := [], alts := [], laidByText := true, laidKinds := [.data], laidTests := true, laidLooks := .later }
def FnExactCountByFirstCardSaid : Prop := Claim7.holds Tryd.pinned (.plain (OpenSpec.ofChange fnExactCountByFirstSpec)) fnExactCountByFirstCard

/-- THE TIED CARD OF 'laws.FnExactCountByHeight'. -/
def fnExactCountByHeightCard : Claim7 := { stood := { row := fnExactCountByHeightRow, standIns := [], harness := (true, "388ac03b93ba37b3a0a0e3536ab01a28409e30d5935172dad65fdb721309e241"), looks := false }, kinds := [], alts := [], laidByText := true, laidKinds := [.data], laidTests := true, laidLooks := .later }
def FnExactCountByHeightCardSaid : Prop := Claim7.holds Tryd.pinned (.plain (OpenSpec.ofChange fnExactCountByHeightSpec)) fnExactCountByHeightCard

/-- THE TIED CARD OF 'laws.FnExactCommonContinuation'. -/
def fnExactCommonContinuationCard : Claim7 := { stood := { row := fnExactCommonContinuationRow, standIns := [], harness := (true, "388ac03b93ba37b3a0a0e3536ab01a28409e30d5935172dad65fdb721309e241"), looks := false }, kinds := [], alts := [], laidByText := true, laidKinds := [.data], laidTests := true, laidLooks := .later }
def FnExactCommonContinuationCardSaid : Prop := Claim7.holds Tryd.pinned (.plain (OpenSpec.ofChange fnExactCommonContinuationSpec)) fnExactCommonContinuationCard

/-- THE SECOND FORM's CARD OF 'laws.FnExactCliquePolynomial'. -/
def fnExactCliquePolynomialUptoCard : Claim7 := { stood := { row := fnExactCliquePolynomialUptoRow, standIns := [], harness := (true, "388ac03b93ba37b3a0a0e3536ab01a28409e30d5935172dad65fdb721309e241"), looks := false }, kinds := [], alts := [], laidByText := true, laidKinds := [.data], laidTests := true, laidLooks := .later }
def FnExactCliquePolynomialUptoCardSaid : Prop := Claim7.holds Tryd.pinned (.plain (OpenSpec.upto fnExactCliquePolynomialSpec)) fnExactCliquePolynomialUptoCard

/-- THE SECOND FORM's CARD OF 'laws.FnExactCountOfContent'. -/
def fnExactCountOfContentUptoCard : Claim7 := { stood := { row := fnExactCountOfContentUptoRow, standIns := [], harness := (true, "388ac03b93ba37b3a0a0e3536ab01a28409e30d5935172dad65fdb721309e241"), looks := false }, kinds := [], alts := [], laidByText := true, laidKinds := [.data], laidTests := true, laidLooks := .later }
def FnExactCountOfContentUptoCardSaid : Prop := Claim7.holds Tryd.pinned (.plain (OpenSpec.upto fnExactCountOfContentSpec)) fnExactCountOfContentUptoCard

/-- THE SECOND FORM's CARD OF 'laws.FnExactNextTrace'. -/
def fnExactNextTraceUptoCard : Claim7 := { stood := { row := fnExactNextTraceUptoRow, standIns := [], harness := (true, "388ac03b93ba37b3a0a0e3536ab01a28409e30d5935172dad65fdb721309e241"), looks := false }, kinds := [], alts := [], laidByText := true, laidKinds := [.data], laidTests := true, laidLooks := .later }
def FnExactNextTraceUptoCardSaid : Prop := Claim7.holds Tryd.pinned (.plain (OpenSpec.upto fnExactNextTraceSpec)) fnExactNextTraceUptoCard

/-- THE SECOND FORM's CARD OF 'laws.FnExactCountTraces'. -/
def fnExactCountTracesUptoCard : Claim7 := { stood := { row := fnExactCountTracesUptoRow, standIns := [], harness := (true, "388ac03b93ba37b3a0a0e3536ab01a28409e30d5935172dad65fdb721309e241"), looks := false }, kinds := [], alts := [], laidByText := true, laidKinds := [.data], laidTests := true, laidLooks := .later }
def FnExactCountTracesUptoCardSaid : Prop := Claim7.holds Tryd.pinned (.plain (OpenSpec.upto fnExactCountTracesSpec)) fnExactCountTracesUptoCard

/-- THE SECOND FORM's CARD OF 'laws.FnExactLeviOf'. -/
def fnExactLeviOfUptoCard : Claim7 := { stood := { row := fnExactLeviOfUptoRow, standIns := [], harness := (true, "388ac03b93ba37b3a0a0e3536ab01a28409e30d5935172dad65fdb721309e241"), looks := false }, kinds := [], alts := [], laidByText := true, laidKinds := [.data], laidTests := true, laidLooks := .later }
def FnExactLeviOfUptoCardSaid : Prop := Claim7.holds Tryd.pinned (.plain (OpenSpec.upto fnExactLeviOfSpec)) fnExactLeviOfUptoCard

/-- THE SECOND FORM's CARD OF 'laws.FnExactTraceAtRank'. -/
def fnExactTraceAtRankUptoCard : Claim7 := { stood := { row := fnExactTraceAtRankUptoRow, standIns := [], harness := (true, "388ac03b93ba37b3a0a0e3536ab01a28409e30d5935172dad65fdb721309e241"), looks := false }, kinds := [], alts := [], laidByText := true, laidKinds := [.data], laidTests := true, laidLooks := .later }
def FnExactTraceAtRankUptoCardSaid : Prop := Claim7.holds Tryd.pinned (.plain (OpenSpec.upto fnExactTraceAtRankSpec)) fnExactTraceAtRankUptoCard

/-- THE SECOND FORM's CARD OF 'laws.FnExactTracesOfLength'. -/
def fnExactTracesOfLengthUptoCard : Claim7 := { stood := { row := fnExactTracesOfLengthUptoRow, standIns := [], harness := (true, "388ac03b93ba37b3a0a0e3536ab01a28409e30d5935172dad65fdb721309e241"), looks := false }, kinds := [], alts := [], laidByText := true, laidKinds := [.data], laidTests := true, laidLooks := .later }
def FnExactTracesOfLengthUptoCardSaid : Prop := Claim7.holds Tryd.pinned (.plain (OpenSpec.upto fnExactTracesOfLengthSpec)) fnExactTracesOfLengthUptoCard

/-- THE SECOND FORM's CARD OF 'laws.FnExactCountByFirst'. -/
def fnExactCountByFirstUptoCard : Claim7 := { stood := { row := fnExactCountByFirstUptoRow, standIns := [], harness := (true, "388ac03b93ba37b3a0a0e3536ab01a28409e30d5935172dad65fdb721309e241"), looks := false }, kinds := [], alts := [], laidByText := true, laidKinds := [.data], laidTests := true, laidLooks := .later }
def FnExactCountByFirstUptoCardSaid : Prop := Claim7.holds Tryd.pinned (.plain (OpenSpec.upto fnExactCountByFirstSpec)) fnExactCountByFirstUptoCard

/-- THE SECOND FORM's CARD OF 'laws.FnExactCountByHeight'. -/
def fnExactCountByHeightUptoCard : Claim7 := { stood := { row := fnExactCountByHeightUptoRow, standIns := [], harness := (true, "388ac03b93ba37b3a0a0e3536ab01a28409e30d5935172dad65fdb721309e241"), looks := false }, kinds := [], alts := [], laidByText := true, laidKinds := [.data], laidTests := true, laidLooks := .later }
def FnExactCountByHeightUptoCardSaid : Prop := Claim7.holds Tryd.pinned (.plain (OpenSpec.upto fnExactCountByHeightSpec)) fnExactCountByHeightUptoCard

/-- THE SECOND FORM's CARD OF 'laws.FnExactCommonContinuation'. -/
def fnExactCommonContinuationUptoCard : Claim7 := { stood := { row := fnExactCommonContinuationUptoRow, standIns := [], harness := (true, "388ac03b93ba37b3a0a0e3536ab01a28409e30d5935172dad65fdb721309e241"), looks := false }, kinds := [], alts := [], laidByText := true, laidKinds := [.data], laidTests := true, laidLooks := .later }
def FnExactCommonContinuationUptoCardSaid : Prop := Claim7.holds Tryd.pinned (.plain (OpenSpec.upto fnExactCommonContinuationSpec)) fnExactCommonContinuationUptoCard
end Rows
end Go.Proofs.YtkifadmoedackaaDoor

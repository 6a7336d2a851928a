/-
  DERIVED. GIVEN WITH THE SEED: THE CARDS: each row of YtpcgjldcdjlenaaDoorRows.lean that lists a variable, with what it lists TIED to the program's text (the seventh form; the later family's looks); each row that meets fmt, with fmt's text TOLD by the authors' own Lean function (tested against real Go, not proved from fmt's source: count such statements apart). THE CARD IS WHAT COUNTS. Prove the row's statement (the work); the ties are given (YtpcgjldcdjlenaaDoorTie.lean); close each card by the builder's one call (the guide's Derived/Test/ToyasCard.lean, 'card_holds'). Laid BY PROGRAM, IN A SANDBOX (cutbox-door.mjs). By AI agents, Wed Nov 11 2026. No macro, syntax, notation, axiom, sorry.
-/
import Derived.Test.YtpcgjldcdjlenaaDoorRows
import GoSem.ClaimSeven
namespace Go.Proofs.YtpcgjldcdjlenaaDoor
namespace Rows

/-- THE TIED CARD OF 'laws.FnExactNormalForm'. -/
def fnExactNormalFormCard : Claim7 := { stood := { row := fnExactNormalFormRow, standIns := [], harness := (true, "96cb6f711052a1b379da3a6735539a4fc7ebbb8e192474cd9312b7f047380dbf"), looks := false }, kinds := [], alts := [], laidByText := true, laidKinds := [.data], laidTests := true, laidLooks := .later }
def FnExactNormalFormCardSaid : Prop := Claim7.holds Tryd.pinned (.plain (OpenSpec.ofChange fnExactNormalFormSpec)) fnExactNormalFormCard

/-- THE TIED CARD OF 'laws.FnExactReverseOf'. -/
def fnExactReverseOfCard : Claim7 := { stood := { row := fnExactReverseOfRow, standIns := [], harness := (true, "96cb6f711052a1b379da3a6735539a4fc7ebbb8e192474cd9312b7f047380dbf"), looks := false }, kinds := [], alts := [], laidByText := true, laidKinds := [.data], laidTests := true, laidLooks := .later }
def FnExactReverseOfCardSaid : Prop := Claim7.holds Tryd.pinned (.plain (OpenSpec.ofChange fnExactReverseOfSpec)) fnExactReverseOfCard

/-- THE TIED CARD OF 'laws.FnExactProjectionOf'. -/
def fnExactProjectionOfCard : Claim7 := { stood := { row := fnExactProjectionOfRow, standIns := [], harness := (true, "96cb6f711052a1b379da3a6735539a4fc7ebbb8e192474cd9312b7f047380dbf"), looks := false }, kinds := [], alts := [], laidByText := true, laidKinds := [.data], laidTests := true, laidLooks := .later }
def FnExactProjectionOfCardSaid : Prop := Claim7.holds Tryd.pinned (.plain (OpenSpec.ofChange fnExactProjectionOfSpec)) fnExactProjectionOfCard

/-- THE TIED CARD OF 'laws.FnExactAreSameTrace'. -/
def fnExactAreSameTraceCard : Claim7 := { stood := { row := fnExactAreSameTraceRow, standIns := [], harness := (true, "96cb6f711052a1b379da3a6735539a4fc7ebbb8e192474cd9312b7f047380dbf"), looks := false }, kinds := [], alts := [], laidByText := true, laidKinds := [.data], laidTests := true, laidLooks := .later }
def FnExactAreSameTraceCardSaid : Prop := Claim7.holds Tryd.pinned (.plain (OpenSpec.ofChange fnExactAreSameTraceSpec)) fnExactAreSameTraceCard

/-- THE TIED CARD OF 'laws.FnExactWordOfFoata'. -/
def fnExactWordOfFoataCard : Claim7 := { stood := { row := fnExactWordOfFoataRow, standIns := [], harness := (true, "96cb6f711052a1b379da3a6735539a4fc7ebbb8e192474cd9312b7f047380dbf"), looks := false }, kinds := [], alts := [], laidByText := true, laidKinds := [.data], laidTests := true, laidLooks := .later }
def FnExactWordOfFoataCardSaid : Prop := Claim7.holds Tryd.pinned (.plain (OpenSpec.ofChange fnExactWordOfFoataSpec)) fnExactWordOfFoataCard

/-- THE TIED CARD OF 'laws.FnExactIsFoataForm'. -/
def fnExactIsFoataFormCard : Claim7 := { stood := { row := fnExactIsFoataFormRow, standIns := [], harness := (true, "96cb6f711052a1b379da3a6735539a4fc7ebbb8e192474cd9312b7f047380dbf"), looks := false }, kinds := [], alts := [], laidByText := true, laidKinds := [.data], laidTests := true, laidLooks := .later }
def FnExactIsFoataFormCardSaid : Prop := Claim7.holds Tryd.pinned (.plain (OpenSpec.ofChange fnExactIsFoataFormSpec)) fnExactIsFoataFormCard

/-- THE TIED CARD OF 'laws.FnExactHeightOf'. -/
def fnExactHeightOfCard : Claim7 := { stood := { row := fnExactHeightOfRow, standIns := [], harness := (true, "96cb6f711052a1b379da3a6735539a4fc7ebbb8e192474cd9312b7f047380dbf"), looks := false }, kinds := [], alts := [], laidByText := true, laidKinds := [.data], laidTests := true, laidLooks := .later }
def FnExactHeightOfCardSaid : Prop := Claim7.holds Tryd.pinned (.plain (OpenSpec.ofChange fnExactHeightOfSpec)) fnExactHeightOfCard

/-- THE TIED CARD OF 'laws.FnExactOrderOf'. -/
def fnExactOrderOfCard : Claim7 := { stood := { row := fnExactOrderOfRow, standIns := [], harness := (true, "96cb6f711052a1b379da3a6735539a4fc7ebbb8e192474cd9312b7f047380dbf"), looks := false }, kinds := [], alts := [], laidByText := true, laidKinds := [.data], laidTests := true, laidLooks := .later }
def FnExactOrderOfCardSaid : Prop := Claim7.holds Tryd.pinned (.plain (OpenSpec.ofChange fnExactOrderOfSpec)) fnExactOrderOfCard

/-- THE TIED CARD OF 'laws.FnExactPastOf'. -/
def fnExactPastOfCard : Claim7 := { stood := { row := fnExactPastOfRow, standIns := [], harness := (true, "96cb6f711052a1b379da3a6735539a4fc7ebbb8e192474cd9312b7f047380dbf"), looks := false }, kinds := [], alts := [], laidByText := true, laidKinds := [.data], laidTests := true, laidLooks := .later }
def FnExactPastOfCardSaid : Prop := Claim7.holds Tryd.pinned (.plain (OpenSpec.ofChange fnExactPastOfSpec)) fnExactPastOfCard

/-- THE TIED CARD OF 'laws.FnExactConcurrentWith'. -/
def fnExactConcurrentWithCard : Claim7 := { stood := { row := fnExactConcurrentWithRow, standIns := [], harness := (true, "96cb6f711052a1b379da3a6735539a4fc7ebbb8e192474cd9312b7f047380dbf"), looks := false }, kinds := [], alts := [], laidByText := true, laidKinds := [.data], laidTests := true, laidLooks := .later }
def FnExactConcurrentWithCardSaid : Prop := Claim7.holds Tryd.pinned (.plain (OpenSpec.ofChange fnExactConcurrentWithSpec)) fnExactConcurrentWithCard

/-- THE TIED CARD OF 'laws.FnExactFirstLetters'. -/
def fnExactFirstLettersCard : Claim7 := { stood := { row := fnExactFirstLettersRow, standIns := [], harness := (true, "96cb6f711052a1b379da3a6735539a4fc7ebbb8e192474cd9312b7f047380dbf"), looks := false }, kinds := [], alts := [], laidByText := true, laidKinds := [.data], laidTests := true, laidLooks := .later }
def FnExactFirstLettersCardSaid : Prop := Claim7.holds Tryd.pinned (.plain (OpenSpec.ofChange fnExactFirstLettersSpec)) fnExactFirstLettersCard

/-- THE TIED CARD OF 'laws.FnExactLastLetters'. -/
def fnExactLastLettersCard : Claim7 := { stood := { row := fnExactLastLettersRow, standIns := [], harness := (true, "96cb6f711052a1b379da3a6735539a4fc7ebbb8e192474cd9312b7f047380dbf"), looks := false }, kinds := [], alts := [], laidByText := true, laidKinds := [.data], laidTests := true, laidLooks := .later }
def FnExactLastLettersCardSaid : Prop := Claim7.holds Tryd.pinned (.plain (OpenSpec.ofChange fnExactLastLettersSpec)) fnExactLastLettersCard

/-- THE SECOND FORM's CARD OF 'laws.FnExactNormalForm'. -/
def fnExactNormalFormUptoCard : Claim7 := { stood := { row := fnExactNormalFormUptoRow, standIns := [], harness := (true, "96cb6f711052a1b379da3a6735539a4fc7ebbb8e192474cd9312b7f047380dbf"), looks := false }, kinds := [], alts := [], laidByText := true, laidKinds := [.data], laidTests := true, laidLooks := .later }
def FnExactNormalFormUptoCardSaid : Prop := Claim7.holds Tryd.pinned (.plain (OpenSpec.upto fnExactNormalFormSpec)) fnExactNormalFormUptoCard

/-- THE SECOND FORM's CARD OF 'laws.FnExactReverseOf'. -/
def fnExactReverseOfUptoCard : Claim7 := { stood := { row := fnExactReverseOfUptoRow, standIns := [], harness := (true, "96cb6f711052a1b379da3a6735539a4fc7ebbb8e192474cd9312b7f047380dbf"), looks := false }, kinds := [], alts := [], laidByText := true, laidKinds := [.data], laidTests := true, laidLooks := .later }
def FnExactReverseOfUptoCardSaid : Prop := Claim7.holds Tryd.pinned (.plain (OpenSpec.upto fnExactReverseOfSpec)) fnExactReverseOfUptoCard

/-- THE SECOND FORM's CARD OF 'laws.FnExactProjectionOf'. -/
def fnExactProjectionOfUptoCard : Claim7 := { stood := { row := fnExactProjectionOfUptoRow, standIns := [], harness := (true, "96cb6f711052a1b379da3a6735539a4fc7ebbb8e192474cd9312b7f047380dbf"), looks := false }, kinds := [], alts := [], laidByText := true, laidKinds := [.data], laidTests := true, laidLooks := .later }
def FnExactProjectionOfUptoCardSaid : Prop := Claim7.holds Tryd.pinned (.plain (OpenSpec.upto fnExactProjectionOfSpec)) fnExactProjectionOfUptoCard

/-- THE SECOND FORM's CARD OF 'laws.FnExactAreSameTrace'. -/
def fnExactAreSameTraceUptoCard : Claim7 := { stood := { row := fnExactAreSameTraceUptoRow, standIns := [], harness := (true, "96cb6f711052a1b379da3a6735539a4fc7ebbb8e192474cd9312b7f047380dbf"), looks := false }, kinds := [], alts := [], laidByText := true, laidKinds := [.data], laidTests := true, laidLooks := .later }
def FnExactAreSameTraceUptoCardSaid : Prop := Claim7.holds Tryd.pinned (.plain (OpenSpec.upto fnExactAreSameTraceSpec)) fnExactAreSameTraceUptoCard

/-- THE SECOND FORM's CARD OF 'laws.FnExactWordOfFoata'. -/
def fnExactWordOfFoataUptoCard : Claim7 := { stood := { row := fnExactWordOfFoataUptoRow, standIns := [], harness := (true, "96cb6f711052a1b379da3a6735539a4fc7ebbb8e192474cd9312b7f047380dbf"), looks := false }, kinds := [], alts := [], laidByText := true, laidKinds := [.data], laidTests := true, laidLooks := .later }
def FnExactWordOfFoataUptoCardSaid : Prop := Claim7.holds Tryd.pinned (.plain (OpenSpec.upto fnExactWordOfFoataSpec)) fnExactWordOfFoataUptoCard

/-- THE SECOND FORM's CARD OF 'laws.FnExactIsFoataForm'. -/
def fnExactIsFoataFormUptoCard : Claim7 := { stood := { row := fnExactIsFoataFormUptoRow, standIns := [], harness := (true, "96cb6f711052a1b379da3a6735539a4fc7ebbb8e192474cd9312b7f047380dbf"), looks := false }, kinds := [], alts := [], laidByText := true, laidKinds := [.data], laidTests := true, laidLooks := .later }
def FnExactIsFoataFormUptoCardSaid : Prop := Claim7.holds Tryd.pinned (.plain (OpenSpec.upto fnExactIsFoataFormSpec)) fnExactIsFoataFormUptoCard

/-- THE SECOND FORM's CARD OF 'laws.FnExactHeightOf'. -/
def fnExactHeightOfUptoCard : Claim7 := { stood := { row := fnExactHeightOfUptoRow, standIns := [], harness := (true, "96cb6f711052a1b379da3a6735539a4fc7ebbb8e192474cd9312b7f047380dbf"), looks := false }, kinds := [], alts := [], laidByText := true, laidKinds := [.data], laidTests := true, laidLooks := .later }
def FnExactHeightOfUptoCardSaid : Prop := Claim7.holds Tryd.pinned (.plain (OpenSpec.upto fnExactHeightOfSpec)) fnExactHeightOfUptoCard

/-- THE SECOND FORM's CARD OF 'laws.FnExactOrderOf'. -/
def fnExactOrderOfUptoCard : Claim7 := { stood := { row := fnExactOrderOfUptoRow, standIns := [], harness := (true, "96cb6f711052a1b379da3a6735539a4fc7ebbb8e192474cd9312b7f047380dbf"), looks := false }, kinds := [], alts := [], laidByText := true, laidKinds := [.data], laidTests := true, laidLooks := .later }
def FnExactOrderOfUptoCardSaid : Prop := Claim7.holds Tryd.pinned (.plain (OpenSpec.upto fnExactOrderOfSpec)) fnExactOrderOfUptoCard

/-- THE SECOND FORM's CARD OF 'laws.FnExactPastOf'. -/
def fnExactPastOfUptoCard : Claim7 := { stood := { row := fnExactPastOfUptoRow, standIns := [], harness := (true, "96cb6f711052a1b379da3a6735539a4fc7ebbb8e192474cd9312b7f047380dbf"), looks := false }, kinds := [], alts := [], laidByText := true, laidKinds := [.data], laidTests := true, laidLooks := .later }
def FnExactPastOfUptoCardSaid : Prop := Claim7.holds Tryd.pinned (.plain (OpenSpec.upto fnExactPastOfSpec)) fnExactPastOfUptoCard

/-- THE SECOND FORM's CARD OF 'laws.FnExactConcurrentWith'. -/
def fnExactConcurrentWithUptoCard : Claim7 := { stood := { row := fnExactConcurrentWithUptoRow, standIns := [], harness := (true, "96cb6f711052a1b379da3a6735539a4fc7ebbb8e192474cd9312b7f047380dbf"), looks := false }, kinds := [], alts := [], laidByText := true, laidKinds := [.data], laidTests := true, laidLooks := .later }
def FnExactConcurrentWithUptoCardSaid : Prop := Claim7.holds Tryd.pinned (.plain (OpenSpec.upto fnExactConcurrentWithSpec)) fnExactConcurrentWithUptoCard

/-- THE SECOND FORM's CARD OF 'laws.FnExactFirstLetters'. -/
def fnExactFirstLettersUptoCard : Claim7 := { stood := { row := fnExactFirstLettersUptoRow, standIns := [], harness := (true, "96cb6f711052a1b379da3a6735539a4fc7ebbb8e192474cd9312b7f047380dbf"), looks := false }, kinds := [], alts := [], laidByText := true, laidKinds := [.data], laidTests := true, laidLooks := .later }
def FnExactFirstLettersUptoCardSaid : Prop := Claim7.holds Tryd.pinned (.plain (OpenSpec.upto fnExactFirstLettersSpec)) fnExactFirstLettersUptoCard

/-- THE SECOND FORM's CARD OF 'laws.FnExactLastLetters'. -/
def fnExactLastLettersUptoCard : Claim7 := { stood := { row := fnExactLastLettersUptoRow, standIns := [], harness := (true, "96cb6f711052a1b379da3a6735539a4fc7ebbb8e192474cd9312b7f047380dbf"), looks := false }, kinds := [], alts := [], laidByText := true, laidKinds := [.data], laidTests := true, laidLooks := .later }
def FnExactLastLettersUptoCardSaid : Prop := Claim7.holds Tryd.pinned (.plain (OpenSpec.upto fnExactLastLettersSpec)) fnExactLastLettersUptoCard
end Rows
end Go.Proofs.YtpcgjldcdjlenaaDoor

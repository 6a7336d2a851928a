/-
  DERIVED. GIVEN WITH THE SEED: THE CARDS: each row of YtokikilfmglhhaaDoorRows.lean that lists a variable, with what it lists TIED to the program's text (the seventh form; the later family's looks); each row that meets fmt, with fmt's text TOLD by the authors' own Lean function (tested against real Go, not proved from fmt's source: count such statements apart). THE CARD IS WHAT COUNTS. Prove the row's statement (the work); the ties are given (YtokikilfmglhhaaDoorTie.lean); close each card by the builder's one call (the guide's Derived/Test/ToyasCard.lean, 'card_holds'). Laid BY PROGRAM, IN A SANDBOX (cutbox-door.mjs). By AI agents, Wed Nov 11 2026. No macro, syntax, notation, axiom, sorry.
-/
import Derived.Test.YtokikilfmglhhaaDoorRows
import GoSem.ClaimSeven
namespace Go.Proofs.YtokikilfmglhhaaDoor
namespace Rows

/-- THE TIED CARD OF 'laws.FnTraceForms'. -/
def fnTraceFormsCard : Claim7 := { stood := { row := fnTraceFormsRow, standIns := [], harness := (true, "f09e14d8d021c472efa5a46f3721edcaefc00883d0020957793d06adcc5d942a"), looks := false }, kinds := [], alts := [], laidByText := true, laidKinds := [.data], laidTests := true, laidLooks := .later }
def FnTraceFormsCardSaid : Prop := Claim7.holds Tryd.pinned (.plain (OpenSpec.ofChange fnTraceFormsSpec)) fnTraceFormsCard

/-- THE TIED CARD OF 'laws.FnSameTraces'. -/
def fnSameTracesCard : Claim7 := { stood := { row := fnSameTracesRow, standIns := [], harness := (true, "f09e14d8d021c472efa5a46f3721edcaefc00883d0020957793d06adcc5d942a"), looks := false }, kinds := [], alts := [], laidByText := true, laidKinds := [.data], laidTests := true, laidLooks := .later }
def FnSameTracesCardSaid : Prop := Claim7.holds Tryd.pinned (.plain (OpenSpec.ofChange fnSameTracesSpec)) fnSameTracesCard

/-- THE TIED CARD OF 'laws.FnExactAreCommuting'. -/
def fnExactAreCommutingCard : Claim7 := { stood := { row := fnExactAreCommutingRow, standIns := [], harness := (true, "f09e14d8d021c472efa5a46f3721edcaefc00883d0020957793d06adcc5d942a"), looks := false }, kinds := [], alts := [], laidByText := true, laidKinds := [.data], laidTests := true, laidLooks := .later }
def FnExactAreCommutingCardSaid : Prop := Claim7.holds Tryd.pinned (.plain (OpenSpec.ofChange fnExactAreCommutingSpec)) fnExactAreCommutingCard

/-- THE TIED CARD OF 'laws.FnExactPowerOf'. -/
def fnExactPowerOfCard : Claim7 := { stood := { row := fnExactPowerOfRow, standIns := [], harness := (true, "f09e14d8d021c472efa5a46f3721edcaefc00883d0020957793d06adcc5d942a"), looks := false }, kinds := [], alts := [], laidByText := true, laidKinds := [.data], laidTests := true, laidLooks := .later }
def FnExactPowerOfCardSaid : Prop := Claim7.holds Tryd.pinned (.plain (OpenSpec.ofChange fnExactPowerOfSpec)) fnExactPowerOfCard

/-- THE TIED CARD OF 'laws.FnExactRootOf'. -/
def fnExactRootOfCard : Claim7 := { stood := { row := fnExactRootOfRow, standIns := [], harness := (true, "f09e14d8d021c472efa5a46f3721edcaefc00883d0020957793d06adcc5d942a"), looks := false }, kinds := [], alts := [], laidByText := true, laidKinds := [.data], laidTests := true, laidLooks := .later }
def FnExactRootOfCardSaid : Prop := Claim7.holds Tryd.pinned (.plain (OpenSpec.ofChange fnExactRootOfSpec)) fnExactRootOfCard

/-- THE TIED CARD OF 'laws.FnExactIsPrimitive'. -/
def fnExactIsPrimitiveCard : Claim7 := { stood := { row := fnExactIsPrimitiveRow, standIns := [], harness := (true, "f09e14d8d021c472efa5a46f3721edcaefc00883d0020957793d06adcc5d942a"), looks := false }, kinds := [], alts := [], laidByText := true, laidKinds := [.data], laidTests := true, laidLooks := .later }
def FnExactIsPrimitiveCardSaid : Prop := Claim7.holds Tryd.pinned (.plain (OpenSpec.ofChange fnExactIsPrimitiveSpec)) fnExactIsPrimitiveCard

/-- THE TIED CARD OF 'laws.FnExactRotateBy'. -/
def fnExactRotateByCard : Claim7 := { stood := { row := fnExactRotateByRow, standIns := [], harness := (true, "f09e14d8d021c472efa5a46f3721edcaefc00883d0020957793d06adcc5d942a"), looks := false }, kinds := [], alts := [], laidByText := true, laidKinds := [.data], laidTests := true, laidLooks := .later }
def FnExactRotateByCardSaid : Prop := Claim7.holds Tryd.pinned (.plain (OpenSpec.ofChange fnExactRotateBySpec)) fnExactRotateByCard

/-- THE TIED CARD OF 'laws.FnExactCountLyndon'. -/
def fnExactCountLyndonCard : Claim7 := { stood := { row := fnExactCountLyndonRow, standIns := [], harness := (true, "f09e14d8d021c472efa5a46f3721edcaefc00883d0020957793d06adcc5d942a"), looks := false }, kinds := [], alts := [], laidByText := true, laidKinds := [.data], laidTests := true, laidLooks := .later }
def FnExactCountLyndonCardSaid : Prop := Claim7.holds Tryd.pinned (.plain (OpenSpec.ofChange fnExactCountLyndonSpec)) fnExactCountLyndonCard

/-- THE TIED CARD OF 'laws.FnExactIsConnectedTrace'. -/
def fnExactIsConnectedTraceCard : Claim7 := { stood := { row := fnExactIsConnectedTraceRow, standIns := [], harness := (true, "f09e14d8d021c472efa5a46f3721edcaefc00883d0020957793d06adcc5d942a"), looks := false }, kinds := [], alts := [], laidByText := true, laidKinds := [.data], laidTests := true, laidLooks := .later }
def FnExactIsConnectedTraceCardSaid : Prop := Claim7.holds Tryd.pinned (.plain (OpenSpec.ofChange fnExactIsConnectedTraceSpec)) fnExactIsConnectedTraceCard

/-- THE TIED CARD OF 'laws.FnExactTraceComponents'. -/
def fnExactTraceComponentsCard : Claim7 := { stood := { row := fnExactTraceComponentsRow, standIns := [], harness := (true, "f09e14d8d021c472efa5a46f3721edcaefc00883d0020957793d06adcc5d942a"), looks := false }, kinds := [], alts := [], laidByText := true, laidKinds := [.data], laidTests := true, laidLooks := .later }
def FnExactTraceComponentsCardSaid : Prop := Claim7.holds Tryd.pinned (.plain (OpenSpec.ofChange fnExactTraceComponentsSpec)) fnExactTraceComponentsCard

/-- THE TIED CARD OF 'laws.FnExactNextTrace'. -/
def fnExactNextTraceCard : Claim7 := { stood := { row := fnExactNextTraceRow, standIns := [], harness := (true, "f09e14d8d021c472efa5a46f3721edcaefc00883d0020957793d06adcc5d942a"), looks := false }, kinds := [], alts := [], laidByText := true, laidKinds := [.data], laidTests := true, laidLooks := .later }
def FnExactNextTraceCardSaid : Prop := Claim7.holds Tryd.pinned (.plain (OpenSpec.ofChange fnExactNextTraceSpec)) fnExactNextTraceCard

/-- THE SECOND FORM's CARD OF 'laws.FnTraceForms'. -/
def fnTraceFormsUptoCard : Claim7 := { stood := { row := fnTraceFormsUptoRow, standIns := [], harness := (true, "f09e14d8d021c472efa5a46f3721edcaefc00883d0020957793d06adcc5d942a"), looks := false }, kinds := [], alts := [], laidByText := true, laidKinds := [.data], laidTests := true, laidLooks := .later }
def FnTraceFormsUptoCardSaid : Prop := Claim7.holds Tryd.pinned (.plain (OpenSpec.upto fnTraceFormsSpec)) fnTraceFormsUptoCard

/-- THE SECOND FORM's CARD OF 'laws.FnSameTraces'. -/
def fnSameTracesUptoCard : Claim7 := { stood := { row := fnSameTracesUptoRow, standIns := [], harness := (true, "f09e14d8d021c472efa5a46f3721edcaefc00883d0020957793d06adcc5d942a"), looks := false }, kinds := [], alts := [], laidByText := true, laidKinds := [.data], laidTests := true, laidLooks := .later }
def FnSameTracesUptoCardSaid : Prop := Claim7.holds Tryd.pinned (.plain (OpenSpec.upto fnSameTracesSpec)) fnSameTracesUptoCard

/-- THE SECOND FORM's CARD OF 'laws.FnExactAreCommuting'. -/
def fnExactAreCommutingUptoCard : Claim7 := { stood := { row := fnExactAreCommutingUptoRow, standIns := [], harness := (true, "f09e14d8d021c472efa5a46f3721edcaefc00883d0020957793d06adcc5d942a"), looks := false }, kinds := [], alts := [], laidByText := true, laidKinds := [.data], laidTests := true, laidLooks := .later }
def FnExactAreCommutingUptoCardSaid : Prop := Claim7.holds Tryd.pinned (.plain (OpenSpec.upto fnExactAreCommutingSpec)) fnExactAreCommutingUptoCard

/-- THE SECOND FORM's CARD OF 'laws.FnExactPowerOf'. -/
def fnExactPowerOfUptoCard : Claim7 := { stood := { row := fnExactPowerOfUptoRow, standIns := [], harness := (true, "f09e14d8d021c472efa5a46f3721edcaefc00883d0020957793d06adcc5d942a"), looks := false }, kinds := [], alts := [], laidByText := true, laidKinds := [.data], laidTests := true, laidLooks := .later }
def FnExactPowerOfUptoCardSaid : Prop := Claim7.holds Tryd.pinned (.plain (OpenSpec.upto fnExactPowerOfSpec)) fnExactPowerOfUptoCard

/-- THE SECOND FORM's CARD OF 'laws.FnExactRootOf'. -/
def fnExactRootOfUptoCard : Claim7 := { stood := { row := fnExactRootOfUptoRow, standIns := [], harness := (true, "f09e14d8d021c472efa5a46f3721edcaefc00883d0020957793d06adcc5d942a"), looks := false }, kinds := [], alts := [], laidByText := true, laidKinds := [.data], laidTests := true, laidLooks := .later }
def FnExactRootOfUptoCardSaid : Prop := Claim7.holds Tryd.pinned (.plain (OpenSpec.upto fnExactRootOfSpec)) fnExactRootOfUptoCard

/-- THE SECOND FORM's CARD OF 'laws.FnExactIsPrimitive'. -/
def fnExactIsPrimitiveUptoCard : Claim7 := { stood := { row := fnExactIsPrimitiveUptoRow, standIns := [], harness := (true, "f09e14d8d021c472efa5a46f3721edcaefc00883d0020957793d06adcc5d942a"), looks := false }, kinds := [], alts := [], laidByText := true, laidKinds := [.data], laidTests := true, laidLooks := .later }
def FnExactIsPrimitiveUptoCardSaid : Prop := Claim7.holds Tryd.pinned (.plain (OpenSpec.upto fnExactIsPrimitiveSpec)) fnExactIsPrimitiveUptoCard

/-- THE SECOND FORM's CARD OF 'laws.FnExactRotateBy'. -/
def fnExactRotateByUptoCard : Claim7 := { stood := { row := fnExactRotateByUptoRow, standIns := [], harness := (true, "f09e14d8d021c472efa5a46f3721edcaefc00883d0020957793d06adcc5d942a"), looks := false }, kinds := [], alts := [], laidByText := true, laidKinds := [.data], laidTests := true, laidLooks := .later }
def FnExactRotateByUptoCardSaid : Prop := Claim7.holds Tryd.pinned (.plain (OpenSpec.upto fnExactRotateBySpec)) fnExactRotateByUptoCard

/-- THE SECOND FORM's CARD OF 'laws.FnExactCountLyndon'. -/
def fnExactCountLyndonUptoCard : Claim7 := { stood := { row := fnExactCountLyndonUptoRow, standIns := [], harness := (true, "f09e14d8d021c472efa5a46f3721edcaefc00883d0020957793d06adcc5d942a"), looks := false }, kinds := [], alts := [], laidByText := true, laidKinds := [.data], laidTests := true, laidLooks := .later }
def FnExactCountLyndonUptoCardSaid : Prop := Claim7.holds Tryd.pinned (.plain (OpenSpec.upto fnExactCountLyndonSpec)) fnExactCountLyndonUptoCard

/-- THE SECOND FORM's CARD OF 'laws.FnExactIsConnectedTrace'. -/
def fnExactIsConnectedTraceUptoCard : Claim7 := { stood := { row := fnExactIsConnectedTraceUptoRow, standIns := [], harness := (true, "f09e14d8d021c472efa5a46f3721edcaefc00883d0020957793d06adcc5d942a"), looks := false }, kinds := [], alts := [], laidByText := true, laidKinds := [.data], laidTests := true, laidLooks := .later }
def FnExactIsConnectedTraceUptoCardSaid : Prop := Claim7.holds Tryd.pinned (.plain (OpenSpec.upto fnExactIsConnectedTraceSpec)) fnExactIsConnectedTraceUptoCard

/-- THE SECOND FORM's CARD OF 'laws.FnExactTraceComponents'. -/
def fnExactTraceComponentsUptoCard : Claim7 := { stood := { row := fnExactTraceComponentsUptoRow, standIns := [], harness := (true, "f09e14d8d021c472efa5a46f3721edcaefc00883d0020957793d06adcc5d942a"), looks := false }, kinds := [], alts := [], laidByText := true, laidKinds := [.data], laidTests := true, laidLooks := .later }
def FnExactTraceComponentsUptoCardSaid : Prop := Claim7.holds Tryd.pinned (.plain (OpenSpec.upto fnExactTraceComponentsSpec)) fnExactTraceComponentsUptoCard

/-- THE SECOND FORM's CARD OF 'laws.FnExactNextTrace'. -/
def fnExactNextTraceUptoCard : Claim7 := { stood := { row := fnExactNextTraceUptoRow, standIns := [], harness := (true, "f09e14d8d021c472efa5a46f3721edcaefc00883d0020957793d06adcc5d942a"), looks := false }, kinds := [], alts := [], laidByText := true, laidKinds := [.data], laidTests := true, laidLooks := .later }
def FnExactNextTraceUptoCardSaid : Prop := Claim7.holds Tryd.pinned (.plain (OpenSpec.upto fnExactNextTraceSpec)) fnExactNextTraceUptoCard
end Rows
end Go.Proofs.YtokikilfmglhhaaDoor

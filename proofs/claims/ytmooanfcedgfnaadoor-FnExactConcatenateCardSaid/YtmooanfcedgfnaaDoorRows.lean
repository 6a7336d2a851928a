/-
  NARROWER THAN 'FOR EVERY INPUT', by the rows' own cells (each row's printed sentence says how): FnExactConcatenate: laid · FnExactIsPrefix: laid · FnExactLeftQuotient: laid · FnExactRightQuotient: laid · FnExactAreIndependent: laid · FnExactMeetOf: laid · FnExactJoinOf: laid · FnExactResidualAfter: laid · FnExactPrefixIn: laid · FnExactLeviOf: laid · FnExactCommonContinuation: laid · FnExactFactorBefore: laid.
  DERIVED. THE GIVEN ROWS OF THIS SEAT. 12 by the template 'for every input the law returns true; each argument reads behind the call as it read before'; 0 by the template 'total and deterministic' (their statements: YtmooanfcedgfnaaDoorTotals.lean).
  GIVEN WITH THE SEED: the statements are not yours to turn. If you find one false, say at which input.
  Laid BY PROGRAM, IN A SANDBOX (cutbox-rows.mjs): the forced cells as the released guide's own fill.sh prints them over the translation d9111adf45c8bc06… (all of the seat's roots in one cut). By AI agents, Wed Nov 11 2026. No macro, syntax, notation, axiom, sorry.
-/
import Derived.Test.YtmooanfcedgfnaaDoorChecked
import GoSem.Claim
import GoSem.ClaimJoined
import GoSem.ClaimMapViews
import Derived.JoinedTies
import Derived.KernelRfl
namespace Go.Proofs.YtmooanfcedgfnaaDoor
/- THE CELL 'sum', in the pinned program and in every row, IS THE sha256 OF THE DUMP (.gsa) THAT YtmooanfcedgfnaaDoorProg.lean LOADS. Nothing in Lean hashes anything: it is a label: what it is worth is what the hold of that sum in a sandbox is worth. -/
noncomputable def Tryd.pinned : Pinned := { name := "ytmooanfcedgfnaadoor", sum := "d9111adf45c8bc06f04f423196ebb7aee815159d2b3b45263e1f59b2a5993dac", checked := Tryd.checked }
namespace Rows
def none {H : Type} : Left H := { results := [], args := [] }

/- WHAT THE LISTED PACKAGE-LEVEL VARIABLES READ AS WHEN THE CALL BEGINS. Each datum BY PROGRAM (the guide's laid-datum.mjs) off the statement by which the dump's own 'gosem.cut.vars' lays the variable. In a bare row this is a premise. The card (YtmooanfcedgfnaaDoorCards.lean) ties it to the program's text. -/
def laid_math_bits_deBruijn64tab {H : Type} : DataW H := .agg [.lit (.int .u8 0), .lit (.int .u8 1), .lit (.int .u8 56), .lit (.int .u8 2), .lit (.int .u8 57), .lit (.int .u8 49), .lit (.int .u8 28), .lit (.int .u8 3), .lit (.int .u8 61), .lit (.int .u8 58), .lit (.int .u8 42), .lit (.int .u8 50), .lit (.int .u8 38), .lit (.int .u8 29), .lit (.int .u8 17), .lit (.int .u8 4), .lit (.int .u8 62), .lit (.int .u8 47), .lit (.int .u8 59), .lit (.int .u8 36), .lit (.int .u8 45), .lit (.int .u8 43), .lit (.int .u8 51), .lit (.int .u8 22), .lit (.int .u8 53), .lit (.int .u8 39), .lit (.int .u8 33), .lit (.int .u8 30), .lit (.int .u8 24), .lit (.int .u8 18), .lit (.int .u8 12), .lit (.int .u8 5), .lit (.int .u8 63), .lit (.int .u8 55), .lit (.int .u8 48), .lit (.int .u8 27), .lit (.int .u8 60), .lit (.int .u8 41), .lit (.int .u8 37), .lit (.int .u8 16), .lit (.int .u8 46), .lit (.int .u8 35), .lit (.int .u8 44), .lit (.int .u8 21), .lit (.int .u8 52), .lit (.int .u8 32), .lit (.int .u8 23), .lit (.int .u8 11), .lit (.int .u8 54), .lit (.int .u8 26), .lit (.int .u8 40), .lit (.int .u8 15), .lit (.int .u8 34), .lit (.int .u8 20), .lit (.int .u8 31), .lit (.int .u8 10), .lit (.int .u8 25), .lit (.int .u8 14), .lit (.int .u8 19), .lit (.int .u8 9), .lit (.int .u8 13), .lit (.int .u8 8), .lit (.int .u8 7), .lit (.int .u8 6)]

/-- 'laws.FnExactConcatenate': WHATEVER THE INPUT: true; the input reads as it did. -/
def fnExactConcatenateSpec : ChangeSpec := { name := "fnExactConcatenate", fn := fun _ => fun
  | [d1, d2, d3] => { results := [.lit (.bool true)], args := [d1, d2, d3] }
  | _ => none }
def fnExactConcatenateRow : OpenClaim := { program := "ytmooanfcedgfnaadoor", sum := "d9111adf45c8bc06f04f423196ebb7aee815159d2b3b45263e1f59b2a5993dac", func := "loop.example/g01094/laws.FnExactConcatenate", spec := "fnExactConcatenate", unfollowed := true, recurses := true, named := ["math/bits.deBruijn64tab"], apart := false, laid := [("math/bits.deBruijn64tab", laid_math_bits_deBruijn64tab)] }
def FnExactConcatenateSaid : Prop := fnExactConcatenateRow.holds Tryd.pinned (OpenSpec.ofChange fnExactConcatenateSpec)

/-- ITS FALSE NEIGHBOUR: 'it returns false'. Refute it at one input. -/
def fnExactConcatenateWrong : ChangeSpec := { name := "fnExactConcatenate", fn := fun _ => fun
  | [d1, d2, d3] => { results := [.lit (.bool false)], args := [d1, d2, d3] }
  | _ => none }
def FnExactConcatenateWrongFalsely : Prop := fnExactConcatenateRow.holds Tryd.pinned (OpenSpec.ofChange fnExactConcatenateWrong)

/-- 'laws.FnExactIsPrefix': WHATEVER THE INPUT: true; the input reads as it did. -/
def fnExactIsPrefixSpec : ChangeSpec := { name := "fnExactIsPrefix", fn := fun _ => fun
  | [d1, d2, d3] => { results := [.lit (.bool true)], args := [d1, d2, d3] }
  | _ => none }
def fnExactIsPrefixRow : OpenClaim := { program := "ytmooanfcedgfnaadoor", sum := "d9111adf45c8bc06f04f423196ebb7aee815159d2b3b45263e1f59b2a5993dac", func := "loop.example/g01094/laws.FnExactIsPrefix", spec := "fnExactIsPrefix", unfollowed := true, recurses := true, named := ["math/bits.deBruijn64tab"], apart := false, laid := [("math/bits.deBruijn64tab", laid_math_bits_deBruijn64tab)] }
def FnExactIsPrefixSaid : Prop := fnExactIsPrefixRow.holds Tryd.pinned (OpenSpec.ofChange fnExactIsPrefixSpec)

/-- ITS FALSE NEIGHBOUR: 'it returns false'. Refute it at one input. -/
def fnExactIsPrefixWrong : ChangeSpec := { name := "fnExactIsPrefix", fn := fun _ => fun
  | [d1, d2, d3] => { results := [.lit (.bool false)], args := [d1, d2, d3] }
  | _ => none }
def FnExactIsPrefixWrongFalsely : Prop := fnExactIsPrefixRow.holds Tryd.pinned (OpenSpec.ofChange fnExactIsPrefixWrong)

/-- 'laws.FnExactLeftQuotient': WHATEVER THE INPUT: true; the input reads as it did. -/
def fnExactLeftQuotientSpec : ChangeSpec := { name := "fnExactLeftQuotient", fn := fun _ => fun
  | [d1, d2, d3] => { results := [.lit (.bool true)], args := [d1, d2, d3] }
  | _ => none }
def fnExactLeftQuotientRow : OpenClaim := { program := "ytmooanfcedgfnaadoor", sum := "d9111adf45c8bc06f04f423196ebb7aee815159d2b3b45263e1f59b2a5993dac", func := "loop.example/g01094/laws.FnExactLeftQuotient", spec := "fnExactLeftQuotient", unfollowed := true, recurses := true, named := ["math/bits.deBruijn64tab"], apart := false, laid := [("math/bits.deBruijn64tab", laid_math_bits_deBruijn64tab)] }
def FnExactLeftQuotientSaid : Prop := fnExactLeftQuotientRow.holds Tryd.pinned (OpenSpec.ofChange fnExactLeftQuotientSpec)

/-- ITS FALSE NEIGHBOUR: 'it returns false'. Refute it at one input. -/
def fnExactLeftQuotientWrong : ChangeSpec := { name := "fnExactLeftQuotient", fn := fun _ => fun
  | [d1, d2, d3] => { results := [.lit (.bool false)], args := [d1, d2, d3] }
  | _ => none }
def FnExactLeftQuotientWrongFalsely : Prop := fnExactLeftQuotientRow.holds Tryd.pinned (OpenSpec.ofChange fnExactLeftQuotientWrong)

/-- 'laws.FnExactRightQuotient': WHATEVER THE INPUT: true; the input reads as it did. -/
def fnExactRightQuotientSpec : ChangeSpec := { name := "fnExactRightQuotient", fn := fun _ => fun
  | [d1, d2, d3] => { results := [.lit (.bool true)], args := [d1, d2, d3] }
  | _ => none }
def fnExactRightQuotientRow : OpenClaim := { program := "ytmooanfcedgfnaadoor", sum := "d9111adf45c8bc06f04f423196ebb7aee815159d2b3b45263e1f59b2a5993dac", func := "loop.example/g01094/laws.FnExactRightQuotient", spec := "fnExactRightQuotient", unfollowed := true, recurses := true, named := ["math/bits.deBruijn64tab"], apart := false, laid := [("math/bits.deBruijn64tab", laid_math_bits_deBruijn64tab)] }
def FnExactRightQuotientSaid : Prop := fnExactRightQuotientRow.holds Tryd.pinned (OpenSpec.ofChange fnExactRightQuotientSpec)

/-- ITS FALSE NEIGHBOUR: 'it returns false'. Refute it at one input. -/
def fnExactRightQuotientWrong : ChangeSpec := { name := "fnExactRightQuotient", fn := fun _ => fun
  | [d1, d2, d3] => { results := [.lit (.bool false)], args := [d1, d2, d3] }
  | _ => none }
def FnExactRightQuotientWrongFalsely : Prop := fnExactRightQuotientRow.holds Tryd.pinned (OpenSpec.ofChange fnExactRightQuotientWrong)

/-- 'laws.FnExactAreIndependent': WHATEVER THE INPUT: true; the input reads as it did. -/
def fnExactAreIndependentSpec : ChangeSpec := { name := "fnExactAreIndependent", fn := fun _ => fun
  | [d1, d2, d3] => { results := [.lit (.bool true)], args := [d1, d2, d3] }
  | _ => none }
def fnExactAreIndependentRow : OpenClaim := { program := "ytmooanfcedgfnaadoor", sum := "d9111adf45c8bc06f04f423196ebb7aee815159d2b3b45263e1f59b2a5993dac", func := "loop.example/g01094/laws.FnExactAreIndependent", spec := "fnExactAreIndependent", unfollowed := true, recurses := true, named := ["math/bits.deBruijn64tab"], apart := false, laid := [("math/bits.deBruijn64tab", laid_math_bits_deBruijn64tab)] }
def FnExactAreIndependentSaid : Prop := fnExactAreIndependentRow.holds Tryd.pinned (OpenSpec.ofChange fnExactAreIndependentSpec)

/-- ITS FALSE NEIGHBOUR: 'it returns false'. Refute it at one input. -/
def fnExactAreIndependentWrong : ChangeSpec := { name := "fnExactAreIndependent", fn := fun _ => fun
  | [d1, d2, d3] => { results := [.lit (.bool false)], args := [d1, d2, d3] }
  | _ => none }
def FnExactAreIndependentWrongFalsely : Prop := fnExactAreIndependentRow.holds Tryd.pinned (OpenSpec.ofChange fnExactAreIndependentWrong)

/-- 'laws.FnExactMeetOf': WHATEVER THE INPUT: true; the input reads as it did. -/
def fnExactMeetOfSpec : ChangeSpec := { name := "fnExactMeetOf", fn := fun _ => fun
  | [d1, d2, d3] => { results := [.lit (.bool true)], args := [d1, d2, d3] }
  | _ => none }
def fnExactMeetOfRow : OpenClaim := { program := "ytmooanfcedgfnaadoor", sum := "d9111adf45c8bc06f04f423196ebb7aee815159d2b3b45263e1f59b2a5993dac", func := "loop.example/g01094/laws.FnExactMeetOf", spec := "fnExactMeetOf", unfollowed := true, recurses := true, named := ["math/bits.deBruijn64tab"], apart := false, laid := [("math/bits.deBruijn64tab", laid_math_bits_deBruijn64tab)] }
def FnExactMeetOfSaid : Prop := fnExactMeetOfRow.holds Tryd.pinned (OpenSpec.ofChange fnExactMeetOfSpec)

/-- ITS FALSE NEIGHBOUR: 'it returns false'. Refute it at one input. -/
def fnExactMeetOfWrong : ChangeSpec := { name := "fnExactMeetOf", fn := fun _ => fun
  | [d1, d2, d3] => { results := [.lit (.bool false)], args := [d1, d2, d3] }
  | _ => none }
def FnExactMeetOfWrongFalsely : Prop := fnExactMeetOfRow.holds Tryd.pinned (OpenSpec.ofChange fnExactMeetOfWrong)

/-- 'laws.FnExactJoinOf': WHATEVER THE INPUT: true; the input reads as it did. -/
def fnExactJoinOfSpec : ChangeSpec := { name := "fnExactJoinOf", fn := fun _ => fun
  | [d1, d2, d3] => { results := [.lit (.bool true)], args := [d1, d2, d3] }
  | _ => none }
def fnExactJoinOfRow : OpenClaim := { program := "ytmooanfcedgfnaadoor", sum := "d9111adf45c8bc06f04f423196ebb7aee815159d2b3b45263e1f59b2a5993dac", func := "loop.example/g01094/laws.FnExactJoinOf", spec := "fnExactJoinOf", unfollowed := true, recurses := true, named := ["math/bits.deBruijn64tab"], apart := false, laid := [("math/bits.deBruijn64tab", laid_math_bits_deBruijn64tab)] }
def FnExactJoinOfSaid : Prop := fnExactJoinOfRow.holds Tryd.pinned (OpenSpec.ofChange fnExactJoinOfSpec)

/-- ITS FALSE NEIGHBOUR: 'it returns false'. Refute it at one input. -/
def fnExactJoinOfWrong : ChangeSpec := { name := "fnExactJoinOf", fn := fun _ => fun
  | [d1, d2, d3] => { results := [.lit (.bool false)], args := [d1, d2, d3] }
  | _ => none }
def FnExactJoinOfWrongFalsely : Prop := fnExactJoinOfRow.holds Tryd.pinned (OpenSpec.ofChange fnExactJoinOfWrong)

/-- 'laws.FnExactResidualAfter': WHATEVER THE INPUT: true; the input reads as it did. -/
def fnExactResidualAfterSpec : ChangeSpec := { name := "fnExactResidualAfter", fn := fun _ => fun
  | [d1, d2, d3] => { results := [.lit (.bool true)], args := [d1, d2, d3] }
  | _ => none }
def fnExactResidualAfterRow : OpenClaim := { program := "ytmooanfcedgfnaadoor", sum := "d9111adf45c8bc06f04f423196ebb7aee815159d2b3b45263e1f59b2a5993dac", func := "loop.example/g01094/laws.FnExactResidualAfter", spec := "fnExactResidualAfter", unfollowed := true, recurses := true, named := ["math/bits.deBruijn64tab"], apart := false, laid := [("math/bits.deBruijn64tab", laid_math_bits_deBruijn64tab)] }
def FnExactResidualAfterSaid : Prop := fnExactResidualAfterRow.holds Tryd.pinned (OpenSpec.ofChange fnExactResidualAfterSpec)

/-- ITS FALSE NEIGHBOUR: 'it returns false'. Refute it at one input. -/
def fnExactResidualAfterWrong : ChangeSpec := { name := "fnExactResidualAfter", fn := fun _ => fun
  | [d1, d2, d3] => { results := [.lit (.bool false)], args := [d1, d2, d3] }
  | _ => none }
def FnExactResidualAfterWrongFalsely : Prop := fnExactResidualAfterRow.holds Tryd.pinned (OpenSpec.ofChange fnExactResidualAfterWrong)

/-- 'laws.FnExactPrefixIn': WHATEVER THE INPUT: true; the input reads as it did. -/
def fnExactPrefixInSpec : ChangeSpec := { name := "fnExactPrefixIn", fn := fun _ => fun
  | [d1, d2, d3] => { results := [.lit (.bool true)], args := [d1, d2, d3] }
  | _ => none }
def fnExactPrefixInRow : OpenClaim := { program := "ytmooanfcedgfnaadoor", sum := "d9111adf45c8bc06f04f423196ebb7aee815159d2b3b45263e1f59b2a5993dac", func := "loop.example/g01094/laws.FnExactPrefixIn", spec := "fnExactPrefixIn", unfollowed := true, recurses := true, named := ["math/bits.deBruijn64tab"], apart := false, laid := [("math/bits.deBruijn64tab", laid_math_bits_deBruijn64tab)] }
def FnExactPrefixInSaid : Prop := fnExactPrefixInRow.holds Tryd.pinned (OpenSpec.ofChange fnExactPrefixInSpec)

/-- ITS FALSE NEIGHBOUR: 'it returns false'. Refute it at one input. -/
def fnExactPrefixInWrong : ChangeSpec := { name := "fnExactPrefixIn", fn := fun _ => fun
  | [d1, d2, d3] => { results := [.lit (.bool false)], args := [d1, d2, d3] }
  | _ => none }
def FnExactPrefixInWrongFalsely : Prop := fnExactPrefixInRow.holds Tryd.pinned (OpenSpec.ofChange fnExactPrefixInWrong)

/-- 'laws.FnExactLeviOf': WHATEVER THE INPUT: true; the input reads as it did. -/
def fnExactLeviOfSpec : ChangeSpec := { name := "fnExactLeviOf", fn := fun _ => fun
  | [d1, d2, d3, d4, d5] => { results := [.lit (.bool true)], args := [d1, d2, d3, d4, d5] }
  | _ => none }
def fnExactLeviOfRow : OpenClaim := { program := "ytmooanfcedgfnaadoor", sum := "d9111adf45c8bc06f04f423196ebb7aee815159d2b3b45263e1f59b2a5993dac", func := "loop.example/g01094/laws.FnExactLeviOf", spec := "fnExactLeviOf", unfollowed := true, recurses := true, named := ["math/bits.deBruijn64tab"], apart := false, laid := [("math/bits.deBruijn64tab", laid_math_bits_deBruijn64tab)] }
def FnExactLeviOfSaid : Prop := fnExactLeviOfRow.holds Tryd.pinned (OpenSpec.ofChange fnExactLeviOfSpec)

/-- ITS FALSE NEIGHBOUR: 'it returns false'. Refute it at one input. -/
def fnExactLeviOfWrong : ChangeSpec := { name := "fnExactLeviOf", fn := fun _ => fun
  | [d1, d2, d3, d4, d5] => { results := [.lit (.bool false)], args := [d1, d2, d3, d4, d5] }
  | _ => none }
def FnExactLeviOfWrongFalsely : Prop := fnExactLeviOfRow.holds Tryd.pinned (OpenSpec.ofChange fnExactLeviOfWrong)

/-- 'laws.FnExactCommonContinuation': WHATEVER THE INPUT: true; the input reads as it did. -/
def fnExactCommonContinuationSpec : ChangeSpec := { name := "fnExactCommonContinuation", fn := fun _ => fun
  | [d1, d2] => { results := [.lit (.bool true)], args := [d1, d2] }
  | _ => none }
def fnExactCommonContinuationRow : OpenClaim := { program := "ytmooanfcedgfnaadoor", sum := "d9111adf45c8bc06f04f423196ebb7aee815159d2b3b45263e1f59b2a5993dac", func := "loop.example/g01094/laws.FnExactCommonContinuation", spec := "fnExactCommonContinuation", unfollowed := true, recurses := true, named := ["math/bits.deBruijn64tab"], apart := false, laid := [("math/bits.deBruijn64tab", laid_math_bits_deBruijn64tab)] }
def FnExactCommonContinuationSaid : Prop := fnExactCommonContinuationRow.holds Tryd.pinned (OpenSpec.ofChange fnExactCommonContinuationSpec)

/-- ITS FALSE NEIGHBOUR: 'it returns false'. Refute it at one input. -/
def fnExactCommonContinuationWrong : ChangeSpec := { name := "fnExactCommonContinuation", fn := fun _ => fun
  | [d1, d2] => { results := [.lit (.bool false)], args := [d1, d2] }
  | _ => none }
def FnExactCommonContinuationWrongFalsely : Prop := fnExactCommonContinuationRow.holds Tryd.pinned (OpenSpec.ofChange fnExactCommonContinuationWrong)

/-- 'laws.FnExactFactorBefore': WHATEVER THE INPUT: true; the input reads as it did. -/
def fnExactFactorBeforeSpec : ChangeSpec := { name := "fnExactFactorBefore", fn := fun _ => fun
  | [d1, d2, d3] => { results := [.lit (.bool true)], args := [d1, d2, d3] }
  | _ => none }
def fnExactFactorBeforeRow : OpenClaim := { program := "ytmooanfcedgfnaadoor", sum := "d9111adf45c8bc06f04f423196ebb7aee815159d2b3b45263e1f59b2a5993dac", func := "loop.example/g01094/laws.FnExactFactorBefore", spec := "fnExactFactorBefore", unfollowed := true, recurses := true, named := ["math/bits.deBruijn64tab"], apart := false, laid := [("math/bits.deBruijn64tab", laid_math_bits_deBruijn64tab)] }
def FnExactFactorBeforeSaid : Prop := fnExactFactorBeforeRow.holds Tryd.pinned (OpenSpec.ofChange fnExactFactorBeforeSpec)

/-- ITS FALSE NEIGHBOUR: 'it returns false'. Refute it at one input. -/
def fnExactFactorBeforeWrong : ChangeSpec := { name := "fnExactFactorBefore", fn := fun _ => fun
  | [d1, d2, d3] => { results := [.lit (.bool false)], args := [d1, d2, d3] }
  | _ => none }
def FnExactFactorBeforeWrongFalsely : Prop := fnExactFactorBeforeRow.holds Tryd.pinned (OpenSpec.ofChange fnExactFactorBeforeWrong)

/- THE SECOND FORM. 'bulk': how many values and letters a reading holds, each counted each time it is reached (what is shared counts as often as it is met; a slice's spare places count too). A statement '..UptoSaid' is the law's where the arguments, and the package variables that the reading takes, are together of bulk at most 1048576: NARROWER than '..Said'. Prove '..Said' where nothing that the law and all that it calls make is longer than what came in: it says more and counts as full. Else prove '..UptoSaid'. A law counts once. -/
mutual
def uptoBulk {H : Type} : DataW H → Nat
  | .lit (.string bytes) => bytes.length + 1
  | .lit _ => 1
  | .nil => 1
  | .ptr d => uptoBulk d + 1
  | .slice elems spare => uptoBulkAll elems + uptoBulkAll spare + 1
  | .agg parts => uptoBulkAll parts + 1
  | .iface _ d => uptoBulk d + 1
  | .map entries => uptoBulkEntries entries + 1
  | .held _ => 1
def uptoBulkAll {H : Type} : List (DataW H) → Nat
  | [] => 0
  | d :: r => uptoBulk d + uptoBulkAll r
def uptoBulkEntries {H : Type} : List (Lit × DataW H) → Nat
  | [] => 0
  | x :: r => uptoBulkEntry x + uptoBulkEntries r
def uptoBulkEntry {H : Type} : Lit × DataW H → Nat
  | (.string bytes, d) => bytes.length + uptoBulk d + 1
  | (_, d) => uptoBulk d + 1
 end
def uptoSmall : (H : Type) → List (DataW H) → Bool := fun _ ds => decide (uptoBulkAll ds ≤ 1048576)
def OpenSpec.upto (s : _root_.Go.ChangeSpec) : _root_.Go.OpenSpec := { _root_.Go.OpenSpec.ofChange s with cond := some uptoSmall }

/-- 'laws.FnExactConcatenate', WHERE WHAT IT READS IS OF BULK AT MOST 1048576: true; the input reads as it did. -/
def fnExactConcatenateUptoRow : OpenClaim := { program := "ytmooanfcedgfnaadoor", sum := "d9111adf45c8bc06f04f423196ebb7aee815159d2b3b45263e1f59b2a5993dac", func := "loop.example/g01094/laws.FnExactConcatenate", spec := "fnExactConcatenate", unfollowed := true, recurses := true, named := ["math/bits.deBruijn64tab"], apart := false, laid := [("math/bits.deBruijn64tab", laid_math_bits_deBruijn64tab)], narrowed := true }
def FnExactConcatenateUptoSaid : Prop := fnExactConcatenateUptoRow.holds Tryd.pinned (OpenSpec.upto fnExactConcatenateSpec)

/-- 'laws.FnExactIsPrefix', WHERE WHAT IT READS IS OF BULK AT MOST 1048576: true; the input reads as it did. -/
def fnExactIsPrefixUptoRow : OpenClaim := { program := "ytmooanfcedgfnaadoor", sum := "d9111adf45c8bc06f04f423196ebb7aee815159d2b3b45263e1f59b2a5993dac", func := "loop.example/g01094/laws.FnExactIsPrefix", spec := "fnExactIsPrefix", unfollowed := true, recurses := true, named := ["math/bits.deBruijn64tab"], apart := false, laid := [("math/bits.deBruijn64tab", laid_math_bits_deBruijn64tab)], narrowed := true }
def FnExactIsPrefixUptoSaid : Prop := fnExactIsPrefixUptoRow.holds Tryd.pinned (OpenSpec.upto fnExactIsPrefixSpec)

/-- 'laws.FnExactLeftQuotient', WHERE WHAT IT READS IS OF BULK AT MOST 1048576: true; the input reads as it did. -/
def fnExactLeftQuotientUptoRow : OpenClaim := { program := "ytmooanfcedgfnaadoor", sum := "d9111adf45c8bc06f04f423196ebb7aee815159d2b3b45263e1f59b2a5993dac", func := "loop.example/g01094/laws.FnExactLeftQuotient", spec := "fnExactLeftQuotient", unfollowed := true, recurses := true, named := ["math/bits.deBruijn64tab"], apart := false, laid := [("math/bits.deBruijn64tab", laid_math_bits_deBruijn64tab)], narrowed := true }
def FnExactLeftQuotientUptoSaid : Prop := fnExactLeftQuotientUptoRow.holds Tryd.pinned (OpenSpec.upto fnExactLeftQuotientSpec)

/-- 'laws.FnExactRightQuotient', WHERE WHAT IT READS IS OF BULK AT MOST 1048576: true; the input reads as it did. -/
def fnExactRightQuotientUptoRow : OpenClaim := { program := "ytmooanfcedgfnaadoor", sum := "d9111adf45c8bc06f04f423196ebb7aee815159d2b3b45263e1f59b2a5993dac", func := "loop.example/g01094/laws.FnExactRightQuotient", spec := "fnExactRightQuotient", unfollowed := true, recurses := true, named := ["math/bits.deBruijn64tab"], apart := false, laid := [("math/bits.deBruijn64tab", laid_math_bits_deBruijn64tab)], narrowed := true }
def FnExactRightQuotientUptoSaid : Prop := fnExactRightQuotientUptoRow.holds Tryd.pinned (OpenSpec.upto fnExactRightQuotientSpec)

/-- 'laws.FnExactAreIndependent', WHERE WHAT IT READS IS OF BULK AT MOST 1048576: true; the input reads as it did. -/
def fnExactAreIndependentUptoRow : OpenClaim := { program := "ytmooanfcedgfnaadoor", sum := "d9111adf45c8bc06f04f423196ebb7aee815159d2b3b45263e1f59b2a5993dac", func := "loop.example/g01094/laws.FnExactAreIndependent", spec := "fnExactAreIndependent", unfollowed := true, recurses := true, named := ["math/bits.deBruijn64tab"], apart := false, laid := [("math/bits.deBruijn64tab", laid_math_bits_deBruijn64tab)], narrowed := true }
def FnExactAreIndependentUptoSaid : Prop := fnExactAreIndependentUptoRow.holds Tryd.pinned (OpenSpec.upto fnExactAreIndependentSpec)

/-- 'laws.FnExactMeetOf', WHERE WHAT IT READS IS OF BULK AT MOST 1048576: true; the input reads as it did. -/
def fnExactMeetOfUptoRow : OpenClaim := { program := "ytmooanfcedgfnaadoor", sum := "d9111adf45c8bc06f04f423196ebb7aee815159d2b3b45263e1f59b2a5993dac", func := "loop.example/g01094/laws.FnExactMeetOf", spec := "fnExactMeetOf", unfollowed := true, recurses := true, named := ["math/bits.deBruijn64tab"], apart := false, laid := [("math/bits.deBruijn64tab", laid_math_bits_deBruijn64tab)], narrowed := true }
def FnExactMeetOfUptoSaid : Prop := fnExactMeetOfUptoRow.holds Tryd.pinned (OpenSpec.upto fnExactMeetOfSpec)

/-- 'laws.FnExactJoinOf', WHERE WHAT IT READS IS OF BULK AT MOST 1048576: true; the input reads as it did. -/
def fnExactJoinOfUptoRow : OpenClaim := { program := "ytmooanfcedgfnaadoor", sum := "d9111adf45c8bc06f04f423196ebb7aee815159d2b3b45263e1f59b2a5993dac", func := "loop.example/g01094/laws.FnExactJoinOf", spec := "fnExactJoinOf", unfollowed := true, recurses := true, named := ["math/bits.deBruijn64tab"], apart := false, laid := [("math/bits.deBruijn64tab", laid_math_bits_deBruijn64tab)], narrowed := true }
def FnExactJoinOfUptoSaid : Prop := fnExactJoinOfUptoRow.holds Tryd.pinned (OpenSpec.upto fnExactJoinOfSpec)

/-- 'laws.FnExactResidualAfter', WHERE WHAT IT READS IS OF BULK AT MOST 1048576: true; the input reads as it did. -/
def fnExactResidualAfterUptoRow : OpenClaim := { program := "ytmooanfcedgfnaadoor", sum := "d9111adf45c8bc06f04f423196ebb7aee815159d2b3b45263e1f59b2a5993dac", func := "loop.example/g01094/laws.FnExactResidualAfter", spec := "fnExactResidualAfter", unfollowed := true, recurses := true, named := ["math/bits.deBruijn64tab"], apart := false, laid := [("math/bits.deBruijn64tab", laid_math_bits_deBruijn64tab)], narrowed := true }
def FnExactResidualAfterUptoSaid : Prop := fnExactResidualAfterUptoRow.holds Tryd.pinned (OpenSpec.upto fnExactResidualAfterSpec)

/-- 'laws.FnExactPrefixIn', WHERE WHAT IT READS IS OF BULK AT MOST 1048576: true; the input reads as it did. -/
def fnExactPrefixInUptoRow : OpenClaim := { program := "ytmooanfcedgfnaadoor", sum := "d9111adf45c8bc06f04f423196ebb7aee815159d2b3b45263e1f59b2a5993dac", func := "loop.example/g01094/laws.FnExactPrefixIn", spec := "fnExactPrefixIn", unfollowed := true, recurses := true, named := ["math/bits.deBruijn64tab"], apart := false, laid := [("math/bits.deBruijn64tab", laid_math_bits_deBruijn64tab)], narrowed := true }
def FnExactPrefixInUptoSaid : Prop := fnExactPrefixInUptoRow.holds Tryd.pinned (OpenSpec.upto fnExactPrefixInSpec)

/-- 'laws.FnExactLeviOf', WHERE WHAT IT READS IS OF BULK AT MOST 1048576: true; the input reads as it did. -/
def fnExactLeviOfUptoRow : OpenClaim := { program := "ytmooanfcedgfnaadoor", sum := "d9111adf45c8bc06f04f423196ebb7aee815159d2b3b45263e1f59b2a5993dac", func := "loop.example/g01094/laws.FnExactLeviOf", spec := "fnExactLeviOf", unfollowed := true, recurses := true, named := ["math/bits.deBruijn64tab"], apart := false, laid := [("math/bits.deBruijn64tab", laid_math_bits_deBruijn64tab)], narrowed := true }
def FnExactLeviOfUptoSaid : Prop := fnExactLeviOfUptoRow.holds Tryd.pinned (OpenSpec.upto fnExactLeviOfSpec)

/-- 'laws.FnExactCommonContinuation', WHERE WHAT IT READS IS OF BULK AT MOST 1048576: true; the input reads as it did. -/
def fnExactCommonContinuationUptoRow : OpenClaim := { program := "ytmooanfcedgfnaadoor", sum := "d9111adf45c8bc06f04f423196ebb7aee815159d2b3b45263e1f59b2a5993dac", func := "loop.example/g01094/laws.FnExactCommonContinuation", spec := "fnExactCommonContinuation", unfollowed := true, recurses := true, named := ["math/bits.deBruijn64tab"], apart := false, laid := [("math/bits.deBruijn64tab", laid_math_bits_deBruijn64tab)], narrowed := true }
def FnExactCommonContinuationUptoSaid : Prop := fnExactCommonContinuationUptoRow.holds Tryd.pinned (OpenSpec.upto fnExactCommonContinuationSpec)

/-- 'laws.FnExactFactorBefore', WHERE WHAT IT READS IS OF BULK AT MOST 1048576: true; the input reads as it did. -/
def fnExactFactorBeforeUptoRow : OpenClaim := { program := "ytmooanfcedgfnaadoor", sum := "d9111adf45c8bc06f04f423196ebb7aee815159d2b3b45263e1f59b2a5993dac", func := "loop.example/g01094/laws.FnExactFactorBefore", spec := "fnExactFactorBefore", unfollowed := true, recurses := true, named := ["math/bits.deBruijn64tab"], apart := false, laid := [("math/bits.deBruijn64tab", laid_math_bits_deBruijn64tab)], narrowed := true }
def FnExactFactorBeforeUptoSaid : Prop := fnExactFactorBeforeUptoRow.holds Tryd.pinned (OpenSpec.upto fnExactFactorBeforeSpec)

end Rows
end Go.Proofs.YtmooanfcedgfnaaDoor

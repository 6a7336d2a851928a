/-
  NARROWER THAN 'FOR EVERY INPUT', by the rows' own cells (each row's printed sentence says how): FnExactNormalForm: laid · FnExactReverseOf: laid · FnExactProjectionOf: laid · FnExactAreSameTrace: laid · FnExactWordOfFoata: laid · FnExactIsFoataForm: laid · FnExactHeightOf: laid · FnExactOrderOf: laid · FnExactPastOf: laid · FnExactConcurrentWith: laid · FnExactFirstLetters: laid · FnExactLastLetters: laid.
  DERIVED. THE GIVEN ROWS OF THIS SEAT. 12 by the template 'for every input the law returns true; each argument reads behind the call as it read before'; 0 by the template 'total and deterministic' (their statements: YtpcgjldcdjlenaaDoorTotals.lean).
  GIVEN WITH THE SEED: the statements are not yours to turn. If you find one false, say at which input.
  Laid BY PROGRAM, IN A SANDBOX (cutbox-rows.mjs): the forced cells as the released guide's own fill.sh prints them over the translation c1e40858746e2c9a… (all of the seat's roots in one cut). By AI agents, Wed Nov 11 2026. No macro, syntax, notation, axiom, sorry.
-/
import Derived.Test.YtpcgjldcdjlenaaDoorChecked
import GoSem.Claim
import GoSem.ClaimJoined
import GoSem.ClaimMapViews
import Derived.JoinedTies
import Derived.KernelRfl
namespace Go.Proofs.YtpcgjldcdjlenaaDoor
/- THE CELL 'sum', in the pinned program and in every row, IS THE sha256 OF THE DUMP (.gsa) THAT YtpcgjldcdjlenaaDoorProg.lean LOADS. Nothing in Lean hashes anything: it is a label: what it is worth is what the hold of that sum in a sandbox is worth. -/
noncomputable def Tryd.pinned : Pinned := { name := "ytpcgjldcdjlenaadoor", sum := "c1e40858746e2c9afbfe7dcc0358d1a7c32c0cee85052758aeb878268e3f6a9e", checked := Tryd.checked }
namespace Rows
def none {H : Type} : Left H := { results := [], args := [] }

/- WHAT THE LISTED PACKAGE-LEVEL VARIABLES READ AS WHEN THE CALL BEGINS. Each datum BY PROGRAM (the guide's laid-datum.mjs) off the statement by which the dump's own 'gosem.cut.vars' lays the variable. In a bare row this is a premise. The card (YtpcgjldcdjlenaaDoorCards.lean) ties it to the program's text. -/
def laid_math_bits_deBruijn64tab {H : Type} : DataW H := .agg [.lit (.int .u8 0), .lit (.int .u8 1), .lit (.int .u8 56), .lit (.int .u8 2), .lit (.int .u8 57), .lit (.int .u8 49), .lit (.int .u8 28), .lit (.int .u8 3), .lit (.int .u8 61), .lit (.int .u8 58), .lit (.int .u8 42), .lit (.int .u8 50), .lit (.int .u8 38), .lit (.int .u8 29), .lit (.int .u8 17), .lit (.int .u8 4), .lit (.int .u8 62), .lit (.int .u8 47), .lit (.int .u8 59), .lit (.int .u8 36), .lit (.int .u8 45), .lit (.int .u8 43), .lit (.int .u8 51), .lit (.int .u8 22), .lit (.int .u8 53), .lit (.int .u8 39), .lit (.int .u8 33), .lit (.int .u8 30), .lit (.int .u8 24), .lit (.int .u8 18), .lit (.int .u8 12), .lit (.int .u8 5), .lit (.int .u8 63), .lit (.int .u8 55), .lit (.int .u8 48), .lit (.int .u8 27), .lit (.int .u8 60), .lit (.int .u8 41), .lit (.int .u8 37), .lit (.int .u8 16), .lit (.int .u8 46), .lit (.int .u8 35), .lit (.int .u8 44), .lit (.int .u8 21), .lit (.int .u8 52), .lit (.int .u8 32), .lit (.int .u8 23), .lit (.int .u8 11), .lit (.int .u8 54), .lit (.int .u8 26), .lit (.int .u8 40), .lit (.int .u8 15), .lit (.int .u8 34), .lit (.int .u8 20), .lit (.int .u8 31), .lit (.int .u8 10), .lit (.int .u8 25), .lit (.int .u8 14), .lit (.int .u8 19), .lit (.int .u8 9), .lit (.int .u8 13), .lit (.int .u8 8), .lit (.int .u8 7), .lit (.int .u8 6)]

/-- 'laws.FnExactNormalForm': WHATEVER THE INPUT: true; the input reads as it did. -/
def fnExactNormalFormSpec : ChangeSpec := { name := "fnExactNormalForm", fn := fun _ => fun
  | [d1, d2] => { results := [.lit (.bool true)], args := [d1, d2] }
  | _ => none }
def fnExactNormalFormRow : OpenClaim := { program := "ytpcgjldcdjlenaadoor", sum := "c1e40858746e2c9afbfe7dcc0358d1a7c32c0cee85052758aeb878268e3f6a9e", func := "loop.example/g01094/laws.FnExactNormalForm", spec := "fnExactNormalForm", unfollowed := true, recurses := true, named := ["math/bits.deBruijn64tab"], apart := false, laid := [("math/bits.deBruijn64tab", laid_math_bits_deBruijn64tab)] }
def FnExactNormalFormSaid : Prop := fnExactNormalFormRow.holds Tryd.pinned (OpenSpec.ofChange fnExactNormalFormSpec)

/-- ITS FALSE NEIGHBOUR: 'it returns false'. Refute it at one input. -/
def fnExactNormalFormWrong : ChangeSpec := { name := "fnExactNormalForm", fn := fun _ => fun
  | [d1, d2] => { results := [.lit (.bool false)], args := [d1, d2] }
  | _ => none }
def FnExactNormalFormWrongFalsely : Prop := fnExactNormalFormRow.holds Tryd.pinned (OpenSpec.ofChange fnExactNormalFormWrong)

/-- 'laws.FnExactReverseOf': WHATEVER THE INPUT: true; the input reads as it did. -/
def fnExactReverseOfSpec : ChangeSpec := { name := "fnExactReverseOf", fn := fun _ => fun
  | [d1, d2] => { results := [.lit (.bool true)], args := [d1, d2] }
  | _ => none }
def fnExactReverseOfRow : OpenClaim := { program := "ytpcgjldcdjlenaadoor", sum := "c1e40858746e2c9afbfe7dcc0358d1a7c32c0cee85052758aeb878268e3f6a9e", func := "loop.example/g01094/laws.FnExactReverseOf", spec := "fnExactReverseOf", unfollowed := true, recurses := true, named := ["math/bits.deBruijn64tab"], apart := false, laid := [("math/bits.deBruijn64tab", laid_math_bits_deBruijn64tab)] }
def FnExactReverseOfSaid : Prop := fnExactReverseOfRow.holds Tryd.pinned (OpenSpec.ofChange fnExactReverseOfSpec)

/-- ITS FALSE NEIGHBOUR: 'it returns false'. Refute it at one input. -/
def fnExactReverseOfWrong : ChangeSpec := { name := "fnExactReverseOf", fn := fun _ => fun
  | [d1, d2] => { results := [.lit (.bool false)], args := [d1, d2] }
  | _ => none }
def FnExactReverseOfWrongFalsely : Prop := fnExactReverseOfRow.holds Tryd.pinned (OpenSpec.ofChange fnExactReverseOfWrong)

/-- 'laws.FnExactProjectionOf': WHATEVER THE INPUT: true; the input reads as it did. -/
def fnExactProjectionOfSpec : ChangeSpec := { name := "fnExactProjectionOf", fn := fun _ => fun
  | [d1, d2, d3] => { results := [.lit (.bool true)], args := [d1, d2, d3] }
  | _ => none }
def fnExactProjectionOfRow : OpenClaim := { program := "ytpcgjldcdjlenaadoor", sum := "c1e40858746e2c9afbfe7dcc0358d1a7c32c0cee85052758aeb878268e3f6a9e", func := "loop.example/g01094/laws.FnExactProjectionOf", spec := "fnExactProjectionOf", unfollowed := true, recurses := true, named := ["math/bits.deBruijn64tab"], apart := false, laid := [("math/bits.deBruijn64tab", laid_math_bits_deBruijn64tab)] }
def FnExactProjectionOfSaid : Prop := fnExactProjectionOfRow.holds Tryd.pinned (OpenSpec.ofChange fnExactProjectionOfSpec)

/-- ITS FALSE NEIGHBOUR: 'it returns false'. Refute it at one input. -/
def fnExactProjectionOfWrong : ChangeSpec := { name := "fnExactProjectionOf", fn := fun _ => fun
  | [d1, d2, d3] => { results := [.lit (.bool false)], args := [d1, d2, d3] }
  | _ => none }
def FnExactProjectionOfWrongFalsely : Prop := fnExactProjectionOfRow.holds Tryd.pinned (OpenSpec.ofChange fnExactProjectionOfWrong)

/-- 'laws.FnExactAreSameTrace': WHATEVER THE INPUT: true; the input reads as it did. -/
def fnExactAreSameTraceSpec : ChangeSpec := { name := "fnExactAreSameTrace", fn := fun _ => fun
  | [d1, d2, d3] => { results := [.lit (.bool true)], args := [d1, d2, d3] }
  | _ => none }
def fnExactAreSameTraceRow : OpenClaim := { program := "ytpcgjldcdjlenaadoor", sum := "c1e40858746e2c9afbfe7dcc0358d1a7c32c0cee85052758aeb878268e3f6a9e", func := "loop.example/g01094/laws.FnExactAreSameTrace", spec := "fnExactAreSameTrace", unfollowed := true, recurses := true, named := ["math/bits.deBruijn64tab"], apart := false, laid := [("math/bits.deBruijn64tab", laid_math_bits_deBruijn64tab)] }
def FnExactAreSameTraceSaid : Prop := fnExactAreSameTraceRow.holds Tryd.pinned (OpenSpec.ofChange fnExactAreSameTraceSpec)

/-- ITS FALSE NEIGHBOUR: 'it returns false'. Refute it at one input. -/
def fnExactAreSameTraceWrong : ChangeSpec := { name := "fnExactAreSameTrace", fn := fun _ => fun
  | [d1, d2, d3] => { results := [.lit (.bool false)], args := [d1, d2, d3] }
  | _ => none }
def FnExactAreSameTraceWrongFalsely : Prop := fnExactAreSameTraceRow.holds Tryd.pinned (OpenSpec.ofChange fnExactAreSameTraceWrong)

/-- 'laws.FnExactWordOfFoata': WHATEVER THE INPUT: true; the input reads as it did. -/
def fnExactWordOfFoataSpec : ChangeSpec := { name := "fnExactWordOfFoata", fn := fun _ => fun
  | [d1, d2] => { results := [.lit (.bool true)], args := [d1, d2] }
  | _ => none }
def fnExactWordOfFoataRow : OpenClaim := { program := "ytpcgjldcdjlenaadoor", sum := "c1e40858746e2c9afbfe7dcc0358d1a7c32c0cee85052758aeb878268e3f6a9e", func := "loop.example/g01094/laws.FnExactWordOfFoata", spec := "fnExactWordOfFoata", unfollowed := true, recurses := true, named := ["math/bits.deBruijn64tab"], apart := false, laid := [("math/bits.deBruijn64tab", laid_math_bits_deBruijn64tab)] }
def FnExactWordOfFoataSaid : Prop := fnExactWordOfFoataRow.holds Tryd.pinned (OpenSpec.ofChange fnExactWordOfFoataSpec)

/-- ITS FALSE NEIGHBOUR: 'it returns false'. Refute it at one input. -/
def fnExactWordOfFoataWrong : ChangeSpec := { name := "fnExactWordOfFoata", fn := fun _ => fun
  | [d1, d2] => { results := [.lit (.bool false)], args := [d1, d2] }
  | _ => none }
def FnExactWordOfFoataWrongFalsely : Prop := fnExactWordOfFoataRow.holds Tryd.pinned (OpenSpec.ofChange fnExactWordOfFoataWrong)

/-- 'laws.FnExactIsFoataForm': WHATEVER THE INPUT: true; the input reads as it did. -/
def fnExactIsFoataFormSpec : ChangeSpec := { name := "fnExactIsFoataForm", fn := fun _ => fun
  | [d1, d2] => { results := [.lit (.bool true)], args := [d1, d2] }
  | _ => none }
def fnExactIsFoataFormRow : OpenClaim := { program := "ytpcgjldcdjlenaadoor", sum := "c1e40858746e2c9afbfe7dcc0358d1a7c32c0cee85052758aeb878268e3f6a9e", func := "loop.example/g01094/laws.FnExactIsFoataForm", spec := "fnExactIsFoataForm", unfollowed := true, recurses := true, named := ["math/bits.deBruijn64tab"], apart := false, laid := [("math/bits.deBruijn64tab", laid_math_bits_deBruijn64tab)] }
def FnExactIsFoataFormSaid : Prop := fnExactIsFoataFormRow.holds Tryd.pinned (OpenSpec.ofChange fnExactIsFoataFormSpec)

/-- ITS FALSE NEIGHBOUR: 'it returns false'. Refute it at one input. -/
def fnExactIsFoataFormWrong : ChangeSpec := { name := "fnExactIsFoataForm", fn := fun _ => fun
  | [d1, d2] => { results := [.lit (.bool false)], args := [d1, d2] }
  | _ => none }
def FnExactIsFoataFormWrongFalsely : Prop := fnExactIsFoataFormRow.holds Tryd.pinned (OpenSpec.ofChange fnExactIsFoataFormWrong)

/-- 'laws.FnExactHeightOf': WHATEVER THE INPUT: true; the input reads as it did. -/
def fnExactHeightOfSpec : ChangeSpec := { name := "fnExactHeightOf", fn := fun _ => fun
  | [d1, d2] => { results := [.lit (.bool true)], args := [d1, d2] }
  | _ => none }
def fnExactHeightOfRow : OpenClaim := { program := "ytpcgjldcdjlenaadoor", sum := "c1e40858746e2c9afbfe7dcc0358d1a7c32c0cee85052758aeb878268e3f6a9e", func := "loop.example/g01094/laws.FnExactHeightOf", spec := "fnExactHeightOf", unfollowed := true, recurses := true, named := ["math/bits.deBruijn64tab"], apart := false, laid := [("math/bits.deBruijn64tab", laid_math_bits_deBruijn64tab)] }
def FnExactHeightOfSaid : Prop := fnExactHeightOfRow.holds Tryd.pinned (OpenSpec.ofChange fnExactHeightOfSpec)

/-- ITS FALSE NEIGHBOUR: 'it returns false'. Refute it at one input. -/
def fnExactHeightOfWrong : ChangeSpec := { name := "fnExactHeightOf", fn := fun _ => fun
  | [d1, d2] => { results := [.lit (.bool false)], args := [d1, d2] }
  | _ => none }
def FnExactHeightOfWrongFalsely : Prop := fnExactHeightOfRow.holds Tryd.pinned (OpenSpec.ofChange fnExactHeightOfWrong)

/-- 'laws.FnExactOrderOf': WHATEVER THE INPUT: true; the input reads as it did. -/
def fnExactOrderOfSpec : ChangeSpec := { name := "fnExactOrderOf", fn := fun _ => fun
  | [d1, d2] => { results := [.lit (.bool true)], args := [d1, d2] }
  | _ => none }
def fnExactOrderOfRow : OpenClaim := { program := "ytpcgjldcdjlenaadoor", sum := "c1e40858746e2c9afbfe7dcc0358d1a7c32c0cee85052758aeb878268e3f6a9e", func := "loop.example/g01094/laws.FnExactOrderOf", spec := "fnExactOrderOf", unfollowed := true, recurses := true, named := ["math/bits.deBruijn64tab"], apart := false, laid := [("math/bits.deBruijn64tab", laid_math_bits_deBruijn64tab)] }
def FnExactOrderOfSaid : Prop := fnExactOrderOfRow.holds Tryd.pinned (OpenSpec.ofChange fnExactOrderOfSpec)

/-- ITS FALSE NEIGHBOUR: 'it returns false'. Refute it at one input. -/
def fnExactOrderOfWrong : ChangeSpec := { name := "fnExactOrderOf", fn := fun _ => fun
  | [d1, d2] => { results := [.lit (.bool false)], args := [d1, d2] }
  | _ => none }
def FnExactOrderOfWrongFalsely : Prop := fnExactOrderOfRow.holds Tryd.pinned (OpenSpec.ofChange fnExactOrderOfWrong)

/-- 'laws.FnExactPastOf': WHATEVER THE INPUT: true; the input reads as it did. -/
def fnExactPastOfSpec : ChangeSpec := { name := "fnExactPastOf", fn := fun _ => fun
  | [d1, d2, d3] => { results := [.lit (.bool true)], args := [d1, d2, d3] }
  | _ => none }
def fnExactPastOfRow : OpenClaim := { program := "ytpcgjldcdjlenaadoor", sum := "c1e40858746e2c9afbfe7dcc0358d1a7c32c0cee85052758aeb878268e3f6a9e", func := "loop.example/g01094/laws.FnExactPastOf", spec := "fnExactPastOf", unfollowed := true, recurses := true, named := ["math/bits.deBruijn64tab"], apart := false, laid := [("math/bits.deBruijn64tab", laid_math_bits_deBruijn64tab)] }
def FnExactPastOfSaid : Prop := fnExactPastOfRow.holds Tryd.pinned (OpenSpec.ofChange fnExactPastOfSpec)

/-- ITS FALSE NEIGHBOUR: 'it returns false'. Refute it at one input. -/
def fnExactPastOfWrong : ChangeSpec := { name := "fnExactPastOf", fn := fun _ => fun
  | [d1, d2, d3] => { results := [.lit (.bool false)], args := [d1, d2, d3] }
  | _ => none }
def FnExactPastOfWrongFalsely : Prop := fnExactPastOfRow.holds Tryd.pinned (OpenSpec.ofChange fnExactPastOfWrong)

/-- 'laws.FnExactConcurrentWith': WHATEVER THE INPUT: true; the input reads as it did. -/
def fnExactConcurrentWithSpec : ChangeSpec := { name := "fnExactConcurrentWith", fn := fun _ => fun
  | [d1, d2, d3] => { results := [.lit (.bool true)], args := [d1, d2, d3] }
  | _ => none }
def fnExactConcurrentWithRow : OpenClaim := { program := "ytpcgjldcdjlenaadoor", sum := "c1e40858746e2c9afbfe7dcc0358d1a7c32c0cee85052758aeb878268e3f6a9e", func := "loop.example/g01094/laws.FnExactConcurrentWith", spec := "fnExactConcurrentWith", unfollowed := true, recurses := true, named := ["math/bits.deBruijn64tab"], apart := false, laid := [("math/bits.deBruijn64tab", laid_math_bits_deBruijn64tab)] }
def FnExactConcurrentWithSaid : Prop := fnExactConcurrentWithRow.holds Tryd.pinned (OpenSpec.ofChange fnExactConcurrentWithSpec)

/-- ITS FALSE NEIGHBOUR: 'it returns false'. Refute it at one input. -/
def fnExactConcurrentWithWrong : ChangeSpec := { name := "fnExactConcurrentWith", fn := fun _ => fun
  | [d1, d2, d3] => { results := [.lit (.bool false)], args := [d1, d2, d3] }
  | _ => none }
def FnExactConcurrentWithWrongFalsely : Prop := fnExactConcurrentWithRow.holds Tryd.pinned (OpenSpec.ofChange fnExactConcurrentWithWrong)

/-- 'laws.FnExactFirstLetters': WHATEVER THE INPUT: true; the input reads as it did. -/
def fnExactFirstLettersSpec : ChangeSpec := { name := "fnExactFirstLetters", fn := fun _ => fun
  | [d1, d2] => { results := [.lit (.bool true)], args := [d1, d2] }
  | _ => none }
def fnExactFirstLettersRow : OpenClaim := { program := "ytpcgjldcdjlenaadoor", sum := "c1e40858746e2c9afbfe7dcc0358d1a7c32c0cee85052758aeb878268e3f6a9e", func := "loop.example/g01094/laws.FnExactFirstLetters", spec := "fnExactFirstLetters", unfollowed := true, recurses := true, named := ["math/bits.deBruijn64tab"], apart := false, laid := [("math/bits.deBruijn64tab", laid_math_bits_deBruijn64tab)] }
def FnExactFirstLettersSaid : Prop := fnExactFirstLettersRow.holds Tryd.pinned (OpenSpec.ofChange fnExactFirstLettersSpec)

/-- ITS FALSE NEIGHBOUR: 'it returns false'. Refute it at one input. -/
def fnExactFirstLettersWrong : ChangeSpec := { name := "fnExactFirstLetters", fn := fun _ => fun
  | [d1, d2] => { results := [.lit (.bool false)], args := [d1, d2] }
  | _ => none }
def FnExactFirstLettersWrongFalsely : Prop := fnExactFirstLettersRow.holds Tryd.pinned (OpenSpec.ofChange fnExactFirstLettersWrong)

/-- 'laws.FnExactLastLetters': WHATEVER THE INPUT: true; the input reads as it did. -/
def fnExactLastLettersSpec : ChangeSpec := { name := "fnExactLastLetters", fn := fun _ => fun
  | [d1, d2] => { results := [.lit (.bool true)], args := [d1, d2] }
  | _ => none }
def fnExactLastLettersRow : OpenClaim := { program := "ytpcgjldcdjlenaadoor", sum := "c1e40858746e2c9afbfe7dcc0358d1a7c32c0cee85052758aeb878268e3f6a9e", func := "loop.example/g01094/laws.FnExactLastLetters", spec := "fnExactLastLetters", unfollowed := true, recurses := true, named := ["math/bits.deBruijn64tab"], apart := false, laid := [("math/bits.deBruijn64tab", laid_math_bits_deBruijn64tab)] }
def FnExactLastLettersSaid : Prop := fnExactLastLettersRow.holds Tryd.pinned (OpenSpec.ofChange fnExactLastLettersSpec)

/-- ITS FALSE NEIGHBOUR: 'it returns false'. Refute it at one input. -/
def fnExactLastLettersWrong : ChangeSpec := { name := "fnExactLastLetters", fn := fun _ => fun
  | [d1, d2] => { results := [.lit (.bool false)], args := [d1, d2] }
  | _ => none }
def FnExactLastLettersWrongFalsely : Prop := fnExactLastLettersRow.holds Tryd.pinned (OpenSpec.ofChange fnExactLastLettersWrong)

/- THE SECOND FORM. 'bulk': how many values and letters a reading holds, each counted each time it is reached (what is shared counts as often as it is met; a slice's spare places count too). A statement '..UptoSaid' is the law's where the arguments, and the package variables that the reading takes, are together of bulk at most 1048576: NARROWER than '..Said'. Prove '..Said' where nothing that the law and all that it calls make is longer than what came in: it says more and counts as full. Else prove '..UptoSaid'. A law counts once. -/
mutual
def uptoBulk {H : Type} : DataW H → Nat
  | .lit (.string bytes) => bytes.length + 1
  | .lit _ => 1
  | .nil => 1
  | .ptr d => uptoBulk d + 1
  | .slice elems spare => uptoBulkAll elems + uptoBulkAll spare + 1
  | .agg parts => uptoBulkAll parts + 1
  | .iface _ d => uptoBulk d + 1
  | .map entries => uptoBulkEntries entries + 1
  | .held _ => 1
def uptoBulkAll {H : Type} : List (DataW H) → Nat
  | [] => 0
  | d :: r => uptoBulk d + uptoBulkAll r
def uptoBulkEntries {H : Type} : List (Lit × DataW H) → Nat
  | [] => 0
  | x :: r => uptoBulkEntry x + uptoBulkEntries r
def uptoBulkEntry {H : Type} : Lit × DataW H → Nat
  | (.string bytes, d) => bytes.length + uptoBulk d + 1
  | (_, d) => uptoBulk d + 1
 end
def uptoSmall : (H : Type) → List (DataW H) → Bool := fun _ ds => decide (uptoBulkAll ds ≤ 1048576)
def OpenSpec.upto (s : _root_.Go.ChangeSpec) : _root_.Go.OpenSpec := { _root_.Go.OpenSpec.ofChange s with cond := some uptoSmall }

/-- 'laws.FnExactNormalForm', WHERE WHAT IT READS IS OF BULK AT MOST 1048576: true; the input reads as it did. -/
def fnExactNormalFormUptoRow : OpenClaim := { program := "ytpcgjldcdjlenaadoor", sum := "c1e40858746e2c9afbfe7dcc0358d1a7c32c0cee85052758aeb878268e3f6a9e", func := "loop.example/g01094/laws.FnExactNormalForm", spec := "fnExactNormalForm", unfollowed := true, recurses := true, named := ["math/bits.deBruijn64tab"], apart := false, laid := [("math/bits.deBruijn64tab", laid_math_bits_deBruijn64tab)], narrowed := true }
def FnExactNormalFormUptoSaid : Prop := fnExactNormalFormUptoRow.holds Tryd.pinned (OpenSpec.upto fnExactNormalFormSpec)

/-- 'laws.FnExactReverseOf', WHERE WHAT IT READS IS OF BULK AT MOST 1048576: true; the input reads as it did. -/
def fnExactReverseOfUptoRow : OpenClaim := { program := "ytpcgjldcdjlenaadoor", sum := "c1e40858746e2c9afbfe7dcc0358d1a7c32c0cee85052758aeb878268e3f6a9e", func := "loop.example/g01094/laws.FnExactReverseOf", spec := "fnExactReverseOf", unfollowed := true, recurses := true, named := ["math/bits.deBruijn64tab"], apart := false, laid := [("math/bits.deBruijn64tab", laid_math_bits_deBruijn64tab)], narrowed := true }
def FnExactReverseOfUptoSaid : Prop := fnExactReverseOfUptoRow.holds Tryd.pinned (OpenSpec.upto fnExactReverseOfSpec)

/-- 'laws.FnExactProjectionOf', WHERE WHAT IT READS IS OF BULK AT MOST 1048576: true; the input reads as it did. -/
def fnExactProjectionOfUptoRow : OpenClaim := { program := "ytpcgjldcdjlenaadoor", sum := "c1e40858746e2c9afbfe7dcc0358d1a7c32c0cee85052758aeb878268e3f6a9e", func := "loop.example/g01094/laws.FnExactProjectionOf", spec := "fnExactProjectionOf", unfollowed := true, recurses := true, named := ["math/bits.deBruijn64tab"], apart := false, laid := [("math/bits.deBruijn64tab", laid_math_bits_deBruijn64tab)], narrowed := true }
def FnExactProjectionOfUptoSaid : Prop := fnExactProjectionOfUptoRow.holds Tryd.pinned (OpenSpec.upto fnExactProjectionOfSpec)

/-- 'laws.FnExactAreSameTrace', WHERE WHAT IT READS IS OF BULK AT MOST 1048576: true; the input reads as it did. -/
def fnExactAreSameTraceUptoRow : OpenClaim := { program := "ytpcgjldcdjlenaadoor", sum := "c1e40858746e2c9afbfe7dcc0358d1a7c32c0cee85052758aeb878268e3f6a9e", func := "loop.example/g01094/laws.FnExactAreSameTrace", spec := "fnExactAreSameTrace", unfollowed := true, recurses := true, named := ["math/bits.deBruijn64tab"], apart := false, laid := [("math/bits.deBruijn64tab", laid_math_bits_deBruijn64tab)], narrowed := true }
def FnExactAreSameTraceUptoSaid : Prop := fnExactAreSameTraceUptoRow.holds Tryd.pinned (OpenSpec.upto fnExactAreSameTraceSpec)

/-- 'laws.FnExactWordOfFoata', WHERE WHAT IT READS IS OF BULK AT MOST 1048576: true; the input reads as it did. -/
def fnExactWordOfFoataUptoRow : OpenClaim := { program := "ytpcgjldcdjlenaadoor", sum := "c1e40858746e2c9afbfe7dcc0358d1a7c32c0cee85052758aeb878268e3f6a9e", func := "loop.example/g01094/laws.FnExactWordOfFoata", spec := "fnExactWordOfFoata", unfollowed := true, recurses := true, named := ["math/bits.deBruijn64tab"], apart := false, laid := [("math/bits.deBruijn64tab", laid_math_bits_deBruijn64tab)], narrowed := true }
def FnExactWordOfFoataUptoSaid : Prop := fnExactWordOfFoataUptoRow.holds Tryd.pinned (OpenSpec.upto fnExactWordOfFoataSpec)

/-- 'laws.FnExactIsFoataForm', WHERE WHAT IT READS IS OF BULK AT MOST 1048576: true; the input reads as it did. -/
def fnExactIsFoataFormUptoRow : OpenClaim := { program := "ytpcgjldcdjlenaadoor", sum := "c1e40858746e2c9afbfe7dcc0358d1a7c32c0cee85052758aeb878268e3f6a9e", func := "loop.example/g01094/laws.FnExactIsFoataForm", spec := "fnExactIsFoataForm", unfollowed := true, recurses := true, named := ["math/bits.deBruijn64tab"], apart := false, laid := [("math/bits.deBruijn64tab", laid_math_bits_deBruijn64tab)], narrowed := true }
def FnExactIsFoataFormUptoSaid : Prop := fnExactIsFoataFormUptoRow.holds Tryd.pinned (OpenSpec.upto fnExactIsFoataFormSpec)

/-- 'laws.FnExactHeightOf', WHERE WHAT IT READS IS OF BULK AT MOST 1048576: true; the input reads as it did. -/
def fnExactHeightOfUptoRow : OpenClaim := { program := "ytpcgjldcdjlenaadoor", sum := "c1e40858746e2c9afbfe7dcc0358d1a7c32c0cee85052758aeb878268e3f6a9e", func := "loop.example/g01094/laws.FnExactHeightOf", spec := "fnExactHeightOf", unfollowed := true, recurses := true, named := ["math/bits.deBruijn64tab"], apart := false, laid := [("math/bits.deBruijn64tab", laid_math_bits_deBruijn64tab)], narrowed := true }
def FnExactHeightOfUptoSaid : Prop := fnExactHeightOfUptoRow.holds Tryd.pinned (OpenSpec.upto fnExactHeightOfSpec)

/-- 'laws.FnExactOrderOf', WHERE WHAT IT READS IS OF BULK AT MOST 1048576: true; the input reads as it did. -/
def fnExactOrderOfUptoRow : OpenClaim := { program := "ytpcgjldcdjlenaadoor", sum := "c1e40858746e2c9afbfe7dcc0358d1a7c32c0cee85052758aeb878268e3f6a9e", func := "loop.example/g01094/laws.FnExactOrderOf", spec := "fnExactOrderOf", unfollowed := true, recurses := true, named := ["math/bits.deBruijn64tab"], apart := false, laid := [("math/bits.deBruijn64tab", laid_math_bits_deBruijn64tab)], narrowed := true }
def FnExactOrderOfUptoSaid : Prop := fnExactOrderOfUptoRow.holds Tryd.pinned (OpenSpec.upto fnExactOrderOfSpec)

/-- 'laws.FnExactPastOf', WHERE WHAT IT READS IS OF BULK AT MOST 1048576: true; the input reads as it did. -/
def fnExactPastOfUptoRow : OpenClaim := { program := "ytpcgjldcdjlenaadoor", sum := "c1e40858746e2c9afbfe7dcc0358d1a7c32c0cee85052758aeb878268e3f6a9e", func := "loop.example/g01094/laws.FnExactPastOf", spec := "fnExactPastOf", unfollowed := true, recurses := true, named := ["math/bits.deBruijn64tab"], apart := false, laid := [("math/bits.deBruijn64tab", laid_math_bits_deBruijn64tab)], narrowed := true }
def FnExactPastOfUptoSaid : Prop := fnExactPastOfUptoRow.holds Tryd.pinned (OpenSpec.upto fnExactPastOfSpec)

/-- 'laws.FnExactConcurrentWith', WHERE WHAT IT READS IS OF BULK AT MOST 1048576: true; the input reads as it did. -/
def fnExactConcurrentWithUptoRow : OpenClaim := { program := "ytpcgjldcdjlenaadoor", sum := "c1e40858746e2c9afbfe7dcc0358d1a7c32c0cee85052758aeb878268e3f6a9e", func := "loop.example/g01094/laws.FnExactConcurrentWith", spec := "fnExactConcurrentWith", unfollowed := true, recurses := true, named := ["math/bits.deBruijn64tab"], apart := false, laid := [("math/bits.deBruijn64tab", laid_math_bits_deBruijn64tab)], narrowed := true }
def FnExactConcurrentWithUptoSaid : Prop := fnExactConcurrentWithUptoRow.holds Tryd.pinned (OpenSpec.upto fnExactConcurrentWithSpec)

/-- 'laws.FnExactFirstLetters', WHERE WHAT IT READS IS OF BULK AT MOST 1048576: true; the input reads as it did. -/
def fnExactFirstLettersUptoRow : OpenClaim := { program := "ytpcgjldcdjlenaadoor", sum := "c1e40858746e2c9afbfe7dcc0358d1a7c32c0cee85052758aeb878268e3f6a9e", func := "loop.example/g01094/laws.FnExactFirstLetters", spec := "fnExactFirstLetters", unfollowed := true, recurses := true, named := ["math/bits.deBruijn64tab"], apart := false, laid := [("math/bits.deBruijn64tab", laid_math_bits_deBruijn64tab)], narrowed := true }
def FnExactFirstLettersUptoSaid : Prop := fnExactFirstLettersUptoRow.holds Tryd.pinned (OpenSpec.upto fnExactFirstLettersSpec)

/-- 'laws.FnExactLastLetters', WHERE WHAT IT READS IS OF BULK AT MOST 1048576: true; the input reads as it did. -/
def fnExactLastLettersUptoRow : OpenClaim := { program := "ytpcgjldcdjlenaadoor", sum := "c1e40858746e2c9afbfe7dcc0358d1a7c32c0cee85052758aeb878268e3f6a9e", func := "loop.example/g01094/laws.FnExactLastLetters", spec := "fnExactLastLetters", unfollowed := true, recurses := true, named := ["math/bits.deBruijn64tab"], apart := false, laid := [("math/bits.deBruijn64tab", laid_math_bits_deBruijn64tab)], narrowed := true }
def FnExactLastLettersUptoSaid : Prop := fnExactLastLettersUptoRow.holds Tryd.pinned (OpenSpec.upto fnExactLastLettersSpec)

end Rows
end Go.Proofs.YtpcgjldcdjlenaaDoor

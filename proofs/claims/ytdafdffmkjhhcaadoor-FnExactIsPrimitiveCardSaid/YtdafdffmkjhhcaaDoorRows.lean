/-
  NARROWER THAN 'FOR EVERY INPUT', by the rows' own cells (each row's printed sentence says how): FnExactIsMorphism: laid · FnExactImageOf: laid · FnExactErasedLetters: laid · FnExactComposeMorphisms: laid · FnExactCommonContinuation: laid · FnExactCyclicReduction: laid · FnExactNextTrace: laid · FnExactRootOf: laid · FnExactIsPrimitive: laid · FnExactIsSystem: laid.
  DERIVED. THE GIVEN ROWS OF THIS SEAT. 10 by the template 'for every input the law returns true; each argument reads behind the call as it read before'; 0 by the template 'total and deterministic' (their statements: YtdafdffmkjhhcaaDoorTotals.lean).
  GIVEN WITH THE SEED: the statements are not yours to turn. If you find one false, say at which input.
  Laid BY PROGRAM, IN A SANDBOX (cutbox-rows.mjs): the forced cells as the released guide's own fill.sh prints them over the translation a4cd0b1fc8f8f175… (all of the seat's roots in one cut). By AI agents, Wed Nov 11 2026. No macro, syntax, notation, axiom, sorry.
-/
import Derived.Test.YtdafdffmkjhhcaaDoorChecked
import GoSem.Claim
import GoSem.ClaimJoined
import GoSem.ClaimMapViews
import Derived.JoinedTies
import Derived.KernelRfl
namespace Go.Proofs.YtdafdffmkjhhcaaDoor
/- THE CELL 'sum', in the pinned program and in every row, IS THE sha256 OF THE DUMP (.gsa) THAT YtdafdffmkjhhcaaDoorProg.lean LOADS. Nothing in Lean hashes anything: it is a label: what it is worth is what the hold of that sum in a sandbox is worth. -/
noncomputable def Tryd.pinned : Pinned := { name := "ytdafdffmkjhhcaadoor", sum := "a4cd0b1fc8f8f175b42f37bc4e2cb4a246a57235394a218c1a0c75db3cabad18", checked := Tryd.checked }
namespace Rows
def none {H : Type} : Left H := { results := [], args := [] }

/- WHAT THE LISTED PACKAGE-LEVEL VARIABLES READ AS WHEN THE CALL BEGINS. Each datum BY PROGRAM (the guide's laid-datum.mjs) off the statement by which the dump's own 'gosem.cut.vars' lays the variable. In a bare row this is a premise. The card (YtdafdffmkjhhcaaDoorCards.lean) ties it to the program's text. -/
def laid_math_bits_deBruijn64tab {H : Type} : DataW H := .agg [.lit (.int .u8 0), .lit (.int .u8 1), .lit (.int .u8 56), .lit (.int .u8 2), .lit (.int .u8 57), .lit (.int .u8 49), .lit (.int .u8 28), .lit (.int .u8 3), .lit (.int .u8 61), .lit (.int .u8 58), .lit (.int .u8 42), .lit (.int .u8 50), .lit (.int .u8 38), .lit (.int .u8 29), .lit (.int .u8 17), .lit (.int .u8 4), .lit (.int .u8 62), .lit (.int .u8 47), .lit (.int .u8 59), .lit (.int .u8 36), .lit (.int .u8 45), .lit (.int .u8 43), .lit (.int .u8 51), .lit (.int .u8 22), .lit (.int .u8 53), .lit (.int .u8 39), .lit (.int .u8 33), .lit (.int .u8 30), .lit (.int .u8 24), .lit (.int .u8 18), .lit (.int .u8 12), .lit (.int .u8 5), .lit (.int .u8 63), .lit (.int .u8 55), .lit (.int .u8 48), .lit (.int .u8 27), .lit (.int .u8 60), .lit (.int .u8 41), .lit (.int .u8 37), .lit (.int .u8 16), .lit (.int .u8 46), .lit (.int .u8 35), .lit (.int .u8 44), .lit (.int .u8 21), .lit (.int .u8 52), .lit (.int .u8 32), .lit (.int .u8 23), .lit (.int .u8 11), .lit (.int .u8 54), .lit (.int .u8 26), .lit (.int .u8 40), .lit (.int .u8 15), .lit (.int .u8 34), .lit (.int .u8 20), .lit (.int .u8 31), .lit (.int .u8 10), .lit (.int .u8 25), .lit (.int .u8 14), .lit (.int .u8 19), .lit (.int .u8 9), .lit (.int .u8 13), .lit (.int .u8 8), .lit (.int .u8 7), .lit (.int .u8 6)]

/-- 'laws.FnExactIsMorphism': WHATEVER THE INPUT: true; the input reads as it did. -/
def fnExactIsMorphismSpec : ChangeSpec := { name := "fnExactIsMorphism", fn := fun _ => fun
  | [d1, d2, d3] => { results := [.lit (.bool true)], args := [d1, d2, d3] }
  | _ => none }
def fnExactIsMorphismRow : OpenClaim := { program := "ytdafdffmkjhhcaadoor", sum := "a4cd0b1fc8f8f175b42f37bc4e2cb4a246a57235394a218c1a0c75db3cabad18", func := "loop.example/g01094/laws.FnExactIsMorphism", spec := "fnExactIsMorphism", unfollowed := true, recurses := true, named := ["math/bits.deBruijn64tab"], apart := false, laid := [("math/bits.deBruijn64tab", laid_math_bits_deBruijn64tab)] }
def FnExactIsMorphismSaid : Prop := fnExactIsMorphismRow.holds Tryd.pinned (OpenSpec.ofChange fnExactIsMorphismSpec)

/-- ITS FALSE NEIGHBOUR: 'it returns false'. Refute it at one input. -/
def fnExactIsMorphismWrong : ChangeSpec := { name := "fnExactIsMorphism", fn := fun _ => fun
  | [d1, d2, d3] => { results := [.lit (.bool false)], args := [d1, d2, d3] }
  | _ => none }
def FnExactIsMorphismWrongFalsely : Prop := fnExactIsMorphismRow.holds Tryd.pinned (OpenSpec.ofChange fnExactIsMorphismWrong)

/-- 'laws.FnExactImageOf': WHATEVER THE INPUT: true; the input reads as it did. -/
def fnExactImageOfSpec : ChangeSpec := { name := "fnExactImageOf", fn := fun _ => fun
  | [d1, d2, d3, d4] => { results := [.lit (.bool true)], args := [d1, d2, d3, d4] }
  | _ => none }
def fnExactImageOfRow : OpenClaim := { program := "ytdafdffmkjhhcaadoor", sum := "a4cd0b1fc8f8f175b42f37bc4e2cb4a246a57235394a218c1a0c75db3cabad18", func := "loop.example/g01094/laws.FnExactImageOf", spec := "fnExactImageOf", unfollowed := true, recurses := true, named := ["math/bits.deBruijn64tab"], apart := false, laid := [("math/bits.deBruijn64tab", laid_math_bits_deBruijn64tab)] }
def FnExactImageOfSaid : Prop := fnExactImageOfRow.holds Tryd.pinned (OpenSpec.ofChange fnExactImageOfSpec)

/-- ITS FALSE NEIGHBOUR: 'it returns false'. Refute it at one input. -/
def fnExactImageOfWrong : ChangeSpec := { name := "fnExactImageOf", fn := fun _ => fun
  | [d1, d2, d3, d4] => { results := [.lit (.bool false)], args := [d1, d2, d3, d4] }
  | _ => none }
def FnExactImageOfWrongFalsely : Prop := fnExactImageOfRow.holds Tryd.pinned (OpenSpec.ofChange fnExactImageOfWrong)

/-- 'laws.FnExactErasedLetters': WHATEVER THE INPUT: true; the input reads as it did. -/
def fnExactErasedLettersSpec : ChangeSpec := { name := "fnExactErasedLetters", fn := fun _ => fun
  | [d1, d2, d3] => { results := [.lit (.bool true)], args := [d1, d2, d3] }
  | _ => none }
def fnExactErasedLettersRow : OpenClaim := { program := "ytdafdffmkjhhcaadoor", sum := "a4cd0b1fc8f8f175b42f37bc4e2cb4a246a57235394a218c1a0c75db3cabad18", func := "loop.example/g01094/laws.FnExactErasedLetters", spec := "fnExactErasedLetters", unfollowed := true, recurses := true, named := ["math/bits.deBruijn64tab"], apart := false, laid := [("math/bits.deBruijn64tab", laid_math_bits_deBruijn64tab)] }
def FnExactErasedLettersSaid : Prop := fnExactErasedLettersRow.holds Tryd.pinned (OpenSpec.ofChange fnExactErasedLettersSpec)

/-- ITS FALSE NEIGHBOUR: 'it returns false'. Refute it at one input. -/
def fnExactErasedLettersWrong : ChangeSpec := { name := "fnExactErasedLetters", fn := fun _ => fun
  | [d1, d2, d3] => { results := [.lit (.bool false)], args := [d1, d2, d3] }
  | _ => none }
def FnExactErasedLettersWrongFalsely : Prop := fnExactErasedLettersRow.holds Tryd.pinned (OpenSpec.ofChange fnExactErasedLettersWrong)

/-- 'laws.FnExactComposeMorphisms': WHATEVER THE INPUT: true; the input reads as it did. -/
def fnExactComposeMorphismsSpec : ChangeSpec := { name := "fnExactComposeMorphisms", fn := fun _ => fun
  | [d1, d2, d3, d4, d5] => { results := [.lit (.bool true)], args := [d1, d2, d3, d4, d5] }
  | _ => none }
def fnExactComposeMorphismsRow : OpenClaim := { program := "ytdafdffmkjhhcaadoor", sum := "a4cd0b1fc8f8f175b42f37bc4e2cb4a246a57235394a218c1a0c75db3cabad18", func := "loop.example/g01094/laws.FnExactComposeMorphisms", spec := "fnExactComposeMorphisms", unfollowed := true, recurses := true, named := ["math/bits.deBruijn64tab"], apart := false, laid := [("math/bits.deBruijn64tab", laid_math_bits_deBruijn64tab)] }
def FnExactComposeMorphismsSaid : Prop := fnExactComposeMorphismsRow.holds Tryd.pinned (OpenSpec.ofChange fnExactComposeMorphismsSpec)

/-- ITS FALSE NEIGHBOUR: 'it returns false'. Refute it at one input. -/
def fnExactComposeMorphismsWrong : ChangeSpec := { name := "fnExactComposeMorphisms", fn := fun _ => fun
  | [d1, d2, d3, d4, d5] => { results := [.lit (.bool false)], args := [d1, d2, d3, d4, d5] }
  | _ => none }
def FnExactComposeMorphismsWrongFalsely : Prop := fnExactComposeMorphismsRow.holds Tryd.pinned (OpenSpec.ofChange fnExactComposeMorphismsWrong)

/-- 'laws.FnExactCommonContinuation': WHATEVER THE INPUT: true; the input reads as it did. -/
def fnExactCommonContinuationSpec : ChangeSpec := { name := "fnExactCommonContinuation", fn := fun _ => fun
  | [d1, d2] => { results := [.lit (.bool true)], args := [d1, d2] }
  | _ => none }
def fnExactCommonContinuationRow : OpenClaim := { program := "ytdafdffmkjhhcaadoor", sum := "a4cd0b1fc8f8f175b42f37bc4e2cb4a246a57235394a218c1a0c75db3cabad18", func := "loop.example/g01094/laws.FnExactCommonContinuation", spec := "fnExactCommonContinuation", unfollowed := true, recurses := true, named := ["math/bits.deBruijn64tab"], apart := false, laid := [("math/bits.deBruijn64tab", laid_math_bits_deBruijn64tab)] }
def FnExactCommonContinuationSaid : Prop := fnExactCommonContinuationRow.holds Tryd.pinned (OpenSpec.ofChange fnExactCommonContinuationSpec)

/-- ITS FALSE NEIGHBOUR: 'it returns false'. Refute it at one input. -/
def fnExactCommonContinuationWrong : ChangeSpec := { name := "fnExactCommonContinuation", fn := fun _ => fun
  | [d1, d2] => { results := [.lit (.bool false)], args := [d1, d2] }
  | _ => none }
def FnExactCommonContinuationWrongFalsely : Prop := fnExactCommonContinuationRow.holds Tryd.pinned (OpenSpec.ofChange fnExactCommonContinuationWrong)

/-- 'laws.FnExactCyclicReduction': WHATEVER THE INPUT: true; the input reads as it did. -/
def fnExactCyclicReductionSpec : ChangeSpec := { name := "fnExactCyclicReduction", fn := fun _ => fun
  | [d1, d2] => { results := [.lit (.bool true)], args := [d1, d2] }
  | _ => none }
def fnExactCyclicReductionRow : OpenClaim := { program := "ytdafdffmkjhhcaadoor", sum := "a4cd0b1fc8f8f175b42f37bc4e2cb4a246a57235394a218c1a0c75db3cabad18", func := "loop.example/g01094/laws.FnExactCyclicReduction", spec := "fnExactCyclicReduction", inPlace := ["slices.overlaps[int64]"], unfollowed := true, recurses := true, named := ["math/bits.deBruijn64tab"], apart := false, laid := [("math/bits.deBruijn64tab", laid_math_bits_deBruijn64tab)] }
def FnExactCyclicReductionSaid : Prop := fnExactCyclicReductionRow.holds Tryd.pinned (OpenSpec.ofChange fnExactCyclicReductionSpec)

/-- ITS FALSE NEIGHBOUR: 'it returns false'. Refute it at one input. -/
def fnExactCyclicReductionWrong : ChangeSpec := { name := "fnExactCyclicReduction", fn := fun _ => fun
  | [d1, d2] => { results := [.lit (.bool false)], args := [d1, d2] }
  | _ => none }
def FnExactCyclicReductionWrongFalsely : Prop := fnExactCyclicReductionRow.holds Tryd.pinned (OpenSpec.ofChange fnExactCyclicReductionWrong)

/-- 'laws.FnExactNextTrace': WHATEVER THE INPUT: true; the input reads as it did. -/
def fnExactNextTraceSpec : ChangeSpec := { name := "fnExactNextTrace", fn := fun _ => fun
  | [d1, d2] => { results := [.lit (.bool true)], args := [d1, d2] }
  | _ => none }
def fnExactNextTraceRow : OpenClaim := { program := "ytdafdffmkjhhcaadoor", sum := "a4cd0b1fc8f8f175b42f37bc4e2cb4a246a57235394a218c1a0c75db3cabad18", func := "loop.example/g01094/laws.FnExactNextTrace", spec := "fnExactNextTrace", unfollowed := true, recurses := true, named := ["math/bits.deBruijn64tab"], apart := false, laid := [("math/bits.deBruijn64tab", laid_math_bits_deBruijn64tab)] }
def FnExactNextTraceSaid : Prop := fnExactNextTraceRow.holds Tryd.pinned (OpenSpec.ofChange fnExactNextTraceSpec)

/-- ITS FALSE NEIGHBOUR: 'it returns false'. Refute it at one input. -/
def fnExactNextTraceWrong : ChangeSpec := { name := "fnExactNextTrace", fn := fun _ => fun
  | [d1, d2] => { results := [.lit (.bool false)], args := [d1, d2] }
  | _ => none }
def FnExactNextTraceWrongFalsely : Prop := fnExactNextTraceRow.holds Tryd.pinned (OpenSpec.ofChange fnExactNextTraceWrong)

/-- 'laws.FnExactRootOf': WHATEVER THE INPUT: true; the input reads as it did. -/
def fnExactRootOfSpec : ChangeSpec := { name := "fnExactRootOf", fn := fun _ => fun
  | [d1, d2] => { results := [.lit (.bool true)], args := [d1, d2] }
  | _ => none }
def fnExactRootOfRow : OpenClaim := { program := "ytdafdffmkjhhcaadoor", sum := "a4cd0b1fc8f8f175b42f37bc4e2cb4a246a57235394a218c1a0c75db3cabad18", func := "loop.example/g01094/laws.FnExactRootOf", spec := "fnExactRootOf", unfollowed := true, recurses := true, named := ["math/bits.deBruijn64tab"], apart := false, laid := [("math/bits.deBruijn64tab", laid_math_bits_deBruijn64tab)] }
def FnExactRootOfSaid : Prop := fnExactRootOfRow.holds Tryd.pinned (OpenSpec.ofChange fnExactRootOfSpec)

/-- ITS FALSE NEIGHBOUR: 'it returns false'. Refute it at one input. -/
def fnExactRootOfWrong : ChangeSpec := { name := "fnExactRootOf", fn := fun _ => fun
  | [d1, d2] => { results := [.lit (.bool false)], args := [d1, d2] }
  | _ => none }
def FnExactRootOfWrongFalsely : Prop := fnExactRootOfRow.holds Tryd.pinned (OpenSpec.ofChange fnExactRootOfWrong)

/-- 'laws.FnExactIsPrimitive': WHATEVER THE INPUT: true; the input reads as it did. -/
def fnExactIsPrimitiveSpec : ChangeSpec := { name := "fnExactIsPrimitive", fn := fun _ => fun
  | [d1, d2] => { results := [.lit (.bool true)], args := [d1, d2] }
  | _ => none }
def fnExactIsPrimitiveRow : OpenClaim := { program := "ytdafdffmkjhhcaadoor", sum := "a4cd0b1fc8f8f175b42f37bc4e2cb4a246a57235394a218c1a0c75db3cabad18", func := "loop.example/g01094/laws.FnExactIsPrimitive", spec := "fnExactIsPrimitive", unfollowed := true, recurses := true, named := ["math/bits.deBruijn64tab"], apart := false, laid := [("math/bits.deBruijn64tab", laid_math_bits_deBruijn64tab)] }
def FnExactIsPrimitiveSaid : Prop := fnExactIsPrimitiveRow.holds Tryd.pinned (OpenSpec.ofChange fnExactIsPrimitiveSpec)

/-- ITS FALSE NEIGHBOUR: 'it returns false'. Refute it at one input. -/
def fnExactIsPrimitiveWrong : ChangeSpec := { name := "fnExactIsPrimitive", fn := fun _ => fun
  | [d1, d2] => { results := [.lit (.bool false)], args := [d1, d2] }
  | _ => none }
def FnExactIsPrimitiveWrongFalsely : Prop := fnExactIsPrimitiveRow.holds Tryd.pinned (OpenSpec.ofChange fnExactIsPrimitiveWrong)

/-- 'laws.FnExactIsSystem': WHATEVER THE INPUT: true; the input reads as it did. -/
def fnExactIsSystemSpec : ChangeSpec := { name := "fnExactIsSystem", fn := fun _ => fun
  | [d1, d2] => { results := [.lit (.bool true)], args := [d1, d2] }
  | _ => none }
def fnExactIsSystemRow : OpenClaim := { program := "ytdafdffmkjhhcaadoor", sum := "a4cd0b1fc8f8f175b42f37bc4e2cb4a246a57235394a218c1a0c75db3cabad18", func := "loop.example/g01094/laws.FnExactIsSystem", spec := "fnExactIsSystem", unfollowed := true, recurses := true, named := ["math/bits.deBruijn64tab"], apart := false, laid := [("math/bits.deBruijn64tab", laid_math_bits_deBruijn64tab)] }
def FnExactIsSystemSaid : Prop := fnExactIsSystemRow.holds Tryd.pinned (OpenSpec.ofChange fnExactIsSystemSpec)

/-- ITS FALSE NEIGHBOUR: 'it returns false'. Refute it at one input. -/
def fnExactIsSystemWrong : ChangeSpec := { name := "fnExactIsSystem", fn := fun _ => fun
  | [d1, d2] => { results := [.lit (.bool false)], args := [d1, d2] }
  | _ => none }
def FnExactIsSystemWrongFalsely : Prop := fnExactIsSystemRow.holds Tryd.pinned (OpenSpec.ofChange fnExactIsSystemWrong)

/- THE SECOND FORM. 'bulk': how many values and letters a reading holds, each counted each time it is reached (what is shared counts as often as it is met; a slice's spare places count too). A statement '..UptoSaid' is the law's where the arguments, and the package variables that the reading takes, are together of bulk at most 1048576: NARROWER than '..Said'. Prove '..Said' where nothing that the law and all that it calls make is longer than what came in: it says more and counts as full. Else prove '..UptoSaid'. A law counts once. -/
mutual
def uptoBulk {H : Type} : DataW H → Nat
  | .lit (.string bytes) => bytes.length + 1
  | .lit _ => 1
  | .nil => 1
  | .ptr d => uptoBulk d + 1
  | .slice elems spare => uptoBulkAll elems + uptoBulkAll spare + 1
  | .agg parts => uptoBulkAll parts + 1
  | .iface _ d => uptoBulk d + 1
  | .map entries => uptoBulkEntries entries + 1
  | .held _ => 1
def uptoBulkAll {H : Type} : List (DataW H) → Nat
  | [] => 0
  | d :: r => uptoBulk d + uptoBulkAll r
def uptoBulkEntries {H : Type} : List (Lit × DataW H) → Nat
  | [] => 0
  | x :: r => uptoBulkEntry x + uptoBulkEntries r
def uptoBulkEntry {H : Type} : Lit × DataW H → Nat
  | (.string bytes, d) => bytes.length + uptoBulk d + 1
  | (_, d) => uptoBulk d + 1
 end
def uptoSmall : (H : Type) → List (DataW H) → Bool := fun _ ds => decide (uptoBulkAll ds ≤ 1048576)
def OpenSpec.upto (s : _root_.Go.ChangeSpec) : _root_.Go.OpenSpec := { _root_.Go.OpenSpec.ofChange s with cond := some uptoSmall }

/-- 'laws.FnExactIsMorphism', WHERE WHAT IT READS IS OF BULK AT MOST 1048576: true; the input reads as it did. -/
def fnExactIsMorphismUptoRow : OpenClaim := { program := "ytdafdffmkjhhcaadoor", sum := "a4cd0b1fc8f8f175b42f37bc4e2cb4a246a57235394a218c1a0c75db3cabad18", func := "loop.example/g01094/laws.FnExactIsMorphism", spec := "fnExactIsMorphism", unfollowed := true, recurses := true, named := ["math/bits.deBruijn64tab"], apart := false, laid := [("math/bits.deBruijn64tab", laid_math_bits_deBruijn64tab)], narrowed := true }
def FnExactIsMorphismUptoSaid : Prop := fnExactIsMorphismUptoRow.holds Tryd.pinned (OpenSpec.upto fnExactIsMorphismSpec)

/-- 'laws.FnExactImageOf', WHERE WHAT IT READS IS OF BULK AT MOST 1048576: true; the input reads as it did. -/
def fnExactImageOfUptoRow : OpenClaim := { program := "ytdafdffmkjhhcaadoor", sum := "a4cd0b1fc8f8f175b42f37bc4e2cb4a246a57235394a218c1a0c75db3cabad18", func := "loop.example/g01094/laws.FnExactImageOf", spec := "fnExactImageOf", unfollowed := true, recurses := true, named := ["math/bits.deBruijn64tab"], apart := false, laid := [("math/bits.deBruijn64tab", laid_math_bits_deBruijn64tab)], narrowed := true }
def FnExactImageOfUptoSaid : Prop := fnExactImageOfUptoRow.holds Tryd.pinned (OpenSpec.upto fnExactImageOfSpec)

/-- 'laws.FnExactErasedLetters', WHERE WHAT IT READS IS OF BULK AT MOST 1048576: true; the input reads as it did. -/
def fnExactErasedLettersUptoRow : OpenClaim := { program := "ytdafdffmkjhhcaadoor", sum := "a4cd0b1fc8f8f175b42f37bc4e2cb4a246a57235394a218c1a0c75db3cabad18", func := "loop.example/g01094/laws.FnExactErasedLetters", spec := "fnExactErasedLetters", unfollowed := true, recurses := true, named := ["math/bits.deBruijn64tab"], apart := false, laid := [("math/bits.deBruijn64tab", laid_math_bits_deBruijn64tab)], narrowed := true }
def FnExactErasedLettersUptoSaid : Prop := fnExactErasedLettersUptoRow.holds Tryd.pinned (OpenSpec.upto fnExactErasedLettersSpec)

/-- 'laws.FnExactComposeMorphisms', WHERE WHAT IT READS IS OF BULK AT MOST 1048576: true; the input reads as it did. -/
def fnExactComposeMorphismsUptoRow : OpenClaim := { program := "ytdafdffmkjhhcaadoor", sum := "a4cd0b1fc8f8f175b42f37bc4e2cb4a246a57235394a218c1a0c75db3cabad18", func := "loop.example/g01094/laws.FnExactComposeMorphisms", spec := "fnExactComposeMorphisms", unfollowed := true, recurses := true, named := ["math/bits.deBruijn64tab"], apart := false, laid := [("math/bits.deBruijn64tab", laid_math_bits_deBruijn64tab)], narrowed := true }
def FnExactComposeMorphismsUptoSaid : Prop := fnExactComposeMorphismsUptoRow.holds Tryd.pinned (OpenSpec.upto fnExactComposeMorphismsSpec)

/-- 'laws.FnExactCommonContinuation', WHERE WHAT IT READS IS OF BULK AT MOST 1048576: true; the input reads as it did. -/
def fnExactCommonContinuationUptoRow : OpenClaim := { program := "ytdafdffmkjhhcaadoor", sum := "a4cd0b1fc8f8f175b42f37bc4e2cb4a246a57235394a218c1a0c75db3cabad18", func := "loop.example/g01094/laws.FnExactCommonContinuation", spec := "fnExactCommonContinuation", unfollowed := true, recurses := true, named := ["math/bits.deBruijn64tab"], apart := false, laid := [("math/bits.deBruijn64tab", laid_math_bits_deBruijn64tab)], narrowed := true }
def FnExactCommonContinuationUptoSaid : Prop := fnExactCommonContinuationUptoRow.holds Tryd.pinned (OpenSpec.upto fnExactCommonContinuationSpec)

/-- 'laws.FnExactCyclicReduction', WHERE WHAT IT READS IS OF BULK AT MOST 1048576: true; the input reads as it did. -/
def fnExactCyclicReductionUptoRow : OpenClaim := { program := "ytdafdffmkjhhcaadoor", sum := "a4cd0b1fc8f8f175b42f37bc4e2cb4a246a57235394a218c1a0c75db3cabad18", func := "loop.example/g01094/laws.FnExactCyclicReduction", spec := "fnExactCyclicReduction", inPlace := ["slices.overlaps[int64]"], unfollowed := true, recurses := true, named := ["math/bits.deBruijn64tab"], apart := false, laid := [("math/bits.deBruijn64tab", laid_math_bits_deBruijn64tab)], narrowed := true }
def FnExactCyclicReductionUptoSaid : Prop := fnExactCyclicReductionUptoRow.holds Tryd.pinned (OpenSpec.upto fnExactCyclicReductionSpec)

/-- 'laws.FnExactNextTrace', WHERE WHAT IT READS IS OF BULK AT MOST 1048576: true; the input reads as it did. -/
def fnExactNextTraceUptoRow : OpenClaim := { program := "ytdafdffmkjhhcaadoor", sum := "a4cd0b1fc8f8f175b42f37bc4e2cb4a246a57235394a218c1a0c75db3cabad18", func := "loop.example/g01094/laws.FnExactNextTrace", spec := "fnExactNextTrace", unfollowed := true, recurses := true, named := ["math/bits.deBruijn64tab"], apart := false, laid := [("math/bits.deBruijn64tab", laid_math_bits_deBruijn64tab)], narrowed := true }
def FnExactNextTraceUptoSaid : Prop := fnExactNextTraceUptoRow.holds Tryd.pinned (OpenSpec.upto fnExactNextTraceSpec)

/-- 'laws.FnExactRootOf', WHERE WHAT IT READS IS OF BULK AT MOST 1048576: true; the input reads as it did. -/
def fnExactRootOfUptoRow : OpenClaim := { program := "ytdafdffmkjhhcaadoor", sum := "a4cd0b1fc8f8f175b42f37bc4e2cb4a246a57235394a218c1a0c75db3cabad18", func := "loop.example/g01094/laws.FnExactRootOf", spec := "fnExactRootOf", unfollowed := true, recurses := true, named := ["math/bits.deBruijn64tab"], apart := false, laid := [("math/bits.deBruijn64tab", laid_math_bits_deBruijn64tab)], narrowed := true }
def FnExactRootOfUptoSaid : Prop := fnExactRootOfUptoRow.holds Tryd.pinned (OpenSpec.upto fnExactRootOfSpec)

/-- 'laws.FnExactIsPrimitive', WHERE WHAT IT READS IS OF BULK AT MOST 1048576: true; the input reads as it did. -/
def fnExactIsPrimitiveUptoRow : OpenClaim := { program := "ytdafdffmkjhhcaadoor", sum := "a4cd0b1fc8f8f175b42f37bc4e2cb4a246a57235394a218c1a0c75db3cabad18", func := "loop.example/g01094/laws.FnExactIsPrimitive", spec := "fnExactIsPrimitive", unfollowed := true, recurses := true, named := ["math/bits.deBruijn64tab"], apart := false, laid := [("math/bits.deBruijn64tab", laid_math_bits_deBruijn64tab)], narrowed := true }
def FnExactIsPrimitiveUptoSaid : Prop := fnExactIsPrimitiveUptoRow.holds Tryd.pinned (OpenSpec.upto fnExactIsPrimitiveSpec)

/-- 'laws.FnExactIsSystem', WHERE WHAT IT READS IS OF BULK AT MOST 1048576: true; the input reads as it did. -/
def fnExactIsSystemUptoRow : OpenClaim := { program := "ytdafdffmkjhhcaadoor", sum := "a4cd0b1fc8f8f175b42f37bc4e2cb4a246a57235394a218c1a0c75db3cabad18", func := "loop.example/g01094/laws.FnExactIsSystem", spec := "fnExactIsSystem", unfollowed := true, recurses := true, named := ["math/bits.deBruijn64tab"], apart := false, laid := [("math/bits.deBruijn64tab", laid_math_bits_deBruijn64tab)], narrowed := true }
def FnExactIsSystemUptoSaid : Prop := fnExactIsSystemUptoRow.holds Tryd.pinned (OpenSpec.upto fnExactIsSystemSpec)

end Rows
end Go.Proofs.YtdafdffmkjhhcaaDoor

/-
  NARROWER THAN 'FOR EVERY INPUT', by the rows' own cells (each row's printed sentence says how): FnExactIsMorphism: laid · FnExactImageOf: laid · FnExactErasedLetters: laid · FnExactComposeMorphisms: laid · FnExactApplySymmetry: laid · FnExactSymmetriesOf: laid · FnExactCountLyndon: laid · FnExactTraceAtRank: laid · FnSameTraces: laid · FnComponents: laid · FnPrefixesIn: laid · FnFirstLetters: laid.
  DERIVED. THE GIVEN ROWS OF THIS SEAT. 12 by the template 'for every input the law returns true; each argument reads behind the call as it read before'; 0 by the template 'total and deterministic' (their statements: YtcojodkcpemfdaaDoorTotals.lean).
  GIVEN WITH THE SEED: the statements are not yours to turn. If you find one false, say at which input.
  Laid BY PROGRAM, IN A SANDBOX (cutbox-rows.mjs): the forced cells as the released guide's own fill.sh prints them over the translation 51ae684780280607… (all of the seat's roots in one cut). By AI agents, Wed Nov 11 2026. No macro, syntax, notation, axiom, sorry.
-/
import Derived.Test.YtcojodkcpemfdaaDoorChecked
import GoSem.Claim
import GoSem.ClaimJoined
import GoSem.ClaimMapViews
import Derived.JoinedTies
import Derived.KernelRfl
namespace Go.Proofs.YtcojodkcpemfdaaDoor
/- THE CELL 'sum', in the pinned program and in every row, IS THE sha256 OF THE DUMP (.gsa) THAT YtcojodkcpemfdaaDoorProg.lean LOADS. Nothing in Lean hashes anything: it is a label: what it is worth is what the hold of that sum in a sandbox is worth. -/
noncomputable def Tryd.pinned : Pinned := { name := "ytcojodkcpemfdaadoor", sum := "51ae684780280607be0d8f4c26becc610ec4aae9b2c70031bb9f327e5e902c7e", checked := Tryd.checked }
namespace Rows
def none {H : Type} : Left H := { results := [], args := [] }

/- WHAT THE LISTED PACKAGE-LEVEL VARIABLES READ AS WHEN THE CALL BEGINS. Each datum BY PROGRAM (the guide's laid-datum.mjs) off the statement by which the dump's own 'gosem.cut.vars' lays the variable. In a bare row this is a premise. The card (YtcojodkcpemfdaaDoorCards.lean) ties it to the program's text. -/
def laid_math_bits_deBruijn64tab {H : Type} : DataW H := .agg [.lit (.int .u8 0), .lit (.int .u8 1), .lit (.int .u8 56), .lit (.int .u8 2), .lit (.int .u8 57), .lit (.int .u8 49), .lit (.int .u8 28), .lit (.int .u8 3), .lit (.int .u8 61), .lit (.int .u8 58), .lit (.int .u8 42), .lit (.int .u8 50), .lit (.int .u8 38), .lit (.int .u8 29), .lit (.int .u8 17), .lit (.int .u8 4), .lit (.int .u8 62), .lit (.int .u8 47), .lit (.int .u8 59), .lit (.int .u8 36), .lit (.int .u8 45), .lit (.int .u8 43), .lit (.int .u8 51), .lit (.int .u8 22), .lit (.int .u8 53), .lit (.int .u8 39), .lit (.int .u8 33), .lit (.int .u8 30), .lit (.int .u8 24), .lit (.int .u8 18), .lit (.int .u8 12), .lit (.int .u8 5), .lit (.int .u8 63), .lit (.int .u8 55), .lit (.int .u8 48), .lit (.int .u8 27), .lit (.int .u8 60), .lit (.int .u8 41), .lit (.int .u8 37), .lit (.int .u8 16), .lit (.int .u8 46), .lit (.int .u8 35), .lit (.int .u8 44), .lit (.int .u8 21), .lit (.int .u8 52), .lit (.int .u8 32), .lit (.int .u8 23), .lit (.int .u8 11), .lit (.int .u8 54), .lit (.int .u8 26), .lit (.int .u8 40), .lit (.int .u8 15), .lit (.int .u8 34), .lit (.int .u8 20), .lit (.int .u8 31), .lit (.int .u8 10), .lit (.int .u8 25), .lit (.int .u8 14), .lit (.int .u8 19), .lit (.int .u8 9), .lit (.int .u8 13), .lit (.int .u8 8), .lit (.int .u8 7), .lit (.int .u8 6)]

/-- 'laws.FnExactIsMorphism': WHATEVER THE INPUT: true; the input reads as it did. -/
def fnExactIsMorphismSpec : ChangeSpec := { name := "fnExactIsMorphism", fn := fun _ => fun
  | [d1, d2, d3] => { results := [.lit (.bool true)], args := [d1, d2, d3] }
  | _ => none }
def fnExactIsMorphismRow : OpenClaim := { program := "ytcojodkcpemfdaadoor", sum := "51ae684780280607be0d8f4c26becc610ec4aae9b2c70031bb9f327e5e902c7e", func := "loop.example/g01094/laws.FnExactIsMorphism", spec := "fnExactIsMorphism", unfollowed := true, recurses := true, named := ["math/bits.deBruijn64tab"], plainKeys := false, apart := false, laid := [("math/bits.deBruijn64tab", laid_math_bits_deBruijn64tab)] }
def FnExactIsMorphismSaid : Prop := fnExactIsMorphismRow.holds Tryd.pinned (OpenSpec.ofChange fnExactIsMorphismSpec)

/-- ITS FALSE NEIGHBOUR: 'it returns false'. Refute it at one input. -/
def fnExactIsMorphismWrong : ChangeSpec := { name := "fnExactIsMorphism", fn := fun _ => fun
  | [d1, d2, d3] => { results := [.lit (.bool false)], args := [d1, d2, d3] }
  | _ => none }
def FnExactIsMorphismWrongFalsely : Prop := fnExactIsMorphismRow.holds Tryd.pinned (OpenSpec.ofChange fnExactIsMorphismWrong)

/-- 'laws.FnExactImageOf': WHATEVER THE INPUT: true; the input reads as it did. -/
def fnExactImageOfSpec : ChangeSpec := { name := "fnExactImageOf", fn := fun _ => fun
  | [d1, d2, d3, d4] => { results := [.lit (.bool true)], args := [d1, d2, d3, d4] }
  | _ => none }
def fnExactImageOfRow : OpenClaim := { program := "ytcojodkcpemfdaadoor", sum := "51ae684780280607be0d8f4c26becc610ec4aae9b2c70031bb9f327e5e902c7e", func := "loop.example/g01094/laws.FnExactImageOf", spec := "fnExactImageOf", unfollowed := true, recurses := true, named := ["math/bits.deBruijn64tab"], plainKeys := false, apart := false, laid := [("math/bits.deBruijn64tab", laid_math_bits_deBruijn64tab)] }
def FnExactImageOfSaid : Prop := fnExactImageOfRow.holds Tryd.pinned (OpenSpec.ofChange fnExactImageOfSpec)

/-- ITS FALSE NEIGHBOUR: 'it returns false'. Refute it at one input. -/
def fnExactImageOfWrong : ChangeSpec := { name := "fnExactImageOf", fn := fun _ => fun
  | [d1, d2, d3, d4] => { results := [.lit (.bool false)], args := [d1, d2, d3, d4] }
  | _ => none }
def FnExactImageOfWrongFalsely : Prop := fnExactImageOfRow.holds Tryd.pinned (OpenSpec.ofChange fnExactImageOfWrong)

/-- 'laws.FnExactErasedLetters': WHATEVER THE INPUT: true; the input reads as it did. -/
def fnExactErasedLettersSpec : ChangeSpec := { name := "fnExactErasedLetters", fn := fun _ => fun
  | [d1, d2, d3] => { results := [.lit (.bool true)], args := [d1, d2, d3] }
  | _ => none }
def fnExactErasedLettersRow : OpenClaim := { program := "ytcojodkcpemfdaadoor", sum := "51ae684780280607be0d8f4c26becc610ec4aae9b2c70031bb9f327e5e902c7e", func := "loop.example/g01094/laws.FnExactErasedLetters", spec := "fnExactErasedLetters", unfollowed := true, recurses := true, named := ["math/bits.deBruijn64tab"], plainKeys := false, apart := false, laid := [("math/bits.deBruijn64tab", laid_math_bits_deBruijn64tab)] }
def FnExactErasedLettersSaid : Prop := fnExactErasedLettersRow.holds Tryd.pinned (OpenSpec.ofChange fnExactErasedLettersSpec)

/-- ITS FALSE NEIGHBOUR: 'it returns false'. Refute it at one input. -/
def fnExactErasedLettersWrong : ChangeSpec := { name := "fnExactErasedLetters", fn := fun _ => fun
  | [d1, d2, d3] => { results := [.lit (.bool false)], args := [d1, d2, d3] }
  | _ => none }
def FnExactErasedLettersWrongFalsely : Prop := fnExactErasedLettersRow.holds Tryd.pinned (OpenSpec.ofChange fnExactErasedLettersWrong)

/-- 'laws.FnExactComposeMorphisms': WHATEVER THE INPUT: true; the input reads as it did. -/
def fnExactComposeMorphismsSpec : ChangeSpec := { name := "fnExactComposeMorphisms", fn := fun _ => fun
  | [d1, d2, d3, d4, d5] => { results := [.lit (.bool true)], args := [d1, d2, d3, d4, d5] }
  | _ => none }
def fnExactComposeMorphismsRow : OpenClaim := { program := "ytcojodkcpemfdaadoor", sum := "51ae684780280607be0d8f4c26becc610ec4aae9b2c70031bb9f327e5e902c7e", func := "loop.example/g01094/laws.FnExactComposeMorphisms", spec := "fnExactComposeMorphisms", unfollowed := true, recurses := true, named := ["math/bits.deBruijn64tab"], plainKeys := false, apart := false, laid := [("math/bits.deBruijn64tab", laid_math_bits_deBruijn64tab)] }
def FnExactComposeMorphismsSaid : Prop := fnExactComposeMorphismsRow.holds Tryd.pinned (OpenSpec.ofChange fnExactComposeMorphismsSpec)

/-- ITS FALSE NEIGHBOUR: 'it returns false'. Refute it at one input. -/
def fnExactComposeMorphismsWrong : ChangeSpec := { name := "fnExactComposeMorphisms", fn := fun _ => fun
  | [d1, d2, d3, d4, d5] => { results := [.lit (.bool false)], args := [d1, d2, d3, d4, d5] }
  | _ => none }
def FnExactComposeMorphismsWrongFalsely : Prop := fnExactComposeMorphismsRow.holds Tryd.pinned (OpenSpec.ofChange fnExactComposeMorphismsWrong)

/-- 'laws.FnExactApplySymmetry': WHATEVER THE INPUT: true; the input reads as it did. -/
def fnExactApplySymmetrySpec : ChangeSpec := { name := "fnExactApplySymmetry", fn := fun _ => fun
  | [d1, d2, d3] => { results := [.lit (.bool true)], args := [d1, d2, d3] }
  | _ => none }
def fnExactApplySymmetryRow : OpenClaim := { program := "ytcojodkcpemfdaadoor", sum := "51ae684780280607be0d8f4c26becc610ec4aae9b2c70031bb9f327e5e902c7e", func := "loop.example/g01094/laws.FnExactApplySymmetry", spec := "fnExactApplySymmetry", unfollowed := true, recurses := true, named := ["math/bits.deBruijn64tab"], plainKeys := false, apart := false, laid := [("math/bits.deBruijn64tab", laid_math_bits_deBruijn64tab)] }
def FnExactApplySymmetrySaid : Prop := fnExactApplySymmetryRow.holds Tryd.pinned (OpenSpec.ofChange fnExactApplySymmetrySpec)

/-- ITS FALSE NEIGHBOUR: 'it returns false'. Refute it at one input. -/
def fnExactApplySymmetryWrong : ChangeSpec := { name := "fnExactApplySymmetry", fn := fun _ => fun
  | [d1, d2, d3] => { results := [.lit (.bool false)], args := [d1, d2, d3] }
  | _ => none }
def FnExactApplySymmetryWrongFalsely : Prop := fnExactApplySymmetryRow.holds Tryd.pinned (OpenSpec.ofChange fnExactApplySymmetryWrong)

/-- 'laws.FnExactSymmetriesOf': WHATEVER THE INPUT: true; the input reads as it did. -/
def fnExactSymmetriesOfSpec : ChangeSpec := { name := "fnExactSymmetriesOf", fn := fun _ => fun
  | [d] => { results := [.lit (.bool true)], args := [d] }
  | _ => none }
def fnExactSymmetriesOfRow : OpenClaim := { program := "ytcojodkcpemfdaadoor", sum := "51ae684780280607be0d8f4c26becc610ec4aae9b2c70031bb9f327e5e902c7e", func := "loop.example/g01094/laws.FnExactSymmetriesOf", spec := "fnExactSymmetriesOf", unfollowed := true, recurses := true, named := ["math/bits.deBruijn64tab"], plainKeys := false, apart := false, laid := [("math/bits.deBruijn64tab", laid_math_bits_deBruijn64tab)] }
def FnExactSymmetriesOfSaid : Prop := fnExactSymmetriesOfRow.holds Tryd.pinned (OpenSpec.ofChange fnExactSymmetriesOfSpec)

/-- ITS FALSE NEIGHBOUR: 'it returns false'. Refute it at one input. -/
def fnExactSymmetriesOfWrong : ChangeSpec := { name := "fnExactSymmetriesOf", fn := fun _ => fun
  | [d] => { results := [.lit (.bool false)], args := [d] }
  | _ => none }
def FnExactSymmetriesOfWrongFalsely : Prop := fnExactSymmetriesOfRow.holds Tryd.pinned (OpenSpec.ofChange fnExactSymmetriesOfWrong)

/-- 'laws.FnExactCountLyndon': WHATEVER THE INPUT: true; the input reads as it did. -/
def fnExactCountLyndonSpec : ChangeSpec := { name := "fnExactCountLyndon", fn := fun _ => fun
  | [d1, d2] => { results := [.lit (.bool true)], args := [d1, d2] }
  | _ => none }
def fnExactCountLyndonRow : OpenClaim := { program := "ytcojodkcpemfdaadoor", sum := "51ae684780280607be0d8f4c26becc610ec4aae9b2c70031bb9f327e5e902c7e", func := "loop.example/g01094/laws.FnExactCountLyndon", spec := "fnExactCountLyndon", unfollowed := true, recurses := true, named := ["math/bits.deBruijn64tab"], plainKeys := false, apart := false, laid := [("math/bits.deBruijn64tab", laid_math_bits_deBruijn64tab)] }
def FnExactCountLyndonSaid : Prop := fnExactCountLyndonRow.holds Tryd.pinned (OpenSpec.ofChange fnExactCountLyndonSpec)

/-- ITS FALSE NEIGHBOUR: 'it returns false'. Refute it at one input. -/
def fnExactCountLyndonWrong : ChangeSpec := { name := "fnExactCountLyndon", fn := fun _ => fun
  | [d1, d2] => { results := [.lit (.bool false)], args := [d1, d2] }
  | _ => none }
def FnExactCountLyndonWrongFalsely : Prop := fnExactCountLyndonRow.holds Tryd.pinned (OpenSpec.ofChange fnExactCountLyndonWrong)

/-- 'laws.FnExactTraceAtRank': WHATEVER THE INPUT: true; the input reads as it did. -/
def fnExactTraceAtRankSpec : ChangeSpec := { name := "fnExactTraceAtRank", fn := fun _ => fun
  | [d1, d2, d3] => { results := [.lit (.bool true)], args := [d1, d2, d3] }
  | _ => none }
def fnExactTraceAtRankRow : OpenClaim := { program := "ytcojodkcpemfdaadoor", sum := "51ae684780280607be0d8f4c26becc610ec4aae9b2c70031bb9f327e5e902c7e", func := "loop.example/g01094/laws.FnExactTraceAtRank", spec := "fnExactTraceAtRank", unfollowed := true, recurses := true, named := ["math/bits.deBruijn64tab"], plainKeys := false, apart := false, laid := [("math/bits.deBruijn64tab", laid_math_bits_deBruijn64tab)] }
def FnExactTraceAtRankSaid : Prop := fnExactTraceAtRankRow.holds Tryd.pinned (OpenSpec.ofChange fnExactTraceAtRankSpec)

/-- ITS FALSE NEIGHBOUR: 'it returns false'. Refute it at one input. -/
def fnExactTraceAtRankWrong : ChangeSpec := { name := "fnExactTraceAtRank", fn := fun _ => fun
  | [d1, d2, d3] => { results := [.lit (.bool false)], args := [d1, d2, d3] }
  | _ => none }
def FnExactTraceAtRankWrongFalsely : Prop := fnExactTraceAtRankRow.holds Tryd.pinned (OpenSpec.ofChange fnExactTraceAtRankWrong)

/-- 'laws.FnSameTraces': WHATEVER THE INPUT: true; the input reads as it did. -/
def fnSameTracesSpec : ChangeSpec := { name := "fnSameTraces", fn := fun _ => fun
  | [d] => { results := [.lit (.bool true)], args := [d] }
  | _ => none }
def fnSameTracesRow : OpenClaim := { program := "ytcojodkcpemfdaadoor", sum := "51ae684780280607be0d8f4c26becc610ec4aae9b2c70031bb9f327e5e902c7e", func := "loop.example/g01094/laws.FnSameTraces", spec := "fnSameTraces", unfollowed := true, recurses := true, named := ["math/bits.deBruijn64tab"], plainKeys := false, apart := false, laid := [("math/bits.deBruijn64tab", laid_math_bits_deBruijn64tab)] }
def FnSameTracesSaid : Prop := fnSameTracesRow.holds Tryd.pinned (OpenSpec.ofChange fnSameTracesSpec)

/-- ITS FALSE NEIGHBOUR: 'it returns false'. Refute it at one input. -/
def fnSameTracesWrong : ChangeSpec := { name := "fnSameTraces", fn := fun _ => fun
  | [d] => { results := [.lit (.bool false)], args := [d] }
  | _ => none }
def FnSameTracesWrongFalsely : Prop := fnSameTracesRow.holds Tryd.pinned (OpenSpec.ofChange fnSameTracesWrong)

/-- 'laws.FnComponents': WHATEVER THE INPUT: true; the input reads as it did. -/
def fnComponentsSpec : ChangeSpec := { name := "fnComponents", fn := fun _ => fun
  | [d] => { results := [.lit (.bool true)], args := [d] }
  | _ => none }
def fnComponentsRow : OpenClaim := { program := "ytcojodkcpemfdaadoor", sum := "51ae684780280607be0d8f4c26becc610ec4aae9b2c70031bb9f327e5e902c7e", func := "loop.example/g01094/laws.FnComponents", spec := "fnComponents", unfollowed := true, recurses := true, named := ["math/bits.deBruijn64tab"], plainKeys := false, apart := false, laid := [("math/bits.deBruijn64tab", laid_math_bits_deBruijn64tab)] }
def FnComponentsSaid : Prop := fnComponentsRow.holds Tryd.pinned (OpenSpec.ofChange fnComponentsSpec)

/-- ITS FALSE NEIGHBOUR: 'it returns false'. Refute it at one input. -/
def fnComponentsWrong : ChangeSpec := { name := "fnComponents", fn := fun _ => fun
  | [d] => { results := [.lit (.bool false)], args := [d] }
  | _ => none }
def FnComponentsWrongFalsely : Prop := fnComponentsRow.holds Tryd.pinned (OpenSpec.ofChange fnComponentsWrong)

/-- 'laws.FnPrefixesIn': WHATEVER THE INPUT: true; the input reads as it did. -/
def fnPrefixesInSpec : ChangeSpec := { name := "fnPrefixesIn", fn := fun _ => fun
  | [d] => { results := [.lit (.bool true)], args := [d] }
  | _ => none }
def fnPrefixesInRow : OpenClaim := { program := "ytcojodkcpemfdaadoor", sum := "51ae684780280607be0d8f4c26becc610ec4aae9b2c70031bb9f327e5e902c7e", func := "loop.example/g01094/laws.FnPrefixesIn", spec := "fnPrefixesIn", unfollowed := true, recurses := true, named := ["math/bits.deBruijn64tab"], plainKeys := false, apart := false, laid := [("math/bits.deBruijn64tab", laid_math_bits_deBruijn64tab)] }
def FnPrefixesInSaid : Prop := fnPrefixesInRow.holds Tryd.pinned (OpenSpec.ofChange fnPrefixesInSpec)

/-- ITS FALSE NEIGHBOUR: 'it returns false'. Refute it at one input. -/
def fnPrefixesInWrong : ChangeSpec := { name := "fnPrefixesIn", fn := fun _ => fun
  | [d] => { results := [.lit (.bool false)], args := [d] }
  | _ => none }
def FnPrefixesInWrongFalsely : Prop := fnPrefixesInRow.holds Tryd.pinned (OpenSpec.ofChange fnPrefixesInWrong)

/-- 'laws.FnFirstLetters': WHATEVER THE INPUT: true; the input reads as it did. -/
def fnFirstLettersSpec : ChangeSpec := { name := "fnFirstLetters", fn := fun _ => fun
  | [d] => { results := [.lit (.bool true)], args := [d] }
  | _ => none }
def fnFirstLettersRow : OpenClaim := { program := "ytcojodkcpemfdaadoor", sum := "51ae684780280607be0d8f4c26becc610ec4aae9b2c70031bb9f327e5e902c7e", func := "loop.example/g01094/laws.FnFirstLetters", spec := "fnFirstLetters", unfollowed := true, recurses := true, named := ["math/bits.deBruijn64tab"], plainKeys := false, apart := false, laid := [("math/bits.deBruijn64tab", laid_math_bits_deBruijn64tab)] }
def FnFirstLettersSaid : Prop := fnFirstLettersRow.holds Tryd.pinned (OpenSpec.ofChange fnFirstLettersSpec)

/-- ITS FALSE NEIGHBOUR: 'it returns false'. Refute it at one input. -/
def fnFirstLettersWrong : ChangeSpec := { name := "fnFirstLetters", fn := fun _ => fun
  | [d] => { results := [.lit (.bool false)], args := [d] }
  | _ => none }
def FnFirstLettersWrongFalsely : Prop := fnFirstLettersRow.holds Tryd.pinned (OpenSpec.ofChange fnFirstLettersWrong)

/- THE SECOND FORM. 'bulk': how many values and letters a reading holds, each counted each time it is reached (what is shared counts as often as it is met; a slice's spare places count too). A statement '..UptoSaid' is the law's where the arguments, and the package variables that the reading takes, are together of bulk at most 1048576: NARROWER than '..Said'. Prove '..Said' where nothing that the law and all that it calls make is longer than what came in: it says more and counts as full. Else prove '..UptoSaid'. A law counts once. -/
mutual
def uptoBulk {H : Type} : DataW H → Nat
  | .lit (.string bytes) => bytes.length + 1
  | .lit _ => 1
  | .nil => 1
  | .ptr d => uptoBulk d + 1
  | .slice elems spare => uptoBulkAll elems + uptoBulkAll spare + 1
  | .agg parts => uptoBulkAll parts + 1
  | .iface _ d => uptoBulk d + 1
  | .map entries => uptoBulkEntries entries + 1
  | .held _ => 1
def uptoBulkAll {H : Type} : List (DataW H) → Nat
  | [] => 0
  | d :: r => uptoBulk d + uptoBulkAll r
def uptoBulkEntries {H : Type} : List (Lit × DataW H) → Nat
  | [] => 0
  | x :: r => uptoBulkEntry x + uptoBulkEntries r
def uptoBulkEntry {H : Type} : Lit × DataW H → Nat
  | (.string bytes, d) => bytes.length + uptoBulk d + 1
  | (_, d) => uptoBulk d + 1
 end
def uptoSmall : (H : Type) → List (DataW H) → Bool := fun _ ds => decide (uptoBulkAll ds ≤ 1048576)
def OpenSpec.upto (s : _root_.Go.ChangeSpec) : _root_.Go.OpenSpec := { _root_.Go.OpenSpec.ofChange s with cond := some uptoSmall }

/-- 'laws.FnExactIsMorphism', WHERE WHAT IT READS IS OF BULK AT MOST 1048576: true; the input reads as it did. -/
def fnExactIsMorphismUptoRow : OpenClaim := { program := "ytcojodkcpemfdaadoor", sum := "51ae684780280607be0d8f4c26becc610ec4aae9b2c70031bb9f327e5e902c7e", func := "loop.example/g01094/laws.FnExactIsMorphism", spec := "fnExactIsMorphism", unfollowed := true, recurses := true, named := ["math/bits.deBruijn64tab"], plainKeys := false, apart := false, laid := [("math/bits.deBruijn64tab", laid_math_bits_deBruijn64tab)], narrowed := true }
def FnExactIsMorphismUptoSaid : Prop := fnExactIsMorphismUptoRow.holds Tryd.pinned (OpenSpec.upto fnExactIsMorphismSpec)

/-- 'laws.FnExactImageOf', WHERE WHAT IT READS IS OF BULK AT MOST 1048576: true; the input reads as it did. -/
def fnExactImageOfUptoRow : OpenClaim := { program := "ytcojodkcpemfdaadoor", sum := "51ae684780280607be0d8f4c26becc610ec4aae9b2c70031bb9f327e5e902c7e", func := "loop.example/g01094/laws.FnExactImageOf", spec := "fnExactImageOf", unfollowed := true, recurses := true, named := ["math/bits.deBruijn64tab"], plainKeys := false, apart := false, laid := [("math/bits.deBruijn64tab", laid_math_bits_deBruijn64tab)], narrowed := true }
def FnExactImageOfUptoSaid : Prop := fnExactImageOfUptoRow.holds Tryd.pinned (OpenSpec.upto fnExactImageOfSpec)

/-- 'laws.FnExactErasedLetters', WHERE WHAT IT READS IS OF BULK AT MOST 1048576: true; the input reads as it did. -/
def fnExactErasedLettersUptoRow : OpenClaim := { program := "ytcojodkcpemfdaadoor", sum := "51ae684780280607be0d8f4c26becc610ec4aae9b2c70031bb9f327e5e902c7e", func := "loop.example/g01094/laws.FnExactErasedLetters", spec := "fnExactErasedLetters", unfollowed := true, recurses := true, named := ["math/bits.deBruijn64tab"], plainKeys := false, apart := false, laid := [("math/bits.deBruijn64tab", laid_math_bits_deBruijn64tab)], narrowed := true }
def FnExactErasedLettersUptoSaid : Prop := fnExactErasedLettersUptoRow.holds Tryd.pinned (OpenSpec.upto fnExactErasedLettersSpec)

/-- 'laws.FnExactComposeMorphisms', WHERE WHAT IT READS IS OF BULK AT MOST 1048576: true; the input reads as it did. -/
def fnExactComposeMorphismsUptoRow : OpenClaim := { program := "ytcojodkcpemfdaadoor", sum := "51ae684780280607be0d8f4c26becc610ec4aae9b2c70031bb9f327e5e902c7e", func := "loop.example/g01094/laws.FnExactComposeMorphisms", spec := "fnExactComposeMorphisms", unfollowed := true, recurses := true, named := ["math/bits.deBruijn64tab"], plainKeys := false, apart := false, laid := [("math/bits.deBruijn64tab", laid_math_bits_deBruijn64tab)], narrowed := true }
def FnExactComposeMorphismsUptoSaid : Prop := fnExactComposeMorphismsUptoRow.holds Tryd.pinned (OpenSpec.upto fnExactComposeMorphismsSpec)

/-- 'laws.FnExactApplySymmetry', WHERE WHAT IT READS IS OF BULK AT MOST 1048576: true; the input reads as it did. -/
def fnExactApplySymmetryUptoRow : OpenClaim := { program := "ytcojodkcpemfdaadoor", sum := "51ae684780280607be0d8f4c26becc610ec4aae9b2c70031bb9f327e5e902c7e", func := "loop.example/g01094/laws.FnExactApplySymmetry", spec := "fnExactApplySymmetry", unfollowed := true, recurses := true, named := ["math/bits.deBruijn64tab"], plainKeys := false, apart := false, laid := [("math/bits.deBruijn64tab", laid_math_bits_deBruijn64tab)], narrowed := true }
def FnExactApplySymmetryUptoSaid : Prop := fnExactApplySymmetryUptoRow.holds Tryd.pinned (OpenSpec.upto fnExactApplySymmetrySpec)

/-- 'laws.FnExactSymmetriesOf', WHERE WHAT IT READS IS OF BULK AT MOST 1048576: true; the input reads as it did. -/
def fnExactSymmetriesOfUptoRow : OpenClaim := { program := "ytcojodkcpemfdaadoor", sum := "51ae684780280607be0d8f4c26becc610ec4aae9b2c70031bb9f327e5e902c7e", func := "loop.example/g01094/laws.FnExactSymmetriesOf", spec := "fnExactSymmetriesOf", unfollowed := true, recurses := true, named := ["math/bits.deBruijn64tab"], plainKeys := false, apart := false, laid := [("math/bits.deBruijn64tab", laid_math_bits_deBruijn64tab)], narrowed := true }
def FnExactSymmetriesOfUptoSaid : Prop := fnExactSymmetriesOfUptoRow.holds Tryd.pinned (OpenSpec.upto fnExactSymmetriesOfSpec)

/-- 'laws.FnExactCountLyndon', WHERE WHAT IT READS IS OF BULK AT MOST 1048576: true; the input reads as it did. -/
def fnExactCountLyndonUptoRow : OpenClaim := { program := "ytcojodkcpemfdaadoor", sum := "51ae684780280607be0d8f4c26becc610ec4aae9b2c70031bb9f327e5e902c7e", func := "loop.example/g01094/laws.FnExactCountLyndon", spec := "fnExactCountLyndon", unfollowed := true, recurses := true, named := ["math/bits.deBruijn64tab"], plainKeys := false, apart := false, laid := [("math/bits.deBruijn64tab", laid_math_bits_deBruijn64tab)], narrowed := true }
def FnExactCountLyndonUptoSaid : Prop := fnExactCountLyndonUptoRow.holds Tryd.pinned (OpenSpec.upto fnExactCountLyndonSpec)

/-- 'laws.FnExactTraceAtRank', WHERE WHAT IT READS IS OF BULK AT MOST 1048576: true; the input reads as it did. -/
def fnExactTraceAtRankUptoRow : OpenClaim := { program := "ytcojodkcpemfdaadoor", sum := "51ae684780280607be0d8f4c26becc610ec4aae9b2c70031bb9f327e5e902c7e", func := "loop.example/g01094/laws.FnExactTraceAtRank", spec := "fnExactTraceAtRank", unfollowed := true, recurses := true, named := ["math/bits.deBruijn64tab"], plainKeys := false, apart := false, laid := [("math/bits.deBruijn64tab", laid_math_bits_deBruijn64tab)], narrowed := true }
def FnExactTraceAtRankUptoSaid : Prop := fnExactTraceAtRankUptoRow.holds Tryd.pinned (OpenSpec.upto fnExactTraceAtRankSpec)

/-- 'laws.FnSameTraces', WHERE WHAT IT READS IS OF BULK AT MOST 1048576: true; the input reads as it did. -/
def fnSameTracesUptoRow : OpenClaim := { program := "ytcojodkcpemfdaadoor", sum := "51ae684780280607be0d8f4c26becc610ec4aae9b2c70031bb9f327e5e902c7e", func := "loop.example/g01094/laws.FnSameTraces", spec := "fnSameTraces", unfollowed := true, recurses := true, named := ["math/bits.deBruijn64tab"], plainKeys := false, apart := false, laid := [("math/bits.deBruijn64tab", laid_math_bits_deBruijn64tab)], narrowed := true }
def FnSameTracesUptoSaid : Prop := fnSameTracesUptoRow.holds Tryd.pinned (OpenSpec.upto fnSameTracesSpec)

/-- 'laws.FnComponents', WHERE WHAT IT READS IS OF BULK AT MOST 1048576: true; the input reads as it did. -/
def fnComponentsUptoRow : OpenClaim := { program := "ytcojodkcpemfdaadoor", sum := "51ae684780280607be0d8f4c26becc610ec4aae9b2c70031bb9f327e5e902c7e", func := "loop.example/g01094/laws.FnComponents", spec := "fnComponents", unfollowed := true, recurses := true, named := ["math/bits.deBruijn64tab"], plainKeys := false, apart := false, laid := [("math/bits.deBruijn64tab", laid_math_bits_deBruijn64tab)], narrowed := true }
def FnComponentsUptoSaid : Prop := fnComponentsUptoRow.holds Tryd.pinned (OpenSpec.upto fnComponentsSpec)

/-- 'laws.FnPrefixesIn', WHERE WHAT IT READS IS OF BULK AT MOST 1048576: true; the input reads as it did. -/
def fnPrefixesInUptoRow : OpenClaim := { program := "ytcojodkcpemfdaadoor", sum := "51ae684780280607be0d8f4c26becc610ec4aae9b2c70031bb9f327e5e902c7e", func := "loop.example/g01094/laws.FnPrefixesIn", spec := "fnPrefixesIn", unfollowed := true, recurses := true, named := ["math/bits.deBruijn64tab"], plainKeys := false, apart := false, laid := [("math/bits.deBruijn64tab", laid_math_bits_deBruijn64tab)], narrowed := true }
def FnPrefixesInUptoSaid : Prop := fnPrefixesInUptoRow.holds Tryd.pinned (OpenSpec.upto fnPrefixesInSpec)

/-- 'laws.FnFirstLetters', WHERE WHAT IT READS IS OF BULK AT MOST 1048576: true; the input reads as it did. -/
def fnFirstLettersUptoRow : OpenClaim := { program := "ytcojodkcpemfdaadoor", sum := "51ae684780280607be0d8f4c26becc610ec4aae9b2c70031bb9f327e5e902c7e", func := "loop.example/g01094/laws.FnFirstLetters", spec := "fnFirstLetters", unfollowed := true, recurses := true, named := ["math/bits.deBruijn64tab"], plainKeys := false, apart := false, laid := [("math/bits.deBruijn64tab", laid_math_bits_deBruijn64tab)], narrowed := true }
def FnFirstLettersUptoSaid : Prop := fnFirstLettersUptoRow.holds Tryd.pinned (OpenSpec.upto fnFirstLettersSpec)

end Rows
end Go.Proofs.YtcojodkcpemfdaaDoor

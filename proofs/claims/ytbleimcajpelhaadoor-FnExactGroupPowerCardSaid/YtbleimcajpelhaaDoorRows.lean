/-
  NARROWER THAN 'FOR EVERY INPUT', by the rows' own cells (each row's printed sentence says how): FnExactIsSignedWord: laid · FnExactExponentsOf: laid · FnExactGroupForm: laid · FnExactAreGroupEqual: laid · FnExactGroupProduct: laid · FnExactGroupInverse: laid · FnExactRetractOn: laid · FnExactIsPositive: laid · FnExactGroupPower: laid · FnExactCyclicReduction: laid · FnExactCountElements: laid.
  DERIVED. THE GIVEN ROWS OF THIS SEAT. 11 by the template 'for every input the law returns true; each argument reads behind the call as it read before'; 0 by the template 'total and deterministic' (their statements: YtbleimcajpelhaaDoorTotals.lean).
  GIVEN WITH THE SEED: the statements are not yours to turn. If you find one false, say at which input.
  Laid BY PROGRAM, IN A SANDBOX (cutbox-rows.mjs): the forced cells as the released guide's own fill.sh prints them over the translation 936e5c931c8770c3… (all of the seat's roots in one cut). By AI agents, Wed Nov 11 2026. No macro, syntax, notation, axiom, sorry.
-/
import Derived.Test.YtbleimcajpelhaaDoorChecked
import GoSem.Claim
import GoSem.ClaimJoined
import GoSem.ClaimMapViews
import Derived.JoinedTies
import Derived.KernelRfl
namespace Go.Proofs.YtbleimcajpelhaaDoor
/- THE CELL 'sum', in the pinned program and in every row, IS THE sha256 OF THE DUMP (.gsa) THAT YtbleimcajpelhaaDoorProg.lean LOADS. Nothing in Lean hashes anything: it is a label: what it is worth is what the hold of that sum in a sandbox is worth. -/
noncomputable def Tryd.pinned : Pinned := { name := "ytbleimcajpelhaadoor", sum := "936e5c931c8770c34d5e73b3db78ec6d051a3d2939bed1b7d654a9f8f16a526c", checked := Tryd.checked }
namespace Rows
def none {H : Type} : Left H := { results := [], args := [] }

/- WHAT THE LISTED PACKAGE-LEVEL VARIABLES READ AS WHEN THE CALL BEGINS. Each datum BY PROGRAM (the guide's laid-datum.mjs) off the statement by which the dump's own 'gosem.cut.vars' lays the variable. In a bare row this is a premise. The card (YtbleimcajpelhaaDoorCards.lean) ties it to the program's text. -/
def laid_math_bits_deBruijn64tab {H : Type} : DataW H := .agg [.lit (.int .u8 0), .lit (.int .u8 1), .lit (.int .u8 56), .lit (.int .u8 2), .lit (.int .u8 57), .lit (.int .u8 49), .lit (.int .u8 28), .lit (.int .u8 3), .lit (.int .u8 61), .lit (.int .u8 58), .lit (.int .u8 42), .lit (.int .u8 50), .lit (.int .u8 38), .lit (.int .u8 29), .lit (.int .u8 17), .lit (.int .u8 4), .lit (.int .u8 62), .lit (.int .u8 47), .lit (.int .u8 59), .lit (.int .u8 36), .lit (.int .u8 45), .lit (.int .u8 43), .lit (.int .u8 51), .lit (.int .u8 22), .lit (.int .u8 53), .lit (.int .u8 39), .lit (.int .u8 33), .lit (.int .u8 30), .lit (.int .u8 24), .lit (.int .u8 18), .lit (.int .u8 12), .lit (.int .u8 5), .lit (.int .u8 63), .lit (.int .u8 55), .lit (.int .u8 48), .lit (.int .u8 27), .lit (.int .u8 60), .lit (.int .u8 41), .lit (.int .u8 37), .lit (.int .u8 16), .lit (.int .u8 46), .lit (.int .u8 35), .lit (.int .u8 44), .lit (.int .u8 21), .lit (.int .u8 52), .lit (.int .u8 32), .lit (.int .u8 23), .lit (.int .u8 11), .lit (.int .u8 54), .lit (.int .u8 26), .lit (.int .u8 40), .lit (.int .u8 15), .lit (.int .u8 34), .lit (.int .u8 20), .lit (.int .u8 31), .lit (.int .u8 10), .lit (.int .u8 25), .lit (.int .u8 14), .lit (.int .u8 19), .lit (.int .u8 9), .lit (.int .u8 13), .lit (.int .u8 8), .lit (.int .u8 7), .lit (.int .u8 6)]

/-- 'laws.FnExactIsSignedWord': WHATEVER THE INPUT: true; the input reads as it did. -/
def fnExactIsSignedWordSpec : ChangeSpec := { name := "fnExactIsSignedWord", fn := fun _ => fun
  | [d1, d2] => { results := [.lit (.bool true)], args := [d1, d2] }
  | _ => none }
def fnExactIsSignedWordRow : OpenClaim := { program := "ytbleimcajpelhaadoor", sum := "936e5c931c8770c34d5e73b3db78ec6d051a3d2939bed1b7d654a9f8f16a526c", func := "loop.example/g01094/laws.FnExactIsSignedWord", spec := "fnExactIsSignedWord", unfollowed := true, recurses := true, named := ["math/bits.deBruijn64tab"], apart := false, laid := [("math/bits.deBruijn64tab", laid_math_bits_deBruijn64tab)] }
def FnExactIsSignedWordSaid : Prop := fnExactIsSignedWordRow.holds Tryd.pinned (OpenSpec.ofChange fnExactIsSignedWordSpec)

/-- ITS FALSE NEIGHBOUR: 'it returns false'. Refute it at one input. -/
def fnExactIsSignedWordWrong : ChangeSpec := { name := "fnExactIsSignedWord", fn := fun _ => fun
  | [d1, d2] => { results := [.lit (.bool false)], args := [d1, d2] }
  | _ => none }
def FnExactIsSignedWordWrongFalsely : Prop := fnExactIsSignedWordRow.holds Tryd.pinned (OpenSpec.ofChange fnExactIsSignedWordWrong)

/-- 'laws.FnExactExponentsOf': WHATEVER THE INPUT: true; the input reads as it did. -/
def fnExactExponentsOfSpec : ChangeSpec := { name := "fnExactExponentsOf", fn := fun _ => fun
  | [d1, d2] => { results := [.lit (.bool true)], args := [d1, d2] }
  | _ => none }
def fnExactExponentsOfRow : OpenClaim := { program := "ytbleimcajpelhaadoor", sum := "936e5c931c8770c34d5e73b3db78ec6d051a3d2939bed1b7d654a9f8f16a526c", func := "loop.example/g01094/laws.FnExactExponentsOf", spec := "fnExactExponentsOf", unfollowed := true, recurses := true, named := ["math/bits.deBruijn64tab"], apart := false, laid := [("math/bits.deBruijn64tab", laid_math_bits_deBruijn64tab)] }
def FnExactExponentsOfSaid : Prop := fnExactExponentsOfRow.holds Tryd.pinned (OpenSpec.ofChange fnExactExponentsOfSpec)

/-- ITS FALSE NEIGHBOUR: 'it returns false'. Refute it at one input. -/
def fnExactExponentsOfWrong : ChangeSpec := { name := "fnExactExponentsOf", fn := fun _ => fun
  | [d1, d2] => { results := [.lit (.bool false)], args := [d1, d2] }
  | _ => none }
def FnExactExponentsOfWrongFalsely : Prop := fnExactExponentsOfRow.holds Tryd.pinned (OpenSpec.ofChange fnExactExponentsOfWrong)

/-- 'laws.FnExactGroupForm': WHATEVER THE INPUT: true; the input reads as it did. -/
def fnExactGroupFormSpec : ChangeSpec := { name := "fnExactGroupForm", fn := fun _ => fun
  | [d1, d2] => { results := [.lit (.bool true)], args := [d1, d2] }
  | _ => none }
def fnExactGroupFormRow : OpenClaim := { program := "ytbleimcajpelhaadoor", sum := "936e5c931c8770c34d5e73b3db78ec6d051a3d2939bed1b7d654a9f8f16a526c", func := "loop.example/g01094/laws.FnExactGroupForm", spec := "fnExactGroupForm", inPlace := ["slices.overlaps[int64]"], unfollowed := true, recurses := true, named := ["math/bits.deBruijn64tab"], apart := false, laid := [("math/bits.deBruijn64tab", laid_math_bits_deBruijn64tab)] }
def FnExactGroupFormSaid : Prop := fnExactGroupFormRow.holds Tryd.pinned (OpenSpec.ofChange fnExactGroupFormSpec)

/-- ITS FALSE NEIGHBOUR: 'it returns false'. Refute it at one input. -/
def fnExactGroupFormWrong : ChangeSpec := { name := "fnExactGroupForm", fn := fun _ => fun
  | [d1, d2] => { results := [.lit (.bool false)], args := [d1, d2] }
  | _ => none }
def FnExactGroupFormWrongFalsely : Prop := fnExactGroupFormRow.holds Tryd.pinned (OpenSpec.ofChange fnExactGroupFormWrong)

/-- 'laws.FnExactAreGroupEqual': WHATEVER THE INPUT: true; the input reads as it did. -/
def fnExactAreGroupEqualSpec : ChangeSpec := { name := "fnExactAreGroupEqual", fn := fun _ => fun
  | [d1, d2, d3] => { results := [.lit (.bool true)], args := [d1, d2, d3] }
  | _ => none }
def fnExactAreGroupEqualRow : OpenClaim := { program := "ytbleimcajpelhaadoor", sum := "936e5c931c8770c34d5e73b3db78ec6d051a3d2939bed1b7d654a9f8f16a526c", func := "loop.example/g01094/laws.FnExactAreGroupEqual", spec := "fnExactAreGroupEqual", inPlace := ["slices.overlaps[int64]"], unfollowed := true, recurses := true, named := ["math/bits.deBruijn64tab"], apart := false, laid := [("math/bits.deBruijn64tab", laid_math_bits_deBruijn64tab)] }
def FnExactAreGroupEqualSaid : Prop := fnExactAreGroupEqualRow.holds Tryd.pinned (OpenSpec.ofChange fnExactAreGroupEqualSpec)

/-- ITS FALSE NEIGHBOUR: 'it returns false'. Refute it at one input. -/
def fnExactAreGroupEqualWrong : ChangeSpec := { name := "fnExactAreGroupEqual", fn := fun _ => fun
  | [d1, d2, d3] => { results := [.lit (.bool false)], args := [d1, d2, d3] }
  | _ => none }
def FnExactAreGroupEqualWrongFalsely : Prop := fnExactAreGroupEqualRow.holds Tryd.pinned (OpenSpec.ofChange fnExactAreGroupEqualWrong)

/-- 'laws.FnExactGroupProduct': WHATEVER THE INPUT: true; the input reads as it did. -/
def fnExactGroupProductSpec : ChangeSpec := { name := "fnExactGroupProduct", fn := fun _ => fun
  | [d1, d2, d3] => { results := [.lit (.bool true)], args := [d1, d2, d3] }
  | _ => none }
def fnExactGroupProductRow : OpenClaim := { program := "ytbleimcajpelhaadoor", sum := "936e5c931c8770c34d5e73b3db78ec6d051a3d2939bed1b7d654a9f8f16a526c", func := "loop.example/g01094/laws.FnExactGroupProduct", spec := "fnExactGroupProduct", inPlace := ["slices.overlaps[int64]"], unfollowed := true, recurses := true, named := ["math/bits.deBruijn64tab"], apart := false, laid := [("math/bits.deBruijn64tab", laid_math_bits_deBruijn64tab)] }
def FnExactGroupProductSaid : Prop := fnExactGroupProductRow.holds Tryd.pinned (OpenSpec.ofChange fnExactGroupProductSpec)

/-- ITS FALSE NEIGHBOUR: 'it returns false'. Refute it at one input. -/
def fnExactGroupProductWrong : ChangeSpec := { name := "fnExactGroupProduct", fn := fun _ => fun
  | [d1, d2, d3] => { results := [.lit (.bool false)], args := [d1, d2, d3] }
  | _ => none }
def FnExactGroupProductWrongFalsely : Prop := fnExactGroupProductRow.holds Tryd.pinned (OpenSpec.ofChange fnExactGroupProductWrong)

/-- 'laws.FnExactGroupInverse': WHATEVER THE INPUT: true; the input reads as it did. -/
def fnExactGroupInverseSpec : ChangeSpec := { name := "fnExactGroupInverse", fn := fun _ => fun
  | [d1, d2] => { results := [.lit (.bool true)], args := [d1, d2] }
  | _ => none }
def fnExactGroupInverseRow : OpenClaim := { program := "ytbleimcajpelhaadoor", sum := "936e5c931c8770c34d5e73b3db78ec6d051a3d2939bed1b7d654a9f8f16a526c", func := "loop.example/g01094/laws.FnExactGroupInverse", spec := "fnExactGroupInverse", inPlace := ["slices.overlaps[int64]"], unfollowed := true, recurses := true, named := ["math/bits.deBruijn64tab"], apart := false, laid := [("math/bits.deBruijn64tab", laid_math_bits_deBruijn64tab)] }
def FnExactGroupInverseSaid : Prop := fnExactGroupInverseRow.holds Tryd.pinned (OpenSpec.ofChange fnExactGroupInverseSpec)

/-- ITS FALSE NEIGHBOUR: 'it returns false'. Refute it at one input. -/
def fnExactGroupInverseWrong : ChangeSpec := { name := "fnExactGroupInverse", fn := fun _ => fun
  | [d1, d2] => { results := [.lit (.bool false)], args := [d1, d2] }
  | _ => none }
def FnExactGroupInverseWrongFalsely : Prop := fnExactGroupInverseRow.holds Tryd.pinned (OpenSpec.ofChange fnExactGroupInverseWrong)

/-- 'laws.FnExactRetractOn': WHATEVER THE INPUT: true; the input reads as it did. -/
def fnExactRetractOnSpec : ChangeSpec := { name := "fnExactRetractOn", fn := fun _ => fun
  | [d1, d2, d3] => { results := [.lit (.bool true)], args := [d1, d2, d3] }
  | _ => none }
def fnExactRetractOnRow : OpenClaim := { program := "ytbleimcajpelhaadoor", sum := "936e5c931c8770c34d5e73b3db78ec6d051a3d2939bed1b7d654a9f8f16a526c", func := "loop.example/g01094/laws.FnExactRetractOn", spec := "fnExactRetractOn", inPlace := ["slices.overlaps[int64]"], unfollowed := true, recurses := true, named := ["math/bits.deBruijn64tab"], apart := false, laid := [("math/bits.deBruijn64tab", laid_math_bits_deBruijn64tab)] }
def FnExactRetractOnSaid : Prop := fnExactRetractOnRow.holds Tryd.pinned (OpenSpec.ofChange fnExactRetractOnSpec)

/-- ITS FALSE NEIGHBOUR: 'it returns false'. Refute it at one input. -/
def fnExactRetractOnWrong : ChangeSpec := { name := "fnExactRetractOn", fn := fun _ => fun
  | [d1, d2, d3] => { results := [.lit (.bool false)], args := [d1, d2, d3] }
  | _ => none }
def FnExactRetractOnWrongFalsely : Prop := fnExactRetractOnRow.holds Tryd.pinned (OpenSpec.ofChange fnExactRetractOnWrong)

/-- 'laws.FnExactIsPositive': WHATEVER THE INPUT: true; the input reads as it did. -/
def fnExactIsPositiveSpec : ChangeSpec := { name := "fnExactIsPositive", fn := fun _ => fun
  | [d1, d2] => { results := [.lit (.bool true)], args := [d1, d2] }
  | _ => none }
def fnExactIsPositiveRow : OpenClaim := { program := "ytbleimcajpelhaadoor", sum := "936e5c931c8770c34d5e73b3db78ec6d051a3d2939bed1b7d654a9f8f16a526c", func := "loop.example/g01094/laws.FnExactIsPositive", spec := "fnExactIsPositive", inPlace := ["slices.overlaps[int64]"], unfollowed := true, recurses := true, named := ["math/bits.deBruijn64tab"], apart := false, laid := [("math/bits.deBruijn64tab", laid_math_bits_deBruijn64tab)] }
def FnExactIsPositiveSaid : Prop := fnExactIsPositiveRow.holds Tryd.pinned (OpenSpec.ofChange fnExactIsPositiveSpec)

/-- ITS FALSE NEIGHBOUR: 'it returns false'. Refute it at one input. -/
def fnExactIsPositiveWrong : ChangeSpec := { name := "fnExactIsPositive", fn := fun _ => fun
  | [d1, d2] => { results := [.lit (.bool false)], args := [d1, d2] }
  | _ => none }
def FnExactIsPositiveWrongFalsely : Prop := fnExactIsPositiveRow.holds Tryd.pinned (OpenSpec.ofChange fnExactIsPositiveWrong)

/-- 'laws.FnExactGroupPower': WHATEVER THE INPUT: true; the input reads as it did. -/
def fnExactGroupPowerSpec : ChangeSpec := { name := "fnExactGroupPower", fn := fun _ => fun
  | [d1, d2, d3] => { results := [.lit (.bool true)], args := [d1, d2, d3] }
  | _ => none }
def fnExactGroupPowerRow : OpenClaim := { program := "ytbleimcajpelhaadoor", sum := "936e5c931c8770c34d5e73b3db78ec6d051a3d2939bed1b7d654a9f8f16a526c", func := "loop.example/g01094/laws.FnExactGroupPower", spec := "fnExactGroupPower", inPlace := ["slices.overlaps[int64]"], unfollowed := true, recurses := true, named := ["math/bits.deBruijn64tab"], apart := false, laid := [("math/bits.deBruijn64tab", laid_math_bits_deBruijn64tab)] }
def FnExactGroupPowerSaid : Prop := fnExactGroupPowerRow.holds Tryd.pinned (OpenSpec.ofChange fnExactGroupPowerSpec)

/-- ITS FALSE NEIGHBOUR: 'it returns false'. Refute it at one input. -/
def fnExactGroupPowerWrong : ChangeSpec := { name := "fnExactGroupPower", fn := fun _ => fun
  | [d1, d2, d3] => { results := [.lit (.bool false)], args := [d1, d2, d3] }
  | _ => none }
def FnExactGroupPowerWrongFalsely : Prop := fnExactGroupPowerRow.holds Tryd.pinned (OpenSpec.ofChange fnExactGroupPowerWrong)

/-- 'laws.FnExactCyclicReduction': WHATEVER THE INPUT: true; the input reads as it did. -/
def fnExactCyclicReductionSpec : ChangeSpec := { name := "fnExactCyclicReduction", fn := fun _ => fun
  | [d1, d2] => { results := [.lit (.bool true)], args := [d1, d2] }
  | _ => none }
def fnExactCyclicReductionRow : OpenClaim := { program := "ytbleimcajpelhaadoor", sum := "936e5c931c8770c34d5e73b3db78ec6d051a3d2939bed1b7d654a9f8f16a526c", func := "loop.example/g01094/laws.FnExactCyclicReduction", spec := "fnExactCyclicReduction", inPlace := ["slices.overlaps[int64]"], unfollowed := true, recurses := true, named := ["math/bits.deBruijn64tab"], apart := false, laid := [("math/bits.deBruijn64tab", laid_math_bits_deBruijn64tab)] }
def FnExactCyclicReductionSaid : Prop := fnExactCyclicReductionRow.holds Tryd.pinned (OpenSpec.ofChange fnExactCyclicReductionSpec)

/-- ITS FALSE NEIGHBOUR: 'it returns false'. Refute it at one input. -/
def fnExactCyclicReductionWrong : ChangeSpec := { name := "fnExactCyclicReduction", fn := fun _ => fun
  | [d1, d2] => { results := [.lit (.bool false)], args := [d1, d2] }
  | _ => none }
def FnExactCyclicReductionWrongFalsely : Prop := fnExactCyclicReductionRow.holds Tryd.pinned (OpenSpec.ofChange fnExactCyclicReductionWrong)

/-- 'laws.FnExactCountElements': WHATEVER THE INPUT: true; the input reads as it did. -/
def fnExactCountElementsSpec : ChangeSpec := { name := "fnExactCountElements", fn := fun _ => fun
  | [d1, d2] => { results := [.lit (.bool true)], args := [d1, d2] }
  | _ => none }
def fnExactCountElementsRow : OpenClaim := { program := "ytbleimcajpelhaadoor", sum := "936e5c931c8770c34d5e73b3db78ec6d051a3d2939bed1b7d654a9f8f16a526c", func := "loop.example/g01094/laws.FnExactCountElements", spec := "fnExactCountElements", unfollowed := true, recurses := true, named := ["math/bits.deBruijn64tab"], apart := false, laid := [("math/bits.deBruijn64tab", laid_math_bits_deBruijn64tab)] }
def FnExactCountElementsSaid : Prop := fnExactCountElementsRow.holds Tryd.pinned (OpenSpec.ofChange fnExactCountElementsSpec)

/-- ITS FALSE NEIGHBOUR: 'it returns false'. Refute it at one input. -/
def fnExactCountElementsWrong : ChangeSpec := { name := "fnExactCountElements", fn := fun _ => fun
  | [d1, d2] => { results := [.lit (.bool false)], args := [d1, d2] }
  | _ => none }
def FnExactCountElementsWrongFalsely : Prop := fnExactCountElementsRow.holds Tryd.pinned (OpenSpec.ofChange fnExactCountElementsWrong)

/- THE SECOND FORM. 'bulk': how many values and letters a reading holds, each counted each time it is reached (what is shared counts as often as it is met; a slice's spare places count too). A statement '..UptoSaid' is the law's where the arguments, and the package variables that the reading takes, are together of bulk at most 1048576: NARROWER than '..Said'. Prove '..Said' where nothing that the law and all that it calls make is longer than what came in: it says more and counts as full. Else prove '..UptoSaid'. A law counts once. -/
mutual
def uptoBulk {H : Type} : DataW H → Nat
  | .lit (.string bytes) => bytes.length + 1
  | .lit _ => 1
  | .nil => 1
  | .ptr d => uptoBulk d + 1
  | .slice elems spare => uptoBulkAll elems + uptoBulkAll spare + 1
  | .agg parts => uptoBulkAll parts + 1
  | .iface _ d => uptoBulk d + 1
  | .map entries => uptoBulkEntries entries + 1
  | .held _ => 1
def uptoBulkAll {H : Type} : List (DataW H) → Nat
  | [] => 0
  | d :: r => uptoBulk d + uptoBulkAll r
def uptoBulkEntries {H : Type} : List (Lit × DataW H) → Nat
  | [] => 0
  | x :: r => uptoBulkEntry x + uptoBulkEntries r
def uptoBulkEntry {H : Type} : Lit × DataW H → Nat
  | (.string bytes, d) => bytes.length + uptoBulk d + 1
  | (_, d) => uptoBulk d + 1
 end
def uptoSmall : (H : Type) → List (DataW H) → Bool := fun _ ds => decide (uptoBulkAll ds ≤ 1048576)
def OpenSpec.upto (s : _root_.Go.ChangeSpec) : _root_.Go.OpenSpec := { _root_.Go.OpenSpec.ofChange s with cond := some uptoSmall }

/-- 'laws.FnExactIsSignedWord', WHERE WHAT IT READS IS OF BULK AT MOST 1048576: true; the input reads as it did. -/
def fnExactIsSignedWordUptoRow : OpenClaim := { program := "ytbleimcajpelhaadoor", sum := "936e5c931c8770c34d5e73b3db78ec6d051a3d2939bed1b7d654a9f8f16a526c", func := "loop.example/g01094/laws.FnExactIsSignedWord", spec := "fnExactIsSignedWord", unfollowed := true, recurses := true, named := ["math/bits.deBruijn64tab"], apart := false, laid := [("math/bits.deBruijn64tab", laid_math_bits_deBruijn64tab)], narrowed := true }
def FnExactIsSignedWordUptoSaid : Prop := fnExactIsSignedWordUptoRow.holds Tryd.pinned (OpenSpec.upto fnExactIsSignedWordSpec)

/-- 'laws.FnExactExponentsOf', WHERE WHAT IT READS IS OF BULK AT MOST 1048576: true; the input reads as it did. -/
def fnExactExponentsOfUptoRow : OpenClaim := { program := "ytbleimcajpelhaadoor", sum := "936e5c931c8770c34d5e73b3db78ec6d051a3d2939bed1b7d654a9f8f16a526c", func := "loop.example/g01094/laws.FnExactExponentsOf", spec := "fnExactExponentsOf", unfollowed := true, recurses := true, named := ["math/bits.deBruijn64tab"], apart := false, laid := [("math/bits.deBruijn64tab", laid_math_bits_deBruijn64tab)], narrowed := true }
def FnExactExponentsOfUptoSaid : Prop := fnExactExponentsOfUptoRow.holds Tryd.pinned (OpenSpec.upto fnExactExponentsOfSpec)

/-- 'laws.FnExactGroupForm', WHERE WHAT IT READS IS OF BULK AT MOST 1048576: true; the input reads as it did. -/
def fnExactGroupFormUptoRow : OpenClaim := { program := "ytbleimcajpelhaadoor", sum := "936e5c931c8770c34d5e73b3db78ec6d051a3d2939bed1b7d654a9f8f16a526c", func := "loop.example/g01094/laws.FnExactGroupForm", spec := "fnExactGroupForm", inPlace := ["slices.overlaps[int64]"], unfollowed := true, recurses := true, named := ["math/bits.deBruijn64tab"], apart := false, laid := [("math/bits.deBruijn64tab", laid_math_bits_deBruijn64tab)], narrowed := true }
def FnExactGroupFormUptoSaid : Prop := fnExactGroupFormUptoRow.holds Tryd.pinned (OpenSpec.upto fnExactGroupFormSpec)

/-- 'laws.FnExactAreGroupEqual', WHERE WHAT IT READS IS OF BULK AT MOST 1048576: true; the input reads as it did. -/
def fnExactAreGroupEqualUptoRow : OpenClaim := { program := "ytbleimcajpelhaadoor", sum := "936e5c931c8770c34d5e73b3db78ec6d051a3d2939bed1b7d654a9f8f16a526c", func := "loop.example/g01094/laws.FnExactAreGroupEqual", spec := "fnExactAreGroupEqual", inPlace := ["slices.overlaps[int64]"], unfollowed := true, recurses := true, named := ["math/bits.deBruijn64tab"], apart := false, laid := [("math/bits.deBruijn64tab", laid_math_bits_deBruijn64tab)], narrowed := true }
def FnExactAreGroupEqualUptoSaid : Prop := fnExactAreGroupEqualUptoRow.holds Tryd.pinned (OpenSpec.upto fnExactAreGroupEqualSpec)

/-- 'laws.FnExactGroupProduct', WHERE WHAT IT READS IS OF BULK AT MOST 1048576: true; the input reads as it did. -/
def fnExactGroupProductUptoRow : OpenClaim := { program := "ytbleimcajpelhaadoor", sum := "936e5c931c8770c34d5e73b3db78ec6d051a3d2939bed1b7d654a9f8f16a526c", func := "loop.example/g01094/laws.FnExactGroupProduct", spec := "fnExactGroupProduct", inPlace := ["slices.overlaps[int64]"], unfollowed := true, recurses := true, named := ["math/bits.deBruijn64tab"], apart := false, laid := [("math/bits.deBruijn64tab", laid_math_bits_deBruijn64tab)], narrowed := true }
def FnExactGroupProductUptoSaid : Prop := fnExactGroupProductUptoRow.holds Tryd.pinned (OpenSpec.upto fnExactGroupProductSpec)

/-- 'laws.FnExactGroupInverse', WHERE WHAT IT READS IS OF BULK AT MOST 1048576: true; the input reads as it did. -/
def fnExactGroupInverseUptoRow : OpenClaim := { program := "ytbleimcajpelhaadoor", sum := "936e5c931c8770c34d5e73b3db78ec6d051a3d2939bed1b7d654a9f8f16a526c", func := "loop.example/g01094/laws.FnExactGroupInverse", spec := "fnExactGroupInverse", inPlace := ["slices.overlaps[int64]"], unfollowed := true, recurses := true, named := ["math/bits.deBruijn64tab"], apart := false, laid := [("math/bits.deBruijn64tab", laid_math_bits_deBruijn64tab)], narrowed := true }
def FnExactGroupInverseUptoSaid : Prop := fnExactGroupInverseUptoRow.holds Tryd.pinned (OpenSpec.upto fnExactGroupInverseSpec)

/-- 'laws.FnExactRetractOn', WHERE WHAT IT READS IS OF BULK AT MOST 1048576: true; the input reads as it did. -/
def fnExactRetractOnUptoRow : OpenClaim := { program := "ytbleimcajpelhaadoor", sum := "936e5c931c8770c34d5e73b3db78ec6d051a3d2939bed1b7d654a9f8f16a526c", func := "loop.example/g01094/laws.FnExactRetractOn", spec := "fnExactRetractOn", inPlace := ["slices.overlaps[int64]"], unfollowed := true, recurses := true, named := ["math/bits.deBruijn64tab"], apart := false, laid := [("math/bits.deBruijn64tab", laid_math_bits_deBruijn64tab)], narrowed := true }
def FnExactRetractOnUptoSaid : Prop := fnExactRetractOnUptoRow.holds Tryd.pinned (OpenSpec.upto fnExactRetractOnSpec)

/-- 'laws.FnExactIsPositive', WHERE WHAT IT READS IS OF BULK AT MOST 1048576: true; the input reads as it did. -/
def fnExactIsPositiveUptoRow : OpenClaim := { program := "ytbleimcajpelhaadoor", sum := "936e5c931c8770c34d5e73b3db78ec6d051a3d2939bed1b7d654a9f8f16a526c", func := "loop.example/g01094/laws.FnExactIsPositive", spec := "fnExactIsPositive", inPlace := ["slices.overlaps[int64]"], unfollowed := true, recurses := true, named := ["math/bits.deBruijn64tab"], apart := false, laid := [("math/bits.deBruijn64tab", laid_math_bits_deBruijn64tab)], narrowed := true }
def FnExactIsPositiveUptoSaid : Prop := fnExactIsPositiveUptoRow.holds Tryd.pinned (OpenSpec.upto fnExactIsPositiveSpec)

/-- 'laws.FnExactGroupPower', WHERE WHAT IT READS IS OF BULK AT MOST 1048576: true; the input reads as it did. -/
def fnExactGroupPowerUptoRow : OpenClaim := { program := "ytbleimcajpelhaadoor", sum := "936e5c931c8770c34d5e73b3db78ec6d051a3d2939bed1b7d654a9f8f16a526c", func := "loop.example/g01094/laws.FnExactGroupPower", spec := "fnExactGroupPower", inPlace := ["slices.overlaps[int64]"], unfollowed := true, recurses := true, named := ["math/bits.deBruijn64tab"], apart := false, laid := [("math/bits.deBruijn64tab", laid_math_bits_deBruijn64tab)], narrowed := true }
def FnExactGroupPowerUptoSaid : Prop := fnExactGroupPowerUptoRow.holds Tryd.pinned (OpenSpec.upto fnExactGroupPowerSpec)

/-- 'laws.FnExactCyclicReduction', WHERE WHAT IT READS IS OF BULK AT MOST 1048576: true; the input reads as it did. -/
def fnExactCyclicReductionUptoRow : OpenClaim := { program := "ytbleimcajpelhaadoor", sum := "936e5c931c8770c34d5e73b3db78ec6d051a3d2939bed1b7d654a9f8f16a526c", func := "loop.example/g01094/laws.FnExactCyclicReduction", spec := "fnExactCyclicReduction", inPlace := ["slices.overlaps[int64]"], unfollowed := true, recurses := true, named := ["math/bits.deBruijn64tab"], apart := false, laid := [("math/bits.deBruijn64tab", laid_math_bits_deBruijn64tab)], narrowed := true }
def FnExactCyclicReductionUptoSaid : Prop := fnExactCyclicReductionUptoRow.holds Tryd.pinned (OpenSpec.upto fnExactCyclicReductionSpec)

/-- 'laws.FnExactCountElements', WHERE WHAT IT READS IS OF BULK AT MOST 1048576: true; the input reads as it did. -/
def fnExactCountElementsUptoRow : OpenClaim := { program := "ytbleimcajpelhaadoor", sum := "936e5c931c8770c34d5e73b3db78ec6d051a3d2939bed1b7d654a9f8f16a526c", func := "loop.example/g01094/laws.FnExactCountElements", spec := "fnExactCountElements", unfollowed := true, recurses := true, named := ["math/bits.deBruijn64tab"], apart := false, laid := [("math/bits.deBruijn64tab", laid_math_bits_deBruijn64tab)], narrowed := true }
def FnExactCountElementsUptoSaid : Prop := fnExactCountElementsUptoRow.holds Tryd.pinned (OpenSpec.upto fnExactCountElementsSpec)

end Rows
end Go.Proofs.YtbleimcajpelhaaDoor

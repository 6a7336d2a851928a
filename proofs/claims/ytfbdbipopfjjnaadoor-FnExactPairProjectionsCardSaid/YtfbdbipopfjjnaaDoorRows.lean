/-
  NARROWER THAN 'FOR EVERY INPUT', by the rows' own cells (each row's printed sentence says how): FnExactLongestChain: laid · FnExactLatestSteps: laid · FnExactPrefixAt: laid · FnExactPairProjections: laid · FnExactWordOfProjections: laid · FnExactNeighboursOf: laid · FnExactWidthOf: laid · FnExactCountPrefixes: laid · FnExactTraceOfOrder: laid · FnExactDownsetsOf: laid.
  DERIVED. THE GIVEN ROWS OF THIS SEAT. 10 by the template 'for every input the law returns true; each argument reads behind the call as it read before'; 0 by the template 'total and deterministic' (their statements: YtfbdbipopfjjnaaDoorTotals.lean).
  GIVEN WITH THE SEED: the statements are not yours to turn. If you find one false, say at which input.
  Laid BY PROGRAM, IN A SANDBOX (cutbox-rows.mjs): the forced cells as the released guide's own fill.sh prints them over the translation 9f2d3f4a9208f29c… (all of the seat's roots in one cut). By AI agents, Wed Nov 11 2026. No macro, syntax, notation, axiom, sorry.
-/
import Derived.Test.YtfbdbipopfjjnaaDoorChecked
import GoSem.Claim
import GoSem.ClaimJoined
import GoSem.ClaimMapViews
import Derived.JoinedTies
import Derived.KernelRfl
namespace Go.Proofs.YtfbdbipopfjjnaaDoor
/- THE CELL 'sum', in the pinned program and in every row, IS THE sha256 OF THE DUMP (.gsa) THAT YtfbdbipopfjjnaaDoorProg.lean LOADS. Nothing in Lean hashes anything: it is a label: what it is worth is what the hold of that sum in a sandbox is worth. -/
noncomputable def Tryd.pinned : Pinned := { name := "ytfbdbipopfjjnaadoor", sum := "9f2d3f4a9208f29cc2e045bf45002c74b9acfadfdd66d4d1f0c7b52893aaf296", checked := Tryd.checked }
namespace Rows
def none {H : Type} : Left H := { results := [], args := [] }

/- WHAT THE LISTED PACKAGE-LEVEL VARIABLES READ AS WHEN THE CALL BEGINS. Each datum BY PROGRAM (the guide's laid-datum.mjs) off the statement by which the dump's own 'gosem.cut.vars' lays the variable. In a bare row this is a premise. The card (YtfbdbipopfjjnaaDoorCards.lean) ties it to the program's text. -/
def laid_math_bits_deBruijn64tab {H : Type} : DataW H := .agg [.lit (.int .u8 0), .lit (.int .u8 1), .lit (.int .u8 56), .lit (.int .u8 2), .lit (.int .u8 57), .lit (.int .u8 49), .lit (.int .u8 28), .lit (.int .u8 3), .lit (.int .u8 61), .lit (.int .u8 58), .lit (.int .u8 42), .lit (.int .u8 50), .lit (.int .u8 38), .lit (.int .u8 29), .lit (.int .u8 17), .lit (.int .u8 4), .lit (.int .u8 62), .lit (.int .u8 47), .lit (.int .u8 59), .lit (.int .u8 36), .lit (.int .u8 45), .lit (.int .u8 43), .lit (.int .u8 51), .lit (.int .u8 22), .lit (.int .u8 53), .lit (.int .u8 39), .lit (.int .u8 33), .lit (.int .u8 30), .lit (.int .u8 24), .lit (.int .u8 18), .lit (.int .u8 12), .lit (.int .u8 5), .lit (.int .u8 63), .lit (.int .u8 55), .lit (.int .u8 48), .lit (.int .u8 27), .lit (.int .u8 60), .lit (.int .u8 41), .lit (.int .u8 37), .lit (.int .u8 16), .lit (.int .u8 46), .lit (.int .u8 35), .lit (.int .u8 44), .lit (.int .u8 21), .lit (.int .u8 52), .lit (.int .u8 32), .lit (.int .u8 23), .lit (.int .u8 11), .lit (.int .u8 54), .lit (.int .u8 26), .lit (.int .u8 40), .lit (.int .u8 15), .lit (.int .u8 34), .lit (.int .u8 20), .lit (.int .u8 31), .lit (.int .u8 10), .lit (.int .u8 25), .lit (.int .u8 14), .lit (.int .u8 19), .lit (.int .u8 9), .lit (.int .u8 13), .lit (.int .u8 8), .lit (.int .u8 7), .lit (.int .u8 6)]

/-- 'laws.FnExactLongestChain': WHATEVER THE INPUT: true; the input reads as it did. -/
def fnExactLongestChainSpec : ChangeSpec := { name := "fnExactLongestChain", fn := fun _ => fun
  | [d1, d2] => { results := [.lit (.bool true)], args := [d1, d2] }
  | _ => none }
def fnExactLongestChainRow : OpenClaim := { program := "ytfbdbipopfjjnaadoor", sum := "9f2d3f4a9208f29cc2e045bf45002c74b9acfadfdd66d4d1f0c7b52893aaf296", func := "loop.example/g01094/laws.FnExactLongestChain", spec := "fnExactLongestChain", unfollowed := true, recurses := true, named := ["math/bits.deBruijn64tab"], apart := false, laid := [("math/bits.deBruijn64tab", laid_math_bits_deBruijn64tab)] }
def FnExactLongestChainSaid : Prop := fnExactLongestChainRow.holds Tryd.pinned (OpenSpec.ofChange fnExactLongestChainSpec)

/-- ITS FALSE NEIGHBOUR: 'it returns false'. Refute it at one input. -/
def fnExactLongestChainWrong : ChangeSpec := { name := "fnExactLongestChain", fn := fun _ => fun
  | [d1, d2] => { results := [.lit (.bool false)], args := [d1, d2] }
  | _ => none }
def FnExactLongestChainWrongFalsely : Prop := fnExactLongestChainRow.holds Tryd.pinned (OpenSpec.ofChange fnExactLongestChainWrong)

/-- 'laws.FnExactLatestSteps': WHATEVER THE INPUT: true; the input reads as it did. -/
def fnExactLatestStepsSpec : ChangeSpec := { name := "fnExactLatestSteps", fn := fun _ => fun
  | [d1, d2] => { results := [.lit (.bool true)], args := [d1, d2] }
  | _ => none }
def fnExactLatestStepsRow : OpenClaim := { program := "ytfbdbipopfjjnaadoor", sum := "9f2d3f4a9208f29cc2e045bf45002c74b9acfadfdd66d4d1f0c7b52893aaf296", func := "loop.example/g01094/laws.FnExactLatestSteps", spec := "fnExactLatestSteps", unfollowed := true, recurses := true, named := ["math/bits.deBruijn64tab"], apart := false, laid := [("math/bits.deBruijn64tab", laid_math_bits_deBruijn64tab)] }
def FnExactLatestStepsSaid : Prop := fnExactLatestStepsRow.holds Tryd.pinned (OpenSpec.ofChange fnExactLatestStepsSpec)

/-- ITS FALSE NEIGHBOUR: 'it returns false'. Refute it at one input. -/
def fnExactLatestStepsWrong : ChangeSpec := { name := "fnExactLatestSteps", fn := fun _ => fun
  | [d1, d2] => { results := [.lit (.bool false)], args := [d1, d2] }
  | _ => none }
def FnExactLatestStepsWrongFalsely : Prop := fnExactLatestStepsRow.holds Tryd.pinned (OpenSpec.ofChange fnExactLatestStepsWrong)

/-- 'laws.FnExactPrefixAt': WHATEVER THE INPUT: true; the input reads as it did. -/
def fnExactPrefixAtSpec : ChangeSpec := { name := "fnExactPrefixAt", fn := fun _ => fun
  | [d1, d2, d3] => { results := [.lit (.bool true)], args := [d1, d2, d3] }
  | _ => none }
def fnExactPrefixAtRow : OpenClaim := { program := "ytfbdbipopfjjnaadoor", sum := "9f2d3f4a9208f29cc2e045bf45002c74b9acfadfdd66d4d1f0c7b52893aaf296", func := "loop.example/g01094/laws.FnExactPrefixAt", spec := "fnExactPrefixAt", unfollowed := true, recurses := true, named := ["math/bits.deBruijn64tab"], apart := false, laid := [("math/bits.deBruijn64tab", laid_math_bits_deBruijn64tab)] }
def FnExactPrefixAtSaid : Prop := fnExactPrefixAtRow.holds Tryd.pinned (OpenSpec.ofChange fnExactPrefixAtSpec)

/-- ITS FALSE NEIGHBOUR: 'it returns false'. Refute it at one input. -/
def fnExactPrefixAtWrong : ChangeSpec := { name := "fnExactPrefixAt", fn := fun _ => fun
  | [d1, d2, d3] => { results := [.lit (.bool false)], args := [d1, d2, d3] }
  | _ => none }
def FnExactPrefixAtWrongFalsely : Prop := fnExactPrefixAtRow.holds Tryd.pinned (OpenSpec.ofChange fnExactPrefixAtWrong)

/-- 'laws.FnExactPairProjections': WHATEVER THE INPUT: true; the input reads as it did. -/
def fnExactPairProjectionsSpec : ChangeSpec := { name := "fnExactPairProjections", fn := fun _ => fun
  | [d1, d2] => { results := [.lit (.bool true)], args := [d1, d2] }
  | _ => none }
def fnExactPairProjectionsRow : OpenClaim := { program := "ytfbdbipopfjjnaadoor", sum := "9f2d3f4a9208f29cc2e045bf45002c74b9acfadfdd66d4d1f0c7b52893aaf296", func := "loop.example/g01094/laws.FnExactPairProjections", spec := "fnExactPairProjections", unfollowed := true, recurses := true, named := ["math/bits.deBruijn64tab"], apart := false, laid := [("math/bits.deBruijn64tab", laid_math_bits_deBruijn64tab)] }
def FnExactPairProjectionsSaid : Prop := fnExactPairProjectionsRow.holds Tryd.pinned (OpenSpec.ofChange fnExactPairProjectionsSpec)

/-- ITS FALSE NEIGHBOUR: 'it returns false'. Refute it at one input. -/
def fnExactPairProjectionsWrong : ChangeSpec := { name := "fnExactPairProjections", fn := fun _ => fun
  | [d1, d2] => { results := [.lit (.bool false)], args := [d1, d2] }
  | _ => none }
def FnExactPairProjectionsWrongFalsely : Prop := fnExactPairProjectionsRow.holds Tryd.pinned (OpenSpec.ofChange fnExactPairProjectionsWrong)

/-- 'laws.FnExactWordOfProjections': WHATEVER THE INPUT: true; the input reads as it did. -/
def fnExactWordOfProjectionsSpec : ChangeSpec := { name := "fnExactWordOfProjections", fn := fun _ => fun
  | [d1, d2] => { results := [.lit (.bool true)], args := [d1, d2] }
  | _ => none }
def fnExactWordOfProjectionsRow : OpenClaim := { program := "ytfbdbipopfjjnaadoor", sum := "9f2d3f4a9208f29cc2e045bf45002c74b9acfadfdd66d4d1f0c7b52893aaf296", func := "loop.example/g01094/laws.FnExactWordOfProjections", spec := "fnExactWordOfProjections", unfollowed := true, recurses := true, named := ["math/bits.deBruijn64tab"], apart := false, laid := [("math/bits.deBruijn64tab", laid_math_bits_deBruijn64tab)] }
def FnExactWordOfProjectionsSaid : Prop := fnExactWordOfProjectionsRow.holds Tryd.pinned (OpenSpec.ofChange fnExactWordOfProjectionsSpec)

/-- ITS FALSE NEIGHBOUR: 'it returns false'. Refute it at one input. -/
def fnExactWordOfProjectionsWrong : ChangeSpec := { name := "fnExactWordOfProjections", fn := fun _ => fun
  | [d1, d2] => { results := [.lit (.bool false)], args := [d1, d2] }
  | _ => none }
def FnExactWordOfProjectionsWrongFalsely : Prop := fnExactWordOfProjectionsRow.holds Tryd.pinned (OpenSpec.ofChange fnExactWordOfProjectionsWrong)

/-- 'laws.FnExactNeighboursOf': WHATEVER THE INPUT: true; the input reads as it did. -/
def fnExactNeighboursOfSpec : ChangeSpec := { name := "fnExactNeighboursOf", fn := fun _ => fun
  | [d1, d2] => { results := [.lit (.bool true)], args := [d1, d2] }
  | _ => none }
def fnExactNeighboursOfRow : OpenClaim := { program := "ytfbdbipopfjjnaadoor", sum := "9f2d3f4a9208f29cc2e045bf45002c74b9acfadfdd66d4d1f0c7b52893aaf296", func := "loop.example/g01094/laws.FnExactNeighboursOf", spec := "fnExactNeighboursOf", unfollowed := true, recurses := true, named := ["math/bits.deBruijn64tab"], apart := false, laid := [("math/bits.deBruijn64tab", laid_math_bits_deBruijn64tab)] }
def FnExactNeighboursOfSaid : Prop := fnExactNeighboursOfRow.holds Tryd.pinned (OpenSpec.ofChange fnExactNeighboursOfSpec)

/-- ITS FALSE NEIGHBOUR: 'it returns false'. Refute it at one input. -/
def fnExactNeighboursOfWrong : ChangeSpec := { name := "fnExactNeighboursOf", fn := fun _ => fun
  | [d1, d2] => { results := [.lit (.bool false)], args := [d1, d2] }
  | _ => none }
def FnExactNeighboursOfWrongFalsely : Prop := fnExactNeighboursOfRow.holds Tryd.pinned (OpenSpec.ofChange fnExactNeighboursOfWrong)

/-- 'laws.FnExactWidthOf': WHATEVER THE INPUT: true; the input reads as it did. -/
def fnExactWidthOfSpec : ChangeSpec := { name := "fnExactWidthOf", fn := fun _ => fun
  | [d1, d2] => { results := [.lit (.bool true)], args := [d1, d2] }
  | _ => none }
def fnExactWidthOfRow : OpenClaim := { program := "ytfbdbipopfjjnaadoor", sum := "9f2d3f4a9208f29cc2e045bf45002c74b9acfadfdd66d4d1f0c7b52893aaf296", func := "loop.example/g01094/laws.FnExactWidthOf", spec := "fnExactWidthOf", unfollowed := true, recurses := true, named := ["math/bits.deBruijn64tab"], apart := false, laid := [("math/bits.deBruijn64tab", laid_math_bits_deBruijn64tab)] }
def FnExactWidthOfSaid : Prop := fnExactWidthOfRow.holds Tryd.pinned (OpenSpec.ofChange fnExactWidthOfSpec)

/-- ITS FALSE NEIGHBOUR: 'it returns false'. Refute it at one input. -/
def fnExactWidthOfWrong : ChangeSpec := { name := "fnExactWidthOf", fn := fun _ => fun
  | [d1, d2] => { results := [.lit (.bool false)], args := [d1, d2] }
  | _ => none }
def FnExactWidthOfWrongFalsely : Prop := fnExactWidthOfRow.holds Tryd.pinned (OpenSpec.ofChange fnExactWidthOfWrong)

/-- 'laws.FnExactCountPrefixes': WHATEVER THE INPUT: true; the input reads as it did. -/
def fnExactCountPrefixesSpec : ChangeSpec := { name := "fnExactCountPrefixes", fn := fun _ => fun
  | [d1, d2] => { results := [.lit (.bool true)], args := [d1, d2] }
  | _ => none }
def fnExactCountPrefixesRow : OpenClaim := { program := "ytfbdbipopfjjnaadoor", sum := "9f2d3f4a9208f29cc2e045bf45002c74b9acfadfdd66d4d1f0c7b52893aaf296", func := "loop.example/g01094/laws.FnExactCountPrefixes", spec := "fnExactCountPrefixes", unfollowed := true, recurses := true, named := ["math/bits.deBruijn64tab"], apart := false, laid := [("math/bits.deBruijn64tab", laid_math_bits_deBruijn64tab)] }
def FnExactCountPrefixesSaid : Prop := fnExactCountPrefixesRow.holds Tryd.pinned (OpenSpec.ofChange fnExactCountPrefixesSpec)

/-- ITS FALSE NEIGHBOUR: 'it returns false'. Refute it at one input. -/
def fnExactCountPrefixesWrong : ChangeSpec := { name := "fnExactCountPrefixes", fn := fun _ => fun
  | [d1, d2] => { results := [.lit (.bool false)], args := [d1, d2] }
  | _ => none }
def FnExactCountPrefixesWrongFalsely : Prop := fnExactCountPrefixesRow.holds Tryd.pinned (OpenSpec.ofChange fnExactCountPrefixesWrong)

/-- 'laws.FnExactTraceOfOrder': WHATEVER THE INPUT: true; the input reads as it did. -/
def fnExactTraceOfOrderSpec : ChangeSpec := { name := "fnExactTraceOfOrder", fn := fun _ => fun
  | [d1, d2, d3] => { results := [.lit (.bool true)], args := [d1, d2, d3] }
  | _ => none }
def fnExactTraceOfOrderRow : OpenClaim := { program := "ytfbdbipopfjjnaadoor", sum := "9f2d3f4a9208f29cc2e045bf45002c74b9acfadfdd66d4d1f0c7b52893aaf296", func := "loop.example/g01094/laws.FnExactTraceOfOrder", spec := "fnExactTraceOfOrder", unfollowed := true, recurses := true, named := ["math/bits.deBruijn64tab"], apart := false, laid := [("math/bits.deBruijn64tab", laid_math_bits_deBruijn64tab)] }
def FnExactTraceOfOrderSaid : Prop := fnExactTraceOfOrderRow.holds Tryd.pinned (OpenSpec.ofChange fnExactTraceOfOrderSpec)

/-- ITS FALSE NEIGHBOUR: 'it returns false'. Refute it at one input. -/
def fnExactTraceOfOrderWrong : ChangeSpec := { name := "fnExactTraceOfOrder", fn := fun _ => fun
  | [d1, d2, d3] => { results := [.lit (.bool false)], args := [d1, d2, d3] }
  | _ => none }
def FnExactTraceOfOrderWrongFalsely : Prop := fnExactTraceOfOrderRow.holds Tryd.pinned (OpenSpec.ofChange fnExactTraceOfOrderWrong)

/-- 'laws.FnExactDownsetsOf': WHATEVER THE INPUT: true; the input reads as it did. -/
def fnExactDownsetsOfSpec : ChangeSpec := { name := "fnExactDownsetsOf", fn := fun _ => fun
  | [d] => { results := [.lit (.bool true)], args := [d] }
  | _ => none }
def fnExactDownsetsOfRow : OpenClaim := { program := "ytfbdbipopfjjnaadoor", sum := "9f2d3f4a9208f29cc2e045bf45002c74b9acfadfdd66d4d1f0c7b52893aaf296", func := "loop.example/g01094/laws.FnExactDownsetsOf", spec := "fnExactDownsetsOf", unfollowed := true, recurses := true, named := ["math/bits.deBruijn64tab"], apart := false, laid := [("math/bits.deBruijn64tab", laid_math_bits_deBruijn64tab)] }
def FnExactDownsetsOfSaid : Prop := fnExactDownsetsOfRow.holds Tryd.pinned (OpenSpec.ofChange fnExactDownsetsOfSpec)

/-- ITS FALSE NEIGHBOUR: 'it returns false'. Refute it at one input. -/
def fnExactDownsetsOfWrong : ChangeSpec := { name := "fnExactDownsetsOf", fn := fun _ => fun
  | [d] => { results := [.lit (.bool false)], args := [d] }
  | _ => none }
def FnExactDownsetsOfWrongFalsely : Prop := fnExactDownsetsOfRow.holds Tryd.pinned (OpenSpec.ofChange fnExactDownsetsOfWrong)

/- THE SECOND FORM. 'bulk': how many values and letters a reading holds, each counted each time it is reached (what is shared counts as often as it is met; a slice's spare places count too). A statement '..UptoSaid' is the law's where the arguments, and the package variables that the reading takes, are together of bulk at most 1048576: NARROWER than '..Said'. Prove '..Said' where nothing that the law and all that it calls make is longer than what came in: it says more and counts as full. Else prove '..UptoSaid'. A law counts once. -/
mutual
def uptoBulk {H : Type} : DataW H → Nat
  | .lit (.string bytes) => bytes.length + 1
  | .lit _ => 1
  | .nil => 1
  | .ptr d => uptoBulk d + 1
  | .slice elems spare => uptoBulkAll elems + uptoBulkAll spare + 1
  | .agg parts => uptoBulkAll parts + 1
  | .iface _ d => uptoBulk d + 1
  | .map entries => uptoBulkEntries entries + 1
  | .held _ => 1
def uptoBulkAll {H : Type} : List (DataW H) → Nat
  | [] => 0
  | d :: r => uptoBulk d + uptoBulkAll r
def uptoBulkEntries {H : Type} : List (Lit × DataW H) → Nat
  | [] => 0
  | x :: r => uptoBulkEntry x + uptoBulkEntries r
def uptoBulkEntry {H : Type} : Lit × DataW H → Nat
  | (.string bytes, d) => bytes.length + uptoBulk d + 1
  | (_, d) => uptoBulk d + 1
 end
def uptoSmall : (H : Type) → List (DataW H) → Bool := fun _ ds => decide (uptoBulkAll ds ≤ 1048576)
def OpenSpec.upto (s : _root_.Go.ChangeSpec) : _root_.Go.OpenSpec := { _root_.Go.OpenSpec.ofChange s with cond := some uptoSmall }

/-- 'laws.FnExactLongestChain', WHERE WHAT IT READS IS OF BULK AT MOST 1048576: true; the input reads as it did. -/
def fnExactLongestChainUptoRow : OpenClaim := { program := "ytfbdbipopfjjnaadoor", sum := "9f2d3f4a9208f29cc2e045bf45002c74b9acfadfdd66d4d1f0c7b52893aaf296", func := "loop.example/g01094/laws.FnExactLongestChain", spec := "fnExactLongestChain", unfollowed := true, recurses := true, named := ["math/bits.deBruijn64tab"], apart := false, laid := [("math/bits.deBruijn64tab", laid_math_bits_deBruijn64tab)], narrowed := true }
def FnExactLongestChainUptoSaid : Prop := fnExactLongestChainUptoRow.holds Tryd.pinned (OpenSpec.upto fnExactLongestChainSpec)

/-- 'laws.FnExactLatestSteps', WHERE WHAT IT READS IS OF BULK AT MOST 1048576: true; the input reads as it did. -/
def fnExactLatestStepsUptoRow : OpenClaim := { program := "ytfbdbipopfjjnaadoor", sum := "9f2d3f4a9208f29cc2e045bf45002c74b9acfadfdd66d4d1f0c7b52893aaf296", func := "loop.example/g01094/laws.FnExactLatestSteps", spec := "fnExactLatestSteps", unfollowed := true, recurses := true, named := ["math/bits.deBruijn64tab"], apart := false, laid := [("math/bits.deBruijn64tab", laid_math_bits_deBruijn64tab)], narrowed := true }
def FnExactLatestStepsUptoSaid : Prop := fnExactLatestStepsUptoRow.holds Tryd.pinned (OpenSpec.upto fnExactLatestStepsSpec)

/-- 'laws.FnExactPrefixAt', WHERE WHAT IT READS IS OF BULK AT MOST 1048576: true; the input reads as it did. -/
def fnExactPrefixAtUptoRow : OpenClaim := { program := "ytfbdbipopfjjnaadoor", sum := "9f2d3f4a9208f29cc2e045bf45002c74b9acfadfdd66d4d1f0c7b52893aaf296", func := "loop.example/g01094/laws.FnExactPrefixAt", spec := "fnExactPrefixAt", unfollowed := true, recurses := true, named := ["math/bits.deBruijn64tab"], apart := false, laid := [("math/bits.deBruijn64tab", laid_math_bits_deBruijn64tab)], narrowed := true }
def FnExactPrefixAtUptoSaid : Prop := fnExactPrefixAtUptoRow.holds Tryd.pinned (OpenSpec.upto fnExactPrefixAtSpec)

/-- 'laws.FnExactPairProjections', WHERE WHAT IT READS IS OF BULK AT MOST 1048576: true; the input reads as it did. -/
def fnExactPairProjectionsUptoRow : OpenClaim := { program := "ytfbdbipopfjjnaadoor", sum := "9f2d3f4a9208f29cc2e045bf45002c74b9acfadfdd66d4d1f0c7b52893aaf296", func := "loop.example/g01094/laws.FnExactPairProjections", spec := "fnExactPairProjections", unfollowed := true, recurses := true, named := ["math/bits.deBruijn64tab"], apart := false, laid := [("math/bits.deBruijn64tab", laid_math_bits_deBruijn64tab)], narrowed := true }
def FnExactPairProjectionsUptoSaid : Prop := fnExactPairProjectionsUptoRow.holds Tryd.pinned (OpenSpec.upto fnExactPairProjectionsSpec)

/-- 'laws.FnExactWordOfProjections', WHERE WHAT IT READS IS OF BULK AT MOST 1048576: true; the input reads as it did. -/
def fnExactWordOfProjectionsUptoRow : OpenClaim := { program := "ytfbdbipopfjjnaadoor", sum := "9f2d3f4a9208f29cc2e045bf45002c74b9acfadfdd66d4d1f0c7b52893aaf296", func := "loop.example/g01094/laws.FnExactWordOfProjections", spec := "fnExactWordOfProjections", unfollowed := true, recurses := true, named := ["math/bits.deBruijn64tab"], apart := false, laid := [("math/bits.deBruijn64tab", laid_math_bits_deBruijn64tab)], narrowed := true }
def FnExactWordOfProjectionsUptoSaid : Prop := fnExactWordOfProjectionsUptoRow.holds Tryd.pinned (OpenSpec.upto fnExactWordOfProjectionsSpec)

/-- 'laws.FnExactNeighboursOf', WHERE WHAT IT READS IS OF BULK AT MOST 1048576: true; the input reads as it did. -/
def fnExactNeighboursOfUptoRow : OpenClaim := { program := "ytfbdbipopfjjnaadoor", sum := "9f2d3f4a9208f29cc2e045bf45002c74b9acfadfdd66d4d1f0c7b52893aaf296", func := "loop.example/g01094/laws.FnExactNeighboursOf", spec := "fnExactNeighboursOf", unfollowed := true, recurses := true, named := ["math/bits.deBruijn64tab"], apart := false, laid := [("math/bits.deBruijn64tab", laid_math_bits_deBruijn64tab)], narrowed := true }
def FnExactNeighboursOfUptoSaid : Prop := fnExactNeighboursOfUptoRow.holds Tryd.pinned (OpenSpec.upto fnExactNeighboursOfSpec)

/-- 'laws.FnExactWidthOf', WHERE WHAT IT READS IS OF BULK AT MOST 1048576: true; the input reads as it did. -/
def fnExactWidthOfUptoRow : OpenClaim := { program := "ytfbdbipopfjjnaadoor", sum := "9f2d3f4a9208f29cc2e045bf45002c74b9acfadfdd66d4d1f0c7b52893aaf296", func := "loop.example/g01094/laws.FnExactWidthOf", spec := "fnExactWidthOf", unfollowed := true, recurses := true, named := ["math/bits.deBruijn64tab"], apart := false, laid := [("math/bits.deBruijn64tab", laid_math_bits_deBruijn64tab)], narrowed := true }
def FnExactWidthOfUptoSaid : Prop := fnExactWidthOfUptoRow.holds Tryd.pinned (OpenSpec.upto fnExactWidthOfSpec)

/-- 'laws.FnExactCountPrefixes', WHERE WHAT IT READS IS OF BULK AT MOST 1048576: true; the input reads as it did. -/
def fnExactCountPrefixesUptoRow : OpenClaim := { program := "ytfbdbipopfjjnaadoor", sum := "9f2d3f4a9208f29cc2e045bf45002c74b9acfadfdd66d4d1f0c7b52893aaf296", func := "loop.example/g01094/laws.FnExactCountPrefixes", spec := "fnExactCountPrefixes", unfollowed := true, recurses := true, named := ["math/bits.deBruijn64tab"], apart := false, laid := [("math/bits.deBruijn64tab", laid_math_bits_deBruijn64tab)], narrowed := true }
def FnExactCountPrefixesUptoSaid : Prop := fnExactCountPrefixesUptoRow.holds Tryd.pinned (OpenSpec.upto fnExactCountPrefixesSpec)

/-- 'laws.FnExactTraceOfOrder', WHERE WHAT IT READS IS OF BULK AT MOST 1048576: true; the input reads as it did. -/
def fnExactTraceOfOrderUptoRow : OpenClaim := { program := "ytfbdbipopfjjnaadoor", sum := "9f2d3f4a9208f29cc2e045bf45002c74b9acfadfdd66d4d1f0c7b52893aaf296", func := "loop.example/g01094/laws.FnExactTraceOfOrder", spec := "fnExactTraceOfOrder", unfollowed := true, recurses := true, named := ["math/bits.deBruijn64tab"], apart := false, laid := [("math/bits.deBruijn64tab", laid_math_bits_deBruijn64tab)], narrowed := true }
def FnExactTraceOfOrderUptoSaid : Prop := fnExactTraceOfOrderUptoRow.holds Tryd.pinned (OpenSpec.upto fnExactTraceOfOrderSpec)

/-- 'laws.FnExactDownsetsOf', WHERE WHAT IT READS IS OF BULK AT MOST 1048576: true; the input reads as it did. -/
def fnExactDownsetsOfUptoRow : OpenClaim := { program := "ytfbdbipopfjjnaadoor", sum := "9f2d3f4a9208f29cc2e045bf45002c74b9acfadfdd66d4d1f0c7b52893aaf296", func := "loop.example/g01094/laws.FnExactDownsetsOf", spec := "fnExactDownsetsOf", unfollowed := true, recurses := true, named := ["math/bits.deBruijn64tab"], apart := false, laid := [("math/bits.deBruijn64tab", laid_math_bits_deBruijn64tab)], narrowed := true }
def FnExactDownsetsOfUptoSaid : Prop := fnExactDownsetsOfUptoRow.holds Tryd.pinned (OpenSpec.upto fnExactDownsetsOfSpec)

end Rows
end Go.Proofs.YtfbdbipopfjjnaaDoor

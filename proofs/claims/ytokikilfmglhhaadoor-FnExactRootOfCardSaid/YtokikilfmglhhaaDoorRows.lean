/-
  NARROWER THAN 'FOR EVERY INPUT', by the rows' own cells (each row's printed sentence says how): FnTraceForms: laid · FnSameTraces: laid · FnExactAreCommuting: laid · FnExactPowerOf: laid · FnExactRootOf: laid · FnExactIsPrimitive: laid · FnExactRotateBy: laid · FnExactCountLyndon: laid · FnExactIsConnectedTrace: laid · FnExactTraceComponents: laid · FnExactNextTrace: laid.
  DERIVED. THE GIVEN ROWS OF THIS SEAT. 11 by the template 'for every input the law returns true; each argument reads behind the call as it read before'; 0 by the template 'total and deterministic' (their statements: YtokikilfmglhhaaDoorTotals.lean).
  GIVEN WITH THE SEED: the statements are not yours to turn. If you find one false, say at which input.
  Laid BY PROGRAM, IN A SANDBOX (cutbox-rows.mjs): the forced cells as the released guide's own fill.sh prints them over the translation 74c0207f3f073b5c… (all of the seat's roots in one cut). By AI agents, Wed Nov 11 2026. No macro, syntax, notation, axiom, sorry.
-/
import Derived.Test.YtokikilfmglhhaaDoorChecked
import GoSem.Claim
import GoSem.ClaimJoined
import GoSem.ClaimMapViews
import Derived.JoinedTies
import Derived.KernelRfl
namespace Go.Proofs.YtokikilfmglhhaaDoor
/- THE CELL 'sum', in the pinned program and in every row, IS THE sha256 OF THE DUMP (.gsa) THAT YtokikilfmglhhaaDoorProg.lean LOADS. Nothing in Lean hashes anything: it is a label: what it is worth is what the hold of that sum in a sandbox is worth. -/
noncomputable def Tryd.pinned : Pinned := { name := "ytokikilfmglhhaadoor", sum := "74c0207f3f073b5c9a3953c6296cf8f0746643b43d3b92cf6666e93a8a817c07", checked := Tryd.checked }
namespace Rows
def none {H : Type} : Left H := { results := [], args := [] }

/- WHAT THE LISTED PACKAGE-LEVEL VARIABLES READ AS WHEN THE CALL BEGINS. Each datum BY PROGRAM (the guide's laid-datum.mjs) off the statement by which the dump's own 'gosem.cut.vars' lays the variable. In a bare row this is a premise. The card (YtokikilfmglhhaaDoorCards.lean) ties it to the program's text. -/
def laid_math_bits_deBruijn64tab {H : Type} : DataW H := .agg [.lit (.int .u8 0), .lit (.int .u8 1), .lit (.int .u8 56), .lit (.int .u8 2), .lit (.int .u8 57), .lit (.int .u8 49), .lit (.int .u8 28), .lit (.int .u8 3), .lit (.int .u8 61), .lit (.int .u8 58), .lit (.int .u8 42), .lit (.int .u8 50), .lit (.int .u8 38), .lit (.int .u8 29), .lit (.int .u8 17), .lit (.int .u8 4), .lit (.int .u8 62), .lit (.int .u8 47), .lit (.int .u8 59), .lit (.int .u8 36), .lit (.int .u8 45), .lit (.int .u8 43), .lit (.int .u8 51), .lit (.int .u8 22), .lit (.int .u8 53), .lit (.int .u8 39), .lit (.int .u8 33), .lit (.int .u8 30), .lit (.int .u8 24), .lit (.int .u8 18), .lit (.int .u8 12), .lit (.int .u8 5), .lit (.int .u8 63), .lit (.int .u8 55), .lit (.int .u8 48), .lit (.int .u8 27), .lit (.int .u8 60), .lit (.int .u8 41), .lit (.int .u8 37), .lit (.int .u8 16), .lit (.int .u8 46), .lit (.int .u8 35), .lit (.int .u8 44), .lit (.int .u8 21), .lit (.int .u8 52), .lit (.int .u8 32), .lit (.int .u8 23), .lit (.int .u8 11), .lit (.int .u8 54), .lit (.int .u8 26), .lit (.int .u8 40), .lit (.int .u8 15), .lit (.int .u8 34), .lit (.int .u8 20), .lit (.int .u8 31), .lit (.int .u8 10), .lit (.int .u8 25), .lit (.int .u8 14), .lit (.int .u8 19), .lit (.int .u8 9), .lit (.int .u8 13), .lit (.int .u8 8), .lit (.int .u8 7), .lit (.int .u8 6)]

/-- 'laws.FnTraceForms': WHATEVER THE INPUT: true; the input reads as it did. -/
def fnTraceFormsSpec : ChangeSpec := { name := "fnTraceForms", fn := fun _ => fun
  | [d1, d2, d3] => { results := [.lit (.bool true)], args := [d1, d2, d3] }
  | _ => none }
def fnTraceFormsRow : OpenClaim := { program := "ytokikilfmglhhaadoor", sum := "74c0207f3f073b5c9a3953c6296cf8f0746643b43d3b92cf6666e93a8a817c07", func := "loop.example/g01094/laws.FnTraceForms", spec := "fnTraceForms", unfollowed := true, recurses := true, named := ["math/bits.deBruijn64tab"], apart := false, laid := [("math/bits.deBruijn64tab", laid_math_bits_deBruijn64tab)] }
def FnTraceFormsSaid : Prop := fnTraceFormsRow.holds Tryd.pinned (OpenSpec.ofChange fnTraceFormsSpec)

/-- ITS FALSE NEIGHBOUR: 'it returns false'. Refute it at one input. -/
def fnTraceFormsWrong : ChangeSpec := { name := "fnTraceForms", fn := fun _ => fun
  | [d1, d2, d3] => { results := [.lit (.bool false)], args := [d1, d2, d3] }
  | _ => none }
def FnTraceFormsWrongFalsely : Prop := fnTraceFormsRow.holds Tryd.pinned (OpenSpec.ofChange fnTraceFormsWrong)

/-- 'laws.FnSameTraces': WHATEVER THE INPUT: true; the input reads as it did. -/
def fnSameTracesSpec : ChangeSpec := { name := "fnSameTraces", fn := fun _ => fun
  | [d] => { results := [.lit (.bool true)], args := [d] }
  | _ => none }
def fnSameTracesRow : OpenClaim := { program := "ytokikilfmglhhaadoor", sum := "74c0207f3f073b5c9a3953c6296cf8f0746643b43d3b92cf6666e93a8a817c07", func := "loop.example/g01094/laws.FnSameTraces", spec := "fnSameTraces", unfollowed := true, recurses := true, named := ["math/bits.deBruijn64tab"], apart := false, laid := [("math/bits.deBruijn64tab", laid_math_bits_deBruijn64tab)] }
def FnSameTracesSaid : Prop := fnSameTracesRow.holds Tryd.pinned (OpenSpec.ofChange fnSameTracesSpec)

/-- ITS FALSE NEIGHBOUR: 'it returns false'. Refute it at one input. -/
def fnSameTracesWrong : ChangeSpec := { name := "fnSameTraces", fn := fun _ => fun
  | [d] => { results := [.lit (.bool false)], args := [d] }
  | _ => none }
def FnSameTracesWrongFalsely : Prop := fnSameTracesRow.holds Tryd.pinned (OpenSpec.ofChange fnSameTracesWrong)

/-- 'laws.FnExactAreCommuting': WHATEVER THE INPUT: true; the input reads as it did. -/
def fnExactAreCommutingSpec : ChangeSpec := { name := "fnExactAreCommuting", fn := fun _ => fun
  | [d1, d2, d3] => { results := [.lit (.bool true)], args := [d1, d2, d3] }
  | _ => none }
def fnExactAreCommutingRow : OpenClaim := { program := "ytokikilfmglhhaadoor", sum := "74c0207f3f073b5c9a3953c6296cf8f0746643b43d3b92cf6666e93a8a817c07", func := "loop.example/g01094/laws.FnExactAreCommuting", spec := "fnExactAreCommuting", unfollowed := true, recurses := true, named := ["math/bits.deBruijn64tab"], apart := false, laid := [("math/bits.deBruijn64tab", laid_math_bits_deBruijn64tab)] }
def FnExactAreCommutingSaid : Prop := fnExactAreCommutingRow.holds Tryd.pinned (OpenSpec.ofChange fnExactAreCommutingSpec)

/-- ITS FALSE NEIGHBOUR: 'it returns false'. Refute it at one input. -/
def fnExactAreCommutingWrong : ChangeSpec := { name := "fnExactAreCommuting", fn := fun _ => fun
  | [d1, d2, d3] => { results := [.lit (.bool false)], args := [d1, d2, d3] }
  | _ => none }
def FnExactAreCommutingWrongFalsely : Prop := fnExactAreCommutingRow.holds Tryd.pinned (OpenSpec.ofChange fnExactAreCommutingWrong)

/-- 'laws.FnExactPowerOf': WHATEVER THE INPUT: true; the input reads as it did. -/
def fnExactPowerOfSpec : ChangeSpec := { name := "fnExactPowerOf", fn := fun _ => fun
  | [d1, d2, d3] => { results := [.lit (.bool true)], args := [d1, d2, d3] }
  | _ => none }
def fnExactPowerOfRow : OpenClaim := { program := "ytokikilfmglhhaadoor", sum := "74c0207f3f073b5c9a3953c6296cf8f0746643b43d3b92cf6666e93a8a817c07", func := "loop.example/g01094/laws.FnExactPowerOf", spec := "fnExactPowerOf", unfollowed := true, recurses := true, named := ["math/bits.deBruijn64tab"], apart := false, laid := [("math/bits.deBruijn64tab", laid_math_bits_deBruijn64tab)] }
def FnExactPowerOfSaid : Prop := fnExactPowerOfRow.holds Tryd.pinned (OpenSpec.ofChange fnExactPowerOfSpec)

/-- ITS FALSE NEIGHBOUR: 'it returns false'. Refute it at one input. -/
def fnExactPowerOfWrong : ChangeSpec := { name := "fnExactPowerOf", fn := fun _ => fun
  | [d1, d2, d3] => { results := [.lit (.bool false)], args := [d1, d2, d3] }
  | _ => none }
def FnExactPowerOfWrongFalsely : Prop := fnExactPowerOfRow.holds Tryd.pinned (OpenSpec.ofChange fnExactPowerOfWrong)

/-- 'laws.FnExactRootOf': WHATEVER THE INPUT: true; the input reads as it did. -/
def fnExactRootOfSpec : ChangeSpec := { name := "fnExactRootOf", fn := fun _ => fun
  | [d1, d2] => { results := [.lit (.bool true)], args := [d1, d2] }
  | _ => none }
def fnExactRootOfRow : OpenClaim := { program := "ytokikilfmglhhaadoor", sum := "74c0207f3f073b5c9a3953c6296cf8f0746643b43d3b92cf6666e93a8a817c07", func := "loop.example/g01094/laws.FnExactRootOf", spec := "fnExactRootOf", unfollowed := true, recurses := true, named := ["math/bits.deBruijn64tab"], apart := false, laid := [("math/bits.deBruijn64tab", laid_math_bits_deBruijn64tab)] }
def FnExactRootOfSaid : Prop := fnExactRootOfRow.holds Tryd.pinned (OpenSpec.ofChange fnExactRootOfSpec)

/-- ITS FALSE NEIGHBOUR: 'it returns false'. Refute it at one input. -/
def fnExactRootOfWrong : ChangeSpec := { name := "fnExactRootOf", fn := fun _ => fun
  | [d1, d2] => { results := [.lit (.bool false)], args := [d1, d2] }
  | _ => none }
def FnExactRootOfWrongFalsely : Prop := fnExactRootOfRow.holds Tryd.pinned (OpenSpec.ofChange fnExactRootOfWrong)

/-- 'laws.FnExactIsPrimitive': WHATEVER THE INPUT: true; the input reads as it did. -/
def fnExactIsPrimitiveSpec : ChangeSpec := { name := "fnExactIsPrimitive", fn := fun _ => fun
  | [d1, d2] => { results := [.lit (.bool true)], args := [d1, d2] }
  | _ => none }
def fnExactIsPrimitiveRow : OpenClaim := { program := "ytokikilfmglhhaadoor", sum := "74c0207f3f073b5c9a3953c6296cf8f0746643b43d3b92cf6666e93a8a817c07", func := "loop.example/g01094/laws.FnExactIsPrimitive", spec := "fnExactIsPrimitive", unfollowed := true, recurses := true, named := ["math/bits.deBruijn64tab"], apart := false, laid := [("math/bits.deBruijn64tab", laid_math_bits_deBruijn64tab)] }
def FnExactIsPrimitiveSaid : Prop := fnExactIsPrimitiveRow.holds Tryd.pinned (OpenSpec.ofChange fnExactIsPrimitiveSpec)

/-- ITS FALSE NEIGHBOUR: 'it returns false'. Refute it at one input. -/
def fnExactIsPrimitiveWrong : ChangeSpec := { name := "fnExactIsPrimitive", fn := fun _ => fun
  | [d1, d2] => { results := [.lit (.bool false)], args := [d1, d2] }
  | _ => none }
def FnExactIsPrimitiveWrongFalsely : Prop := fnExactIsPrimitiveRow.holds Tryd.pinned (OpenSpec.ofChange fnExactIsPrimitiveWrong)

/-- 'laws.FnExactRotateBy': WHATEVER THE INPUT: true; the input reads as it did. -/
def fnExactRotateBySpec : ChangeSpec := { name := "fnExactRotateBy", fn := fun _ => fun
  | [d1, d2, d3] => { results := [.lit (.bool true)], args := [d1, d2, d3] }
  | _ => none }
def fnExactRotateByRow : OpenClaim := { program := "ytokikilfmglhhaadoor", sum := "74c0207f3f073b5c9a3953c6296cf8f0746643b43d3b92cf6666e93a8a817c07", func := "loop.example/g01094/laws.FnExactRotateBy", spec := "fnExactRotateBy", unfollowed := true, recurses := true, named := ["math/bits.deBruijn64tab"], apart := false, laid := [("math/bits.deBruijn64tab", laid_math_bits_deBruijn64tab)] }
def FnExactRotateBySaid : Prop := fnExactRotateByRow.holds Tryd.pinned (OpenSpec.ofChange fnExactRotateBySpec)

/-- ITS FALSE NEIGHBOUR: 'it returns false'. Refute it at one input. -/
def fnExactRotateByWrong : ChangeSpec := { name := "fnExactRotateBy", fn := fun _ => fun
  | [d1, d2, d3] => { results := [.lit (.bool false)], args := [d1, d2, d3] }
  | _ => none }
def FnExactRotateByWrongFalsely : Prop := fnExactRotateByRow.holds Tryd.pinned (OpenSpec.ofChange fnExactRotateByWrong)

/-- 'laws.FnExactCountLyndon': WHATEVER THE INPUT: true; the input reads as it did. -/
def fnExactCountLyndonSpec : ChangeSpec := { name := "fnExactCountLyndon", fn := fun _ => fun
  | [d1, d2] => { results := [.lit (.bool true)], args := [d1, d2] }
  | _ => none }
def fnExactCountLyndonRow : OpenClaim := { program := "ytokikilfmglhhaadoor", sum := "74c0207f3f073b5c9a3953c6296cf8f0746643b43d3b92cf6666e93a8a817c07", func := "loop.example/g01094/laws.FnExactCountLyndon", spec := "fnExactCountLyndon", unfollowed := true, recurses := true, named := ["math/bits.deBruijn64tab"], apart := false, laid := [("math/bits.deBruijn64tab", laid_math_bits_deBruijn64tab)] }
def FnExactCountLyndonSaid : Prop := fnExactCountLyndonRow.holds Tryd.pinned (OpenSpec.ofChange fnExactCountLyndonSpec)

/-- ITS FALSE NEIGHBOUR: 'it returns false'. Refute it at one input. -/
def fnExactCountLyndonWrong : ChangeSpec := { name := "fnExactCountLyndon", fn := fun _ => fun
  | [d1, d2] => { results := [.lit (.bool false)], args := [d1, d2] }
  | _ => none }
def FnExactCountLyndonWrongFalsely : Prop := fnExactCountLyndonRow.holds Tryd.pinned (OpenSpec.ofChange fnExactCountLyndonWrong)

/-- 'laws.FnExactIsConnectedTrace': WHATEVER THE INPUT: true; the input reads as it did. -/
def fnExactIsConnectedTraceSpec : ChangeSpec := { name := "fnExactIsConnectedTrace", fn := fun _ => fun
  | [d1, d2] => { results := [.lit (.bool true)], args := [d1, d2] }
  | _ => none }
def fnExactIsConnectedTraceRow : OpenClaim := { program := "ytokikilfmglhhaadoor", sum := "74c0207f3f073b5c9a3953c6296cf8f0746643b43d3b92cf6666e93a8a817c07", func := "loop.example/g01094/laws.FnExactIsConnectedTrace", spec := "fnExactIsConnectedTrace", unfollowed := true, recurses := true, named := ["math/bits.deBruijn64tab"], apart := false, laid := [("math/bits.deBruijn64tab", laid_math_bits_deBruijn64tab)] }
def FnExactIsConnectedTraceSaid : Prop := fnExactIsConnectedTraceRow.holds Tryd.pinned (OpenSpec.ofChange fnExactIsConnectedTraceSpec)

/-- ITS FALSE NEIGHBOUR: 'it returns false'. Refute it at one input. -/
def fnExactIsConnectedTraceWrong : ChangeSpec := { name := "fnExactIsConnectedTrace", fn := fun _ => fun
  | [d1, d2] => { results := [.lit (.bool false)], args := [d1, d2] }
  | _ => none }
def FnExactIsConnectedTraceWrongFalsely : Prop := fnExactIsConnectedTraceRow.holds Tryd.pinned (OpenSpec.ofChange fnExactIsConnectedTraceWrong)

/-- 'laws.FnExactTraceComponents': WHATEVER THE INPUT: true; the input reads as it did. -/
def fnExactTraceComponentsSpec : ChangeSpec := { name := "fnExactTraceComponents", fn := fun _ => fun
  | [d1, d2] => { results := [.lit (.bool true)], args := [d1, d2] }
  | _ => none }
def fnExactTraceComponentsRow : OpenClaim := { program := "ytokikilfmglhhaadoor", sum := "74c0207f3f073b5c9a3953c6296cf8f0746643b43d3b92cf6666e93a8a817c07", func := "loop.example/g01094/laws.FnExactTraceComponents", spec := "fnExactTraceComponents", unfollowed := true, recurses := true, named := ["math/bits.deBruijn64tab"], apart := false, laid := [("math/bits.deBruijn64tab", laid_math_bits_deBruijn64tab)] }
def FnExactTraceComponentsSaid : Prop := fnExactTraceComponentsRow.holds Tryd.pinned (OpenSpec.ofChange fnExactTraceComponentsSpec)

/-- ITS FALSE NEIGHBOUR: 'it returns false'. Refute it at one input. -/
def fnExactTraceComponentsWrong : ChangeSpec := { name := "fnExactTraceComponents", fn := fun _ => fun
  | [d1, d2] => { results := [.lit (.bool false)], args := [d1, d2] }
  | _ => none }
def FnExactTraceComponentsWrongFalsely : Prop := fnExactTraceComponentsRow.holds Tryd.pinned (OpenSpec.ofChange fnExactTraceComponentsWrong)

/-- 'laws.FnExactNextTrace': WHATEVER THE INPUT: true; the input reads as it did. -/
def fnExactNextTraceSpec : ChangeSpec := { name := "fnExactNextTrace", fn := fun _ => fun
  | [d1, d2] => { results := [.lit (.bool true)], args := [d1, d2] }
  | _ => none }
def fnExactNextTraceRow : OpenClaim := { program := "ytokikilfmglhhaadoor", sum := "74c0207f3f073b5c9a3953c6296cf8f0746643b43d3b92cf6666e93a8a817c07", func := "loop.example/g01094/laws.FnExactNextTrace", spec := "fnExactNextTrace", unfollowed := true, recurses := true, named := ["math/bits.deBruijn64tab"], apart := false, laid := [("math/bits.deBruijn64tab", laid_math_bits_deBruijn64tab)] }
def FnExactNextTraceSaid : Prop := fnExactNextTraceRow.holds Tryd.pinned (OpenSpec.ofChange fnExactNextTraceSpec)

/-- ITS FALSE NEIGHBOUR: 'it returns false'. Refute it at one input. -/
def fnExactNextTraceWrong : ChangeSpec := { name := "fnExactNextTrace", fn := fun _ => fun
  | [d1, d2] => { results := [.lit (.bool false)], args := [d1, d2] }
  | _ => none }
def FnExactNextTraceWrongFalsely : Prop := fnExactNextTraceRow.holds Tryd.pinned (OpenSpec.ofChange fnExactNextTraceWrong)

/- THE SECOND FORM. 'bulk': how many values and letters a reading holds, each counted each time it is reached (what is shared counts as often as it is met; a slice's spare places count too). A statement '..UptoSaid' is the law's where the arguments, and the package variables that the reading takes, are together of bulk at most 1048576: NARROWER than '..Said'. Prove '..Said' where nothing that the law and all that it calls make is longer than what came in: it says more and counts as full. Else prove '..UptoSaid'. A law counts once. -/
mutual
def uptoBulk {H : Type} : DataW H → Nat
  | .lit (.string bytes) => bytes.length + 1
  | .lit _ => 1
  | .nil => 1
  | .ptr d => uptoBulk d + 1
  | .slice elems spare => uptoBulkAll elems + uptoBulkAll spare + 1
  | .agg parts => uptoBulkAll parts + 1
  | .iface _ d => uptoBulk d + 1
  | .map entries => uptoBulkEntries entries + 1
  | .held _ => 1
def uptoBulkAll {H : Type} : List (DataW H) → Nat
  | [] => 0
  | d :: r => uptoBulk d + uptoBulkAll r
def uptoBulkEntries {H : Type} : List (Lit × DataW H) → Nat
  | [] => 0
  | x :: r => uptoBulkEntry x + uptoBulkEntries r
def uptoBulkEntry {H : Type} : Lit × DataW H → Nat
  | (.string bytes, d) => bytes.length + uptoBulk d + 1
  | (_, d) => uptoBulk d + 1
 end
def uptoSmall : (H : Type) → List (DataW H) → Bool := fun _ ds => decide (uptoBulkAll ds ≤ 1048576)
def OpenSpec.upto (s : _root_.Go.ChangeSpec) : _root_.Go.OpenSpec := { _root_.Go.OpenSpec.ofChange s with cond := some uptoSmall }

/-- 'laws.FnTraceForms', WHERE WHAT IT READS IS OF BULK AT MOST 1048576: true; the input reads as it did. -/
def fnTraceFormsUptoRow : OpenClaim := { program := "ytokikilfmglhhaadoor", sum := "74c0207f3f073b5c9a3953c6296cf8f0746643b43d3b92cf6666e93a8a817c07", func := "loop.example/g01094/laws.FnTraceForms", spec := "fnTraceForms", unfollowed := true, recurses := true, named := ["math/bits.deBruijn64tab"], apart := false, laid := [("math/bits.deBruijn64tab", laid_math_bits_deBruijn64tab)], narrowed := true }
def FnTraceFormsUptoSaid : Prop := fnTraceFormsUptoRow.holds Tryd.pinned (OpenSpec.upto fnTraceFormsSpec)

/-- 'laws.FnSameTraces', WHERE WHAT IT READS IS OF BULK AT MOST 1048576: true; the input reads as it did. -/
def fnSameTracesUptoRow : OpenClaim := { program := "ytokikilfmglhhaadoor", sum := "74c0207f3f073b5c9a3953c6296cf8f0746643b43d3b92cf6666e93a8a817c07", func := "loop.example/g01094/laws.FnSameTraces", spec := "fnSameTraces", unfollowed := true, recurses := true, named := ["math/bits.deBruijn64tab"], apart := false, laid := [("math/bits.deBruijn64tab", laid_math_bits_deBruijn64tab)], narrowed := true }
def FnSameTracesUptoSaid : Prop := fnSameTracesUptoRow.holds Tryd.pinned (OpenSpec.upto fnSameTracesSpec)

/-- 'laws.FnExactAreCommuting', WHERE WHAT IT READS IS OF BULK AT MOST 1048576: true; the input reads as it did. -/
def fnExactAreCommutingUptoRow : OpenClaim := { program := "ytokikilfmglhhaadoor", sum := "74c0207f3f073b5c9a3953c6296cf8f0746643b43d3b92cf6666e93a8a817c07", func := "loop.example/g01094/laws.FnExactAreCommuting", spec := "fnExactAreCommuting", unfollowed := true, recurses := true, named := ["math/bits.deBruijn64tab"], apart := false, laid := [("math/bits.deBruijn64tab", laid_math_bits_deBruijn64tab)], narrowed := true }
def FnExactAreCommutingUptoSaid : Prop := fnExactAreCommutingUptoRow.holds Tryd.pinned (OpenSpec.upto fnExactAreCommutingSpec)

/-- 'laws.FnExactPowerOf', WHERE WHAT IT READS IS OF BULK AT MOST 1048576: true; the input reads as it did. -/
def fnExactPowerOfUptoRow : OpenClaim := { program := "ytokikilfmglhhaadoor", sum := "74c0207f3f073b5c9a3953c6296cf8f0746643b43d3b92cf6666e93a8a817c07", func := "loop.example/g01094/laws.FnExactPowerOf", spec := "fnExactPowerOf", unfollowed := true, recurses := true, named := ["math/bits.deBruijn64tab"], apart := false, laid := [("math/bits.deBruijn64tab", laid_math_bits_deBruijn64tab)], narrowed := true }
def FnExactPowerOfUptoSaid : Prop := fnExactPowerOfUptoRow.holds Tryd.pinned (OpenSpec.upto fnExactPowerOfSpec)

/-- 'laws.FnExactRootOf', WHERE WHAT IT READS IS OF BULK AT MOST 1048576: true; the input reads as it did. -/
def fnExactRootOfUptoRow : OpenClaim := { program := "ytokikilfmglhhaadoor", sum := "74c0207f3f073b5c9a3953c6296cf8f0746643b43d3b92cf6666e93a8a817c07", func := "loop.example/g01094/laws.FnExactRootOf", spec := "fnExactRootOf", unfollowed := true, recurses := true, named := ["math/bits.deBruijn64tab"], apart := false, laid := [("math/bits.deBruijn64tab", laid_math_bits_deBruijn64tab)], narrowed := true }
def FnExactRootOfUptoSaid : Prop := fnExactRootOfUptoRow.holds Tryd.pinned (OpenSpec.upto fnExactRootOfSpec)

/-- 'laws.FnExactIsPrimitive', WHERE WHAT IT READS IS OF BULK AT MOST 1048576: true; the input reads as it did. -/
def fnExactIsPrimitiveUptoRow : OpenClaim := { program := "ytokikilfmglhhaadoor", sum := "74c0207f3f073b5c9a3953c6296cf8f0746643b43d3b92cf6666e93a8a817c07", func := "loop.example/g01094/laws.FnExactIsPrimitive", spec := "fnExactIsPrimitive", unfollowed := true, recurses := true, named := ["math/bits.deBruijn64tab"], apart := false, laid := [("math/bits.deBruijn64tab", laid_math_bits_deBruijn64tab)], narrowed := true }
def FnExactIsPrimitiveUptoSaid : Prop := fnExactIsPrimitiveUptoRow.holds Tryd.pinned (OpenSpec.upto fnExactIsPrimitiveSpec)

/-- 'laws.FnExactRotateBy', WHERE WHAT IT READS IS OF BULK AT MOST 1048576: true; the input reads as it did. -/
def fnExactRotateByUptoRow : OpenClaim := { program := "ytokikilfmglhhaadoor", sum := "74c0207f3f073b5c9a3953c6296cf8f0746643b43d3b92cf6666e93a8a817c07", func := "loop.example/g01094/laws.FnExactRotateBy", spec := "fnExactRotateBy", unfollowed := true, recurses := true, named := ["math/bits.deBruijn64tab"], apart := false, laid := [("math/bits.deBruijn64tab", laid_math_bits_deBruijn64tab)], narrowed := true }
def FnExactRotateByUptoSaid : Prop := fnExactRotateByUptoRow.holds Tryd.pinned (OpenSpec.upto fnExactRotateBySpec)

/-- 'laws.FnExactCountLyndon', WHERE WHAT IT READS IS OF BULK AT MOST 1048576: true; the input reads as it did. -/
def fnExactCountLyndonUptoRow : OpenClaim := { program := "ytokikilfmglhhaadoor", sum := "74c0207f3f073b5c9a3953c6296cf8f0746643b43d3b92cf6666e93a8a817c07", func := "loop.example/g01094/laws.FnExactCountLyndon", spec := "fnExactCountLyndon", unfollowed := true, recurses := true, named := ["math/bits.deBruijn64tab"], apart := false, laid := [("math/bits.deBruijn64tab", laid_math_bits_deBruijn64tab)], narrowed := true }
def FnExactCountLyndonUptoSaid : Prop := fnExactCountLyndonUptoRow.holds Tryd.pinned (OpenSpec.upto fnExactCountLyndonSpec)

/-- 'laws.FnExactIsConnectedTrace', WHERE WHAT IT READS IS OF BULK AT MOST 1048576: true; the input reads as it did. -/
def fnExactIsConnectedTraceUptoRow : OpenClaim := { program := "ytokikilfmglhhaadoor", sum := "74c0207f3f073b5c9a3953c6296cf8f0746643b43d3b92cf6666e93a8a817c07", func := "loop.example/g01094/laws.FnExactIsConnectedTrace", spec := "fnExactIsConnectedTrace", unfollowed := true, recurses := true, named := ["math/bits.deBruijn64tab"], apart := false, laid := [("math/bits.deBruijn64tab", laid_math_bits_deBruijn64tab)], narrowed := true }
def FnExactIsConnectedTraceUptoSaid : Prop := fnExactIsConnectedTraceUptoRow.holds Tryd.pinned (OpenSpec.upto fnExactIsConnectedTraceSpec)

/-- 'laws.FnExactTraceComponents', WHERE WHAT IT READS IS OF BULK AT MOST 1048576: true; the input reads as it did. -/
def fnExactTraceComponentsUptoRow : OpenClaim := { program := "ytokikilfmglhhaadoor", sum := "74c0207f3f073b5c9a3953c6296cf8f0746643b43d3b92cf6666e93a8a817c07", func := "loop.example/g01094/laws.FnExactTraceComponents", spec := "fnExactTraceComponents", unfollowed := true, recurses := true, named := ["math/bits.deBruijn64tab"], apart := false, laid := [("math/bits.deBruijn64tab", laid_math_bits_deBruijn64tab)], narrowed := true }
def FnExactTraceComponentsUptoSaid : Prop := fnExactTraceComponentsUptoRow.holds Tryd.pinned (OpenSpec.upto fnExactTraceComponentsSpec)

/-- 'laws.FnExactNextTrace', WHERE WHAT IT READS IS OF BULK AT MOST 1048576: true; the input reads as it did. -/
def fnExactNextTraceUptoRow : OpenClaim := { program := "ytokikilfmglhhaadoor", sum := "74c0207f3f073b5c9a3953c6296cf8f0746643b43d3b92cf6666e93a8a817c07", func := "loop.example/g01094/laws.FnExactNextTrace", spec := "fnExactNextTrace", unfollowed := true, recurses := true, named := ["math/bits.deBruijn64tab"], apart := false, laid := [("math/bits.deBruijn64tab", laid_math_bits_deBruijn64tab)], narrowed := true }
def FnExactNextTraceUptoSaid : Prop := fnExactNextTraceUptoRow.holds Tryd.pinned (OpenSpec.upto fnExactNextTraceSpec)

end Rows
end Go.Proofs.YtokikilfmglhhaaDoor

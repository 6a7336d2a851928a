/-
  NARROWER THAN 'FOR EVERY INPUT', by the rows' own cells (each row's printed sentence says how): FnExactIsAlphabet: laid · FnExactAreDependent: laid · FnExactAlphabetOfProcesses: laid · FnExactDomainsOf: laid · FnExactStepsOf: laid · FnExactComplementOf: laid · FnExactPartOfAlphabet: laid · FnExactDirectProduct: laid · FnExactFreeProduct: laid · FnExactPartsOfAlphabet: laid · FnExactHasTransitiveExchange: laid · FnExactProcessesOf: laid.
  DERIVED. THE GIVEN ROWS OF THIS SEAT. 12 by the template 'for every input the law returns true; each argument reads behind the call as it read before'; 0 by the template 'total and deterministic' (their statements: YtbjkpkgnjeaimaaDoorTotals.lean).
  GIVEN WITH THE SEED: the statements are not yours to turn. If you find one false, say at which input.
  Laid BY PROGRAM, IN A SANDBOX (cutbox-rows.mjs): the forced cells as the released guide's own fill.sh prints them over the translation e530cdc97398cac1… (all of the seat's roots in one cut). By AI agents, Wed Nov 11 2026. No macro, syntax, notation, axiom, sorry.
-/
import Derived.Test.YtbjkpkgnjeaimaaDoorChecked
import GoSem.Claim
import GoSem.ClaimJoined
import GoSem.ClaimMapViews
import Derived.JoinedTies
import Derived.KernelRfl
namespace Go.Proofs.YtbjkpkgnjeaimaaDoor
/- THE CELL 'sum', in the pinned program and in every row, IS THE sha256 OF THE DUMP (.gsa) THAT YtbjkpkgnjeaimaaDoorProg.lean LOADS. Nothing in Lean hashes anything: it is a label: what it is worth is what the hold of that sum in a sandbox is worth. -/
noncomputable def Tryd.pinned : Pinned := { name := "ytbjkpkgnjeaimaadoor", sum := "e530cdc97398cac18fc93487754b8a4910ab5d2e134966eaac06078cf8f50bc8", checked := Tryd.checked }
namespace Rows
def none {H : Type} : Left H := { results := [], args := [] }

/- WHAT THE LISTED PACKAGE-LEVEL VARIABLES READ AS WHEN THE CALL BEGINS. Each datum BY PROGRAM (the guide's laid-datum.mjs) off the statement by which the dump's own 'gosem.cut.vars' lays the variable. In a bare row this is a premise. The card (YtbjkpkgnjeaimaaDoorCards.lean) ties it to the program's text. -/
def laid_math_bits_deBruijn64tab {H : Type} : DataW H := .agg [.lit (.int .u8 0), .lit (.int .u8 1), .lit (.int .u8 56), .lit (.int .u8 2), .lit (.int .u8 57), .lit (.int .u8 49), .lit (.int .u8 28), .lit (.int .u8 3), .lit (.int .u8 61), .lit (.int .u8 58), .lit (.int .u8 42), .lit (.int .u8 50), .lit (.int .u8 38), .lit (.int .u8 29), .lit (.int .u8 17), .lit (.int .u8 4), .lit (.int .u8 62), .lit (.int .u8 47), .lit (.int .u8 59), .lit (.int .u8 36), .lit (.int .u8 45), .lit (.int .u8 43), .lit (.int .u8 51), .lit (.int .u8 22), .lit (.int .u8 53), .lit (.int .u8 39), .lit (.int .u8 33), .lit (.int .u8 30), .lit (.int .u8 24), .lit (.int .u8 18), .lit (.int .u8 12), .lit (.int .u8 5), .lit (.int .u8 63), .lit (.int .u8 55), .lit (.int .u8 48), .lit (.int .u8 27), .lit (.int .u8 60), .lit (.int .u8 41), .lit (.int .u8 37), .lit (.int .u8 16), .lit (.int .u8 46), .lit (.int .u8 35), .lit (.int .u8 44), .lit (.int .u8 21), .lit (.int .u8 52), .lit (.int .u8 32), .lit (.int .u8 23), .lit (.int .u8 11), .lit (.int .u8 54), .lit (.int .u8 26), .lit (.int .u8 40), .lit (.int .u8 15), .lit (.int .u8 34), .lit (.int .u8 20), .lit (.int .u8 31), .lit (.int .u8 10), .lit (.int .u8 25), .lit (.int .u8 14), .lit (.int .u8 19), .lit (.int .u8 9), .lit (.int .u8 13), .lit (.int .u8 8), .lit (.int .u8 7), .lit (.int .u8 6)]

/-- 'laws.FnExactIsAlphabet': WHATEVER THE INPUT: true; the input reads as it did. -/
def fnExactIsAlphabetSpec : ChangeSpec := { name := "fnExactIsAlphabet", fn := fun _ => fun
  | [d] => { results := [.lit (.bool true)], args := [d] }
  | _ => none }
def fnExactIsAlphabetRow : OpenClaim := { program := "ytbjkpkgnjeaimaadoor", sum := "e530cdc97398cac18fc93487754b8a4910ab5d2e134966eaac06078cf8f50bc8", func := "loop.example/g01094/laws.FnExactIsAlphabet", spec := "fnExactIsAlphabet", named := ["math/bits.deBruijn64tab"], apart := false, laid := [("math/bits.deBruijn64tab", laid_math_bits_deBruijn64tab)] }
def FnExactIsAlphabetSaid : Prop := fnExactIsAlphabetRow.holds Tryd.pinned (OpenSpec.ofChange fnExactIsAlphabetSpec)

/-- ITS FALSE NEIGHBOUR: 'it returns false'. Refute it at one input. -/
def fnExactIsAlphabetWrong : ChangeSpec := { name := "fnExactIsAlphabet", fn := fun _ => fun
  | [d] => { results := [.lit (.bool false)], args := [d] }
  | _ => none }
def FnExactIsAlphabetWrongFalsely : Prop := fnExactIsAlphabetRow.holds Tryd.pinned (OpenSpec.ofChange fnExactIsAlphabetWrong)

/-- 'laws.FnExactAreDependent': WHATEVER THE INPUT: true; the input reads as it did. -/
def fnExactAreDependentSpec : ChangeSpec := { name := "fnExactAreDependent", fn := fun _ => fun
  | [d1, d2, d3] => { results := [.lit (.bool true)], args := [d1, d2, d3] }
  | _ => none }
def fnExactAreDependentRow : OpenClaim := { program := "ytbjkpkgnjeaimaadoor", sum := "e530cdc97398cac18fc93487754b8a4910ab5d2e134966eaac06078cf8f50bc8", func := "loop.example/g01094/laws.FnExactAreDependent", spec := "fnExactAreDependent", named := ["math/bits.deBruijn64tab"], apart := false, laid := [("math/bits.deBruijn64tab", laid_math_bits_deBruijn64tab)] }
def FnExactAreDependentSaid : Prop := fnExactAreDependentRow.holds Tryd.pinned (OpenSpec.ofChange fnExactAreDependentSpec)

/-- ITS FALSE NEIGHBOUR: 'it returns false'. Refute it at one input. -/
def fnExactAreDependentWrong : ChangeSpec := { name := "fnExactAreDependent", fn := fun _ => fun
  | [d1, d2, d3] => { results := [.lit (.bool false)], args := [d1, d2, d3] }
  | _ => none }
def FnExactAreDependentWrongFalsely : Prop := fnExactAreDependentRow.holds Tryd.pinned (OpenSpec.ofChange fnExactAreDependentWrong)

/-- 'laws.FnExactAlphabetOfProcesses': WHATEVER THE INPUT: true; the input reads as it did. -/
def fnExactAlphabetOfProcessesSpec : ChangeSpec := { name := "fnExactAlphabetOfProcesses", fn := fun _ => fun
  | [d1, d2] => { results := [.lit (.bool true)], args := [d1, d2] }
  | _ => none }
def fnExactAlphabetOfProcessesRow : OpenClaim := { program := "ytbjkpkgnjeaimaadoor", sum := "e530cdc97398cac18fc93487754b8a4910ab5d2e134966eaac06078cf8f50bc8", func := "loop.example/g01094/laws.FnExactAlphabetOfProcesses", spec := "fnExactAlphabetOfProcesses", named := ["math/bits.deBruijn64tab"], apart := false, laid := [("math/bits.deBruijn64tab", laid_math_bits_deBruijn64tab)] }
def FnExactAlphabetOfProcessesSaid : Prop := fnExactAlphabetOfProcessesRow.holds Tryd.pinned (OpenSpec.ofChange fnExactAlphabetOfProcessesSpec)

/-- ITS FALSE NEIGHBOUR: 'it returns false'. Refute it at one input. -/
def fnExactAlphabetOfProcessesWrong : ChangeSpec := { name := "fnExactAlphabetOfProcesses", fn := fun _ => fun
  | [d1, d2] => { results := [.lit (.bool false)], args := [d1, d2] }
  | _ => none }
def FnExactAlphabetOfProcessesWrongFalsely : Prop := fnExactAlphabetOfProcessesRow.holds Tryd.pinned (OpenSpec.ofChange fnExactAlphabetOfProcessesWrong)

/-- 'laws.FnExactDomainsOf': WHATEVER THE INPUT: true; the input reads as it did. -/
def fnExactDomainsOfSpec : ChangeSpec := { name := "fnExactDomainsOf", fn := fun _ => fun
  | [d1, d2] => { results := [.lit (.bool true)], args := [d1, d2] }
  | _ => none }
def fnExactDomainsOfRow : OpenClaim := { program := "ytbjkpkgnjeaimaadoor", sum := "e530cdc97398cac18fc93487754b8a4910ab5d2e134966eaac06078cf8f50bc8", func := "loop.example/g01094/laws.FnExactDomainsOf", spec := "fnExactDomainsOf", named := ["math/bits.deBruijn64tab"], apart := false, laid := [("math/bits.deBruijn64tab", laid_math_bits_deBruijn64tab)] }
def FnExactDomainsOfSaid : Prop := fnExactDomainsOfRow.holds Tryd.pinned (OpenSpec.ofChange fnExactDomainsOfSpec)

/-- ITS FALSE NEIGHBOUR: 'it returns false'. Refute it at one input. -/
def fnExactDomainsOfWrong : ChangeSpec := { name := "fnExactDomainsOf", fn := fun _ => fun
  | [d1, d2] => { results := [.lit (.bool false)], args := [d1, d2] }
  | _ => none }
def FnExactDomainsOfWrongFalsely : Prop := fnExactDomainsOfRow.holds Tryd.pinned (OpenSpec.ofChange fnExactDomainsOfWrong)

/-- 'laws.FnExactStepsOf': WHATEVER THE INPUT: true; the input reads as it did. -/
def fnExactStepsOfSpec : ChangeSpec := { name := "fnExactStepsOf", fn := fun _ => fun
  | [d] => { results := [.lit (.bool true)], args := [d] }
  | _ => none }
def fnExactStepsOfRow : OpenClaim := { program := "ytbjkpkgnjeaimaadoor", sum := "e530cdc97398cac18fc93487754b8a4910ab5d2e134966eaac06078cf8f50bc8", func := "loop.example/g01094/laws.FnExactStepsOf", spec := "fnExactStepsOf", unfollowed := true, recurses := true, named := ["math/bits.deBruijn64tab"], apart := false, laid := [("math/bits.deBruijn64tab", laid_math_bits_deBruijn64tab)] }
def FnExactStepsOfSaid : Prop := fnExactStepsOfRow.holds Tryd.pinned (OpenSpec.ofChange fnExactStepsOfSpec)

/-- ITS FALSE NEIGHBOUR: 'it returns false'. Refute it at one input. -/
def fnExactStepsOfWrong : ChangeSpec := { name := "fnExactStepsOf", fn := fun _ => fun
  | [d] => { results := [.lit (.bool false)], args := [d] }
  | _ => none }
def FnExactStepsOfWrongFalsely : Prop := fnExactStepsOfRow.holds Tryd.pinned (OpenSpec.ofChange fnExactStepsOfWrong)

/-- 'laws.FnExactComplementOf': WHATEVER THE INPUT: true; the input reads as it did. -/
def fnExactComplementOfSpec : ChangeSpec := { name := "fnExactComplementOf", fn := fun _ => fun
  | [d] => { results := [.lit (.bool true)], args := [d] }
  | _ => none }
def fnExactComplementOfRow : OpenClaim := { program := "ytbjkpkgnjeaimaadoor", sum := "e530cdc97398cac18fc93487754b8a4910ab5d2e134966eaac06078cf8f50bc8", func := "loop.example/g01094/laws.FnExactComplementOf", spec := "fnExactComplementOf", named := ["math/bits.deBruijn64tab"], apart := false, laid := [("math/bits.deBruijn64tab", laid_math_bits_deBruijn64tab)] }
def FnExactComplementOfSaid : Prop := fnExactComplementOfRow.holds Tryd.pinned (OpenSpec.ofChange fnExactComplementOfSpec)

/-- ITS FALSE NEIGHBOUR: 'it returns false'. Refute it at one input. -/
def fnExactComplementOfWrong : ChangeSpec := { name := "fnExactComplementOf", fn := fun _ => fun
  | [d] => { results := [.lit (.bool false)], args := [d] }
  | _ => none }
def FnExactComplementOfWrongFalsely : Prop := fnExactComplementOfRow.holds Tryd.pinned (OpenSpec.ofChange fnExactComplementOfWrong)

/-- 'laws.FnExactPartOfAlphabet': WHATEVER THE INPUT: true; the input reads as it did. -/
def fnExactPartOfAlphabetSpec : ChangeSpec := { name := "fnExactPartOfAlphabet", fn := fun _ => fun
  | [d1, d2] => { results := [.lit (.bool true)], args := [d1, d2] }
  | _ => none }
def fnExactPartOfAlphabetRow : OpenClaim := { program := "ytbjkpkgnjeaimaadoor", sum := "e530cdc97398cac18fc93487754b8a4910ab5d2e134966eaac06078cf8f50bc8", func := "loop.example/g01094/laws.FnExactPartOfAlphabet", spec := "fnExactPartOfAlphabet", named := ["math/bits.deBruijn64tab"], apart := false, laid := [("math/bits.deBruijn64tab", laid_math_bits_deBruijn64tab)] }
def FnExactPartOfAlphabetSaid : Prop := fnExactPartOfAlphabetRow.holds Tryd.pinned (OpenSpec.ofChange fnExactPartOfAlphabetSpec)

/-- ITS FALSE NEIGHBOUR: 'it returns false'. Refute it at one input. -/
def fnExactPartOfAlphabetWrong : ChangeSpec := { name := "fnExactPartOfAlphabet", fn := fun _ => fun
  | [d1, d2] => { results := [.lit (.bool false)], args := [d1, d2] }
  | _ => none }
def FnExactPartOfAlphabetWrongFalsely : Prop := fnExactPartOfAlphabetRow.holds Tryd.pinned (OpenSpec.ofChange fnExactPartOfAlphabetWrong)

/-- 'laws.FnExactDirectProduct': WHATEVER THE INPUT: true; the input reads as it did. -/
def fnExactDirectProductSpec : ChangeSpec := { name := "fnExactDirectProduct", fn := fun _ => fun
  | [d1, d2] => { results := [.lit (.bool true)], args := [d1, d2] }
  | _ => none }
def fnExactDirectProductRow : OpenClaim := { program := "ytbjkpkgnjeaimaadoor", sum := "e530cdc97398cac18fc93487754b8a4910ab5d2e134966eaac06078cf8f50bc8", func := "loop.example/g01094/laws.FnExactDirectProduct", spec := "fnExactDirectProduct", unfollowed := true, recurses := true, named := ["math/bits.deBruijn64tab"], apart := false, laid := [("math/bits.deBruijn64tab", laid_math_bits_deBruijn64tab)] }
def FnExactDirectProductSaid : Prop := fnExactDirectProductRow.holds Tryd.pinned (OpenSpec.ofChange fnExactDirectProductSpec)

/-- ITS FALSE NEIGHBOUR: 'it returns false'. Refute it at one input. -/
def fnExactDirectProductWrong : ChangeSpec := { name := "fnExactDirectProduct", fn := fun _ => fun
  | [d1, d2] => { results := [.lit (.bool false)], args := [d1, d2] }
  | _ => none }
def FnExactDirectProductWrongFalsely : Prop := fnExactDirectProductRow.holds Tryd.pinned (OpenSpec.ofChange fnExactDirectProductWrong)

/-- 'laws.FnExactFreeProduct': WHATEVER THE INPUT: true; the input reads as it did. -/
def fnExactFreeProductSpec : ChangeSpec := { name := "fnExactFreeProduct", fn := fun _ => fun
  | [d1, d2] => { results := [.lit (.bool true)], args := [d1, d2] }
  | _ => none }
def fnExactFreeProductRow : OpenClaim := { program := "ytbjkpkgnjeaimaadoor", sum := "e530cdc97398cac18fc93487754b8a4910ab5d2e134966eaac06078cf8f50bc8", func := "loop.example/g01094/laws.FnExactFreeProduct", spec := "fnExactFreeProduct", unfollowed := true, recurses := true, named := ["math/bits.deBruijn64tab"], apart := false, laid := [("math/bits.deBruijn64tab", laid_math_bits_deBruijn64tab)] }
def FnExactFreeProductSaid : Prop := fnExactFreeProductRow.holds Tryd.pinned (OpenSpec.ofChange fnExactFreeProductSpec)

/-- ITS FALSE NEIGHBOUR: 'it returns false'. Refute it at one input. -/
def fnExactFreeProductWrong : ChangeSpec := { name := "fnExactFreeProduct", fn := fun _ => fun
  | [d1, d2] => { results := [.lit (.bool false)], args := [d1, d2] }
  | _ => none }
def FnExactFreeProductWrongFalsely : Prop := fnExactFreeProductRow.holds Tryd.pinned (OpenSpec.ofChange fnExactFreeProductWrong)

/-- 'laws.FnExactPartsOfAlphabet': WHATEVER THE INPUT: true; the input reads as it did. -/
def fnExactPartsOfAlphabetSpec : ChangeSpec := { name := "fnExactPartsOfAlphabet", fn := fun _ => fun
  | [d] => { results := [.lit (.bool true)], args := [d] }
  | _ => none }
def fnExactPartsOfAlphabetRow : OpenClaim := { program := "ytbjkpkgnjeaimaadoor", sum := "e530cdc97398cac18fc93487754b8a4910ab5d2e134966eaac06078cf8f50bc8", func := "loop.example/g01094/laws.FnExactPartsOfAlphabet", spec := "fnExactPartsOfAlphabet", named := ["math/bits.deBruijn64tab"], apart := false, laid := [("math/bits.deBruijn64tab", laid_math_bits_deBruijn64tab)] }
def FnExactPartsOfAlphabetSaid : Prop := fnExactPartsOfAlphabetRow.holds Tryd.pinned (OpenSpec.ofChange fnExactPartsOfAlphabetSpec)

/-- ITS FALSE NEIGHBOUR: 'it returns false'. Refute it at one input. -/
def fnExactPartsOfAlphabetWrong : ChangeSpec := { name := "fnExactPartsOfAlphabet", fn := fun _ => fun
  | [d] => { results := [.lit (.bool false)], args := [d] }
  | _ => none }
def FnExactPartsOfAlphabetWrongFalsely : Prop := fnExactPartsOfAlphabetRow.holds Tryd.pinned (OpenSpec.ofChange fnExactPartsOfAlphabetWrong)

/-- 'laws.FnExactHasTransitiveExchange': WHATEVER THE INPUT: true; the input reads as it did. -/
def fnExactHasTransitiveExchangeSpec : ChangeSpec := { name := "fnExactHasTransitiveExchange", fn := fun _ => fun
  | [d] => { results := [.lit (.bool true)], args := [d] }
  | _ => none }
def fnExactHasTransitiveExchangeRow : OpenClaim := { program := "ytbjkpkgnjeaimaadoor", sum := "e530cdc97398cac18fc93487754b8a4910ab5d2e134966eaac06078cf8f50bc8", func := "loop.example/g01094/laws.FnExactHasTransitiveExchange", spec := "fnExactHasTransitiveExchange", named := ["math/bits.deBruijn64tab"], apart := false, laid := [("math/bits.deBruijn64tab", laid_math_bits_deBruijn64tab)] }
def FnExactHasTransitiveExchangeSaid : Prop := fnExactHasTransitiveExchangeRow.holds Tryd.pinned (OpenSpec.ofChange fnExactHasTransitiveExchangeSpec)

/-- ITS FALSE NEIGHBOUR: 'it returns false'. Refute it at one input. -/
def fnExactHasTransitiveExchangeWrong : ChangeSpec := { name := "fnExactHasTransitiveExchange", fn := fun _ => fun
  | [d] => { results := [.lit (.bool false)], args := [d] }
  | _ => none }
def FnExactHasTransitiveExchangeWrongFalsely : Prop := fnExactHasTransitiveExchangeRow.holds Tryd.pinned (OpenSpec.ofChange fnExactHasTransitiveExchangeWrong)

/-- 'laws.FnExactProcessesOf': WHATEVER THE INPUT: true; the input reads as it did. -/
def fnExactProcessesOfSpec : ChangeSpec := { name := "fnExactProcessesOf", fn := fun _ => fun
  | [d] => { results := [.lit (.bool true)], args := [d] }
  | _ => none }
def fnExactProcessesOfRow : OpenClaim := { program := "ytbjkpkgnjeaimaadoor", sum := "e530cdc97398cac18fc93487754b8a4910ab5d2e134966eaac06078cf8f50bc8", func := "loop.example/g01094/laws.FnExactProcessesOf", spec := "fnExactProcessesOf", unfollowed := true, recurses := true, named := ["math/bits.deBruijn64tab"], apart := false, laid := [("math/bits.deBruijn64tab", laid_math_bits_deBruijn64tab)] }
def FnExactProcessesOfSaid : Prop := fnExactProcessesOfRow.holds Tryd.pinned (OpenSpec.ofChange fnExactProcessesOfSpec)

/-- ITS FALSE NEIGHBOUR: 'it returns false'. Refute it at one input. -/
def fnExactProcessesOfWrong : ChangeSpec := { name := "fnExactProcessesOf", fn := fun _ => fun
  | [d] => { results := [.lit (.bool false)], args := [d] }
  | _ => none }
def FnExactProcessesOfWrongFalsely : Prop := fnExactProcessesOfRow.holds Tryd.pinned (OpenSpec.ofChange fnExactProcessesOfWrong)

/- THE SECOND FORM. 'bulk': how many values and letters a reading holds, each counted each time it is reached (what is shared counts as often as it is met; a slice's spare places count too). A statement '..UptoSaid' is the law's where the arguments, and the package variables that the reading takes, are together of bulk at most 1048576: NARROWER than '..Said'. Prove '..Said' where nothing that the law and all that it calls make is longer than what came in: it says more and counts as full. Else prove '..UptoSaid'. A law counts once. -/
mutual
def uptoBulk {H : Type} : DataW H → Nat
  | .lit (.string bytes) => bytes.length + 1
  | .lit _ => 1
  | .nil => 1
  | .ptr d => uptoBulk d + 1
  | .slice elems spare => uptoBulkAll elems + uptoBulkAll spare + 1
  | .agg parts => uptoBulkAll parts + 1
  | .iface _ d => uptoBulk d + 1
  | .map entries => uptoBulkEntries entries + 1
  | .held _ => 1
def uptoBulkAll {H : Type} : List (DataW H) → Nat
  | [] => 0
  | d :: r => uptoBulk d + uptoBulkAll r
def uptoBulkEntries {H : Type} : List (Lit × DataW H) → Nat
  | [] => 0
  | x :: r => uptoBulkEntry x + uptoBulkEntries r
def uptoBulkEntry {H : Type} : Lit × DataW H → Nat
  | (.string bytes, d) => bytes.length + uptoBulk d + 1
  | (_, d) => uptoBulk d + 1
 end
def uptoSmall : (H : Type) → List (DataW H) → Bool := fun _ ds => decide (uptoBulkAll ds ≤ 1048576)
def OpenSpec.upto (s : _root_.Go.ChangeSpec) : _root_.Go.OpenSpec := { _root_.Go.OpenSpec.ofChange s with cond := some uptoSmall }

/-- 'laws.FnExactIsAlphabet', WHERE WHAT IT READS IS OF BULK AT MOST 1048576: true; the input reads as it did. -/
def fnExactIsAlphabetUptoRow : OpenClaim := { program := "ytbjkpkgnjeaimaadoor", sum := "e530cdc97398cac18fc93487754b8a4910ab5d2e134966eaac06078cf8f50bc8", func := "loop.example/g01094/laws.FnExactIsAlphabet", spec := "fnExactIsAlphabet", named := ["math/bits.deBruijn64tab"], apart := false, laid := [("math/bits.deBruijn64tab", laid_math_bits_deBruijn64tab)], narrowed := true }
def FnExactIsAlphabetUptoSaid : Prop := fnExactIsAlphabetUptoRow.holds Tryd.pinned (OpenSpec.upto fnExactIsAlphabetSpec)

/-- 'laws.FnExactAreDependent', WHERE WHAT IT READS IS OF BULK AT MOST 1048576: true; the input reads as it did. -/
def fnExactAreDependentUptoRow : OpenClaim := { program := "ytbjkpkgnjeaimaadoor", sum := "e530cdc97398cac18fc93487754b8a4910ab5d2e134966eaac06078cf8f50bc8", func := "loop.example/g01094/laws.FnExactAreDependent", spec := "fnExactAreDependent", named := ["math/bits.deBruijn64tab"], apart := false, laid := [("math/bits.deBruijn64tab", laid_math_bits_deBruijn64tab)], narrowed := true }
def FnExactAreDependentUptoSaid : Prop := fnExactAreDependentUptoRow.holds Tryd.pinned (OpenSpec.upto fnExactAreDependentSpec)

/-- 'laws.FnExactAlphabetOfProcesses', WHERE WHAT IT READS IS OF BULK AT MOST 1048576: true; the input reads as it did. -/
def fnExactAlphabetOfProcessesUptoRow : OpenClaim := { program := "ytbjkpkgnjeaimaadoor", sum := "e530cdc97398cac18fc93487754b8a4910ab5d2e134966eaac06078cf8f50bc8", func := "loop.example/g01094/laws.FnExactAlphabetOfProcesses", spec := "fnExactAlphabetOfProcesses", named := ["math/bits.deBruijn64tab"], apart := false, laid := [("math/bits.deBruijn64tab", laid_math_bits_deBruijn64tab)], narrowed := true }
def FnExactAlphabetOfProcessesUptoSaid : Prop := fnExactAlphabetOfProcessesUptoRow.holds Tryd.pinned (OpenSpec.upto fnExactAlphabetOfProcessesSpec)

/-- 'laws.FnExactDomainsOf', WHERE WHAT IT READS IS OF BULK AT MOST 1048576: true; the input reads as it did. -/
def fnExactDomainsOfUptoRow : OpenClaim := { program := "ytbjkpkgnjeaimaadoor", sum := "e530cdc97398cac18fc93487754b8a4910ab5d2e134966eaac06078cf8f50bc8", func := "loop.example/g01094/laws.FnExactDomainsOf", spec := "fnExactDomainsOf", named := ["math/bits.deBruijn64tab"], apart := false, laid := [("math/bits.deBruijn64tab", laid_math_bits_deBruijn64tab)], narrowed := true }
def FnExactDomainsOfUptoSaid : Prop := fnExactDomainsOfUptoRow.holds Tryd.pinned (OpenSpec.upto fnExactDomainsOfSpec)

/-- 'laws.FnExactStepsOf', WHERE WHAT IT READS IS OF BULK AT MOST 1048576: true; the input reads as it did. -/
def fnExactStepsOfUptoRow : OpenClaim := { program := "ytbjkpkgnjeaimaadoor", sum := "e530cdc97398cac18fc93487754b8a4910ab5d2e134966eaac06078cf8f50bc8", func := "loop.example/g01094/laws.FnExactStepsOf", spec := "fnExactStepsOf", unfollowed := true, recurses := true, named := ["math/bits.deBruijn64tab"], apart := false, laid := [("math/bits.deBruijn64tab", laid_math_bits_deBruijn64tab)], narrowed := true }
def FnExactStepsOfUptoSaid : Prop := fnExactStepsOfUptoRow.holds Tryd.pinned (OpenSpec.upto fnExactStepsOfSpec)

/-- 'laws.FnExactComplementOf', WHERE WHAT IT READS IS OF BULK AT MOST 1048576: true; the input reads as it did. -/
def fnExactComplementOfUptoRow : OpenClaim := { program := "ytbjkpkgnjeaimaadoor", sum := "e530cdc97398cac18fc93487754b8a4910ab5d2e134966eaac06078cf8f50bc8", func := "loop.example/g01094/laws.FnExactComplementOf", spec := "fnExactComplementOf", named := ["math/bits.deBruijn64tab"], apart := false, laid := [("math/bits.deBruijn64tab", laid_math_bits_deBruijn64tab)], narrowed := true }
def FnExactComplementOfUptoSaid : Prop := fnExactComplementOfUptoRow.holds Tryd.pinned (OpenSpec.upto fnExactComplementOfSpec)

/-- 'laws.FnExactPartOfAlphabet', WHERE WHAT IT READS IS OF BULK AT MOST 1048576: true; the input reads as it did. -/
def fnExactPartOfAlphabetUptoRow : OpenClaim := { program := "ytbjkpkgnjeaimaadoor", sum := "e530cdc97398cac18fc93487754b8a4910ab5d2e134966eaac06078cf8f50bc8", func := "loop.example/g01094/laws.FnExactPartOfAlphabet", spec := "fnExactPartOfAlphabet", named := ["math/bits.deBruijn64tab"], apart := false, laid := [("math/bits.deBruijn64tab", laid_math_bits_deBruijn64tab)], narrowed := true }
def FnExactPartOfAlphabetUptoSaid : Prop := fnExactPartOfAlphabetUptoRow.holds Tryd.pinned (OpenSpec.upto fnExactPartOfAlphabetSpec)

/-- 'laws.FnExactDirectProduct', WHERE WHAT IT READS IS OF BULK AT MOST 1048576: true; the input reads as it did. -/
def fnExactDirectProductUptoRow : OpenClaim := { program := "ytbjkpkgnjeaimaadoor", sum := "e530cdc97398cac18fc93487754b8a4910ab5d2e134966eaac06078cf8f50bc8", func := "loop.example/g01094/laws.FnExactDirectProduct", spec := "fnExactDirectProduct", unfollowed := true, recurses := true, named := ["math/bits.deBruijn64tab"], apart := false, laid := [("math/bits.deBruijn64tab", laid_math_bits_deBruijn64tab)], narrowed := true }
def FnExactDirectProductUptoSaid : Prop := fnExactDirectProductUptoRow.holds Tryd.pinned (OpenSpec.upto fnExactDirectProductSpec)

/-- 'laws.FnExactFreeProduct', WHERE WHAT IT READS IS OF BULK AT MOST 1048576: true; the input reads as it did. -/
def fnExactFreeProductUptoRow : OpenClaim := { program := "ytbjkpkgnjeaimaadoor", sum := "e530cdc97398cac18fc93487754b8a4910ab5d2e134966eaac06078cf8f50bc8", func := "loop.example/g01094/laws.FnExactFreeProduct", spec := "fnExactFreeProduct", unfollowed := true, recurses := true, named := ["math/bits.deBruijn64tab"], apart := false, laid := [("math/bits.deBruijn64tab", laid_math_bits_deBruijn64tab)], narrowed := true }
def FnExactFreeProductUptoSaid : Prop := fnExactFreeProductUptoRow.holds Tryd.pinned (OpenSpec.upto fnExactFreeProductSpec)

/-- 'laws.FnExactPartsOfAlphabet', WHERE WHAT IT READS IS OF BULK AT MOST 1048576: true; the input reads as it did. -/
def fnExactPartsOfAlphabetUptoRow : OpenClaim := { program := "ytbjkpkgnjeaimaadoor", sum := "e530cdc97398cac18fc93487754b8a4910ab5d2e134966eaac06078cf8f50bc8", func := "loop.example/g01094/laws.FnExactPartsOfAlphabet", spec := "fnExactPartsOfAlphabet", named := ["math/bits.deBruijn64tab"], apart := false, laid := [("math/bits.deBruijn64tab", laid_math_bits_deBruijn64tab)], narrowed := true }
def FnExactPartsOfAlphabetUptoSaid : Prop := fnExactPartsOfAlphabetUptoRow.holds Tryd.pinned (OpenSpec.upto fnExactPartsOfAlphabetSpec)

/-- 'laws.FnExactHasTransitiveExchange', WHERE WHAT IT READS IS OF BULK AT MOST 1048576: true; the input reads as it did. -/
def fnExactHasTransitiveExchangeUptoRow : OpenClaim := { program := "ytbjkpkgnjeaimaadoor", sum := "e530cdc97398cac18fc93487754b8a4910ab5d2e134966eaac06078cf8f50bc8", func := "loop.example/g01094/laws.FnExactHasTransitiveExchange", spec := "fnExactHasTransitiveExchange", named := ["math/bits.deBruijn64tab"], apart := false, laid := [("math/bits.deBruijn64tab", laid_math_bits_deBruijn64tab)], narrowed := true }
def FnExactHasTransitiveExchangeUptoSaid : Prop := fnExactHasTransitiveExchangeUptoRow.holds Tryd.pinned (OpenSpec.upto fnExactHasTransitiveExchangeSpec)

/-- 'laws.FnExactProcessesOf', WHERE WHAT IT READS IS OF BULK AT MOST 1048576: true; the input reads as it did. -/
def fnExactProcessesOfUptoRow : OpenClaim := { program := "ytbjkpkgnjeaimaadoor", sum := "e530cdc97398cac18fc93487754b8a4910ab5d2e134966eaac06078cf8f50bc8", func := "loop.example/g01094/laws.FnExactProcessesOf", spec := "fnExactProcessesOf", unfollowed := true, recurses := true, named := ["math/bits.deBruijn64tab"], apart := false, laid := [("math/bits.deBruijn64tab", laid_math_bits_deBruijn64tab)], narrowed := true }
def FnExactProcessesOfUptoSaid : Prop := fnExactProcessesOfUptoRow.holds Tryd.pinned (OpenSpec.upto fnExactProcessesOfSpec)

end Rows
end Go.Proofs.YtbjkpkgnjeaimaaDoor

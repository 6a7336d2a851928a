/-
  Heights and steps of a word: the model's side.
-/
import Derived.Test.YtcojodkcpemfdaaDoorFoM
import Derived.Test.YtcojodkcpemfdaaDoorAreDep
import Derived.Deep.RegionHeld3
namespace Go.Proofs.YtcojodkcpemfdaaDoor
open Go.RowKit
set_option linter.unusedVariables false
set_option linter.unusedSimpArgs false
set_option maxRecDepth 100000

theorem wrap_next (X : Nat) (h : X ≤ 1048576) : IntKind.i64.wrap ((X : Int) + 1) = (X : Int) + 1 := by rw [IntKind.wrap_i64]; omega
end Go.Proofs.YtcojodkcpemfdaaDoor

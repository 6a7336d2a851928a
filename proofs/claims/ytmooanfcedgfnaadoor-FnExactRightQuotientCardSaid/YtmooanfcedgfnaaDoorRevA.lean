/-
  ReverseOf: both sides.
-/
import Derived.Test.YtmooanfcedgfnaaDoorBack
import Derived.Deep.RegionWith
namespace Go.Proofs.YtmooanfcedgfnaaDoor
open Go Go.RowKit
set_option linter.unusedVariables false
set_option maxRecDepth 100000

def rvR (rs us : List Nat) : List Nat := nfR rs us.reverse
def rvAns (L : Int) (xs us : List Int) : List Int × Int := wAns rvR L xs us
theorem rvAns_small (L : Int) (xs us : List Int) : (rvAns L xs us).1.length ≤ 24 := wAns_small _ 24 (fun rs us _ h => Nat.le_trans (nfR_len rs us.reverse) (by rw [List.length_reverse]; exact h)) L xs us
end Go.Proofs.YtmooanfcedgfnaaDoor

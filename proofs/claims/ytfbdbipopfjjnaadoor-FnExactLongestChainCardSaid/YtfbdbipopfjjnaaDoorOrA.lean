/-
  OrderOf: both sides.
-/
import Derived.Test.YtfbdbipopfjjnaaDoorPos
import Derived.Test.YtfbdbipopfjjnaaDoorWInt
namespace Go.Proofs.YtfbdbipopfjjnaaDoor
open Go Go.RowKit
set_option linter.unusedVariables false
set_option maxRecDepth 100000

def ordR (rs us : List Nat) : List Nat := ordM (RDep rs) (nfR rs us) us.length
def ordAns (L : Int) (xs us : List Int) : List Int × Int := wAns ordR L xs us
theorem ordAns_small (L : Int) (xs us : List Int) : (ordAns L xs us).1.length ≤ 24 := wAns_small _ 24 (fun rs us _ h => by unfold ordR; rw [ordM_len]; exact h) L xs us
theorem wAns_code (f : List Nat → List Nat → List Nat) (L : Int) (xs us : List Int) (h : ¬ wCode L xs us = 0) : wAns f L xs us = ([], wCode L xs us) := by unfold wAns; rw [if_neg h]
theorem wInt_code (f : List Nat → List Nat → Int) (L : Int) (xs us : List Int) (h : ¬ wCode L xs us = 0) : wInt f L xs us = (0, wCode L xs us) := by unfold wInt; rw [if_neg h]
end Go.Proofs.YtfbdbipopfjjnaaDoor

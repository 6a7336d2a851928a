/-
  NormalForm: both sides.
-/
import Derived.Test.YtkifadmoedackaaDoorTrIn
import Derived.Test.YtkifadmoedackaaDoorNfS
namespace Go.Proofs.YtkifadmoedackaaDoor
open Go Go.RowKit
set_option linter.unusedVariables false
set_option maxRecDepth 100000

def nfAns (L : Int) (xs us : List Int) : List Int × Int := wAns nfR L xs us
theorem nfAns_small (L : Int) (xs us : List Int) : (nfAns L xs us).1.length ≤ 24 := wAns_small _ 24 (fun rs us _ h => Nat.le_trans (nfR_len rs us) h) L xs us
theorem in_getD {n : Nat} {vs : List Nat} (h : ∀ u, u ∈ vs → u < n) : ∀ p, p < vs.length → vs.getD p 0 < n := fun p hp => h _ (by rw [List.getD_eq_getElem?_getD, List.getElem?_eq_getElem hp]; exact List.getElem_mem _)
end Go.Proofs.YtkifadmoedackaaDoor

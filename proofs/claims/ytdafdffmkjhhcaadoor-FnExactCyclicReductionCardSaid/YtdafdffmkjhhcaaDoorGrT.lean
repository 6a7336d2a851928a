/-
  The double alphabet, inverse words and the reduction of the model.
-/
import Derived.Test.YtdafdffmkjhhcaaDoorGrS
import Derived.BigQuiet
namespace Go.Proofs.YtdafdffmkjhhcaaDoor
open Go Go.RowKit
set_option linter.unusedVariables false
set_option linter.unusedSimpArgs false
set_option maxRecDepth 100000

theorem rev_at (vs : List Nat) (q : Nat) (h : q < vs.length) : vs.reverse.take (vs.length - q) = vs.reverse.take (vs.length - (q + 1)) ++ [vs.getD q 0] := by
  have e1 : vs.length - q = (vs.length - (q + 1)) + 1 := by omega
  rw [e1, List.take_add_one, List.getElem?_reverse (by omega), show vs.length - 1 - (vs.length - (q + 1)) = q by omega, List.getElem?_eq_getElem h, List.getD_eq_getElem?_getD, List.getElem?_eq_getElem h]; rfl
theorem inv_at (vs : List Nat) (q : Nat) (h : q < vs.length) : (ints (invW vs)).take (vs.length - q) = (ints (invW vs)).take (vs.length - (q + 1)) ++ [((opp (vs.getD q 0) : Nat) : Int)] := by
  unfold ints invW
  rw [← List.map_take, ← List.map_take, ← List.map_take, ← List.map_take, rev_at vs q h, List.map_append, List.map_append]; rfl
end Go.Proofs.YtdafdffmkjhhcaaDoor

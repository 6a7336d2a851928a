/-
  The walk of FnExactIsPrimitive.
-/
import Derived.Test.YtdafdffmkjhhcaaDoorLawIsPrimitive
namespace Go.Proofs.YtdafdffmkjhhcaaDoor
open Go.RowKit
set_option linter.unusedVariables false
set_option maxHeartbeats 4000000 in
theorem walkIsPrimitive (L0 : Int) (A0 : Option Addr) (n0 c0 : Nat) (xs0 : List Int) (A1 : Option Addr) (n1 c1 : Nat) (xs1 : List Int) (w : World) (hL01 : -9223372036854775808 ≤ L0) (hL02 : L0 ≤ 9223372036854775807) (h0 : Rd w A0 n0 xs0) (hwf0 : Wf xs0) (hl0 : n0 ≤ maxLen) (h1 : Rd w A1 n1 xs1) (hwf1 : Wf xs1) (hl1 : n1 ≤ maxLen) (hT : Tab w) :
    Calls Tryd.prog 11 #[.agg #[.int .i64 L0, .slice A0 n0 c0], .slice A1 n1 c1] w fun e w' => e = .returned (.bool true) ∧ Below w.heap.size w w' :=
  have hn0 : n0 ≤ 9223372036854775807 := by unfold maxLen at hl0; omega
  have hn1 : n1 ≤ 9223372036854775807 := by unfold maxLen at hl1; omega
  lawIsPrimitive L0 A0 n0 c0 xs0 A1 n1 c1 xs1 w hL01 hL02 h0 hwf0 hl0 h1 hwf1 hl1 hT (wBA ipR L0 xs0 xs1).1 (wBA ipR L0 xs0 xs1).2  (fun B0 d0 B1 d1 w' hs0 hr0 hs1 hr1 => specIsPrimitive L0 B0 n0 d0 xs0 B1 n1 d1 xs1 w' hr0 hwf0 hL01 hL02 (by omega) hr1 hwf1 (by omega)) (fun B0 d0 B1 d1 w' hs0 hr0 hs1 hr1 hT' => implIsPrimitive L0 B0 n0 d0 xs0 B1 n1 d1 xs1 w' hr0 hwf0 hL01 hL02 (by omega) hr1 hwf1 (by omega)  hT')
end Go.Proofs.YtdafdffmkjhhcaaDoor

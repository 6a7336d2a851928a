/-
  The walk of FnExactAlphabetOfProcesses.
-/
import Derived.Test.YtbjkpkgnjeaimaaDoorLawAlphabetOfProcesses
namespace Go.Proofs.YtbjkpkgnjeaimaaDoor
open Go.RowKit
set_option linter.unusedVariables false
theorem walkAlphabetOfProcesses (a0 : Int) (A1 : Option Addr) (n1 c1 : Nat) (xs1 : List Int) (w : World) (ha01 : -9223372036854775808 ≤ a0) (ha02 : a0 ≤ 9223372036854775807) (h1 : Rd w A1 n1 xs1) (hwf1 : Wf xs1) (hl1 : n1 ≤ maxLen) (hT : Tab w) :
    Calls Tryd.prog 5 #[.int .i64 a0, .slice A1 n1 c1] w fun e w' => e = .returned (.bool true) ∧ Below w.heap.size w w' :=
  have hn1 : n1 ≤ 9223372036854775807 := by unfold maxLen at hl1; omega
  lawAlphabetOfProcesses a0 A1 n1 c1 xs1 w ha01 ha02 h1 hwf1 hl1 hT (alpAns a0 xs1).1 (alpAns a0 xs1).2.1.length (alpAns a0 xs1).2.1 (alpAns a0 xs1).2.2 (Nat.le_trans (alpAns_small a0 xs1) (by omega)) (fun B1 d1 w' hs1 hr1 => specAlphabetOfProcesses a0 B1 n1 d1 xs1 w' ha01 ha02 hr1 hwf1 (by omega)) (fun B1 d1 w' hs1 hr1 hT' => implAlphabetOfProcesses a0 B1 n1 d1 xs1 w' ha01 ha02 hr1 hwf1 (by omega) hT')
end Go.Proofs.YtbjkpkgnjeaimaaDoor

/-
  The walk of FnExactSymmetriesOf.
-/
import Derived.Test.YtcojodkcpemfdaaDoorLawSymmetriesOf
namespace Go.Proofs.YtcojodkcpemfdaaDoor
open Go.RowKit
set_option linter.unusedVariables false
theorem walkSymmetriesOf (L0 : Int) (A0 : Option Addr) (n0 c0 : Nat) (xs0 : List Int) (w : World) (hL01 : -9223372036854775808 ≤ L0) (hL02 : L0 ≤ 9223372036854775807) (h0 : Rd w A0 n0 xs0) (hwf0 : Wf xs0) (hl0 : n0 ≤ maxLen) (hT : Tab w) :
    Calls Tryd.prog 8 #[.agg #[.int .i64 L0, .slice A0 n0 c0]] w fun e w' => e = .returned (.bool true) ∧ Below w.heap.size w w' :=
  have hn0 : n0 ≤ 9223372036854775807 := by unfold maxLen at hl0; omega
  lawSymmetriesOf L0 A0 n0 c0 xs0 w hL01 hL02 h0 hwf0 hl0 hT (saAns L0 xs0).1.length (saAns L0 xs0).1 (saAns L0 xs0).2 (sumL (saAns L0 xs0).1) (Nat.le_trans (saAns_small L0 xs0).1 (by decide)) rfl (Nat.le_trans (saAns_small L0 xs0).2 (by decide)) (fun B0 d0 w' hs0 hr0 => specSymmetriesOf L0 B0 n0 d0 xs0 w' hr0 hwf0 hL01 hL02 (by omega)) (fun B0 d0 w' hs0 hr0 hT' => implSymmetriesOf L0 B0 n0 d0 xs0 w' hr0 hwf0 hL01 hL02 (by omega)  hT')
end Go.Proofs.YtcojodkcpemfdaaDoor

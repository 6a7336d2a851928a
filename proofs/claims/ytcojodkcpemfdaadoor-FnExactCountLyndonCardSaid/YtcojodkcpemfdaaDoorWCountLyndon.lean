/-
  The walk of FnExactCountLyndon.
-/
import Derived.Test.YtcojodkcpemfdaaDoorLawCountLyndon
namespace Go.Proofs.YtcojodkcpemfdaaDoor
open Go.RowKit
set_option linter.unusedVariables false
theorem walkCountLyndon (L0 : Int) (A0 : Option Addr) (n0 c0 : Nat) (xs0 : List Int) (a1 : Int) (w : World) (hL01 : -9223372036854775808 ≤ L0) (hL02 : L0 ≤ 9223372036854775807) (h0 : Rd w A0 n0 xs0) (hwf0 : Wf xs0) (hl0 : n0 ≤ maxLen) (ha11 : -9223372036854775808 ≤ a1) (ha12 : a1 ≤ 9223372036854775807) (hT : Tab w) :
    Calls Tryd.prog 9 #[.agg #[.int .i64 L0, .slice A0 n0 c0], .int .i64 a1] w fun e w' => e = .returned (.bool true) ∧ Below w.heap.size w w' :=
  have hn0 : n0 ≤ 9223372036854775807 := by unfold maxLen at hl0; omega
  lawCountLyndon L0 A0 n0 c0 xs0 a1 w hL01 hL02 h0 hwf0 hl0 ha11 ha12 hT (lyAns L0 xs0 a1).1 (lyAns L0 xs0 a1).2  (fun B0 d0 w' hs0 hr0 => specCountLyndon L0 B0 n0 d0 xs0 a1 w' hr0 hwf0 hL01 hL02 (by omega) ha11 ha12) (fun B0 d0 w' hs0 hr0 hT' => implCountLyndon L0 B0 n0 d0 xs0 a1 w' hr0 hwf0 hL01 hL02 (by omega) ha11 ha12  hT')
end Go.Proofs.YtcojodkcpemfdaaDoor

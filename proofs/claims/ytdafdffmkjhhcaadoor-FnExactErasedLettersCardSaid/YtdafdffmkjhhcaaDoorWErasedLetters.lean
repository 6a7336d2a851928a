/-
  The walk of FnExactErasedLetters.
-/
import Derived.Test.YtdafdffmkjhhcaaDoorLawErasedLetters
namespace Go.Proofs.YtdafdffmkjhhcaaDoor
open Go.RowKit
set_option linter.unusedVariables false
theorem walkErasedLetters (L0 : Int) (A0 : Option Addr) (n0 c0 : Nat) (xs0 : List Int) (L1 : Int) (A1 : Option Addr) (n1 c1 : Nat) (xs1 : List Int) (A2 : Option Addr) (n2 c2 : Nat) (ts2 : List (Option Addr × Nat × Nat × List Int)) (w : World) (hL01 : -9223372036854775808 ≤ L0) (hL02 : L0 ≤ 9223372036854775807) (h0 : Rd w A0 n0 xs0) (hwf0 : Wf xs0) (hl0 : n0 ≤ maxLen) (hL11 : -9223372036854775808 ≤ L1) (hL12 : L1 ≤ 9223372036854775807) (h1 : Rd w A1 n1 xs1) (hwf1 : Wf xs1) (hl1 : n1 ≤ maxLen) (h2 : RdT w A2 n2 ts2) (hwf2 : ∀ t, t ∈ ts2 → Wf t.2.2.2) (hl2 : n2 ≤ maxLen) (hT : Tab w) :
    Calls Tryd.prog 5 #[.agg #[.int .i64 L0, .slice A0 n0 c0], .agg #[.int .i64 L1, .slice A1 n1 c1], .slice A2 n2 c2] w fun e w' => e = .returned (.bool true) ∧ Below w.heap.size w w' :=
  have hn0 : n0 ≤ 9223372036854775807 := by unfold maxLen at hl0; omega
  have hn1 : n1 ≤ 9223372036854775807 := by unfold maxLen at hl1; omega
  have hn2 : n2 ≤ 9223372036854775807 := by unfold maxLen at hl2; omega
  lawErasedLetters L0 A0 n0 c0 xs0 L1 A1 n1 c1 xs1 A2 n2 c2 ts2 _ rfl w hL01 hL02 h0 hwf0 hl0 hL11 hL12 h1 hwf1 hl1 h2 hwf2 hl2 hT (elAns L0 xs0 L1 xs1 (ts2.map fun t => t.2.2.2)).1 (elAns L0 xs0 L1 xs1 (ts2.map fun t => t.2.2.2)).2  (fun B0 d0 B1 d1 B2 d2 w' hs0 hr0 hs1 hr1 hs2 hr2 => specErasedLetters L0 B0 n0 d0 xs0 L1 B1 n1 d1 xs1 B2 n2 d2 (ts2.map fun t => t.2.2.2) w' hr0 hwf0 hL01 hL02 (by omega) hr1 hwf1 hL11 hL12 (by omega) hr2 hs2) (fun B0 d0 B1 d1 B2 d2 w' hs0 hr0 hs1 hr1 hs2 hr2 hT' => implErasedLetters L0 B0 n0 d0 xs0 L1 B1 n1 d1 xs1 B2 n2 d2 (ts2.map fun t => t.2.2.2) w' hr0 hwf0 hL01 hL02 (by omega) hr1 hwf1 hL11 hL12 (by omega) hr2 hs2  hT')
end Go.Proofs.YtdafdffmkjhhcaaDoor

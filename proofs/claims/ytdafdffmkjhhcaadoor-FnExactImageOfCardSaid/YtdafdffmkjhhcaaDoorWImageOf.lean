/-
  The walk of FnExactImageOf.
-/
import Derived.Test.YtdafdffmkjhhcaaDoorLawImageOf
namespace Go.Proofs.YtdafdffmkjhhcaaDoor
open Go.RowKit
set_option linter.unusedVariables false
set_option maxHeartbeats 4000000 in
theorem walkImageOf (L0 : Int) (A0 : Option Addr) (n0 c0 : Nat) (xs0 : List Int) (L1 : Int) (A1 : Option Addr) (n1 c1 : Nat) (xs1 : List Int) (A2 : Option Addr) (n2 c2 : Nat) (ts2 : List (Option Addr × Nat × Nat × List Int)) (A3 : Option Addr) (n3 c3 : Nat) (xs3 : List Int) (w : World) (hL01 : -9223372036854775808 ≤ L0) (hL02 : L0 ≤ 9223372036854775807) (h0 : Rd w A0 n0 xs0) (hwf0 : Wf xs0) (hl0 : n0 ≤ maxLen) (hL11 : -9223372036854775808 ≤ L1) (hL12 : L1 ≤ 9223372036854775807) (h1 : Rd w A1 n1 xs1) (hwf1 : Wf xs1) (hl1 : n1 ≤ maxLen) (h2 : RdT w A2 n2 ts2) (hwf2 : ∀ t, t ∈ ts2 → Wf t.2.2.2) (hl2 : n2 ≤ maxLen) (h3 : Rd w A3 n3 xs3) (hwf3 : Wf xs3) (hl3 : n3 ≤ maxLen) (hT : Tab w) :
    Calls Tryd.prog 4 #[.agg #[.int .i64 L0, .slice A0 n0 c0], .agg #[.int .i64 L1, .slice A1 n1 c1], .slice A2 n2 c2, .slice A3 n3 c3] w fun e w' => e = .returned (.bool true) ∧ Below w.heap.size w w' :=
  have hn0 : n0 ≤ 9223372036854775807 := by unfold maxLen at hl0; omega
  have hn1 : n1 ≤ 9223372036854775807 := by unfold maxLen at hl1; omega
  have hn2 : n2 ≤ 9223372036854775807 := by unfold maxLen at hl2; omega
  have hn3 : n3 ≤ 9223372036854775807 := by unfold maxLen at hl3; omega
  lawImageOf L0 A0 n0 c0 xs0 L1 A1 n1 c1 xs1 A2 n2 c2 ts2 _ rfl A3 n3 c3 xs3 w hL01 hL02 h0 hwf0 hl0 hL11 hL12 h1 hwf1 hl1 h2 hwf2 hl2 h3 hwf3 hl3 hT (ioAns L0 xs0 L1 xs1 (ts2.map fun t => t.2.2.2) xs3).1.length (ioAns L0 xs0 L1 xs1 (ts2.map fun t => t.2.2.2) xs3).1 (ioAns L0 xs0 L1 xs1 (ts2.map fun t => t.2.2.2) xs3).2 (Nat.le_trans (ioAns_small L0 xs0 L1 xs1 (ts2.map fun t => t.2.2.2) xs3) (by decide)) (fun B0 d0 B1 d1 B2 d2 B3 d3 w' hs0 hr0 hs1 hr1 hs2 hr2 hs3 hr3 => specImageOf L0 B0 n0 d0 xs0 L1 B1 n1 d1 xs1 B2 n2 d2 (ts2.map fun t => t.2.2.2) B3 n3 d3 xs3 w' hr0 hwf0 hL01 hL02 (by omega) hr1 hwf1 hL11 hL12 (by omega) hr2 hs2 hr3 hwf3 (by omega)) (fun B0 d0 B1 d1 B2 d2 B3 d3 w' hs0 hr0 hs1 hr1 hs2 hr2 hs3 hr3 hT' => implImageOf L0 B0 n0 d0 xs0 L1 B1 n1 d1 xs1 B2 n2 d2 (ts2.map fun t => t.2.2.2) B3 n3 d3 xs3 w' hr0 hwf0 hL01 hL02 (by omega) hr1 hwf1 hL11 hL12 (by omega) hr2 hs2 hr3 hwf3 (by omega)  hT')
end Go.Proofs.YtdafdffmkjhhcaaDoor

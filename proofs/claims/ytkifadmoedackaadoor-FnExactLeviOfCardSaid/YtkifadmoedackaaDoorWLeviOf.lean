/-
  The walk of FnExactLeviOf.
-/
import Derived.Test.YtkifadmoedackaaDoorLawLeviOf
namespace Go.Proofs.YtkifadmoedackaaDoor
open Go.RowKit
set_option linter.unusedVariables false
theorem walkLeviOf (L0 : Int) (A0 : Option Addr) (n0 c0 : Nat) (xs0 : List Int) (A1 : Option Addr) (n1 c1 : Nat) (xs1 : List Int) (A2 : Option Addr) (n2 c2 : Nat) (xs2 : List Int) (A3 : Option Addr) (n3 c3 : Nat) (xs3 : List Int) (A4 : Option Addr) (n4 c4 : Nat) (xs4 : List Int) (w : World) (hL01 : -9223372036854775808 ≤ L0) (hL02 : L0 ≤ 9223372036854775807) (h0 : Rd w A0 n0 xs0) (hwf0 : Wf xs0) (hl0 : n0 ≤ maxLen) (h1 : Rd w A1 n1 xs1) (hwf1 : Wf xs1) (hl1 : n1 ≤ maxLen) (h2 : Rd w A2 n2 xs2) (hwf2 : Wf xs2) (hl2 : n2 ≤ maxLen) (h3 : Rd w A3 n3 xs3) (hwf3 : Wf xs3) (hl3 : n3 ≤ maxLen) (h4 : Rd w A4 n4 xs4) (hwf4 : Wf xs4) (hl4 : n4 ≤ maxLen) (hT : Tab w) :
    Calls Tryd.prog 7 #[.agg #[.int .i64 L0, .slice A0 n0 c0], .slice A1 n1 c1, .slice A2 n2 c2, .slice A3 n3 c3, .slice A4 n4 c4] w fun e w' => e = .returned (.bool true) ∧ Below w.heap.size w w' :=
  have hn0 : n0 ≤ 9223372036854775807 := by unfold maxLen at hl0; omega
  have hn1 : n1 ≤ 9223372036854775807 := by unfold maxLen at hl1; omega
  have hn2 : n2 ≤ 9223372036854775807 := by unfold maxLen at hl2; omega
  have hn3 : n3 ≤ 9223372036854775807 := by unfold maxLen at hl3; omega
  have hn4 : n4 ≤ 9223372036854775807 := by unfold maxLen at hl4; omega
  lawLeviOf L0 A0 n0 c0 xs0 A1 n1 c1 xs1 A2 n2 c2 xs2 A3 n3 c3 xs3 A4 n4 c4 xs4 w hL01 hL02 h0 hwf0 hl0 h1 hwf1 hl1 h2 hwf2 hl2 h3 hwf3 hl3 h4 hwf4 hl4 hT (leAns L0 xs0 xs1 xs2 xs3 xs4).1.length (leAns L0 xs0 xs1 xs2 xs3 xs4).1 (leAns L0 xs0 xs1 xs2 xs3 xs4).2 (sumL (leAns L0 xs0 xs1 xs2 xs3 xs4).1) (Nat.le_trans (leAns_small L0 xs0 xs1 xs2 xs3 xs4).1 (by decide)) rfl (Nat.le_trans (leAns_small L0 xs0 xs1 xs2 xs3 xs4).2 (by decide)) (fun B0 d0 B1 d1 B2 d2 B3 d3 B4 d4 w' hs0 hr0 hs1 hr1 hs2 hr2 hs3 hr3 hs4 hr4 => specLeviOf L0 B0 n0 d0 xs0 B1 n1 d1 xs1 B2 n2 d2 xs2 B3 n3 d3 xs3 B4 n4 d4 xs4 w' hr0 hwf0 hL01 hL02 (by omega) hr1 hwf1 (by omega) hr2 hwf2 (by omega) hr3 hwf3 (by omega) hr4 hwf4 (by omega)) (fun B0 d0 B1 d1 B2 d2 B3 d3 B4 d4 w' hs0 hr0 hs1 hr1 hc1 hs2 hr2 hc2 hs3 hr3 hc3 hs4 hr4 hc4 hT' => implLeviOf L0 B0 n0 d0 xs0 B1 n1 d1 xs1 B2 n2 d2 xs2 B3 n3 d3 xs3 B4 n4 d4 xs4 w' hr0 hwf0 hL01 hL02 (by omega) hr1 hwf1 (by omega) hr2 hwf2 (by omega) hr3 hwf3 (by omega) hr4 hwf4 (by omega) hc1 hc2 hc3 hc4 hT')
end Go.Proofs.YtkifadmoedackaaDoor

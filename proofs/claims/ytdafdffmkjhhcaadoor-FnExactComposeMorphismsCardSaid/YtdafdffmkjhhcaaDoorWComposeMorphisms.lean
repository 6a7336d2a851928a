/-
  The walk of FnExactComposeMorphisms.
-/
import Derived.Test.YtdafdffmkjhhcaaDoorLawComposeMorphisms
namespace Go.Proofs.YtdafdffmkjhhcaaDoor
open Go.RowKit
set_option linter.unusedVariables false
set_option maxHeartbeats 4000000 in
theorem walkComposeMorphisms (L0 : Int) (A0 : Option Addr) (n0 c0 : Nat) (xs0 : List Int) (L1 : Int) (A1 : Option Addr) (n1 c1 : Nat) (xs1 : List Int) (L2 : Int) (A2 : Option Addr) (n2 c2 : Nat) (xs2 : List Int) (A3 : Option Addr) (n3 c3 : Nat) (ts3 : List (Option Addr × Nat × Nat × List Int)) (A4 : Option Addr) (n4 c4 : Nat) (ts4 : List (Option Addr × Nat × Nat × List Int)) (w : World) (hL01 : -9223372036854775808 ≤ L0) (hL02 : L0 ≤ 9223372036854775807) (h0 : Rd w A0 n0 xs0) (hwf0 : Wf xs0) (hl0 : n0 ≤ maxLen) (hL11 : -9223372036854775808 ≤ L1) (hL12 : L1 ≤ 9223372036854775807) (h1 : Rd w A1 n1 xs1) (hwf1 : Wf xs1) (hl1 : n1 ≤ maxLen) (hL21 : -9223372036854775808 ≤ L2) (hL22 : L2 ≤ 9223372036854775807) (h2 : Rd w A2 n2 xs2) (hwf2 : Wf xs2) (hl2 : n2 ≤ maxLen) (h3 : RdT w A3 n3 ts3) (hwf3 : ∀ t, t ∈ ts3 → Wf t.2.2.2) (hl3 : n3 ≤ maxLen) (h4 : RdT w A4 n4 ts4) (hwf4 : ∀ t, t ∈ ts4 → Wf t.2.2.2) (hl4 : n4 ≤ maxLen) (hT : Tab w) :
    Calls Tryd.prog 6 #[.agg #[.int .i64 L0, .slice A0 n0 c0], .agg #[.int .i64 L1, .slice A1 n1 c1], .agg #[.int .i64 L2, .slice A2 n2 c2], .slice A3 n3 c3, .slice A4 n4 c4] w fun e w' => e = .returned (.bool true) ∧ Below w.heap.size w w' := by
  have hn0 : n0 ≤ 9223372036854775807 := by unfold maxLen at hl0; omega
  have hn1 : n1 ≤ 9223372036854775807 := by unfold maxLen at hl1; omega
  have hn2 : n2 ≤ 9223372036854775807 := by unfold maxLen at hl2; omega
  have hn3 : n3 ≤ 9223372036854775807 := by unfold maxLen at hl3; omega
  have hn4 : n4 ≤ 9223372036854775807 := by unfold maxLen at hl4; omega
  obtain ⟨X3, hX3⟩ : ∃ X, ts3.map (fun t => t.2.2.2) = X := ⟨_, rfl⟩
  obtain ⟨X4, hX4⟩ : ∃ X, ts4.map (fun t => t.2.2.2) = X := ⟨_, rfl⟩
  have hsm := cmAns_small L0 xs0 L1 xs1 L2 xs2 X3 X4
  have hS := fun B0 d0 B1 d1 B2 d2 B3 d3 B4 d4 w' => specComposeMorphisms L0 B0 n0 d0 xs0 L1 B1 n1 d1 xs1 L2 B2 n2 d2 xs2 B3 n3 d3 X3 B4 n4 d4 X4 w'
  have hI := fun B0 d0 B1 d1 B2 d2 B3 d3 B4 d4 w' => implComposeMorphisms L0 B0 n0 d0 xs0 L1 B1 n1 d1 xs1 L2 B2 n2 d2 xs2 B3 n3 d3 X3 B4 n4 d4 X4 w'
  obtain ⟨R, hR⟩ : ∃ R, R = (cmAns L0 xs0 L1 xs1 L2 xs2 X3 X4) := ⟨_, rfl⟩
  rw [← hR] at hsm
  simp only [← hR] at hS hI
  clear hR
  obtain ⟨RX, RC⟩ := R
  obtain ⟨VN, hVN⟩ : ∃ V, V = RX.length := ⟨_, rfl⟩
  simp only [← hVN] at hS hI hsm
  refine lawComposeMorphisms L0 A0 n0 c0 xs0 L1 A1 n1 c1 xs1 L2 A2 n2 c2 xs2 A3 n3 c3 ts3 X3 hX3 A4 n4 c4 ts4 X4 hX4 w hL01 hL02 h0 hwf0 hl0 hL11 hL12 h1 hwf1 hl1 hL21 hL22 h2 hwf2 hl2 h3 hwf3 hl3 h4 hwf4 hl4 hT VN RX RC (sumL RX) (Nat.le_trans hsm.1 (by decide)) rfl (Nat.le_trans hsm.2 (by decide)) ?_ ?_
  · intro B0 d0 B1 d1 B2 d2 B3 d3 B4 d4 w' hs0 hr0 hs1 hr1 hs2 hr2 hs3 hr3 hs4 hr4
    with_reducible exact hS B0 d0 B1 d1 B2 d2 B3 d3 B4 d4 w' hr0 hwf0 hL01 hL02 hl0 hr1 hwf1 hL11 hL12 hl1 hr2 hwf2 hL21 hL22 hl2 hr3 hs3 hr4 hs4
  · intro B0 d0 B1 d1 B2 d2 B3 d3 B4 d4 w' hs0 hr0 hs1 hr1 hs2 hr2 hs3 hr3 hs4 hr4 hT'
    with_reducible exact hI B0 d0 B1 d1 B2 d2 B3 d3 B4 d4 w' hr0 hwf0 hL01 hL02 hl0 hr1 hwf1 hL11 hL12 hl1 hr2 hwf2 hL21 hL22 hl2 hr3 hs3 hr4 hs4 hT'
end Go.Proofs.YtdafdffmkjhhcaaDoor

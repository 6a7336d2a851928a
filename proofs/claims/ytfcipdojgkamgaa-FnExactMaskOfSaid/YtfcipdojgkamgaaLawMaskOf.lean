/-
  The walk of FnExactMaskOf.
-/
import Derived.Test.YtfcipdojgkamgaaMaskOf
namespace Go.Proofs.Ytfcipdojgkamgaa
open Go.RowKit
set_option linter.unusedVariables false

set_option maxHeartbeats 400000 in
theorem walkMaskOf (A : Option Addr) (n c : Nat) (xs : List Int) (w : World) (h : Rd w A n xs) (hw : Wf xs) (hl : n ≤ maxLen) :
    Calls Try.prog 4 #[.slice A n c] w fun e w' => e = .returned (.bool true) ∧ Below w.heap.size w w' := by
  unfold maxLen at hl
  by_cases hn : n ≤ 1048576
  · have hn2 : n ≤ 9223372036854775807 := by omega
    go_enter Try.func4, Try.ntmps4
    go_wp2_with fail
    refine (toInt_any _ _ _ xs _ h hn).mono ?_
    rintro e w1 ⟨c1, rfl, ho1, hb1⟩
    go_wp2_with fail
    refine (specMaskOf_any _ _ _ xs _ ho1.rd hn2).mono ?_
    rintro e w' ⟨rfl, rfl⟩
    have h1 := h.below hb1
    go_wp2_with fail
    refine (toInt_any _ _ _ xs _ h1 hn).mono ?_
    rintro e w2 ⟨c2, rfl, ho2, hb2⟩
    have hb12 := hb1.trans (hb2.mono hb1.size)
    go_wp2_with fail
    refine (maskOf_any _ _ _ xs _ ho2.rd hn2).mono ?_
    rintro e w' ⟨rfl, rfl⟩
    have h2 := h.below hb12
    go_wp2_with fail
    refine (toInt_any _ _ _ xs _ h2 hn).mono ?_
    rintro e w3 ⟨c3, rfl, ho3, hb3⟩
    have hb13 := hb12.trans (hb3.mono hb12.size)
    have ho23 := ho2.below hb3
    go_wp2_with fail
    refine (eq_true _ _ _ _ _ xs _ ho23.rd ho3.rd hn2).mono ?_
    rintro e w4 ⟨rfl, hb4⟩
    have hb14 := hb13.trans (hb4.mono hb13.size)
    go_wp2_with fail
    go_ret
    exact ⟨rfl, hb14⟩
  · go_enter Try.func4, Try.ntmps4
    go_wp2
    go_ret
    exact ⟨rfl, Below.refl _ _⟩
end Go.Proofs.Ytfcipdojgkamgaa

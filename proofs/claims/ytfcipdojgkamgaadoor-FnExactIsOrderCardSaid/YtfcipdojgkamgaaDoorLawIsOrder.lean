/-
  The walk of FnExactIsOrder.
-/
import Derived.Test.YtfcipdojgkamgaaDoorOrd2
namespace Go.Proofs.YtfcipdojgkamgaaDoor
open Go.RowKit
set_option linter.unusedVariables false
set_option maxRecDepth 100000

set_option maxHeartbeats 400000 in
theorem walkIsOrder (A : Option Addr) (n c : Nat) (xs : List Int) (w : World) (h : Rd w A n xs) (hw : Wf xs) (hl : n ≤ maxLen) (hT : Tab w) :
    Calls Tryd.prog 5 #[.slice A n c] w fun e w' => e = .returned (.bool true) ∧ Below w.heap.size w w' := by
  unfold maxLen at hl
  by_cases hn : n ≤ 1048576
  · have hn2 : n ≤ 9223372036854775807 := by omega
    go_enter Tryd.func5, Tryd.ntmps5
    go_wp2_with fail
    refine (toInt_any _ _ _ xs _ h hn).mono ?_
    rintro e w1 ⟨c1, rfl, ho1, hb1⟩
    go_wp2_with fail
    refine (specIsOrder _ _ _ xs _ ho1.rd hn2).mono ?_
    rintro e w2 ⟨rfl, hb2⟩
    have hb12 := hb1.trans (hb2.mono hb1.size)
    have h2 := h.below hb12
    go_wp2_with fail
    refine (toInt_any _ _ _ xs _ h2 hn).mono ?_
    rintro e w3 ⟨c3, rfl, ho3, hb3⟩
    have hb13 := hb12.trans (hb3.mono hb12.size)
    go_wp2_with fail
    refine (implIsOrder _ _ _ xs _ ho3.rd hw hn2 (hT.below hb13)).mono ?_
    rintro e w4 ⟨rfl, hb4⟩
    have hb14 := hb13.trans (hb4.mono hb13.size)
    have h4 := h.below hb14
    have ho34 := ho3.below hb4
    go_wp2_with fail
    refine (toInt_any _ _ _ xs _ h4 hn).mono ?_
    rintro e w5 ⟨c5, rfl, ho5, hb5⟩
    have hb15 := hb14.trans (hb5.mono hb14.size)
    have ho35 := ho34.below hb5
    go_wp2_with fail
    refine (eq_true _ _ _ _ _ xs _ ho35.rd ho5.rd hn2).mono ?_
    rintro e w6 ⟨rfl, hb6⟩
    have hb16 := hb15.trans (hb6.mono hb15.size)
    go_wp2_with fail
    go_ret
    exact ⟨rfl, hb16⟩
  · go_enter Tryd.func5, Tryd.ntmps5
    go_wp2
    go_ret
    exact ⟨rfl, Below.refl _ _⟩
end Go.Proofs.YtfcipdojgkamgaaDoor

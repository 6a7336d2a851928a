/-
  Answers of an alphabet and a word: a number and a code.
-/
import Derived.Test.YtfbdbipopfjjnaaDoorWord3
namespace Go.Proofs.YtfbdbipopfjjnaaDoor
open Go.RowKit
set_option linter.unusedVariables false
set_option maxRecDepth 100000

def wInt (f : List Nat → List Nat → Int) (L : Int) (xs us : List Int) : Int × Int := if wCode L xs us = 0 then (f (xs.map Int.toNat) (us.map Int.toNat), 0) else (0, wCode L xs us)
theorem wInt_no (f : List Nat → List Nat → Int) (L : Int) (xs us : List Int) (h : alphB L xs = false) : wInt f L xs us = (0, 1) := by
  have e : wCode L xs us = 1 := by unfold wCode; rw [if_neg (by rw [h]; decide)]
  unfold wInt; rw [e]; rfl
theorem wInt_bad (f : List Nat → List Nat → Int) (L : Int) (xs us : List Int) (h : alphB L xs = true) (h2 : wordB L us = false) : wInt f L xs us = (0, 2) := by
  have e : wCode L xs us = 2 := by unfold wCode; rw [if_pos h, if_neg (by rw [h2]; decide)]
  unfold wInt; rw [e]; rfl
theorem wInt_yes (f : List Nat → List Nat → Int) (L : Int) (rs us : List Nat) (h : alphB L (ints rs) = true) (h2 : wordB L (ints us) = true) : wInt f L (ints rs) (ints us) = (f rs us, 0) := by
  have e : wCode L (ints rs) (ints us) = 0 := by unfold wCode; rw [if_pos h, if_pos h2]
  unfold wInt; rw [if_pos e, ints_toNat, ints_toNat]
end Go.Proofs.YtfbdbipopfjjnaaDoor

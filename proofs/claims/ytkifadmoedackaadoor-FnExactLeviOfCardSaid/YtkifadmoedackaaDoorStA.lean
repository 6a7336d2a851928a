/-
  AreSameTrace: both sides.
-/
import Derived.Test.YtkifadmoedackaaDoorSame
import Derived.Test.YtkifadmoedackaaDoorEq64
import Derived.Test.YtkifadmoedackaaDoorNfA
namespace Go.Proofs.YtkifadmoedackaaDoor
open Go Go.RowKit
set_option linter.unusedVariables false
set_option maxRecDepth 100000

def stAns (L : Int) (xs us ts : List Int) : Bool × Int := if wCode2 L xs us ts = 0 then (decide (nfR (xs.map Int.toNat) (us.map Int.toNat) = nfR (xs.map Int.toNat) (ts.map Int.toNat)), 0) else (false, wCode2 L xs us ts)
theorem stAns_no (L : Int) (xs us ts : List Int) (h : alphB L xs = false) : stAns L xs us ts = (false, 1) := by
  have e : wCode2 L xs us ts = 1 := by unfold wCode2; rw [if_neg (by rw [h]; decide)]
  unfold stAns; rw [e]; rfl
theorem stAns_bad (L : Int) (xs us ts : List Int) (h : alphB L xs = true) (h2 : (wordB L us && wordB L ts) = false) : stAns L xs us ts = (false, 2) := by
  have e : wCode2 L xs us ts = 2 := by unfold wCode2; rw [if_pos h, if_neg (by rw [h2]; decide)]
  unfold stAns; rw [e]; rfl
theorem stAns_yes (L : Int) (rs us ts : List Nat) (h : alphB L (ints rs) = true) (h2 : (wordB L (ints us) && wordB L (ints ts)) = true) : stAns L (ints rs) (ints us) (ints ts) = (decide (nfR rs us = nfR rs ts), 0) := by
  have e : wCode2 L (ints rs) (ints us) (ints ts) = 0 := by unfold wCode2; rw [if_pos h, if_pos h2]
  unfold stAns; rw [if_pos e, ints_toNat, ints_toNat, ints_toNat]
theorem wCode2_no (L : Int) (xs us ts : List Int) (h : alphB L xs = false) : wCode2 L xs us ts = 1 := by unfold wCode2; rw [if_neg (by rw [h]; decide)]
theorem wCode2_bad (L : Int) (xs us ts : List Int) (h : alphB L xs = true) (h2 : (wordB L us && wordB L ts) = false) : wCode2 L xs us ts = 2 := by unfold wCode2; rw [if_pos h, if_neg (by rw [h2]; decide)]
theorem wCode2_yes (L : Int) (xs us ts : List Int) (h : alphB L xs = true) (h2 : (wordB L us && wordB L ts) = true) : wCode2 L xs us ts = 0 := by unfold wCode2; rw [if_pos h, if_pos h2]
theorem okT_pair (L : Int) (t1 t2 : Option Addr × Nat × Nat × List Int) : okT L [t1, t2] = (wordB L t1.2.2.2 && wordB L t2.2.2.2) := by simp [okT]
end Go.Proofs.YtkifadmoedackaaDoor

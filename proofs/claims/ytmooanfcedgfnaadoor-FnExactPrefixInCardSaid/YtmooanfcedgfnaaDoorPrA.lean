/-
  ProjectionOf: both sides.
-/
import Derived.Test.YtmooanfcedgfnaaDoorPrj
import Derived.Deep.RegionWith
namespace Go.Proofs.YtmooanfcedgfnaaDoor
open Go Go.RowKit
set_option linter.unusedVariables false
set_option maxRecDepth 100000

def prAns (L : Int) (xs us : List Int) (a : Int) : List Int × Int := if wCode L xs us = 0 then (if isMaskB a L = true then (ints (nfR (xs.map Int.toNat) (prjS (us.map Int.toNat) a.toNat)), 0) else ([], 2)) else ([], wCode L xs us)
theorem prAns_no (L : Int) (xs us : List Int) (a : Int) (h : alphB L xs = false) : prAns L xs us a = ([], 1) := by
  have e : wCode L xs us = 1 := by unfold wCode; rw [if_neg (by rw [h]; decide)]
  unfold prAns; rw [e]; rfl
theorem prAns_bad (L : Int) (xs us : List Int) (a : Int) (h : alphB L xs = true) (h2 : wordB L us = false) : prAns L xs us a = ([], 2) := by
  have e : wCode L xs us = 2 := by unfold wCode; rw [if_pos h, if_neg (by rw [h2]; decide)]
  unfold prAns; rw [e]; rfl
theorem prAns_out (L : Int) (xs us : List Int) (a : Int) (h : alphB L xs = true) (h2 : wordB L us = true) (h3 : isMaskB a L = false) : prAns L xs us a = ([], 2) := by
  have e : wCode L xs us = 0 := by unfold wCode; rw [if_pos h, if_pos h2]
  unfold prAns; rw [if_pos e, if_neg (by rw [h3]; decide)]
theorem prAns_yes (L : Int) (rs us : List Nat) (a : Nat) (h : alphB L (ints rs) = true) (h2 : wordB L (ints us) = true) (h3 : isMaskB (a : Int) L = true) : prAns L (ints rs) (ints us) (a : Int) = (ints (nfR rs (prjS us a)), 0) := by
  have e : wCode L (ints rs) (ints us) = 0 := by unfold wCode; rw [if_pos h, if_pos h2]
  unfold prAns; rw [if_pos e, if_pos h3, ints_toNat, ints_toNat]; rfl
theorem prAns_small (L : Int) (xs us : List Int) (a : Int) : (prAns L xs us a).1.length ≤ 24 := by
  unfold prAns
  split
  · rename_i h
    split
    · show (ints _).length ≤ 24
      rw [ints_len]
      refine Nat.le_trans (nfR_len _ _) (Nat.le_trans (prjS_len _ _) ?_)
      rw [List.length_map]
      unfold wCode at h
      split at h
      · split at h
        · rename_i hw
          unfold wordB at hw
          rw [Bool.and_eq_true, decide_eq_true_eq] at hw
          exact hw.1
        · cases h
      · cases h
    · show 0 ≤ 24; omega
  · show 0 ≤ 24; omega
end Go.Proofs.YtmooanfcedgfnaaDoor

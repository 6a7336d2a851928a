/-
  AreIndependent, IsPrefix: both sides.
-/
import Derived.Test.YtokikilfmglhhaaDoorDv1
namespace Go.Proofs.YtokikilfmglhhaaDoor
open Go Go.RowKit
set_option linter.unusedVariables false
set_option maxRecDepth 100000

/-- Answers of an alphabet and two words. -/
def dB (f : List Nat → List Nat → List Nat → Bool) (L : Int) (xs us ts : List Int) : Bool × Int := if wCode2 L xs us ts = 0 then (f (xs.map Int.toNat) (us.map Int.toNat) (ts.map Int.toNat), 0) else (false, wCode2 L xs us ts)
theorem dB_no (f : List Nat → List Nat → List Nat → Bool) (L : Int) (xs us ts : List Int) (h : alphB L xs = false) : dB f L xs us ts = (false, 1) := by
  have e := wCode2_no L xs us ts h
  unfold dB; rw [e]; rfl
theorem dB_bad (f : List Nat → List Nat → List Nat → Bool) (L : Int) (xs us ts : List Int) (h : alphB L xs = true) (h2 : (wordB L us && wordB L ts) = false) : dB f L xs us ts = (false, 2) := by
  have e := wCode2_bad L xs us ts h h2
  unfold dB; rw [e]; rfl
theorem dB_yes (f : List Nat → List Nat → List Nat → Bool) (L : Int) (rs us ts : List Nat) (h : alphB L (ints rs) = true) (h2 : (wordB L (ints us) && wordB L (ints ts)) = true) : dB f L (ints rs) (ints us) (ints ts) = (f rs us ts, 0) := by
  have e := wCode2_yes L (ints rs) (ints us) (ints ts) h h2
  unfold dB; rw [if_pos e, ints_toNat, ints_toNat, ints_toNat]
def dL (f : List Nat → List Nat → List Nat → List Nat × Int) (L : Int) (xs us ts : List Int) : List Int × Int := if wCode2 L xs us ts = 0 then (ints (f (xs.map Int.toNat) (us.map Int.toNat) (ts.map Int.toNat)).1, (f (xs.map Int.toNat) (us.map Int.toNat) (ts.map Int.toNat)).2) else ([], wCode2 L xs us ts)
theorem dL_no (f : List Nat → List Nat → List Nat → List Nat × Int) (L : Int) (xs us ts : List Int) (h : alphB L xs = false) : dL f L xs us ts = ([], 1) := by
  have e := wCode2_no L xs us ts h
  unfold dL; rw [e]; rfl
theorem dL_bad (f : List Nat → List Nat → List Nat → List Nat × Int) (L : Int) (xs us ts : List Int) (h : alphB L xs = true) (h2 : (wordB L us && wordB L ts) = false) : dL f L xs us ts = ([], 2) := by
  have e := wCode2_bad L xs us ts h h2
  unfold dL; rw [e]; rfl
theorem dL_yes (f : List Nat → List Nat → List Nat → List Nat × Int) (L : Int) (rs us ts : List Nat) (h : alphB L (ints rs) = true) (h2 : (wordB L (ints us) && wordB L (ints ts)) = true) : dL f L (ints rs) (ints us) (ints ts) = (ints (f rs us ts).1, (f rs us ts).2) := by
  have e := wCode2_yes L (ints rs) (ints us) (ints ts) h h2
  unfold dL; rw [if_pos e, ints_toNat, ints_toNat, ints_toNat]
theorem dL_small (f : List Nat → List Nat → List Nat → List Nat × Int) (b : Nat) (hf : ∀ rs us ts, us.length ≤ 24 → ts.length ≤ 24 → (f rs us ts).1.length ≤ b) (L : Int) (xs us ts : List Int) : (dL f L xs us ts).1.length ≤ b := by
  unfold dL
  by_cases h : wCode2 L xs us ts = 0
  · rw [if_pos h, ints_len]
    have h2 : (wordB L us && wordB L ts) = true := by
      unfold wCode2 at h
      split at h
      · split at h
        · assumption
        · cases h
      · cases h
    rw [Bool.and_eq_true] at h2
    unfold wordB at h2
    rw [Bool.and_eq_true, decide_eq_true_eq, Bool.and_eq_true, decide_eq_true_eq] at h2
    exact hf _ _ _ (by rw [List.length_map]; exact h2.1.1) (by rw [List.length_map]; exact h2.2.1)
  · rw [if_neg h]; exact Nat.zero_le _
def aiF (rs us ts : List Nat) : Bool := indM (RDep rs) us ts
def ipF (rs us ts : List Nat) : Bool := (cutM (RDep rs) us ts).isSome
end Go.Proofs.YtokikilfmglhhaaDoor

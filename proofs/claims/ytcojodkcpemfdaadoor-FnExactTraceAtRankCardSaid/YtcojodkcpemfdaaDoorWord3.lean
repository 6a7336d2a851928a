/-
  IsWord and ContentOf: both sides.
-/
import Derived.Test.YtcojodkcpemfdaaDoorWord2
import Derived.Test.YtcojodkcpemfdaaDoorParts
namespace Go.Proofs.YtcojodkcpemfdaaDoor
open Go.RowKit
set_option linter.unusedVariables false
set_option maxRecDepth 100000

def isWordAns (L : Int) (xs us : List Int) : Bool := decide (wCode L xs us = 0)
/-- The answer of a list function of an alphabet and a word. -/
def wAns (f : List Nat → List Nat → List Nat) (L : Int) (xs us : List Int) : List Int × Int := if wCode L xs us = 0 then (ints (f (xs.map Int.toNat) (us.map Int.toNat)), 0) else ([], wCode L xs us)
theorem wAns_no (f : List Nat → List Nat → List Nat) (L : Int) (xs us : List Int) (h : alphB L xs = false) : wAns f L xs us = ([], 1) := by
  have e : wCode L xs us = 1 := by unfold wCode; rw [if_neg (by rw [h]; decide)]
  unfold wAns; rw [e]; rfl
theorem wAns_bad (f : List Nat → List Nat → List Nat) (L : Int) (xs us : List Int) (h : alphB L xs = true) (h2 : wordB L us = false) : wAns f L xs us = ([], 2) := by
  have e : wCode L xs us = 2 := by unfold wCode; rw [if_pos h, if_neg (by rw [h2]; decide)]
  unfold wAns; rw [e]; rfl
theorem wAns_yes (f : List Nat → List Nat → List Nat) (L : Int) (rs us : List Nat) (h : alphB L (ints rs) = true) (h2 : wordB L (ints us) = true) : wAns f L (ints rs) (ints us) = (ints (f rs us), 0) := by
  have e : wCode L (ints rs) (ints us) = 0 := by unfold wCode; rw [if_pos h, if_pos h2]
  unfold wAns; rw [if_pos e, ints_toNat, ints_toNat]
theorem wAns_small (f : List Nat → List Nat → List Nat) (b : Nat) (hf : ∀ rs us, rs.length ≤ 8 → us.length ≤ 24 → (f rs us).length ≤ b) (L : Int) (xs us : List Int) : (wAns f L xs us).1.length ≤ b := by
  unfold wAns
  split
  · rename_i h
    unfold wCode at h
    split at h
    · rename_i ha
      split at h
      · rename_i hw
        show (ints _).length ≤ b
        rw [ints_len]
        refine hf _ _ ?_ ?_
        · rw [List.length_map]
          unfold alphB at ha
          rw [Bool.and_eq_true, decide_eq_true_eq] at ha
          omega
        · rw [List.length_map]
          unfold wordB at hw
          rw [Bool.and_eq_true, decide_eq_true_eq] at hw
          exact hw.1
      · omega
    · omega
  · exact Nat.zero_le _
theorem wCode_no (L : Int) (xs us : List Int) (h : alphB L xs = false) : wCode L xs us = 1 := by unfold wCode; rw [if_neg (by rw [h]; decide)]
theorem wCode_bad (L : Int) (xs us : List Int) (h : alphB L xs = true) (h2 : wordB L us = false) : wCode L xs us = 2 := by unfold wCode; rw [if_pos h, if_neg (by rw [h2]; decide)]
theorem wCode_yes (L : Int) (xs us : List Int) (h : alphB L xs = true) (h2 : wordB L us = true) : wCode L xs us = 0 := by unfold wCode; rw [if_pos h, if_pos h2]
theorem okT_one (L : Int) (A : Option Addr) (n c : Nat) (xs : List Int) : okT L [(A, n, c, xs)] = wordB L xs := by unfold okT; simp
theorem okT_two (L : Int) (A B : Option Addr) (n c m d : Nat) (xs ys : List Int) : okT L [(A, n, c, xs), (B, m, d, ys)] = (wordB L xs && wordB L ys) := by unfold okT; simp
/-- How often each of n letters occurs. -/
def contM (n : Nat) (us : List Nat) : List Nat := (List.range n).map fun a => us.count a
theorem contM_len (n : Nat) (us : List Nat) : (contM n us).length = n := by simp [contM]
theorem contM_at (n : Nat) (us : List Nat) (a : Nat) (h : a < n) : (contM n us).getD a 0 = us.count a := getD_range_map _ _ _ h
theorem contM_le (n : Nat) (us : List Nat) (a : Nat) (h : us.length ≤ 24) : (contM n us).getD a 0 ≤ 24 := by
  rcases Nat.lt_or_ge a n with h1 | h1
  · rw [contM_at n us a h1]; exact Nat.le_trans List.count_le_length h
  · rw [getD_past _ n a (contM_len n us) h1]; omega
theorem contM_snoc (n : Nat) (us : List Nat) (a : Nat) (h : a < n) : contM n (us ++ [a]) = (contM n us).set a ((contM n us).getD a 0 + 1) := by
  refine list_eq_getD _ _ n (contM_len _ _) (by rw [List.length_set, contM_len]) fun i hi => ?_
  rw [contM_at _ _ _ hi, getD_set _ _ _ _ (by rw [contM_len]; exact h), List.count_append, List.count_singleton]
  by_cases e : i = a
  · subst e; rw [if_pos rfl, contM_at _ _ _ h]; simp
  · rw [if_neg e, contM_at _ _ _ hi]; simp; exact fun h => e h.symm
theorem contM_nil (n : Nat) : contM n [] = List.replicate n 0 := by
  refine list_eq_getD _ _ n (contM_len _ _) List.length_replicate fun i hi => ?_
  rw [contM_at _ _ _ hi, replicate_getD]; rfl
def contAns (L : Int) (xs us : List Int) : List Int × Int := wAns (fun rs us => contM rs.length us) L xs us
theorem contAns_small (L : Int) (xs us : List Int) : (contAns L xs us).1.length ≤ 8 := wAns_small _ 8 (fun rs us h _ => by rw [contM_len]; exact h) L xs us
theorem take_snoc (us : List Nat) (k u : Nat) (h : us[k]? = some u) : us.take (k + 1) = us.take k ++ [u] := by rw [List.take_add_one, h]; rfl
theorem ints_at? (us : List Nat) (k : Nat) (x : Int) (h : (ints us)[k]? = some x) : ∃ u, us[k]? = some u ∧ x = (u : Int) := by
  unfold ints at h
  rw [List.getElem?_map] at h
  cases e : us[k]? with
  | none => rw [e] at h; cases h
  | some u => rw [e] at h; injection h with h; exact ⟨u, rfl, h.symm⟩
end Go.Proofs.YtcojodkcpemfdaaDoor

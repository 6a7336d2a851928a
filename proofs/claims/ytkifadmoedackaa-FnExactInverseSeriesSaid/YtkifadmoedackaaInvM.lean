/-
  The inverse of a list: plain mathematics; the program's way and the model's, by contracts.
-/
import Derived.Test.YtkifadmoedackaaPB
namespace Go.Proofs.Ytkifadmoedackaa
open Go Go.RowKit
set_option linter.unusedVariables false
set_option maxRecDepth 100000

/-- What the first k products add up to, with the sign turned. -/
def cvS (p q : List Int) : Nat → Int
  | 0 => 0
  | k + 1 => cvS p q k - p.getD (k + 1) 0 * q.getD (q.length - (k + 1)) 0
def cvN (p q : List Int) : Nat := min (p.length - 1) q.length
/-- The next element of the inverse. -/
def nextV (p q : List Int) : Int := cvS p q (cvN p q)
def invQ (p : List Int) : Nat → List Int
  | 0 => [1]
  | n + 1 => invQ p n ++ [nextV p (invQ p n)]
theorem invQ_len (p : List Int) : ∀ n, (invQ p n).length = n + 1
  | 0 => rfl
  | n + 1 => by rw [invQ, List.length_append, invQ_len p n]; rfl
def maxB (x : Int) : Bool := decide (-1000000000000000 ≤ x ∧ x ≤ 1000000000000000)
theorem invQ_take (p : List Int) (n : Nat) : ∀ k, n ≤ k → ∀ i, i ≤ n → (invQ p k).getD i 0 = (invQ p n).getD i 0 := by
  intro k hk
  induction k with
  | zero => obtain rfl : n = 0 := by omega
            intro i _; rfl
  | succ k ih =>
    intro i hi
    by_cases h : n ≤ k
    · rw [← ih h i hi, invQ]
      simp only [List.getD_eq_getElem?_getD]
      rw [List.getElem?_append_left (by rw [invQ_len]; omega)]
    · obtain rfl : n = k + 1 := by omega
      rfl
theorem invQ_last (p : List Int) (n : Nat) : (invQ p (n + 1)).getD (n + 1) 0 = nextV p (invQ p n) := by
  rw [invQ]
  simp only [List.getD_eq_getElem?_getD]
  rw [List.getElem?_append_right (by rw [invQ_len]; omega), invQ_len]; simp
/-- All elements up to the n-th are small. -/
def invB (p : List Int) : Nat → Bool
  | 0 => true
  | n + 1 => invB p n && maxB (nextV p (invQ p n))
theorem invB_le (p : List Int) (n : Nat) : ∀ k, n ≤ k → invB p k = true → invB p n = true := by
  intro k hk
  induction k with
  | zero => obtain rfl : n = 0 := by omega
            exact fun h => h
  | succ k ih =>
    intro h
    by_cases e : n ≤ k
    · exact ih e (by rw [invB, Bool.and_eq_true] at h; exact h.1)
    · obtain rfl : n = k + 1 := by omega
      exact h
theorem invB_no (p : List Int) (n k : Nat) (hk : n ≤ k) (h : invB p n = false) : invB p k = false := by
  cases e : invB p k
  · rfl
  · rw [invB_le p n k hk e] at h; cases h
theorem invQ_small (p : List Int) : ∀ n, invB p n = true → ∀ i, -1000000000000000 ≤ (invQ p n).getD i 0 ∧ (invQ p n).getD i 0 ≤ 1000000000000000
  | 0, _, i => by
    rw [invQ]
    cases i with
    | zero => decide
    | succ i => simp
  | n + 1, h, i => by
    rw [invB, Bool.and_eq_true] at h
    have h2 := h.2
    unfold maxB at h2
    rw [decide_eq_true_eq] at h2
    rw [invQ]
    simp only [List.getD_eq_getElem?_getD]
    by_cases e : i < (invQ p n).length
    · rw [List.getElem?_append_left e]
      have := invQ_small p n h.1 i
      rw [List.getD_eq_getElem?_getD] at this; exact this
    · rw [List.getElem?_append_right (by omega)]
      by_cases e2 : i - (invQ p n).length = 0
      · rw [e2]; exact h2
      · rw [List.getElem?_eq_none (by simp; omega)]; decide
theorem mul_small (a b A B : Int) (hA : 0 ≤ A) (ha : -A ≤ a ∧ a ≤ A) (hb : -B ≤ b ∧ b ≤ B) : -(A * B) ≤ a * b ∧ a * b ≤ A * B := by
  have hB : 0 ≤ B := by omega
  have h1 : 0 ≤ (A - a) * (B - b) := Int.mul_nonneg (by omega) (by omega)
  have h2 : 0 ≤ (A - a) * (B + b) := Int.mul_nonneg (by omega) (by omega)
  have h3 : 0 ≤ (A + a) * (B - b) := Int.mul_nonneg (by omega) (by omega)
  have h4 : 0 ≤ (A + a) * (B + b) := Int.mul_nonneg (by omega) (by omega)
  rw [Int.sub_mul, Int.mul_sub, Int.mul_sub] at h1
  rw [Int.sub_mul, Int.mul_add, Int.mul_add] at h2
  rw [Int.add_mul, Int.mul_sub, Int.mul_sub] at h3
  rw [Int.add_mul, Int.mul_add, Int.mul_add] at h4
  constructor <;> omega
/-- What a list's inverse is answered. -/
def invAns (p : List Int) (n : Nat) : List Int × Bool := if invB p n = true then (invQ p n, true) else ([], false)
def bigC (c : Int) : Bool := decide (c < -1000) || decide (1000 < c)
def isAns (p : List Int) (n : Int) : List Int × Int :=
  if (decide (0 ≤ n ∧ n ≤ 24) && !p.any bigC) = true then (if p.head? = some 1 then (if invB p n.toNat = true then (invQ p n.toNat, 0) else ([], 3)) else ([], 5)) else ([], 2)
theorem isAns_small (p : List Int) (n : Int) : (isAns p n).1.length ≤ 25 := by
  unfold isAns
  split
  · rename_i h
    rw [Bool.and_eq_true, decide_eq_true_eq] at h
    split
    · split
      · show (invQ p n.toNat).length ≤ 25
        rw [invQ_len]; omega
      · exact Nat.zero_le _
    · exact Nat.zero_le _
  · exact Nat.zero_le _
end Go.Proofs.Ytkifadmoedackaa

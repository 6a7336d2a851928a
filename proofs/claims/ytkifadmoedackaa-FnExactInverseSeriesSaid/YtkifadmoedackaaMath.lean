/-
  Plain mathematics of sets of numbers as masks: no program, no memory. Nothing is asked of the reader but Nat's own bits.
-/
import Derived.WalkKit
import Derived.Laws.BitsAllLaws
namespace Go.Proofs.Ytkifadmoedackaa
open Go.RowKit

/-- The members of a that are not in b. -/
def dif (a b : Nat) : Nat := a &&& (18446744073709551615 - b)
theorem dif_bit (a b i : Nat) (ha : a < 9223372036854775808) (hb : b < 9223372036854775808) : (dif a b).testBit i = (a.testBit i && !b.testBit i) := by
  unfold dif
  have e : 18446744073709551615 - b = 2 ^ 64 - (b + 1) := by omega
  rw [Nat.testBit_and, e, Nat.testBit_two_pow_sub_succ (by omega)]
  by_cases h : i < 64
  · simp [h]
  · have : a.testBit i = false := Nat.testBit_lt_two_pow (Nat.lt_of_lt_of_le ha (Nat.le_trans (by decide : 9223372036854775808 ≤ 2 ^ 64) (Nat.pow_le_pow_right (by decide) (by omega))))
    simp [this]
theorem dif_le (a b : Nat) : dif a b ≤ a := Nat.and_le_left
theorem dif_zero (a b : Nat) (ha : a < 9223372036854775808) (hb : b < 9223372036854775808) : dif a b = 0 ↔ ∀ i, a.testBit i = true → b.testBit i = true := by
  constructor
  · intro h i hi
    have := dif_bit a b i ha hb
    rw [h, hi] at this
    simpa using this
  · intro h
    apply Nat.eq_of_testBit_eq
    intro i
    rw [dif_bit a b i ha hb, Nat.zero_testBit]
    cases e : a.testBit i
    · rfl
    · rw [h i e]; rfl

theorem i64_nat (r : Nat) (h : r < 9223372036854775808) : IntKind.i64.wrap (r : Int) = (r : Int) := by rw [IntKind.wrap_i64]; omega
theorem i64_and_nat (a b : Nat) (ha : a < 9223372036854775808) (hb : b < 9223372036854775808) : bits .and .i64 (a : Int) (b : Int) = ((a &&& b : Nat) : Int) := by
  have hx : a &&& b < 2 ^ 63 := Nat.and_lt_two_pow _ (by omega)
  show IntKind.i64.wrap ((BitVec.ofInt 64 (a : Int) &&& BitVec.ofInt 64 (b : Int)).toNat : Int) = _
  rw [BitVec.toNat_and, ofInt_u64 a (by omega), ofInt_u64 b (by omega), i64_nat _ (by omega)]
theorem i64_or_nat (a b : Nat) (ha : a < 9223372036854775808) (hb : b < 9223372036854775808) : bits .or .i64 (a : Int) (b : Int) = ((a ||| b : Nat) : Int) := by
  have hx : a ||| b < 2 ^ 63 := Nat.or_lt_two_pow (by omega) (by omega)
  show IntKind.i64.wrap ((BitVec.ofInt 64 (a : Int) ||| BitVec.ofInt 64 (b : Int)).toNat : Int) = _
  rw [BitVec.toNat_or, ofInt_u64 a (by omega), ofInt_u64 b (by omega), i64_nat _ (by omega)]
theorem i64_andNot_nat (a b : Nat) (ha : a < 9223372036854775808) (hb : b < 9223372036854775808) : bits .andNot .i64 (a : Int) (b : Int) = ((dif a b : Nat) : Int) := by
  have hx : dif a b < 2 ^ 63 := Nat.lt_of_le_of_lt (dif_le a b) (by omega)
  show IntKind.i64.wrap ((BitVec.ofInt 64 (a : Int) &&& ~~~BitVec.ofInt 64 (b : Int)).toNat : Int) = _
  rw [BitVec.toNat_and, BitVec.toNat_not, ofInt_u64 a (by omega), ofInt_u64 b (by omega)]
  have e : 2 ^ 64 - 1 - b = 18446744073709551615 - b := by omega
  rw [e]; show IntKind.i64.wrap ((dif a b : Nat) : Int) = _
  exact i64_nat _ hx
theorem p2_lt (k : Nat) (hk : k ≤ 62) : 2 ^ k < 9223372036854775808 := Nat.lt_of_le_of_lt (Nat.pow_le_pow_right (by decide) hk) (by decide : 2 ^ 62 < 9223372036854775808)
theorem p2_pos (k : Nat) : 1 ≤ 2 ^ k := Nat.one_le_two_pow
/-- A number of int64's kind, as a set, is within the first k numbers exactly if it is one of 0..2^k - 1. -/
theorem andNot_full (m : Int) (k : Nat) (hk : k ≤ 62) (h1 : -9223372036854775808 ≤ m) (h2 : m ≤ 9223372036854775807) :
    (bits .andNot .i64 m ((2 ^ k - 1 : Nat) : Int) == 0) = decide (0 ≤ m ∧ m < ((2 ^ k : Nat) : Int)) := by
  have hp := p2_lt k hk
  have hq := p2_pos k
  rcases Int.lt_or_le m 0 with hm | hm
  · have e2 : decide (0 ≤ m ∧ m < ((2 ^ k : Nat) : Int)) = false := by simp; omega
    rw [e2]
    have e0 : BitVec.ofInt 64 m = BitVec.ofNat 64 (m + 18446744073709551616).toNat := by
      apply BitVec.eq_of_toNat_eq
      rw [BitVec.toNat_ofInt, BitVec.toNat_ofNat]
      omega
    have key : (BitVec.ofInt 64 m &&& ~~~BitVec.ofInt 64 ((2 ^ k - 1 : Nat) : Int)).toNat ≠ 0 := by
      intro hz
      have ht : (BitVec.ofInt 64 m &&& ~~~BitVec.ofInt 64 ((2 ^ k - 1 : Nat) : Int)).toNat.testBit 63 = false := by rw [hz]; exact Nat.zero_testBit _
      rw [BitVec.toNat_and, BitVec.toNat_not, ofInt_u64 _ (by omega), Nat.testBit_and] at ht
      have e1 : 2 ^ 64 - 1 - (2 ^ k - 1) = 2 ^ 64 - ((2 ^ k - 1) + 1) := by omega
      rw [e1, Nat.testBit_two_pow_sub_succ (by omega)] at ht
      have e3 : (2 ^ k - 1).testBit 63 = false := Nat.testBit_lt_two_pow (by omega)
      have e4 : (BitVec.ofInt 64 m).toNat.testBit 63 = true := by
        rw [e0, BitVec.toNat_ofNat, Nat.mod_eq_of_lt (by omega), Nat.testBit_eq_decide_div_mod_eq]
        have : (m + 18446744073709551616).toNat / 2 ^ 63 = 1 := by omega
        rw [this]; rfl
      rw [e3, e4] at ht
      simp at ht
    show (IntKind.i64.wrap ((BitVec.ofInt 64 m &&& ~~~BitVec.ofInt 64 ((2 ^ k - 1 : Nat) : Int)).toNat : Int) == 0) = false
    have hl := (BitVec.ofInt 64 m &&& ~~~BitVec.ofInt 64 ((2 ^ k - 1 : Nat) : Int)).isLt
    rw [IntKind.wrap_i64]
    generalize (BitVec.ofInt 64 m &&& ~~~BitVec.ofInt 64 ((2 ^ k - 1 : Nat) : Int)).toNat = r at key hl
    simp
    omega
  · obtain ⟨M, rfl⟩ := Int.eq_ofNat_of_zero_le hm
    rw [i64_andNot_nat M _ (by omega) (by omega)]
    rw [Bool.eq_iff_iff]
    simp only [beq_iff_eq, decide_eq_true_eq]
    have hz := dif_zero M (2 ^ k - 1) (by omega) (by omega)
    constructor
    · intro h
      have hall := hz.1 (by omega)
      refine ⟨by omega, ?_⟩
      have : M < 2 ^ k := by
        apply Nat.lt_pow_two_of_testBit
        intro i hi
        cases e : M.testBit i
        · rfl
        · have := hall i e
          rw [Nat.testBit_two_pow_sub_one] at this
          simp at this; omega
      omega
    · intro h
      have : dif M (2 ^ k - 1) = 0 := hz.2 (by
        intro i hi
        rw [Nat.testBit_two_pow_sub_one]
        have h3 : ¬ k ≤ i := by
          intro hk2
          have : M.testBit i = false := Nat.testBit_lt_two_pow (Nat.lt_of_lt_of_le (by omega : M < 2 ^ k) (Nat.pow_le_pow_right (by decide) hk2))
          rw [this] at hi; exact absurd hi (by decide)
        simp; omega)
      omega
/-- Whether mask is a mask of n elements. -/
def isMaskB (m n : Int) : Bool := decide (0 ≤ n ∧ n ≤ 24 ∧ 0 ≤ m ∧ m < ((2 ^ n.toNat : Nat) : Int))
theorem isMaskB_in (m : Int) (k : Nat) (hk : k ≤ 24) : isMaskB m (k : Int) = decide (0 ≤ m ∧ m < ((2 ^ k : Nat) : Int)) := by
  unfold isMaskB
  have e : (k : Int).toNat = k := by omega
  rw [e]
  congr 1
  apply propext
  constructor
  · rintro ⟨_, _, a, b⟩; exact ⟨a, b⟩
  · rintro ⟨a, b⟩; exact ⟨by omega, by omega, a, b⟩
theorem isMaskB_low (m n : Int) (h : n < 0) : isMaskB m n = false := by unfold isMaskB; simp; omega
theorem isMaskB_high (m n : Int) (h : 24 < n) : isMaskB m n = false := by unfold isMaskB; simp; omega

/-! ### the mask of a list -/
def inSet (x : Int) : Bool := decide (0 ≤ x ∧ x < 24)
def orAll (xs : List Int) : Nat := xs.foldl (fun m x => m ||| 2 ^ x.toNat) 0
theorem orAll_snoc (xs : List Int) (x : Int) : orAll (xs ++ [x]) = orAll xs ||| 2 ^ x.toNat := by unfold orAll; rw [List.foldl_append]; rfl
theorem orAll_next (xs : List Int) (k : Nat) (x : Int) (h : xs[k]? = some x) : orAll (xs.take (k + 1)) = orAll (xs.take k) ||| 2 ^ x.toNat := by
  rw [List.take_add_one, h]; exact orAll_snoc _ _
theorem all_next (p : Int → Bool) (xs : List Int) (k : Nat) (x : Int) (h : xs[k]? = some x) : (xs.take (k + 1)).all p = ((xs.take k).all p && p x) := by
  rw [List.take_add_one, h, List.all_append]; simp
theorem foldl_or_lt (xs : List Int) (m : Nat) (hm : m < 2 ^ 24) (h : xs.all inSet = true) : xs.foldl (fun m x => m ||| 2 ^ x.toNat) m < 2 ^ 24 := by
  induction xs generalizing m with
  | nil => exact hm
  | cons x r ih =>
    simp only [List.all_cons, Bool.and_eq_true] at h
    rw [List.foldl_cons]
    refine ih _ ?_ h.2
    have hx : 0 ≤ x ∧ x < 24 := by simpa [inSet] using h.1
    exact Nat.or_lt_two_pow hm (Nat.pow_lt_pow_right (by decide) (by omega))
theorem orAll_lt (xs : List Int) (h : xs.all inSet = true) : orAll xs < 16777216 := foldl_or_lt xs 0 (by decide) h
/-- What MaskOf answers. -/
def maskAns (xs : List Int) : Int × Int := if xs.all inSet = true then (((orAll xs : Nat) : Int), 0) else (0, 2)
theorem maskAns_yes (xs : List Int) (h : xs.all inSet = true) : maskAns xs = (((orAll xs : Nat) : Int), 0) := by unfold maskAns; rw [if_pos h]
theorem maskAns_no (xs : List Int) (k : Nat) (x : Int) (hx : xs[k]? = some x) (h : ¬ (0 ≤ x ∧ x < 24)) : maskAns xs = (0, 2) := by
  unfold maskAns
  rw [if_neg]
  intro hall
  have := List.all_eq_true.1 hall x (List.mem_of_getElem? hx)
  exact h (by simpa [inSet] using this)

/-! ### relations -/
def relB (xs : List Int) : Bool := decide (xs.length ≤ 24) && xs.all (fun x => isMaskB x xs.length)
theorem relB_long (xs : List Int) (h : 24 < xs.length) : relB xs = false := by unfold relB; rw [decide_eq_false (by omega)]; rfl
theorem relB_yes (xs : List Int) (n : Nat) (hn : xs.length = n) (h : n ≤ 24) (ha : xs.all (fun x => isMaskB x n) = true) : relB xs = true := by
  subst hn; unfold relB; rw [decide_eq_true h, ha]; rfl
theorem relB_no (xs : List Int) (n k : Nat) (x : Int) (hn : xs.length = n) (hx : xs[k]? = some x) (h : isMaskB x n = false) : relB xs = false := by
  subst hn
  have : xs.all (fun x => isMaskB x xs.length) = false := by
    rw [Bool.eq_false_iff]
    intro hall
    have := List.all_eq_true.1 hall x (List.mem_of_getElem? hx)
    rw [h] at this; exact absurd this (by decide)
  unfold relB; rw [this, Bool.and_false]
theorem relB_len (xs : List Int) (h : relB xs = true) : xs.length ≤ 24 := by
  unfold relB at h; simp only [Bool.and_eq_true, decide_eq_true_eq] at h; exact h.1
theorem relB_mask (xs : List Int) (h : relB xs = true) (k : Nat) (x : Int) (hx : xs[k]? = some x) : 0 ≤ x ∧ x < ((2 ^ xs.length : Nat) : Int) := by
  have hl := relB_len xs h
  unfold relB at h; simp only [Bool.and_eq_true, decide_eq_true_eq] at h
  have := List.all_eq_true.1 h.2 x (List.mem_of_getElem? hx)
  rw [isMaskB_in _ _ hl] at this
  simpa using this
end Go.Proofs.Ytkifadmoedackaa

/-
  Plain mathematics of sets of numbers as masks: no program, no memory. Nothing is asked of the reader but Nat's own bits. The small functions of chapter 1 by contracts: what each one answers, and that the world is left as it was. Words for slices of int64: what a slice reads as; a slice that a call has made. The laws' own helpers by contracts: a copy of a slice; whether two slices are equal. Whether a list is a relation: the program's and the model's way, by contracts. One bit of a mask; copies of lists of sets; marks: by contracts. MaskOf and its model by contracts. Plain mathematics: the least reflexive and transitive relation, by growing sets and by Warshall's rounds. The least member and the number of members of a set: the library's bit functions, by contracts. The library's table is asked for by its cells. The closure of a relation: the model's growing sets and the program's rounds, by contracts. The members of a set in ascending order: the program's way and the model's, by contracts. The converse of a relation: the model's way and the program's, by contracts.
-/
import Derived.WalkKit
import Derived.Laws.BitsAllLaws
import Derived.Test.YtdafdffmkjhhcaaDoorRows
import Derived.WalkLawsBesides
import Derived.WalkSpells
import Derived.Deep.DeepMust
import Derived.Lib.Hide
import Derived.OwnWalk
import Derived.Below
import Derived.Laws.OwnMore
import Derived.Deep.AppendLies
import Derived.Deep.Draws
import Derived.OpenShut
import Derived.Deep.QuietTactic
import Derived.BigQuiet
import Derived.Laws.Bits64b
import Derived.Lib.TrailingZeros
import Derived.RegionTactic
import Derived.ChangeAlike
namespace Go.Proofs.YtdafdffmkjhhcaaDoor
open Go.RowKit

/-- The members of a that are not in b. -/
def dif (a b : Nat) : Nat := a &&& (18446744073709551615 - b)
theorem dif_bit (a b i : Nat) (ha : a < 9223372036854775808) (hb : b < 9223372036854775808) : (dif a b).testBit i = (a.testBit i && !b.testBit i) := by
  unfold dif
  have e : 18446744073709551615 - b = 2 ^ 64 - (b + 1) := by omega
  rw [Nat.testBit_and, e, Nat.testBit_two_pow_sub_succ (by omega)]
  by_cases h : i < 64
  · simp [h]
  · have : a.testBit i = false := Nat.testBit_lt_two_pow (Nat.lt_of_lt_of_le ha (Nat.le_trans (by decide : 9223372036854775808 ≤ 2 ^ 64) (Nat.pow_le_pow_right (by decide) (by omega))))
    simp [this]
theorem dif_le (a b : Nat) : dif a b ≤ a := Nat.and_le_left
theorem dif_zero (a b : Nat) (ha : a < 9223372036854775808) (hb : b < 9223372036854775808) : dif a b = 0 ↔ ∀ i, a.testBit i = true → b.testBit i = true := by
  constructor
  · intro h i hi
    have := dif_bit a b i ha hb
    rw [h, hi] at this
    simpa using this
  · intro h
    apply Nat.eq_of_testBit_eq
    intro i
    rw [dif_bit a b i ha hb, Nat.zero_testBit]
    cases e : a.testBit i
    · rfl
    · rw [h i e]; rfl

theorem i64_nat (r : Nat) (h : r < 9223372036854775808) : IntKind.i64.wrap (r : Int) = (r : Int) := by rw [IntKind.wrap_i64]; omega
theorem i64_and_nat (a b : Nat) (ha : a < 9223372036854775808) (hb : b < 9223372036854775808) : bits .and .i64 (a : Int) (b : Int) = ((a &&& b : Nat) : Int) := by
  have hx : a &&& b < 2 ^ 63 := Nat.and_lt_two_pow _ (by omega)
  show IntKind.i64.wrap ((BitVec.ofInt 64 (a : Int) &&& BitVec.ofInt 64 (b : Int)).toNat : Int) = _
  rw [BitVec.toNat_and, ofInt_u64 a (by omega), ofInt_u64 b (by omega), i64_nat _ (by omega)]
theorem i64_or_nat (a b : Nat) (ha : a < 9223372036854775808) (hb : b < 9223372036854775808) : bits .or .i64 (a : Int) (b : Int) = ((a ||| b : Nat) : Int) := by
  have hx : a ||| b < 2 ^ 63 := Nat.or_lt_two_pow (by omega) (by omega)
  show IntKind.i64.wrap ((BitVec.ofInt 64 (a : Int) ||| BitVec.ofInt 64 (b : Int)).toNat : Int) = _
  rw [BitVec.toNat_or, ofInt_u64 a (by omega), ofInt_u64 b (by omega), i64_nat _ (by omega)]
theorem i64_andNot_nat (a b : Nat) (ha : a < 9223372036854775808) (hb : b < 9223372036854775808) : bits .andNot .i64 (a : Int) (b : Int) = ((dif a b : Nat) : Int) := by
  have hx : dif a b < 2 ^ 63 := Nat.lt_of_le_of_lt (dif_le a b) (by omega)
  show IntKind.i64.wrap ((BitVec.ofInt 64 (a : Int) &&& ~~~BitVec.ofInt 64 (b : Int)).toNat : Int) = _
  rw [BitVec.toNat_and, BitVec.toNat_not, ofInt_u64 a (by omega), ofInt_u64 b (by omega)]
  have e : 2 ^ 64 - 1 - b = 18446744073709551615 - b := by omega
  rw [e]; show IntKind.i64.wrap ((dif a b : Nat) : Int) = _
  exact i64_nat _ hx
theorem p2_lt (k : Nat) (hk : k ≤ 62) : 2 ^ k < 9223372036854775808 := Nat.lt_of_le_of_lt (Nat.pow_le_pow_right (by decide) hk) (by decide : 2 ^ 62 < 9223372036854775808)
theorem p2_pos (k : Nat) : 1 ≤ 2 ^ k := Nat.one_le_two_pow
/-- A number of int64's kind, as a set, is within the first k numbers exactly if it is one of 0..2^k - 1. -/
theorem andNot_full (m : Int) (k : Nat) (hk : k ≤ 62) (h1 : -9223372036854775808 ≤ m) (h2 : m ≤ 9223372036854775807) :
    (bits .andNot .i64 m ((2 ^ k - 1 : Nat) : Int) == 0) = decide (0 ≤ m ∧ m < ((2 ^ k : Nat) : Int)) := by
  have hp := p2_lt k hk
  have hq := p2_pos k
  rcases Int.lt_or_le m 0 with hm | hm
  · have e2 : decide (0 ≤ m ∧ m < ((2 ^ k : Nat) : Int)) = false := by simp; omega
    rw [e2]
    have e0 : BitVec.ofInt 64 m = BitVec.ofNat 64 (m + 18446744073709551616).toNat := by
      apply BitVec.eq_of_toNat_eq
      rw [BitVec.toNat_ofInt, BitVec.toNat_ofNat]
      omega
    have key : (BitVec.ofInt 64 m &&& ~~~BitVec.ofInt 64 ((2 ^ k - 1 : Nat) : Int)).toNat ≠ 0 := by
      intro hz
      have ht : (BitVec.ofInt 64 m &&& ~~~BitVec.ofInt 64 ((2 ^ k - 1 : Nat) : Int)).toNat.testBit 63 = false := by rw [hz]; exact Nat.zero_testBit _
      rw [BitVec.toNat_and, BitVec.toNat_not, ofInt_u64 _ (by omega), Nat.testBit_and] at ht
      have e1 : 2 ^ 64 - 1 - (2 ^ k - 1) = 2 ^ 64 - ((2 ^ k - 1) + 1) := by omega
      rw [e1, Nat.testBit_two_pow_sub_succ (by omega)] at ht
      have e3 : (2 ^ k - 1).testBit 63 = false := Nat.testBit_lt_two_pow (by omega)
      have e4 : (BitVec.ofInt 64 m).toNat.testBit 63 = true := by
        rw [e0, BitVec.toNat_ofNat, Nat.mod_eq_of_lt (by omega), Nat.testBit_eq_decide_div_mod_eq]
        have : (m + 18446744073709551616).toNat / 2 ^ 63 = 1 := by omega
        rw [this]; rfl
      rw [e3, e4] at ht
      simp at ht
    show (IntKind.i64.wrap ((BitVec.ofInt 64 m &&& ~~~BitVec.ofInt 64 ((2 ^ k - 1 : Nat) : Int)).toNat : Int) == 0) = false
    have hl := (BitVec.ofInt 64 m &&& ~~~BitVec.ofInt 64 ((2 ^ k - 1 : Nat) : Int)).isLt
    rw [IntKind.wrap_i64]
    generalize (BitVec.ofInt 64 m &&& ~~~BitVec.ofInt 64 ((2 ^ k - 1 : Nat) : Int)).toNat = r at key hl
    simp
    omega
  · obtain ⟨M, rfl⟩ := Int.eq_ofNat_of_zero_le hm
    rw [i64_andNot_nat M _ (by omega) (by omega)]
    rw [Bool.eq_iff_iff]
    simp only [beq_iff_eq, decide_eq_true_eq]
    have hz := dif_zero M (2 ^ k - 1) (by omega) (by omega)
    constructor
    · intro h
      have hall := hz.1 (by omega)
      refine ⟨by omega, ?_⟩
      have : M < 2 ^ k := by
        apply Nat.lt_pow_two_of_testBit
        intro i hi
        cases e : M.testBit i
        · rfl
        · have := hall i e
          rw [Nat.testBit_two_pow_sub_one] at this
          simp at this; omega
      omega
    · intro h
      have : dif M (2 ^ k - 1) = 0 := hz.2 (by
        intro i hi
        rw [Nat.testBit_two_pow_sub_one]
        have h3 : ¬ k ≤ i := by
          intro hk2
          have : M.testBit i = false := Nat.testBit_lt_two_pow (Nat.lt_of_lt_of_le (by omega : M < 2 ^ k) (Nat.pow_le_pow_right (by decide) hk2))
          rw [this] at hi; exact absurd hi (by decide)
        simp; omega)
      omega
/-- Whether mask is a mask of n elements. -/
def isMaskB (m n : Int) : Bool := decide (0 ≤ n ∧ n ≤ 24 ∧ 0 ≤ m ∧ m < ((2 ^ n.toNat : Nat) : Int))
theorem isMaskB_in (m : Int) (k : Nat) (hk : k ≤ 24) : isMaskB m (k : Int) = decide (0 ≤ m ∧ m < ((2 ^ k : Nat) : Int)) := by
  unfold isMaskB
  have e : (k : Int).toNat = k := by omega
  rw [e]
  congr 1
  apply propext
  constructor
  · rintro ⟨_, _, a, b⟩; exact ⟨a, b⟩
  · rintro ⟨a, b⟩; exact ⟨by omega, by omega, a, b⟩
theorem isMaskB_low (m n : Int) (h : n < 0) : isMaskB m n = false := by unfold isMaskB; simp; omega
theorem isMaskB_high (m n : Int) (h : 24 < n) : isMaskB m n = false := by unfold isMaskB; simp; omega

/-! ### the mask of a list -/
def inSet (x : Int) : Bool := decide (0 ≤ x ∧ x < 24)
def orAll (xs : List Int) : Nat := xs.foldl (fun m x => m ||| 2 ^ x.toNat) 0
theorem orAll_snoc (xs : List Int) (x : Int) : orAll (xs ++ [x]) = orAll xs ||| 2 ^ x.toNat := by unfold orAll; rw [List.foldl_append]; rfl
theorem orAll_next (xs : List Int) (k : Nat) (x : Int) (h : xs[k]? = some x) : orAll (xs.take (k + 1)) = orAll (xs.take k) ||| 2 ^ x.toNat := by
  rw [List.take_add_one, h]; exact orAll_snoc _ _
theorem all_next (p : Int → Bool) (xs : List Int) (k : Nat) (x : Int) (h : xs[k]? = some x) : (xs.take (k + 1)).all p = ((xs.take k).all p && p x) := by
  rw [List.take_add_one, h, List.all_append]; simp
theorem foldl_or_lt (xs : List Int) (m : Nat) (hm : m < 2 ^ 24) (h : xs.all inSet = true) : xs.foldl (fun m x => m ||| 2 ^ x.toNat) m < 2 ^ 24 := by
  induction xs generalizing m with
  | nil => exact hm
  | cons x r ih =>
    simp only [List.all_cons, Bool.and_eq_true] at h
    rw [List.foldl_cons]
    refine ih _ ?_ h.2
    have hx : 0 ≤ x ∧ x < 24 := by simpa [inSet] using h.1
    exact Nat.or_lt_two_pow hm (Nat.pow_lt_pow_right (by decide) (by omega))
theorem orAll_lt (xs : List Int) (h : xs.all inSet = true) : orAll xs < 16777216 := foldl_or_lt xs 0 (by decide) h
/-- What MaskOf answers. -/
def maskAns (xs : List Int) : Int × Int := if xs.all inSet = true then (((orAll xs : Nat) : Int), 0) else (0, 2)
theorem maskAns_yes (xs : List Int) (h : xs.all inSet = true) : maskAns xs = (((orAll xs : Nat) : Int), 0) := by unfold maskAns; rw [if_pos h]
theorem maskAns_no (xs : List Int) (k : Nat) (x : Int) (hx : xs[k]? = some x) (h : ¬ (0 ≤ x ∧ x < 24)) : maskAns xs = (0, 2) := by
  unfold maskAns
  rw [if_neg]
  intro hall
  have := List.all_eq_true.1 hall x (List.mem_of_getElem? hx)
  exact h (by simpa [inSet] using this)

/-! ### relations -/
def relB (xs : List Int) : Bool := decide (xs.length ≤ 24) && xs.all (fun x => isMaskB x xs.length)
theorem relB_long (xs : List Int) (h : 24 < xs.length) : relB xs = false := by unfold relB; rw [decide_eq_false (by omega)]; rfl
theorem relB_yes (xs : List Int) (n : Nat) (hn : xs.length = n) (h : n ≤ 24) (ha : xs.all (fun x => isMaskB x n) = true) : relB xs = true := by
  subst hn; unfold relB; rw [decide_eq_true h, ha]; rfl
theorem relB_no (xs : List Int) (n k : Nat) (x : Int) (hn : xs.length = n) (hx : xs[k]? = some x) (h : isMaskB x n = false) : relB xs = false := by
  subst hn
  have : xs.all (fun x => isMaskB x xs.length) = false := by
    rw [Bool.eq_false_iff]
    intro hall
    have := List.all_eq_true.1 hall x (List.mem_of_getElem? hx)
    rw [h] at this; exact absurd this (by decide)
  unfold relB; rw [this, Bool.and_false]
theorem relB_len (xs : List Int) (h : relB xs = true) : xs.length ≤ 24 := by
  unfold relB at h; simp only [Bool.and_eq_true, decide_eq_true_eq] at h; exact h.1
theorem relB_mask (xs : List Int) (h : relB xs = true) (k : Nat) (x : Int) (hx : xs[k]? = some x) : 0 ≤ x ∧ x < ((2 ^ xs.length : Nat) : Int) := by
  have hl := relB_len xs h
  unfold relB at h; simp only [Bool.and_eq_true, decide_eq_true_eq] at h
  have := List.all_eq_true.1 h.2 x (List.mem_of_getElem? hx)
  rw [isMaskB_in _ _ hl] at this
  simpa using this
end Go.Proofs.YtdafdffmkjhhcaaDoor
namespace Go.Proofs.YtdafdffmkjhhcaaDoor
open Go.RowKit
set_option linter.unusedVariables false
set_option maxRecDepth 100000

theorem w64_nat (r : Nat) (h : r < 9223372036854775808) : wrap64 (r : Int) = (r : Int) := by unfold wrap64; omega
theorem w64_p2 (k : Nat) (hk : k ≤ 62) : wrap64 (2 ^ k : Int) = ((2 ^ k : Nat) : Int) := by
  have e : (2 ^ k : Int) = ((2 ^ k : Nat) : Int) := by rw [Int.natCast_pow]; rfl
  rw [e]; exact w64_nat _ (p2_lt k hk)
theorem w64_p2p (k : Nat) (hk : k ≤ 62) : wrap64 (wrap64 (2 ^ k : Int) - 1) = ((2 ^ k - 1 : Nat) : Int) := by
  have hp := p2_lt k hk
  have hq := p2_pos k
  rw [w64_p2 k hk]
  have e : (((2 ^ k : Nat) : Int) - 1) = ((2 ^ k - 1 : Nat) : Int) := by omega
  rw [e]; exact w64_nat _ (by omega)
theorem ret_i (a b : Int) (h : a = b) : Ending.returned (.int .i64 a) = .returned (.int .i64 b) := by rw [h]
theorem ret_b (a b : Bool) (h : a = b) : Ending.returned (.bool a) = .returned (.bool b) := by rw [h]

theorem one_any (k : Nat) (hk : k ≤ 62) (w : World) :
    Calls Tryd.prog 56 #[.int .i64 (k : Int)] w fun e w' => e = .returned (.int .i64 ((2 ^ k : Nat) : Int)) ∧ w = w' := by
  go_enter Tryd.func56, Tryd.ntmps56
  go_wp2
  go_ret
  exact ⟨ret_i _ _ (w64_p2 k hk), rfl⟩
theorem full_any (k : Nat) (hk : k ≤ 62) (w : World) :
    Calls Tryd.prog 128 #[.int .i64 (k : Int)] w fun e w' => e = .returned (.int .i64 ((2 ^ k - 1 : Nat) : Int)) ∧ w = w' := by
  go_enter Tryd.func128, Tryd.ntmps128
  go_wp2
  go_ret
  exact ⟨ret_i _ _ (w64_p2p k hk), rfl⟩
theorem in_any (n lo hi : Int) (w : World) :
    Calls Tryd.prog 101 #[.int .i64 n, .int .i64 lo, .int .i64 hi] w fun e w' => e = .returned (.bool (decide (lo ≤ n ∧ n ≤ hi))) ∧ w = w' := by
  go_enter Tryd.func101, Tryd.ntmps101
  go_wp2
  all_goals go_ret
  · exact ⟨ret_b _ _ (by simp [*]), rfl⟩
  · exact ⟨ret_b _ _ (by simp; omega), rfl⟩
theorem in_true (n lo hi : Int) (h : lo ≤ n ∧ n ≤ hi) (w : World) :
    Calls Tryd.prog 101 #[.int .i64 n, .int .i64 lo, .int .i64 hi] w fun e w' => e = .returned (.bool true) ∧ w = w' :=
  (in_any n lo hi w).mono fun _ _ ⟨he, hw⟩ => ⟨by rw [he, decide_eq_true h], hw⟩
theorem in_false (n lo hi : Int) (h : ¬ (lo ≤ n ∧ n ≤ hi)) (w : World) :
    Calls Tryd.prog 101 #[.int .i64 n, .int .i64 lo, .int .i64 hi] w fun e w' => e = .returned (.bool false) ∧ w = w' :=
  (in_any n lo hi w).mono fun _ _ ⟨he, hw⟩ => ⟨by rw [he, decide_eq_false h], hw⟩
theorem minus_int (n m : Int) (w : World) :
    Calls Tryd.prog 130 #[.int .i64 n, .int .i64 m] w fun e w' => e = .returned (.int .i64 (bits .andNot .i64 n m)) ∧ w = w' := by
  go_enter Tryd.func130, Tryd.ntmps130
  go_wp2
  go_ret
  exact ⟨rfl, rfl⟩
theorem isWithin_int (n m : Int) (w : World) :
    Calls Tryd.prog 183 #[.int .i64 n, .int .i64 m] w fun e w' => e = .returned (.bool (bits .andNot .i64 n m == 0)) ∧ w = w' := by
  go_enter Tryd.func183, Tryd.ntmps183
  go_wp2_with (go_at_call 130; refine (minus_int _ _ _).mono ?_; rintro e w' ⟨rfl, rfl⟩)
  go_ret
  exact ⟨rfl, rfl⟩
theorem firstNumbers_any (k : Nat) (hk : k ≤ 62) (w : World) :
    Calls Tryd.prog 111 #[.int .i64 (k : Int)] w fun e w' => e = .returned (.int .i64 ((2 ^ k - 1 : Nat) : Int)) ∧ w = w' := by
  go_enter Tryd.func111, Tryd.ntmps111
  go_wp2
  go_ret
  exact ⟨ret_i _ _ (w64_p2p k hk), rfl⟩
/-- impl.IsMask: for a number of int64's kind. -/
theorem isMask_any (m n : Int) (hm1 : -9223372036854775808 ≤ m) (hm2 : m ≤ 9223372036854775807) (w : World) :
    Calls Tryd.prog 166 #[.int .i64 m, .int .i64 n] w fun e w' => e = .returned (.bool (isMaskB m n)) ∧ w = w' := by
  by_cases h0 : 0 ≤ n
  · by_cases h1 : n ≤ 24
    · obtain ⟨k, rfl⟩ := Int.eq_ofNat_of_zero_le h0
      have hk : k ≤ 62 := by omega
      go_enter Tryd.func166, Tryd.ntmps166
      go_wp2_with (first | (go_at_call 111; refine (firstNumbers_any k hk _).mono ?_; rintro e w' ⟨rfl, rfl⟩) | (go_at_call 183; refine (isWithin_int _ _ _).mono ?_; rintro e w' ⟨rfl, rfl⟩))
      go_ret
      exact ⟨ret_b _ _ (by rw [andNot_full m k hk hm1 hm2, isMaskB_in m k (by omega)]), rfl⟩
    · go_enter Tryd.func166, Tryd.ntmps166
      go_wp2
      go_ret
      exact ⟨ret_b _ _ (isMaskB_high m n (by omega)).symm, rfl⟩
  · go_enter Tryd.func166, Tryd.ntmps166
    go_wp2
    go_ret
    exact ⟨ret_b _ _ (isMaskB_low m n (by omega)).symm, rfl⟩
end Go.Proofs.YtdafdffmkjhhcaaDoor
namespace Go.Proofs.YtdafdffmkjhhcaaDoor
open Go.RowKit
set_option linter.unusedVariables false
set_option maxRecDepth 100000

theorem add_zero_off (g j : Nat) : (⟨g, 0, none⟩ : Addr).add j = ⟨g, j, none⟩ := by
  unfold Addr.add
  by_cases h : j = 0 <;> simp [h]
/-- The slice value '.slice A n _' reads as the numbers xs. -/
def Rd (w : World) (A : Option Addr) (n : Nat) (xs : List Int) : Prop :=
  xs.length = n ∧ (0 < n → ∃ b off, A = some ⟨b, off, none⟩ ∧ b < w.heap.size ∧ ∀ j x, xs[j]? = some x → w.cell? ⟨b, off + j, none⟩ = some (.int .i64 x))
theorem Rd.at_ {w : World} {A : Option Addr} {n : Nat} {xs : List Int} (h : Rd w A n xs) {k : Nat} (hk : k < n) :
    ∃ b off x, A = some ⟨b, off, none⟩ ∧ b < w.heap.size ∧ xs[k]? = some x ∧ w.cell? ⟨b, off + k, none⟩ = some (.int .i64 x) := by
  obtain ⟨b, off, e, hb, hc⟩ := h.2 (by omega)
  have hl : k < xs.length := by have := h.1; omega
  exact ⟨b, off, xs[k], e, hb, List.getElem?_eq_getElem hl, hc k _ (List.getElem?_eq_getElem hl)⟩
theorem Rd.keep {w w' : World} {A : Option Addr} {n : Nat} {xs : List Int} (h : Rd w A n xs) (hs : w.heap.size ≤ w'.heap.size) (hk : ∀ p : Addr, p.block < w.heap.size → w'.cell? p = w.cell? p) : Rd w' A n xs :=
  ⟨h.1, fun hn => by
    obtain ⟨b, off, e, hb, hc⟩ := h.2 hn
    exact ⟨b, off, e, by omega, fun j x hx => (hk ⟨b, off + j, none⟩ hb).trans (hc j x hx)⟩⟩
theorem Rd.below {w w' : World} {A : Option Addr} {n : Nat} {xs : List Int} (h : Rd w A n xs) (hb : Below w.heap.size w w') : Rd w' A n xs :=
  h.keep hb.size fun _ hp => hb.cell hp
theorem Rd.nil (w : World) (A : Option Addr) : Rd w A 0 [] := ⟨rfl, fun h => absurd h (by omega)⟩

/-- The slice value '.slice A n c' is the call's own, made behind block B, and holds the numbers xs. -/
def Own (E : TypeId) (w : World) (B : Nat) (A : Option Addr) (n c : Nat) (xs : List Int) : Prop :=
  w.ownsRow B E 1 (.slice A n c) n (xs.map (Value.int .i64))
theorem Own.len {E : TypeId} {w : World} {B : Nat} {A : Option Addr} {n c : Nat} {xs : List Int} (h : Own E w B A n c xs) : xs.length = n := by
  have := h.1; simpa using this
theorem Own.rd {E : TypeId} {w : World} {B : Nat} {A : Option Addr} {n c : Nat} {xs : List Int} (h : Own E w B A n c xs) : Rd w A n xs := by
  refine ⟨h.len, fun hn => ?_⟩
  obtain ⟨g, cap, hv, _, hlt⟩ := World.ownsRow.form h hn
  have hA : A = some ⟨g, 0, none⟩ := by injection hv
  subst hA
  refine ⟨g, 0, rfl, hlt, fun j x hx => ?_⟩
  have := World.ownsRow.cells h (g := g) rfl j (.int .i64 x) (by simp [hx])
  rw [add_zero_off] at this
  rw [Nat.zero_add]; exact this
/-- An own slice of at least one element: where it lies. -/
theorem Own.form {E : TypeId} {w : World} {B : Nat} {A : Option Addr} {n c : Nat} {xs : List Int} (h : Own E w B A n c xs) (hn : 0 < n) :
    ∃ g, A = some ⟨g, 0, none⟩ ∧ B ≤ g ∧ g < w.heap.size := by
  obtain ⟨g, cap, hv, hb, hlt⟩ := World.ownsRow.form h hn
  exact ⟨g, by injection hv, hb, hlt⟩
theorem Own.cell {E : TypeId} {w : World} {B g n c k : Nat} {xs : List Int} {x : Int} (h : Own E w B (some ⟨g, 0, none⟩) n c xs) (hx : xs[k]? = some x) : w.cell? ⟨g, k, none⟩ = some (.int .i64 x) := by
  have := World.ownsRow.cells h (g := g) rfl k (.int .i64 x) (by simp [hx])
  rw [add_zero_off] at this
  exact this
theorem Own.frozen {E : TypeId} {w : World} {B g n c : Nat} {xs : List Int} (h : Own E w B (some ⟨g, 0, none⟩) n c xs) (k : Nat) : w.frozen? ⟨g, k, none⟩ = false := World.ownsRow.frozenAt h k
theorem Own.set_ {E : TypeId} {w : World} {B g n c : Nat} {xs : List Int} (h : Own E w B (some ⟨g, 0, none⟩) n c xs) (k : Nat) (x : Int) :
    Own E (w.setCell ⟨g, k, none⟩ (.int .i64 x)) B (some ⟨g, 0, none⟩) n c (xs.set k x) := by
  have := (World.ownsRow.stored h k (.int .i64 x)).1
  unfold Own
  rw [List.map_set]; exact this
theorem Own.kept {E : TypeId} {w w' : World} {B : Nat} {A : Option Addr} {n c : Nat} {xs : List Int} (h : Own E w B A n c xs) {row : Option Nat} (hg : w.grownBy w' row) (hne : A.map (·.block) = none ∨ A.map (·.block) ≠ row) : Own E w' B A n c xs := by
  refine World.ownsRow.kept h hg ?_
  cases A
  · exact .inl rfl
  · simpa [Value.ownBlock] using hne
/-- A world below whose heap's size nothing has turned keeps what is owned in it. -/
theorem grownBy_of_below {w w' : World} (h : Below w.heap.size w w') : w.grownBy w' none := ⟨h.os, h.tape, h.output, h.size, fun k hk _ => h.block k hk⟩
theorem Own.below {E : TypeId} {w w' : World} {B : Nat} {A : Option Addr} {n c : Nat} {xs : List Int} (h : Own E w B A n c xs) (hb : Below w.heap.size w w') : Own E w' B A n c xs := by
  refine h.kept (grownBy_of_below hb) ?_
  cases A <;> simp
theorem Own.mono {E : TypeId} {w : World} {B B' : Nat} {A : Option Addr} {n c : Nat} {xs : List Int} (h : Own E w B A n c xs) (hB : B' ≤ B) : Own E w B' A n c xs := by
  refine ⟨h.1, ?_⟩
  rcases h.2 with h0 | ⟨g, cap, cur, e, hg, rest⟩
  · exact .inl h0
  · exact .inr ⟨g, cap, cur, e, by omega, rest⟩
theorem Own.nil (E : TypeId) (w : World) (B : Nat) : Own E w B none 0 0 [] := World.ownsRow_nil w B _ _

theorem Own.lt {E : TypeId} {w : World} {B n c : Nat} {A : Option Addr} {xs : List Int} (h : Own E w B A n c xs) : ∀ k, A.map (·.block) = some k → B ≤ k ∧ k < w.heap.size := by
  intro k hk
  refine World.ownsRow.lt h k ?_
  cases A with
  | none => cases hk
  | some a => simpa [Value.ownBlock] using hk
/-- What is owned stays while another row is written. -/
theorem Own.apart {E : TypeId} {w w' : World} {B n c : Nat} {A : Option Addr} {xs : List Int} (h : Own E w B A n c xs) {row : Option Nat} (hg : w.grownBy w' row) (hne : ∀ k, A.map (·.block) = some k → row ≠ some k) : Own E w' B A n c xs := by
  refine h.kept hg ?_
  cases hA : A.map (·.block) with
  | none => exact .inl rfl
  | some k => exact .inr fun e => hne k hA e.symm
/-- What owns a row of numbers is a slice. -/
theorem own_shape {E : TypeId} {w : World} {B n : Nat} {v : Value} {xs : List Int} (h : w.ownsRow B E 1 v n (xs.map (Value.int .i64))) : ∃ A c, v = .slice A n c ∧ Own E w B A n c xs := by
  rcases h.2 with ⟨rfl, rfl⟩ | ⟨g, cap, cur, rfl, _⟩
  · exact ⟨none, 0, rfl, h⟩
  · exact ⟨_, cap, rfl, h⟩
theorem grown_set {w wr : World} {g : Nat} (h : w.grownBy wr (some g)) (t : Nat) (v : Value) : w.grownBy (wr.setCell ⟨g, t, none⟩ v) (some g) :=
  ⟨h.os, h.tape, h.output, by rw [World.size_setCell]; exact h.size, fun k hk hne => by rw [Below.heap_setCell wr _ v k (fun e => hne (by rw [e]))]; exact h.block k hk hne⟩
theorem below_drewN {B : Nat} {a w : World} (h : Below B a w) (n : Nat) : Below B a (w.drewN n) := ⟨h.os, h.tape, h.output, h.size, h.block⟩
theorem info_int : (Tryd.prog.info? 2).map (fun i => (i.zero, i.size, i.bytes)) = some (some (.int .i64 0), 1, 8) := by kernel_rfl
theorem info_set : (Tryd.prog.info? 77).map (fun i => (i.zero, i.size, i.bytes)) = some (some (.int .i64 0), 1, 8) := by kernel_rfl
theorem made_int (n : Nat) : (madeCells (Value.int .i64 0).cells (n * 1)).toList = (List.replicate n (0 : Int)).map (Value.int .i64) := by
  have : (Value.int .i64 0).cells = #[Value.int .i64 0] := rfl
  rw [this, toList_madeCells_one, Nat.mul_one, List.map_replicate]

/-- A maker's answer: a slice of its own that holds xs; nothing else is turned. -/
def Makes (w : World) (xs : List Int) (e : Ending) (w' : World) : Prop :=
  ∃ A c, e = .returned (.slice A xs.length c) ∧ Own 2 w' w.heap.size A xs.length c xs ∧ Below w.heap.size w w'

/-- All numbers of int64's kind. -/
def Wf (xs : List Int) : Prop := ∀ x ∈ xs, -9223372036854775808 ≤ x ∧ x ≤ 9223372036854775807
theorem Wf.at_ {xs : List Int} (h : Wf xs) {k : Nat} {x : Int} (hx : xs[k]? = some x) : -9223372036854775808 ≤ x ∧ x ≤ 9223372036854775807 := h x (List.mem_of_getElem? hx)
theorem block_lt_of_cell {w : World} {b o : Nat} {v : Value} (h : w.cell? ⟨b, o, none⟩ = some v) : b < w.heap.size := by
  rcases Nat.lt_or_ge b w.heap.size with hlt | hge
  · exact hlt
  · unfold World.cell? at h
    simp [Array.getElem?_eq_none hge] at h
theorem rd_of_row {w : World} {a : Option Addr} {len cap : Nat} {zs : List Int}
    (h : (a = none ∧ len = 0 ∧ cap = 0 ∧ zs = []) ∨ ∃ x, a = some x ∧ len ≤ cap ∧ cap ≤ maxLen ∧ zs.length = cap ∧ (∀ i, i < zs.length → w.cell? (x.add i) = some (.int .i64 (zs.getD i 0))) ∧ ∀ n ∈ zs, (Lit.int .i64 n).wf = true) :
    ∃ xs, Rd w a len xs ∧ Wf xs ∧ len ≤ maxLen := by
  rcases h with ⟨rfl, rfl, rfl, rfl⟩ | ⟨x, rfl, hl, hm, hz, hcell, hwz⟩
  · exact ⟨[], Rd.nil _ _, fun x hx => (by cases hx), Nat.zero_le _⟩
  · refine ⟨zs.take len, ⟨by rw [List.length_take]; omega, fun hn => ?_⟩, fun y hy => bounds_i64 (hwz y (List.mem_of_mem_take hy)), by omega⟩
    obtain ⟨b, off, spot⟩ := x
    have hc := hcell 0 (by omega)
    have hspot : spot = none := by simpa [Addr.add] using World.cell?_spot hc
    subst hspot
    have hc0 : w.cell? ⟨b, off, none⟩ = some (.int .i64 (zs.getD 0 0)) := by simpa [Addr.add] using hc
    refine ⟨b, off, rfl, block_lt_of_cell hc0, fun j y hy => ?_⟩
    have hj : j < len := by
      rcases Nat.lt_or_ge j len with h | h
      · exact h
      · rw [List.getElem?_eq_none (by rw [List.length_take]; omega)] at hy; cases hy
    have hc := hcell j (by omega)
    have e : (⟨b, off, none⟩ : Addr).add j = ⟨b, off + j, none⟩ := by
      unfold Addr.add
      by_cases h0 : j = 0 <;> simp [h0]
    rw [e] at hc
    rw [hc]
    rw [List.getElem?_take_of_lt hj] at hy
    rw [List.getD_eq_getElem?_getD, hy]; rfl
end Go.Proofs.YtdafdffmkjhhcaaDoor
namespace Go.Proofs.YtdafdffmkjhhcaaDoor
open Go.RowKit
set_option linter.unusedVariables false
set_option maxRecDepth 100000

theorem take_set_next (xs : List Int) (ys : List Int) (k : Nat) (x : Int) (hx : xs[k]? = some x) (hy : ys.length = xs.length - k) :
    (xs.take k ++ ys).set k x = xs.take (k + 1) ++ ys.drop 1 := by
  have hk : k < xs.length := by
    rcases Nat.lt_or_ge k xs.length with h | h
    · exact h
    · rw [List.getElem?_eq_none h] at hx; cases hx
  have hl : (xs.take k).length = k := by rw [List.length_take]; omega
  rw [List.set_append, if_neg (by omega), hl, Nat.sub_self]
  cases ys with
  | nil => simp at hy; omega
  | cons y r =>
    rw [List.set_cons_zero, List.drop_one, List.tail_cons, List.take_add_one, hx]
    simp

set_option maxHeartbeats 400000 in
theorem toInt_any (A : Option Addr) (n c : Nat) (xs : List Int) (w : World) (h : Rd w A n xs) (hn : n ≤ 1048576) :
    Calls Tryd.prog 22 #[.slice A n c] w fun e w' => ∃ c', e = .returned (.slice (some ⟨w.heap.size, 0, none⟩) n c') ∧ Own 2 w' w.heap.size (some ⟨w.heap.size, 0, none⟩) n c' xs ∧ Below w.heap.size w w' := by
  obtain ⟨i0, hi, hz0, hz1, hz2⟩ := info_parts info_int
  have hml : n ≤ maxLen := by unfold maxLen; omega
  have hby : i0.bytes * n ≤ 281474976710656 := by rw [hz2]; omega
  go_enter Tryd.func22, Tryd.ntmps22
  go_wp2_with (first | (at_make; go_loud (refine wpList_make_full _ rfl _ _ _ rfl w.heap.size 2 i0 (.int .i64 0) 1 Tryd.underlying22 hi hz0 hz1 _ _ (n : Int) (n : Int) n rfl rfl rfl rfl hby hml (Nat.le_refl _) ?_); intro w1 hown0 hg1))
  have hown : Own 2 w1 w.heap.size (some ⟨w.heap.size, 0, none⟩) n n (List.replicate n 0) := by
    unfold Own; rw [← made_int]; exact hown0
  clear hown0
  have hb1 : Below w.heap.size w w1 := (Below.refl _ _).grown hg1 (Nat.le_refl _) (by simp)
  clear hg1
  go_loopw [4] (fun i wr => ∃ k : Nat, k ≤ n ∧ i = .int .i64 k ∧ Own 2 wr w.heap.size (some ⟨w.heap.size, 0, none⟩) n n (xs.take k ++ List.replicate (n - k) 0) ∧ Below w.heap.size w wr) (fun i _ => n - (intOf i).toNat)
  case atStart => exact ⟨0, Nat.zero_le _, rfl, by simpa using hown, hb1⟩
  case round =>
    obtain ⟨k, hk, rfl, ho, hb⟩ := hrel
    by_cases hlt : k < n
    · obtain ⟨b, off, x, rfl, hbs, hx, hcx⟩ := h.at_ hlt
      have hc1 : wr.cell? ⟨b, off + k, none⟩ = some (.int .i64 x) := (hb.cell (p := ⟨b, off + k, none⟩) hbs).trans hcx
      have hf : wr.frozen? ⟨w.heap.size, k, none⟩ = false := ho.frozen k
      obtain ⟨u, hu⟩ : ∃ u, (xs.take k ++ List.replicate (n - k) 0)[k]? = some u := ⟨_, List.getElem?_eq_getElem (by have := h.1; simp; omega)⟩
      have hc2 : wr.cell? ⟨w.heap.size, k, none⟩ = some (.int .i64 u) := ho.cell hu
      have ho2 := ho.set_ k x
      rw [take_set_next xs _ k x hx (by have := h.1; simp; omega)] at ho2
      have hb2 := hb.setCell (p := ⟨w.heap.size, k, none⟩) (Nat.le_refl _) (.int .i64 x)
      have HX : Hid (xs[k]? = some x) := Lib.hid hx
      have HU : Hid ((xs.take k ++ List.replicate (n - k) 0)[k]? = some u) := Lib.hid hu
      clear hx hu hcx
      go_wp2
      go_roundw
      case rel => exact ⟨k + 1, by omega, by go_num, by have e : (List.replicate (n - k) (0 : Int)).drop 1 = List.replicate (n - (k + 1)) 0 := by { rw [List.drop_replicate]; congr 1 }
                                                        rw [← e]; exact ho2, hb2⟩
      case measure => simp [intOf]; omega
    · obtain rfl : k = n := by omega
      go_wp2
      go_ret
      refine ⟨_, rfl, ?_, hb⟩
      have e : xs.take k ++ List.replicate (k - k) 0 = xs := by rw [Nat.sub_self, List.replicate_zero, List.append_nil]; exact List.take_of_length_le (by have := h.1; omega)
      rw [← e]; exact ho
set_option maxHeartbeats 400000 in
/-- Two slices with the same numbers are found equal. -/
theorem eq_true (A B : Option Addr) (n c d : Nat) (xs : List Int) (w : World) (h : Rd w A n xs) (h2 : Rd w B n xs) (hn : n ≤ 9223372036854775807) :
    Calls Tryd.prog 24 #[.slice A n c, .slice B n d] w fun e w' => e = .returned (.bool true) ∧ Below w.heap.size w w' := by
  go_enter Tryd.func24, Tryd.ntmps24
  go_wp2
  go_loopw [5] (fun i wr => ∃ k : Nat, k ≤ n ∧ i = .int .i64 k ∧ Below w.heap.size w wr) (fun i _ => n - (intOf i).toNat)
  case atStart => exact ⟨0, Nat.zero_le _, rfl, Below.refl _ _⟩
  case round =>
    obtain ⟨k, hk, rfl, hb⟩ := hrel
    by_cases hlt : k < n
    · obtain ⟨b, off, x, rfl, hbs, hx, hcx⟩ := h.at_ hlt
      obtain ⟨b2, off2, x2, rfl, hbs2, hx2, hcx2⟩ := h2.at_ hlt
      obtain rfl : x2 = x := by rw [hx] at hx2; injection hx2 with e; exact e.symm
      have hc1 : wr.cell? ⟨b, off + k, none⟩ = some (.int .i64 x2) := (hb.cell (p := ⟨b, off + k, none⟩) hbs).trans hcx
      have hc2 : wr.cell? ⟨b2, off2 + k, none⟩ = some (.int .i64 x2) := (hb.cell (p := ⟨b2, off2 + k, none⟩) hbs2).trans hcx2
      clear hx hx2 hcx hcx2 h h2
      go_wp2
      go_quiet (fail)
      go_wp2
      go_roundw
      case rel => exact ⟨k + 1, by omega, by go_num, by first | exact below_drewN hb _ | exact hb.drew⟩
      case measure => simp [intOf]; omega
    · obtain rfl : k = n := by omega
      go_wp2
      go_ret
      exact ⟨rfl, hb⟩
end Go.Proofs.YtdafdffmkjhhcaaDoor
namespace Go.Proofs.YtdafdffmkjhhcaaDoor
open Go.RowKit
set_option linter.unusedVariables false
set_option maxRecDepth 100000

theorem p24 (n : Nat) (h : n ≤ 24) : 2 ^ n ≤ 16777216 := Nat.pow_le_pow_right (by decide) h

/-- What relationOf leaves. -/
def RelPost (w : World) (n : Nat) (xs : List Int) (e : Ending) (w' : World) : Prop :=
  (relB xs = true ∧ ∃ A c, e = .returned (.tuple #[.slice A n c, .bool true]) ∧ Own 77 w' w.heap.size A n c xs ∧ Below w.heap.size w w') ∨
  (relB xs = false ∧ e = .returned (.tuple #[.slice none 0 0, .bool false]) ∧ Below w.heap.size w w')

set_option maxHeartbeats 400000 in
theorem relationOf_any (A : Option Addr) (n c : Nat) (xs : List Int) (w : World) (h : Rd w A n xs) (hwf : Wf xs) (hn : n ≤ 9223372036854775807) :
    Calls Tryd.prog 140 #[.slice A n c] w (RelPost w n xs) := by
  by_cases h24 : n ≤ 24
  · obtain ⟨i0, hi, hz0, hz1, hz2⟩ := info_parts info_set
    have hml : n ≤ maxLen := by unfold maxLen; omega
    have hby : i0.bytes * n ≤ 281474976710656 := by rw [hz2]; omega
    go_enter Tryd.func140, Tryd.ntmps140
    go_wp2_with (first | (at_make; refine wpList_make_full _ rfl _ _ _ rfl w.heap.size 77 i0 (.int .i64 0) 1 Tryd.underlying66 hi hz0 hz1 _ _ (n : Int) (n : Int) n rfl rfl rfl rfl hby hml (Nat.le_refl _) ?_; intro w1 hown0 hg1))
    have hown : Own 77 w1 w.heap.size (some ⟨w.heap.size, 0, none⟩) n n (List.replicate n 0) := by
      unfold Own; rw [← made_int]; exact hown0
    clear hown0
    have hb1 : Below w.heap.size w w1 := (Below.refl _ _).grown hg1 (Nat.le_refl _) (by simp)
    clear hg1
    go_loopw [16] (fun i wr => ∃ k : Nat, k ≤ n ∧ i = .int .i64 k ∧ Own 77 wr w.heap.size (some ⟨w.heap.size, 0, none⟩) n n (xs.take k ++ List.replicate (n - k) 0) ∧ Below w.heap.size w wr ∧ (xs.take k).all (fun x => isMaskB x n) = true) (fun i _ => n - (intOf i).toNat)
    case atStart => exact ⟨0, Nat.zero_le _, rfl, by simpa using hown, hb1, rfl⟩
    case round =>
      obtain ⟨k, hk, rfl, ho, hb, hall⟩ := hrel
      by_cases hlt : k < n
      · obtain ⟨b, off, x, rfl, hbs, hx, hcx⟩ := h.at_ hlt
        have hc1 : wr.cell? ⟨b, off + k, none⟩ = some (.int .i64 x) := (hb.cell (p := ⟨b, off + k, none⟩) hbs).trans hcx
        have hxb := hwf.at_ hx
        have hf : wr.frozen? ⟨w.heap.size, k, none⟩ = false := ho.frozen k
        obtain ⟨u, hu⟩ : ∃ u, (xs.take k ++ List.replicate (n - k) 0)[k]? = some u := ⟨_, List.getElem?_eq_getElem (by have := h.1; simp; omega)⟩
        have hc2 : wr.cell? ⟨w.heap.size, k, none⟩ = some (.int .i64 u) := ho.cell hu
        have ho2 := ho.set_ k x
        rw [take_set_next xs _ k x hx (by have := h.1; simp; omega)] at ho2
        have hb2 := hb.setCell (p := ⟨w.heap.size, k, none⟩) (Nat.le_refl _) (.int .i64 x)
        have HX : Hid (xs[k]? = some x) := Lib.hid hx
        have HU : Hid ((xs.take k ++ List.replicate (n - k) 0)[k]? = some u) := Lib.hid hu
        have HA := Lib.hid hall
        have HL := Lib.hid h.1
        clear hx hu hcx hall
        by_cases hmk : isMaskB x n = true
        · go_wp2_with (go_at_call 166; refine (isMask_any _ _ hxb.1 hxb.2 _).mono ?_; rintro e w' ⟨rfl, rfl⟩)
          go_roundw
          case rel => exact ⟨k + 1, by omega, by go_num, by have e : (List.replicate (n - k) (0 : Int)).drop 1 = List.replicate (n - (k + 1)) 0 := by { rw [List.drop_replicate]; congr 1 }
                                                            rw [← e]; exact ho2, hb2, by rw [all_next (fun x => isMaskB x n) xs k _ HX.out, HA.out, hmk]; rfl⟩
          case measure => simp [intOf]; omega
        · have hmk2 : isMaskB x n = false := by simpa using hmk
          clear hmk
          go_wp2_with (go_at_call 166; refine (isMask_any _ _ hxb.1 hxb.2 _).mono ?_; rintro e w' ⟨rfl, rfl⟩)
          go_ret2
          exact .inr ⟨relB_no xs n k x HL.out HX.out hmk2, rfl, hb⟩
      · obtain rfl : k = n := by omega
        have e : xs.take k = xs := List.take_of_length_le (by have := h.1; omega)
        rw [e] at hall
        rw [e, Nat.sub_self, List.replicate_zero, List.append_nil] at ho
        have hyes := Lib.hid (relB_yes xs k h.1 h24 hall)
        clear hall e
        go_wp2
        go_ret2
        exact .inl ⟨hyes.out, _, _, rfl, ho, hb⟩
  · have hno := Lib.hid (relB_long xs (by have := h.1; omega))
    go_enter Tryd.func140, Tryd.ntmps140
    go_wp2
    go_ret2
    exact .inr ⟨hno.out, rfl, Below.refl _ _⟩
theorem relationOf_yes (A : Option Addr) (n c : Nat) (xs : List Int) (w : World) (h : Rd w A n xs) (hwf : Wf xs) (hn : n ≤ 9223372036854775807) (hr : relB xs = true) :
    Calls Tryd.prog 140 #[.slice A n c] w fun e w' => ∃ A c, e = .returned (.tuple #[.slice A n c, .bool true]) ∧ Own 77 w' w.heap.size A n c xs ∧ Below w.heap.size w w' :=
  (relationOf_any A n c xs w h hwf hn).mono fun e w' hp => by
    rcases hp with ⟨_, hp⟩ | ⟨h0, _⟩
    · exact hp
    · rw [hr] at h0; cases h0
theorem relationOf_no (A : Option Addr) (n c : Nat) (xs : List Int) (w : World) (h : Rd w A n xs) (hwf : Wf xs) (hn : n ≤ 9223372036854775807) (hr : relB xs = false) :
    Calls Tryd.prog 140 #[.slice A n c] w fun e w' => e = .returned (.tuple #[.slice none 0 0, .bool false]) ∧ Below w.heap.size w w' :=
  (relationOf_any A n c xs w h hwf hn).mono fun e w' hp => by
    rcases hp with ⟨h0, _⟩ | ⟨_, hp⟩
    · rw [hr] at h0; cases h0
    · exact hp

theorem full_q (k : Nat) (hk : k ≤ 62) (w : World) (m : Nat) :
    Calls Tryd.prog 128 #[.int .i64 (k : Int)] (w.drewN m) fun e w'' => e = .returned (.int .i64 ((2 ^ k - 1 : Nat) : Int)) ∧ ∃ m', w'' = w.drewN m' :=
  Calls.quiet_of_same ((full_any k hk _).mono fun _ _ ⟨he, hw⟩ => ⟨he, hw.symm⟩)
theorem in_true_q (n lo hi : Int) (h : lo ≤ n ∧ n ≤ hi) (w : World) (m : Nat) :
    Calls Tryd.prog 101 #[.int .i64 n, .int .i64 lo, .int .i64 hi] (w.drewN m) fun e w'' => e = .returned (.bool true) ∧ ∃ m', w'' = w.drewN m' :=
  Calls.quiet_of_same ((in_true n lo hi h _).mono fun _ _ ⟨he, hw⟩ => ⟨he, hw.symm⟩)
theorem in_false_q (n lo hi : Int) (h : ¬ (lo ≤ n ∧ n ≤ hi)) (w : World) (m : Nat) :
    Calls Tryd.prog 101 #[.int .i64 n, .int .i64 lo, .int .i64 hi] (w.drewN m) fun e w'' => e = .returned (.bool false) ∧ ∃ m', w'' = w.drewN m' :=
  Calls.quiet_of_same ((in_false n lo hi h _).mono fun _ _ ⟨he, hw⟩ => ⟨he, hw.symm⟩)
def inFull (m : Nat) (xs : List Int) : Bool := xs.all fun x => decide (0 ≤ x ∧ x ≤ ((2 ^ m - 1 : Nat) : Int))
set_option maxHeartbeats 400000 in
theorem masks_any (m : Nat) (hm : m ≤ 62) (A : Option Addr) (n c : Nat) (xs : List Int) (w : World) (h : Rd w A n xs) (hn : n ≤ 9223372036854775807) :
    Calls Tryd.prog 102 #[.int .i64 (m : Int), .slice A n c] w fun e w' => e = .returned (.bool (inFull m xs)) ∧ Below w.heap.size w w' := by
  go_enter Tryd.func102, Tryd.ntmps102
  go_wp2
  go_loopw [5] (fun i wr => ∃ k : Nat, k ≤ n ∧ i = .int .i64 k ∧ Below w.heap.size w wr ∧ (xs.take k).all (fun x => decide (0 ≤ x ∧ x ≤ ((2 ^ m - 1 : Nat) : Int))) = true) (fun i _ => n - (intOf i).toNat)
  case atStart => exact ⟨0, Nat.zero_le _, rfl, Below.refl _ _, rfl⟩
  case round =>
    obtain ⟨k, hk, rfl, hb, hall⟩ := hrel
    by_cases hlt : k < n
    · obtain ⟨b, off, x, rfl, hbs, hx, hcx⟩ := h.at_ hlt
      have hc1 : wr.cell? ⟨b, off + k, none⟩ = some (.int .i64 x) := (hb.cell (p := ⟨b, off + k, none⟩) hbs).trans hcx
      have HX := Lib.hid hx
      have HA := Lib.hid hall
      clear hx hcx hall
      by_cases hmk : 0 ≤ x ∧ x ≤ ((2 ^ m - 1 : Nat) : Int)
      · have HM := Lib.hid hmk
        clear hmk
        go_wp2_with fail
        go_quiet ((first | (go_at_call 128; exact full_q m hm _ _) | (go_at_call 101; exact in_true_q _ _ _ HM.out _ _)))
        go_wp2
        go_roundw
        case rel => exact ⟨k + 1, by omega, by go_num, by first | exact below_drewN hb _ | exact hb.drew, by rw [all_next _ xs k _ HX.out, HA.out, decide_eq_true HM.out]; rfl⟩
        case measure => simp [intOf]; omega
      · have HM := Lib.hid hmk
        clear hmk
        go_wp2_with fail
        go_quiet ((first | (go_at_call 128; exact full_q m hm _ _) | (go_at_call 101; exact in_false_q _ _ _ HM.out _ _)))
        go_wp2
        go_ret
        refine ⟨ret_b _ _ ?_, by first | exact below_drewN hb _ | exact hb.drew⟩
        symm
        show inFull m xs = false
        rw [Bool.eq_false_iff]
        intro hl
        have := List.all_eq_true.1 (show xs.all (fun x => decide (0 ≤ x ∧ x ≤ ((2 ^ m - 1 : Nat) : Int))) = true from hl) x (List.mem_of_getElem? HX.out)
        exact HM.out (by simpa using this)
    · obtain rfl : k = n := by omega
      have e : xs.take k = xs := List.take_of_length_le (by have := h.1; omega)
      rw [e] at hall
      have HA := Lib.hid hall
      clear hall e
      go_wp2
      go_ret
      exact ⟨ret_b _ _ (show true = inFull m xs from HA.out.symm), hb⟩
theorem all_mask (xs : List Int) (n : Nat) (hn : n ≤ 24) : (xs.all fun x => decide (0 ≤ x ∧ x ≤ ((2 ^ n - 1 : Nat) : Int))) = xs.all (fun x => isMaskB x n) := by
  congr 1
  funext x
  rw [isMaskB_in x n hn]
  have := p2_pos n
  congr 1
  apply propext
  constructor <;> rintro ⟨a, b⟩ <;> exact ⟨a, by omega⟩
end Go.Proofs.YtdafdffmkjhhcaaDoor
namespace Go.Proofs.YtdafdffmkjhhcaaDoor
open Go.RowKit
set_option linter.unusedVariables false
set_option maxRecDepth 100000

theorem bit_val (m k : Nat) (hm : m < 9223372036854775808) : (bits .and .i64 ((m : Int) / 2 ^ k) 1 == 1) = m.testBit k := by
  have e : (m : Int) / 2 ^ k = ((m / 2 ^ k : Nat) : Int) := by rw [Int.natCast_ediv, Int.natCast_pow]; rfl
  have hle : m / 2 ^ k ≤ m := Nat.div_le_self _ _
  have h1 := i64_and_nat (m / 2 ^ k) 1 (by omega) (by decide)
  rw [e, show (1 : Int) = ((1 : Nat) : Int) from rfl, h1, nat_mask1, Nat.testBit_eq_decide_div_mod_eq]
  rw [Bool.eq_iff_iff]
  simp only [beq_iff_eq, decide_eq_true_eq]
  omega
theorem bit_any (m k : Nat) (hm : m < 9223372036854775808) (hk : k ≤ 62) (w : World) :
    Calls Tryd.prog 79 #[.int .i64 (m : Int), .int .i64 (k : Int)] w fun e w' => e = .returned (.bool (m.testBit k)) ∧ w = w' := by
  go_enter Tryd.func79, Tryd.ntmps79
  go_wp2
  go_ret
  exact ⟨ret_b _ _ (bit_val m k hm), rfl⟩
theorem has_any (m k : Nat) (hm : m < 9223372036854775808) (hk : k ≤ 62) (w : World) :
    Calls Tryd.prog 116 #[.int .i64 (m : Int), .int .i64 (k : Int)] w fun e w' => e = .returned (.bool (m.testBit k)) ∧ w = w' := by
  go_enter Tryd.func116, Tryd.ntmps116
  go_wp2
  go_ret
  exact ⟨ret_b _ _ (bit_val m k hm), rfl⟩
/-- A maker of a list: its own slice of elements of type E that holds xs; nothing else is turned. -/
def MakesE (E : TypeId) (w : World) (n : Nat) (xs : List Int) (e : Ending) (w' : World) : Prop :=
  ∃ A c, e = .returned (.slice A n c) ∧ Own E w' w.heap.size A n c xs ∧ Below w.heap.size w w'
theorem rd_news {w : World} {b off n : Nat} {xs : List Int} (h : Rd w (some ⟨b, off, none⟩) n xs) (hn : 0 < n) :
    ∀ j u, (xs.map (Value.int .i64))[j]? = some u → w.cell? ((⟨b, off, none⟩ : Addr).add j) = some u := by
  intro j u hu
  obtain ⟨b', off', e, hb, hc⟩ := h.2 hn
  injection e with e
  injection e with e1 e2
  subst e1 e2
  rw [List.getElem?_map] at hu
  cases hx : xs[j]? with
  | none => rw [hx] at hu; cases hu
  | some x =>
    rw [hx] at hu
    injection hu with hu
    subst hu
    have e : (⟨b, off, none⟩ : Addr).add j = ⟨b, off + j, none⟩ := by
      unfold Addr.add
      by_cases h0 : j = 0 <;> simp [h0]
    rw [e]; exact hc j x hx

set_option maxHeartbeats 400000 in
theorem masksOf_any (A : Option Addr) (n c : Nat) (xs : List Int) (w : World) (h : Rd w A n xs) (hn : n ≤ 1048576) :
    Calls Tryd.prog 169 #[.slice A n c] w (MakesE 2 w n xs) := by
  obtain ⟨i0, hi, hz0, hz1, hz2⟩ := info_parts info_int
  have hml : n ≤ maxLen := by unfold maxLen; omega
  have hby : i0.bytes * n ≤ 281474976710656 := by rw [hz2]; omega
  go_enter Tryd.func169, Tryd.ntmps169
  go_wp2_with (first | (at_make; refine wpList_make_full _ rfl _ _ _ rfl w.heap.size 2 i0 (.int .i64 0) 1 Tryd.underlying22 hi hz0 hz1 _ _ (n : Int) (n : Int) n rfl rfl rfl rfl hby hml (Nat.le_refl _) ?_; intro w1 hown0 hg1))
  have hown : Own 2 w1 w.heap.size (some ⟨w.heap.size, 0, none⟩) n n (List.replicate n 0) := by
    unfold Own; rw [← made_int]; exact hown0
  clear hown0
  have hb1 : Below w.heap.size w w1 := (Below.refl _ _).grown hg1 (Nat.le_refl _) (by simp)
  clear hg1
  go_loopw [11] (fun i wr => ∃ k : Nat, k ≤ n ∧ i = .int .i64 k ∧ Own 2 wr w.heap.size (some ⟨w.heap.size, 0, none⟩) n n (xs.take k ++ List.replicate (n - k) 0) ∧ Below w.heap.size w wr) (fun i _ => n - (intOf i).toNat)
  case atStart => exact ⟨0, Nat.zero_le _, rfl, by simpa using hown, hb1⟩
  case round =>
    obtain ⟨k, hk, rfl, ho, hb⟩ := hrel
    by_cases hlt : k < n
    · obtain ⟨b, off, x, rfl, hbs, hx, hcx⟩ := h.at_ hlt
      have hc1 : wr.cell? ⟨b, off + k, none⟩ = some (.int .i64 x) := (hb.cell (p := ⟨b, off + k, none⟩) hbs).trans hcx
      have hf : wr.frozen? ⟨w.heap.size, k, none⟩ = false := ho.frozen k
      obtain ⟨u, hu⟩ : ∃ u, (xs.take k ++ List.replicate (n - k) 0)[k]? = some u := ⟨_, List.getElem?_eq_getElem (by have := h.1; simp; omega)⟩
      have hc2 : wr.cell? ⟨w.heap.size, k, none⟩ = some (.int .i64 u) := ho.cell hu
      have ho2 := ho.set_ k x
      rw [take_set_next xs _ k x hx (by have := h.1; simp; omega)] at ho2
      have hb2 := hb.setCell (p := ⟨w.heap.size, k, none⟩) (Nat.le_refl _) (.int .i64 x)
      have HX : Hid (xs[k]? = some x) := Lib.hid hx
      have HU : Hid ((xs.take k ++ List.replicate (n - k) 0)[k]? = some u) := Lib.hid hu
      clear hx hu hcx
      go_wp2
      go_roundw
      case rel => exact ⟨k + 1, by omega, by go_num, by have e : (List.replicate (n - k) (0 : Int)).drop 1 = List.replicate (n - (k + 1)) 0 := by { rw [List.drop_replicate]; congr 1 }
                                                        rw [← e]; exact ho2, hb2⟩
      case measure => simp [intOf]; omega
    · obtain rfl : k = n := by omega
      go_wp2
      go_ret
      refine ⟨_, _, rfl, ?_, hb⟩
      have e : xs.take k ++ List.replicate (k - k) 0 = xs := by rw [Nat.sub_self, List.replicate_zero, List.append_nil]; exact List.take_of_length_le (by have := h.1; omega)
      rw [← e]; exact ho
/-- The numbers k, k + 1 .. of n marks. -/
def marks (k n : Nat) : List Int := (List.range n).map fun i => ((k + i : Nat) : Int)
theorem marks_len (k n : Nat) : (marks k n).length = n := by simp [marks]
theorem marks_at (k n t : Nat) (h : t < n) : (marks k n)[t]? = some ((k + t : Nat) : Int) := by simp [marks, h]
theorem marks_next (xs : List Int) (k t : Nat) (h : t < xs.length) : (marks k t ++ xs.drop t).set t ((k + t : Nat) : Int) = marks k (t + 1) ++ xs.drop (t + 1) := by
  rw [List.set_append, if_neg (by rw [marks_len]; omega), marks_len, Nat.sub_self, List.drop_eq_getElem_cons h, List.set_cons_zero]
  unfold marks
  rw [List.range_succ]; simp
set_option maxHeartbeats 400000 in
theorem mark_any (E B : Nat) (A : Option Addr) (n c k : Nat) (xs : List Int) (w : World) (h : Own E w B A n c xs) (hn : n ≤ 1048576) (hk : k ≤ 1073741824) :
    Calls Tryd.prog 27 #[.slice A n c, .int .i64 (k : Int)] w fun e w' => e = .returned (.int .i64 ((k + n : Nat) : Int)) ∧ Own E w' B A n c (marks k n) ∧ w.grownBy w' (A.map (·.block)) := by
  go_enter Tryd.func27, Tryd.ntmps27
  go_wp2
  go_loopw [1, 5] (fun q i wr => ∃ t : Nat, t ≤ n ∧ i = .int .i64 t ∧ q = .int .i64 ((k + t : Nat) : Int) ∧ Own E wr B A n c (marks k t ++ xs.drop t) ∧ w.grownBy wr (A.map (·.block))) (fun _ i _ => n - (intOf i).toNat)
  case atStart => exact ⟨0, Nat.zero_le _, rfl, rfl, h, World.grownBy.refl _ _⟩
  case round =>
    obtain ⟨t, ht, rfl, rfl, ho, hg⟩ := hrel
    by_cases hlt : t < n
    · obtain ⟨g, rfl, hgB, hgl⟩ := ho.form (by omega)
      have hf : wr.frozen? ⟨g, t, none⟩ = false := ho.frozen t
      have hlen : t < xs.length := by have := h.len; omega
      obtain ⟨u, hu⟩ : ∃ u, (marks k t ++ xs.drop t)[t]? = some u := ⟨_, List.getElem?_eq_getElem (by simp [marks_len]; omega)⟩
      have hc2 : wr.cell? ⟨g, t, none⟩ = some (.int .i64 u) := ho.cell hu
      have ho2 := ho.set_ t ((k + t : Nat) : Int)
      rw [marks_next xs k t hlen] at ho2
      have hg2 : w.grownBy (wr.setCell ⟨g, t, none⟩ (.int .i64 ((k + t : Nat) : Int))) (some g) := grown_set hg t _
      have HU := Lib.hid hu
      clear hu
      go_wp2
      go_roundw
      case rel => exact ⟨t + 1, by omega, by go_num, by go_num, ho2, hg2⟩
      case measure => simp [intOf]; omega
    · obtain rfl : t = n := by omega
      have e : marks k t ++ xs.drop t = marks k t := by rw [List.drop_of_length_le (by have := h.len; omega), List.append_nil]
      rw [e] at ho
      clear e
      go_wp2
      go_ret
      exact ⟨rfl, ho, hg⟩
set_option maxHeartbeats 400000 in
theorem held_any (A : Option Addr) (n c k : Nat) (w : World) (h : Rd w A n (marks k n)) (hn : n ≤ 1048576) (hk : k ≤ 1073741824) :
    Calls Tryd.prog 28 #[.slice A n c, .int .i64 (k : Int)] w fun e w' => e = .returned (.int .i64 ((k + n : Nat) : Int)) ∧ w = w' := by
  go_enter Tryd.func28, Tryd.ntmps28
  go_wp2
  go_loop [1, 5] (fun q i => ∃ t : Nat, t ≤ n ∧ i = .int .i64 t ∧ q = .int .i64 ((k + t : Nat) : Int)) (fun _ i => n - (intOf i).toNat)
  case atStart => exact ⟨0, Nat.zero_le _, rfl, rfl⟩
  case round =>
    obtain ⟨t, ht, rfl, rfl⟩ := hrel
    by_cases hlt : t < n
    · obtain ⟨b, off, x, rfl, hbs, hx, hcx⟩ := h.at_ hlt
      rw [marks_at k n t hlt] at hx
      injection hx with hx
      subst hx
      go_wp2
      go_round
      case rel => exact ⟨t + 1, by omega, by go_num, by go_num⟩
      case measure => simp [intOf]; omega
    · obtain rfl : t = n := by omega
      go_wp2
      go_ret
      exact ⟨rfl, rfl⟩
end Go.Proofs.YtdafdffmkjhhcaaDoor
namespace Go.Proofs.YtdafdffmkjhhcaaDoor
open Go.RowKit
set_option linter.unusedVariables false
set_option maxRecDepth 100000

theorem ret_ii (a b c d : Int) (h : a = c) (g : b = d) : Ending.returned (.tuple #[.int .i64 a, .int .i64 b]) = .returned (.tuple #[.int .i64 c, .int .i64 d]) := by rw [h, g]
theorem ret_ans {a b : Int} {p : Int × Int} (h : p = (a, b)) : Ending.returned (.tuple #[.int .i64 a, .int .i64 b]) = .returned (.tuple #[.int .i64 p.1, .int .i64 p.2]) := by rw [h]
theorem or_w64 (m k : Nat) (hm : m < 9223372036854775808) (hk : k ≤ 62) : bits .or .i64 (m : Int) (wrap64 (2 ^ k : Int)) = ((m ||| 2 ^ k : Nat) : Int) := by
  rw [w64_p2 k hk, i64_or_nat m (2 ^ k) hm (p2_lt k hk)]
theorem or_p2 (m k : Nat) (hm : m < 9223372036854775808) (hk : k ≤ 62) : bits .or .i64 (m : Int) (2 ^ k : Int) = ((m ||| 2 ^ k : Nat) : Int) := by
  have e : (2 ^ k : Int) = ((2 ^ k : Nat) : Int) := by rw [Int.natCast_pow]; rfl
  rw [e, i64_or_nat m (2 ^ k) hm (p2_lt k hk)]
theorem with_any (m k : Nat) (hm : m < 9223372036854775808) (hk : k ≤ 62) (w : World) :
    Calls Tryd.prog 57 #[.int .i64 (m : Int), .int .i64 (k : Int)] w fun e w' => e = .returned (.int .i64 ((m ||| 2 ^ k : Nat) : Int)) ∧ w = w' := by
  go_enter Tryd.func57, Tryd.ntmps57
  go_wp2
  go_ret
  exact ⟨ret_i _ _ (or_w64 m k hm hk), rfl⟩

end Go.Proofs.YtdafdffmkjhhcaaDoor
namespace Go.Proofs.YtdafdffmkjhhcaaDoor
open Go.RowKit
set_option linter.unusedVariables false
set_option maxRecDepth 100000

def ints (rs : List Nat) : List Int := rs.map fun m => ((m : Nat) : Int)
theorem ints_len (rs : List Nat) : (ints rs).length = rs.length := by simp [ints]
theorem ints_at {rs : List Nat} {k : Nat} {m : Nat} (h : rs[k]? = some m) : (ints rs)[k]? = some (m : Int) := by simp [ints, h]
theorem ints_set (rs : List Nat) (k m : Nat) : (ints rs).set k ((m : Nat) : Int) = ints (rs.set k m) := by simp [ints, List.map_set]
theorem ints_getD (rs : List Nat) (k : Nat) (h : k < rs.length) : (ints rs)[k]? = some ((rs.getD k 0 : Nat) : Int) := by
  rw [List.getD_eq_getElem?_getD, List.getElem?_eq_getElem h]
  exact ints_at (List.getElem?_eq_getElem h)
/-- A relation's list, as natural numbers. -/
theorem relB_nats (xs : List Int) (h : relB xs = true) : ∃ rs : List Nat, xs = ints rs ∧ rs.length = xs.length ∧ ∀ i, rs.getD i 0 < 2 ^ xs.length := by
  refine ⟨xs.map Int.toNat, ?_, by simp, ?_⟩
  · unfold ints
    rw [List.map_map]
    conv => lhs; rw [← List.map_id xs]
    apply List.map_congr_left
    intro x hx
    obtain ⟨k, hk⟩ := List.getElem?_of_mem hx
    have := relB_mask xs h k x hk
    simp; omega
  · intro i
    rw [List.getD_eq_getElem?_getD, List.getElem?_map]
    cases hx : xs[i]? with
    | none => exact p2_pos _
    | some x =>
      have := relB_mask xs h i x hx
      simp; omega
theorem bit_lt {m n k : Nat} (h : m < 2 ^ n) (hb : m.testBit k = true) : k < n := by
  rcases Nat.lt_or_ge k n with h1 | h1
  · exact h1
  · rw [Nat.testBit_lt_two_pow (Nat.lt_of_lt_of_le h (Nat.pow_le_pow_right (by decide) h1))] at hb; cases hb
theorem nat_ext {a b n : Nat} (ha : a < 2 ^ n) (hb : b < 2 ^ n) (h : ∀ k, k < n → (a.testBit k = true ↔ b.testBit k = true)) : a = b := by
  apply Nat.eq_of_testBit_eq
  intro k
  rcases Nat.lt_or_ge k n with h1 | h1
  · exact Bool.eq_iff_iff.2 (h k h1)
  · rw [Nat.testBit_lt_two_pow (Nat.lt_of_lt_of_le ha (Nat.pow_le_pow_right (by decide) h1)), Nat.testBit_lt_two_pow (Nat.lt_of_lt_of_le hb (Nat.pow_le_pow_right (by decide) h1))]
theorem p2_bit (k b : Nat) : (2 ^ k).testBit b = true ↔ k = b := by rw [Nat.testBit_two_pow]; simp

/-- i is related to k. -/
def R (rs : List Nat) (i k : Nat) : Prop := (rs.getD i 0).testBit k = true
instance (rs : List Nat) (i k : Nat) : Decidable (R rs i k) := inferInstanceAs (Decidable (_ = true))
/-- Chains of related elements lead from i to k. -/
inductive RT (rs : List Nat) : Nat → Nat → Prop
  | refl (i : Nat) : RT rs i i
  | step {i j k : Nat} : RT rs i j → R rs j k → RT rs i k
theorem RT.trans {rs : List Nat} {i j k : Nat} (h : RT rs i j) (g : RT rs j k) : RT rs i k := by
  induction g with
  | refl => exact h
  | step _ r ih => exact ih.step r
theorem RT.lt {rs : List Nat} {n i k : Nat} (hr : ∀ i, rs.getD i 0 < 2 ^ n) (hi : i < n) (h : RT rs i k) : k < n := by
  cases h with
  | refl => exact hi
  | step _ r => exact bit_lt (hr _) r

/-! ### growing sets -/
def stepM (rs : List Nat) (m : Nat) : Nat → Nat
  | 0 => m
  | k + 1 => if m.testBit k = true then stepM rs m k ||| rs.getD k 0 else stepM rs m k
theorem stepM_bit (rs : List Nat) (m k b : Nat) : (stepM rs m k).testBit b = true ↔ m.testBit b = true ∨ ∃ i, i < k ∧ m.testBit i = true ∧ R rs i b := by
  induction k with
  | zero => simp [stepM]
  | succ k ih =>
    unfold stepM
    by_cases h : m.testBit k = true
    · rw [if_pos h, Nat.testBit_or, Bool.or_eq_true, ih]
      constructor
      · rintro ((h1 | ⟨i, hi, h2, h3⟩) | h4)
        · exact .inl h1
        · exact .inr ⟨i, by omega, h2, h3⟩
        · exact .inr ⟨k, by omega, h, h4⟩
      · rintro (h1 | ⟨i, hi, h2, h3⟩)
        · exact .inl (.inl h1)
        · by_cases e : i = k
          · subst e; exact .inr h3
          · exact .inl (.inr ⟨i, by omega, h2, h3⟩)
    · rw [if_neg h, ih]
      constructor
      · rintro (h1 | ⟨i, hi, h2, h3⟩)
        · exact .inl h1
        · exact .inr ⟨i, by omega, h2, h3⟩
      · rintro (h1 | ⟨i, hi, h2, h3⟩)
        · exact .inl h1
        · by_cases e : i = k
          · subst e; exact absurd h2 h
          · exact .inr ⟨i, by omega, h2, h3⟩
theorem stepM_lt (rs : List Nat) (n m k : Nat) (hr : ∀ i, rs.getD i 0 < 2 ^ n) (hm : m < 2 ^ n) : stepM rs m k < 2 ^ n := by
  induction k with
  | zero => exact hm
  | succ k ih => unfold stepM; split; exact Nat.or_lt_two_pow ih (hr k); exact ih
def reachM (rs : List Nat) (frm : Nat) : Nat → Nat
  | 0 => 2 ^ frm
  | t + 1 => stepM rs (reachM rs frm t) rs.length
theorem reachM_lt (rs : List Nat) (n frm t : Nat) (hr : ∀ i, rs.getD i 0 < 2 ^ n) (hf : frm < n) : reachM rs frm t < 2 ^ n := by
  induction t with
  | zero => exact Nat.pow_lt_pow_right (by decide) hf
  | succ t ih => exact stepM_lt rs n _ _ hr ih
def cnt (m : Nat) : Nat → Nat
  | 0 => 0
  | k + 1 => cnt m k + if m.testBit k = true then 1 else 0
theorem cnt_le (m n : Nat) : cnt m n ≤ n := by
  induction n with
  | zero => exact Nat.le_refl _
  | succ n ih => unfold cnt; split <;> omega
theorem cnt_mono (m m' n : Nat) (h : ∀ b, b < n → m.testBit b = true → m'.testBit b = true) : cnt m n ≤ cnt m' n := by
  induction n with
  | zero => exact Nat.le_refl _
  | succ n ih =>
    have := ih fun b hb => h b (by omega)
    unfold cnt
    by_cases e : m.testBit n = true
    · rw [if_pos e, if_pos (h n (by omega) e)]; omega
    · rw [if_neg e]; omega
theorem cnt_more (m m' n b : Nat) (h : ∀ b, b < n → m.testBit b = true → m'.testBit b = true) (hb : b < n) (h1 : ¬ m.testBit b = true) (h2 : m'.testBit b = true) : cnt m n + 1 ≤ cnt m' n := by
  induction n with
  | zero => omega
  | succ n ih =>
    unfold cnt
    by_cases e : b = n
    · subst e
      have := cnt_mono m m' b fun b hb => h b (by omega)
      rw [if_neg h1, if_pos h2]; omega
    · have := ih (fun b hb => h b (by omega)) (by omega)
      by_cases e2 : m.testBit n = true
      · rw [if_pos e2, if_pos (h n (by omega) e2)]; omega
      · rw [if_neg e2]; omega
def Closed (rs : List Nat) (m : Nat) : Prop := ∀ i k, m.testBit i = true → R rs i k → m.testBit k = true
theorem stepM_closed (rs : List Nat) (m : Nat) (h : Closed rs m) (k : Nat) : stepM rs m k = m := by
  apply Nat.eq_of_testBit_eq
  intro b
  apply Bool.eq_iff_iff.2
  rw [stepM_bit]
  constructor
  · rintro (h1 | ⟨i, _, h2, h3⟩)
    · exact h1
    · exact h i b h2 h3
  · exact .inl
theorem reachM_grows (rs : List Nat) (n frm : Nat) (hn : rs.length = n) (hr : ∀ i, rs.getD i 0 < 2 ^ n) (hf : frm < n) (t : Nat) : Closed rs (reachM rs frm t) ∨ t + 1 ≤ cnt (reachM rs frm t) n := by
  induction t with
  | zero =>
    right
    have := cnt_more 0 (2 ^ frm) n frm (fun b _ h => by simp at h) hf (by simp) (by rw [p2_bit])
    exact Nat.le_trans (by omega) this
  | succ t ih =>
    rcases Classical.em (Closed rs (reachM rs frm t)) with hc | hc
    · left
      show Closed rs (stepM rs _ _)
      rw [stepM_closed rs _ hc]; exact hc
    · right
      have h1 := ih.resolve_left hc
      have : ∃ b, b < n ∧ ¬ (reachM rs frm t).testBit b = true ∧ (reachM rs frm (t + 1)).testBit b = true := by
        apply Classical.byContradiction
        intro hno
        apply hc
        intro i k hi hk
        apply Classical.byContradiction
        intro hk2
        exact hno ⟨k, bit_lt (hr i) hk, hk2, (stepM_bit _ _ _ _).2 (.inr ⟨i, by rw [hn]; exact bit_lt (reachM_lt rs n frm t hr hf) hi, hi, hk⟩)⟩
      obtain ⟨b, hb, h2, h3⟩ := this
      have := cnt_more (reachM rs frm t) (reachM rs frm (t + 1)) n b (fun b _ h => (stepM_bit _ _ _ _).2 (.inl h)) hb h2 h3
      omega
/-- After as many rounds as there are elements, the set is what chains lead to. -/
theorem reachM_bit (rs : List Nat) (n frm : Nat) (hn : rs.length = n) (hr : ∀ i, rs.getD i 0 < 2 ^ n) (hf : frm < n) (b : Nat) : (reachM rs frm n).testBit b = true ↔ RT rs frm b := by
  have hsub : ∀ t b, (reachM rs frm t).testBit b = true → RT rs frm b := by
    intro t
    induction t with
    | zero => intro b h; have := (p2_bit frm b).1 h; subst this; exact .refl _
    | succ t ih =>
      intro b h
      rcases (stepM_bit _ _ _ _).1 h with h1 | ⟨i, _, h2, h3⟩
      · exact ih b h1
      · exact (ih i h2).step h3
  refine ⟨hsub n b, ?_⟩
  intro h
  have hc : Closed rs (reachM rs frm n) := by
    rcases reachM_grows rs n frm hn hr hf n with h | h
    · exact h
    · have := cnt_le (reachM rs frm n) n; omega
  have h0 : ∀ t, (reachM rs frm t).testBit frm = true := by
    intro t
    induction t with
    | zero => exact (p2_bit _ _).2 rfl
    | succ t ih => exact (stepM_bit _ _ _ _).2 (.inl ih)
  induction h with
  | refl => exact h0 n
  | step _ r ih => exact hc _ _ ih r

/-! ### Warshall's rounds -/
def W (rs : List Nat) : Nat → Nat → Nat → Prop
  | 0, i, k => i = k ∨ R rs i k
  | j + 1, i, k => W rs j i k ∨ (W rs j i j ∧ W rs j j k)
theorem W_sub (rs : List Nat) (j i k : Nat) (h : W rs j i k) : RT rs i k := by
  induction j generalizing i k with
  | zero =>
    rcases h with rfl | h
    · exact .refl _
    · exact (RT.refl i).step h
  | succ j ih =>
    rcases h with h | ⟨h1, h2⟩
    · exact ih _ _ h
    · exact (ih _ _ h1).trans (ih _ _ h2)
theorem W_base (rs : List Nat) (j i k : Nat) (h : i = k ∨ R rs i k) : W rs j i k := by
  induction j with
  | zero => exact h
  | succ j ih => exact .inl ih
theorem W_trans (rs : List Nat) (j m i k : Nat) (hm : m < j) (h1 : W rs j i m) (h2 : W rs j m k) : W rs j i k := by
  induction j generalizing m i k with
  | zero => omega
  | succ j ih =>
    by_cases e : m = j
    · subst e
      have h3 : W rs m i m := by rcases h1 with h | ⟨h, _⟩ <;> exact h
      have h4 : W rs m m k := by rcases h2 with h | ⟨_, h⟩ <;> exact h
      exact .inr ⟨h3, h4⟩
    · have hm' : m < j := by omega
      rcases h1 with h1 | ⟨h1, h1'⟩
      · rcases h2 with h2 | ⟨h2, h2'⟩
        · exact .inl (ih m i k hm' h1 h2)
        · exact .inr ⟨ih m i j hm' h1 h2, h2'⟩
      · rcases h2 with h2 | ⟨h2, h2'⟩
        · exact .inr ⟨h1, ih m j k hm' h1' h2⟩
        · exact .inr ⟨h1, h2'⟩
theorem W_full (rs : List Nat) (n i k : Nat) (hr : ∀ i, rs.getD i 0 < 2 ^ n) (hi : i < n) : W rs n i k ↔ RT rs i k := by
  refine ⟨W_sub rs n i k, fun h => ?_⟩
  induction h with
  | refl => exact W_base rs n i i (.inl rfl)
  | step h r ih => exact W_trans rs n _ i _ (RT.lt hr hi h) ih (W_base rs n _ _ (.inr r))
theorem W_row (rs : List Nat) (j k : Nat) : W rs (j + 1) j k ↔ W rs j j k := by
  constructor
  · rintro (h | ⟨_, h⟩) <;> exact h
  · exact .inl
/-- What the closure is, as a list. -/
def closM (rs : List Nat) : List Nat := (List.range rs.length).map fun i => reachM rs i rs.length
theorem closM_len (rs : List Nat) : (closM rs).length = rs.length := by simp [closM]
theorem closM_at (rs : List Nat) (i : Nat) (h : i < rs.length) : (closM rs).getD i 0 = reachM rs i rs.length := by
  rw [List.getD_eq_getElem?_getD]; simp [closM, h]
theorem closM_eq (rs cs : List Nat) (n : Nat) (hn : rs.length = n) (hc : cs.length = n) (hr : ∀ i, rs.getD i 0 < 2 ^ n) (hcl : ∀ i, cs.getD i 0 < 2 ^ n) (h : ∀ i k, i < n → ((cs.getD i 0).testBit k = true ↔ W rs n i k)) : cs = closM rs := by
  apply List.ext_getElem?
  intro i
  by_cases hi : i < n
  · have e1 : cs[i]? = some (cs.getD i 0) := by rw [List.getD_eq_getElem?_getD, List.getElem?_eq_getElem (by omega)]; rfl
    have e2 : (closM rs)[i]? = some ((closM rs).getD i 0) := by rw [List.getD_eq_getElem?_getD, List.getElem?_eq_getElem (by rw [closM_len]; omega)]; rfl
    rw [e1, e2, closM_at rs i (by omega)]
    congr 1
    refine nat_ext (hcl i) ?_ fun k hk => ?_
    · exact reachM_lt rs n i _ hr hi
    · rw [h i k hi, W_full rs n i k hr hi, hn, reachM_bit rs n i hn hr hi]
  · rw [List.getElem?_eq_none (by omega), List.getElem?_eq_none (by rw [closM_len]; omega)]
end Go.Proofs.YtdafdffmkjhhcaaDoor
namespace Go.Proofs.YtdafdffmkjhhcaaDoor
open Go.RowKit
set_option linter.unusedVariables false
set_option maxRecDepth 100000

/-- The library's table lies in its variable. -/
def Tab (w : World) : Prop := ∀ j, j < 64 → w.cell? ⟨0, j, none⟩ = some (.int .u8 ((Lib.deBruijn64tab.getD j 0 : Nat) : Int))
theorem Tab.below {w w' : World} (h : Tab w) (hb : Below w.heap.size w w') : Tab w' := fun j hj =>
  (hb.cell (p := ⟨0, j, none⟩) (block_lt_of_cell (h j hj))).trans (h j hj)

theorem tz_key (x a : Nat) (hx : x < 18446744073709551616) (hx0 : x ≠ 0) (hlow : x &&& (18446744073709551616 - x) = a) :
    IntKind.u64.wrap (bits BinOp.and IntKind.u64 (x : Int) (IntKind.u64.wrap (-(x : Int))) * 285870213051353865) / 288230376151711744 = ((a * 285870213051353865 % 18446744073709551616 / 288230376151711744 : Nat) : Int) := by
  have e1 : IntKind.u64.wrap (-(x : Int)) = ((18446744073709551616 - x : Nat) : Int) := by rw [IntKind.wrap_u64]; omega
  rw [e1, bits_and_u64_nat x _ hx (by omega), hlow, IntKind.wrap_u64]
  omega
set_option maxHeartbeats 1000000 in
theorem tz_core (x k idx : Nat) (w : World) (hx0 : ((x : Int) == 0) = false)
    (key : IntKind.u64.wrap (bits BinOp.and IntKind.u64 (x : Int) (IntKind.u64.wrap (-(x : Int))) * 285870213051353865) / 288230376151711744 = (idx : Int))
    (hi : idx < 64) (hk : k < 64) (hcell : w.cell? ⟨0, idx, none⟩ = some (.int .u8 k)) :
    Calls Tryd.prog 164 #[.int .u64 x] w fun e w' => e = .returned (.int .i64 k) ∧ w = w' := by
  go_enter Tryd.func164, Tryd.ntmps164
  go_wp2_with (simp only [key])
  go_ret
  exact ⟨rfl, rfl⟩
theorem tz_any (x : Nat) (hx : x < 18446744073709551616) (hx0 : x ≠ 0) (w : World) (hT : Tab w) :
    Calls Tryd.prog 164 #[.int .u64 x] w fun e w' => e = .returned (.int .i64 (Lib.ctz 64 x)) ∧ w = w' := by
  obtain ⟨hlow, hk⟩ := Lib.lowest_bit 64 x hx0 hx
  obtain ⟨hi, htab⟩ := Lib.deBruijn64_at _ hk
  have hcell := hT _ hi
  rw [htab] at hcell
  exact tz_core x _ _ w (by simp; omega) (tz_key x _ hx hx0 hlow) hi hk hcell
/-- The least member. -/
def low (x : Nat) : Nat := Lib.ctz 64 x
theorem least_any (x : Nat) (hx : x < 9223372036854775808) (hx0 : x ≠ 0) (w : World) (hT : Tab w) :
    Calls Tryd.prog 133 #[.int .i64 (x : Int)] w fun e w' => e = .returned (.int .i64 (low x : Nat)) ∧ w = w' := by
  have hx2 : x < 18446744073709551616 := by omega
  go_enter Tryd.func133, Tryd.ntmps133
  go_wp2_with (go_at_call 164; refine (tz_any x hx2 hx0 _ hT).mono ?_; rintro e w' ⟨rfl, rfl⟩)
  go_ret
  exact ⟨rfl, rfl⟩
theorem low_spec (x : Nat) (hx0 : x ≠ 0) (hx : x < 9223372036854775808) : ∃ m, x = 2 ^ low x * (2 * m + 1) ∧ low x < 64 := by
  unfold low Lib.ctz
  rw [if_neg hx0]
  exact Lib.ctzFrom_spec 64 x (by omega) (by omega)
theorem odd_bit (l m b : Nat) : (2 ^ l * (2 * m + 1)).testBit b = (decide (b = l) || (decide (l < b) && m.testBit (b - l - 1))) := by
  rw [Nat.testBit_two_pow_mul]
  by_cases h : l ≤ b
  · obtain ⟨d, rfl⟩ : ∃ d, b = l + d := ⟨b - l, by omega⟩
    have e : l + d - l = d := by omega
    rw [e]
    cases d with
    | zero => simp
    | succ d =>
      have e3 : (2 * m + 1).testBit (d + 1) = m.testBit d := by
        rw [Nat.testBit_succ]; congr 1; omega
      rw [e3]
      have e4 : d + 1 - 1 = d := by omega
      rw [e4]; simp
  · have e1 : decide (l ≤ b) = false := decide_eq_false h
    have e2 : decide (b = l) = false := decide_eq_false (by omega)
    have e3 : decide (l < b) = false := decide_eq_false (by omega)
    rw [e1, e2, e3]; rfl
theorem pred_bit (l m b : Nat) (hb : l < b) : (2 ^ l * (2 * m + 1) - 1).testBit b = m.testBit (b - l - 1) := by
  have hp := p2_pos l
  have e0 : 2 ^ l * (2 * m + 1) - 1 = 2 ^ l * (2 * m) + (2 ^ l - 1) := by rw [Nat.mul_add]; omega
  have hl : 2 ^ l - 1 < 2 ^ l := by omega
  rw [e0, Nat.testBit_two_pow_mul_add _ hl, if_neg (by omega)]
  obtain ⟨d, rfl⟩ : ∃ d, b = l + (d + 1) := ⟨b - l - 1, by omega⟩
  have e1 : l + (d + 1) - l = d + 1 := by omega
  have e2 : d + 1 - 1 = d := by omega
  rw [e1, e2, Nat.testBit_succ]; congr 1; omega
theorem pred_low (l m : Nat) : (2 ^ l * (2 * m + 1) - 1).testBit l = false := by
  have hp := p2_pos l
  have e0 : 2 ^ l * (2 * m + 1) - 1 = 2 ^ l * (2 * m) + (2 ^ l - 1) := by rw [Nat.mul_add]; omega
  have hl : 2 ^ l - 1 < 2 ^ l := by omega
  rw [e0, Nat.testBit_two_pow_mul_add _ hl, if_neg (by omega), Nat.sub_self, Nat.testBit_zero]
  simp
/-- The least member is one, no lesser number is, and x &&& (x - 1) is without it. -/
theorem low_bit (x : Nat) (hx0 : x ≠ 0) (hx : x < 9223372036854775808) : x.testBit (low x) = true ∧ (∀ b, b < low x → x.testBit b = false) ∧ ∀ b, (x &&& (x - 1)).testBit b = (x.testBit b && !decide (b = low x)) := by
  obtain ⟨m, e, _⟩ := low_spec x hx0 hx
  generalize low x = l at e
  subst e
  refine ⟨by rw [odd_bit]; simp, fun b hb => ?_, fun b => ?_⟩
  · rw [odd_bit, decide_eq_false (by omega), decide_eq_false (by omega)]; rfl
  · rw [Nat.testBit_and, odd_bit]
    rcases Nat.lt_trichotomy b l with h | h | h
    · rw [decide_eq_false (by omega), decide_eq_false (by omega)]; rfl
    · subst h; rw [pred_low]; simp
    · rw [pred_bit l m b h, decide_eq_false (by omega), decide_eq_true h]; simp
theorem and127 (y : Int) : ∃ k : Nat, k ≤ 127 ∧ bits .and .i64 y 127 = (k : Int) := by
  refine ⟨(BitVec.ofInt 64 y).toNat &&& 127, Nat.and_le_right, ?_⟩
  have hx : (BitVec.ofInt 64 y).toNat &&& 127 ≤ 127 := Nat.and_le_right
  show IntKind.i64.wrap ((BitVec.ofInt 64 y &&& BitVec.ofInt 64 127).toNat : Int) = _
  rw [BitVec.toNat_and]
  have e : (BitVec.ofInt 64 127).toNat = 127 := by decide
  rw [e, i64_nat _ (by omega)]
/-- Some number of at most 127. -/
def Few (w : World) (e : Ending) (w' : World) : Prop := ∃ k : Nat, k ≤ 127 ∧ e = .returned (.int .i64 (k : Int)) ∧ w = w'
set_option maxHeartbeats 1000000 in
theorem ones_any (x : Nat) (hx : x < 9223372036854775808) (w : World) :
    Calls Tryd.prog 173 #[.int .u64 (x : Int)] w (Few w) := by
  go_enter Tryd.func173, Tryd.ntmps173
  go_wp2
  go_ret
  obtain ⟨k, hk, e⟩ := and127 _
  exact ⟨k, hk, ret_i _ _ e, rfl⟩
theorem size_any (x : Nat) (hx : x < 9223372036854775808) (w : World) :
    Calls Tryd.prog 150 #[.int .i64 (x : Int)] w (Few w) := by
  have hx2 : x < 18446744073709551616 := by omega
  go_enter Tryd.func150, Tryd.ntmps150
  go_wp2_with (go_at_call 173; refine (ones_any x hx _).mono ?_; rintro e w' ⟨k, hk, rfl, rfl⟩)
  go_ret
  exact ⟨k, hk, rfl, rfl⟩
end Go.Proofs.YtdafdffmkjhhcaaDoor
namespace Go.Proofs.YtdafdffmkjhhcaaDoor
open Go.RowKit
set_option linter.unusedVariables false
set_option maxRecDepth 100000

/-- What a function that answers a list and a code leaves. -/
def AnsPost (w : World) (ys : List Int) (code : Int) (e : Ending) (w' : World) : Prop :=
  ∃ A c, e = .returned (.tuple #[.slice A ys.length c, .int .i64 code]) ∧ Own 2 w' w.heap.size A ys.length c ys ∧ Below w.heap.size w w'

theorem lt63 {m n : Nat} (hn : n ≤ 24) (h : m < 2 ^ n) : m < 9223372036854775808 := by have := p24 n hn; omega
theorem or63 (a b : Nat) (ha : a < 9223372036854775808) (hb : b < 9223372036854775808) : bits .or .i64 (a : Int) (b : Int) = ((a ||| b : Nat) : Int) := i64_or_nat a b ha hb


theorem ints_snoc_map (ys : List Nat) (m : Nat) : (ints ys).map (Value.int .i64) ++ [Value.int .i64 ((m : Nat) : Int)] = (ints (ys ++ [m])).map (Value.int .i64) := by simp [ints]
theorem take_next_nat (ys : List Nat) (k : Nat) (h : k < ys.length) : ys.take k ++ [ys.getD k 0] = ys.take (k + 1) := by
  rw [List.take_add_one, List.getD_eq_getElem?_getD, List.getElem?_eq_getElem h]; rfl
theorem ans_yes {w w' : World} {A : Option Addr} {n c : Nat} {ys : List Int} (hl : ys.length = n) (ho : Own 2 w' w.heap.size A n c ys) (hb : Below w.heap.size w w') : AnsPost w ys 0 (.returned (.tuple #[.slice A n c, .int .i64 0])) w' := by
  subst hl; exact ⟨A, c, rfl, ho, hb⟩
theorem ans_no {w w' : World} (code : Int) (hb : Below w.heap.size w w') : AnsPost w [] code (.returned (.tuple #[.slice none 0 0, .int .i64 code])) w' := ⟨none, 0, rfl, Own.nil _ _ _, hb⟩

theorem own_stored {E : TypeId} {w : World} {B : Nat} {A : Option Addr} {n c k : Nat} {cs : List Nat} (h : Own E w B A n c (ints cs)) (hk : k < n) :
    ∃ g, A = some ⟨g, 0, none⟩ ∧ B ≤ g ∧ w.cell? ⟨g, k, none⟩ = some (.int .i64 ((cs.getD k 0 : Nat) : Int)) ∧ w.frozen? ⟨g, k, none⟩ = false ∧ (∀ m : Nat, Own E (w.setCell ⟨g, k, none⟩ (.int .i64 (m : Int))) B (some ⟨g, 0, none⟩) n c (ints (cs.set k m))) := by
  obtain ⟨g, rfl, hg, _⟩ := h.form (by omega)
  have hl : cs.length = n := by have := h.len; rw [ints_len] at this; exact this
  exact ⟨g, rfl, hg, h.cell (ints_getD cs k (by omega)), h.frozen k, fun m => by rw [← ints_set]; exact h.set_ k m⟩
theorem getD_set (cs : List Nat) (k m i : Nat) (hk : k < cs.length) : (cs.set k m).getD i 0 = if i = k then m else cs.getD i 0 := by
  rw [List.getD_eq_getElem?_getD, List.getD_eq_getElem?_getD, List.getElem?_set]
  by_cases e : k = i
  · subst e; simp [hk]
  · rw [if_neg e, if_neg (fun h => e h.symm)]

/-- What ClosureOfRelation answers. -/
def closAns (xs : List Int) : List Int × Int := if relB xs = true then (ints (closM (xs.map Int.toNat)), 0) else ([], 1)
theorem closAns_small (xs : List Int) : (closAns xs).1.length ≤ 24 := by
  unfold closAns
  split
  · rename_i h
    show (ints _).length ≤ 24
    rw [ints_len, closM_len, List.length_map]; exact relB_len xs h
  · show 0 ≤ 24; omega
theorem clos_nats (xs : List Int) (h : relB xs = true) : xs = ints (xs.map Int.toNat) ∧ ∀ i, (xs.map Int.toNat).getD i 0 < 2 ^ xs.length := by
  obtain ⟨rs, h1, h2, h3⟩ := relB_nats xs h
  have e : xs.map Int.toNat = rs := by
    rw [h1]; unfold ints; rw [List.map_map]
    conv => rhs; rw [← List.map_id rs]
    apply List.map_congr_left
    intro m _; simp
  rw [e]; exact ⟨h1, h3⟩
end Go.Proofs.YtdafdffmkjhhcaaDoor
namespace Go.Proofs.YtdafdffmkjhhcaaDoor
open Go.RowKit
set_option linter.unusedVariables false
set_option maxRecDepth 100000

/-- The members of m that are less than k, in ascending order. -/
def upTo (m k : Nat) : List Nat := (List.range k).filter fun b => m.testBit b
theorem upTo_yes (m k : Nat) (h : m.testBit k = true) : upTo m (k + 1) = upTo m k ++ [k] := by
  unfold upTo; rw [List.range_succ, List.filter_append]; simp [h]
theorem upTo_no (m k : Nat) (h : m.testBit k = false) : upTo m (k + 1) = upTo m k := by
  unfold upTo; rw [List.range_succ, List.filter_append]; simp [h]
theorem upTo_skip (m j l : Nat) (hj : j ≤ l) (h : ∀ b, j ≤ b → b < l → m.testBit b = false) : upTo m l = upTo m j := by
  induction l with
  | zero => have : j = 0 := by omega
            subst this; rfl
  | succ l ih =>
    by_cases e : j = l + 1
    · subst e; rfl
    · rw [upTo_no m l (h l (by omega) (by omega))]
      exact ih (by omega) fun b h1 h2 => h b h1 (by omega)
theorem upTo_len (m k : Nat) : (upTo m k).length ≤ k := by
  unfold upTo
  have := List.length_filter_le (fun b => m.testBit b) (List.range k)
  rw [List.length_range] at this; exact this
def bitsOf (m : Nat) : List Nat := upTo m 24
theorem bitsOf_len (m : Nat) : (bitsOf m).length ≤ 24 := upTo_len m 24
theorem div_bit (m k : Nat) : (m / 2 ^ k) % 2 = if m.testBit k = true then 1 else 0 := by
  rw [Nat.testBit_eq_decide_div_mod_eq]
  by_cases h : m / 2 ^ k % 2 = 1
  · simp [h]
  · simp [h]; omega
theorem div_next (m k : Nat) : m / 2 ^ k / 2 = m / 2 ^ (k + 1) := by rw [Nat.div_div_eq_div_mul, Nat.pow_succ]
theorem high_bits (m k b : Nat) (h : m / 2 ^ k = 0) (hb : k ≤ b) : m.testBit b = false := by
  have : m < 2 ^ k := by
    rcases Nat.lt_or_ge m (2 ^ k) with h1 | h1
    · exact h1
    · have := Nat.div_pos h1 (p2_pos k); omega
  exact Nat.testBit_lt_two_pow (Nat.lt_of_lt_of_le this (Nat.pow_le_pow_right (by decide) hb))


/-- What is left of m from j on. -/
def From (m j rest : Nat) : Prop := ∀ b, (rest.testBit b = true ↔ m.testBit b = true ∧ j ≤ b)
theorem From.zero {m j : Nat} (h : From m j 0) (b : Nat) (hb : j ≤ b) : m.testBit b = false := by
  cases e : m.testBit b
  · rfl
  · have := (h b).2 ⟨e, hb⟩; simp at this
theorem From.le {m j rest : Nat} (h : From m j rest) : rest &&& m = rest := by
  apply Nat.eq_of_testBit_eq
  intro b
  rw [Nat.testBit_and]
  cases e : rest.testBit b
  · rfl
  · rw [((h b).1 e).1]; rfl
theorem From.lt {m j rest : Nat} (h : From m j rest) (hm : m < 16777216) : rest < 16777216 := by
  have := h.le
  have h2 : rest &&& m ≤ m := Nat.and_le_right
  omega
theorem From.next {m j rest : Nat} (h : From m j rest) (hm : m < 16777216) (h0 : rest ≠ 0) :
    m.testBit (low rest) = true ∧ upTo m (low rest + 1) = upTo m j ++ [low rest] ∧ From m (low rest + 1) (rest &&& (rest - 1)) ∧ low rest < 24 ∧ rest &&& (rest - 1) < rest := by
  have hr := h.lt hm
  obtain ⟨h1, h2, h3⟩ := low_bit rest h0 (by omega)
  have hl := (h _).1 h1
  have hlt : low rest < 24 := bit_lt (show m < 2 ^ 24 by omega) hl.1
  refine ⟨hl.1, ?_, ?_, hlt, ?_⟩
  · rw [upTo_yes m _ hl.1, upTo_skip m j (low rest) hl.2]
    intro b hb hb2
    cases e : m.testBit b
    · rfl
    · have := (h b).2 ⟨e, hb⟩; rw [h2 b hb2] at this; cases this
  · intro b
    rw [h3 b]
    constructor
    · intro hb
      simp only [Bool.and_eq_true, Bool.not_eq_true', decide_eq_false_iff_not] at hb
      have := (h b).1 hb.1
      refine ⟨this.1, ?_⟩
      rcases Nat.lt_or_ge (low rest) b with h4 | h4
      · omega
      · have := h2 b (by omega); rw [hb.1] at this; cases this
    · rintro ⟨hb1, hb2⟩
      rw [(h b).2 ⟨hb1, by omega⟩, decide_eq_false (by omega)]; rfl
  · have : rest &&& (rest - 1) ≤ rest - 1 := Nat.and_le_right
    omega
set_option maxHeartbeats 800000 in
theorem members_any (m : Nat) (hm : m < 16777216) (w : World) (hT : Tab w) :
    Calls Tryd.prog 112 #[.int .i64 (m : Int)] w (MakesE 2 w (bitsOf m).length (ints (bitsOf m))) := by
  obtain ⟨i0, hi, hz0, hz1, hz2⟩ := info_parts info_int
  have hm63 : m < 9223372036854775808 := by omega
  go_enter Tryd.func112, Tryd.ntmps112
  go_wp2_with fail
  refine (size_any m hm63 _).mono ?_
  rintro e w' ⟨N, hN, rfl, rfl⟩
  have hml : N ≤ maxLen := by unfold maxLen; omega
  have hby : i0.bytes * N ≤ 281474976710656 := by rw [hz2]; omega
  go_wp2_with (at_make; refine wpList_make_own _ rfl _ _ _ rfl w.heap.size 2 i0 (.int .i64 0) 1 Tryd.underlying22 hi hz0 hz1 _ _ (N : Int) N rfl rfl rfl hby hml (Nat.le_refl _) ?_; intro w1 hown0 hg1)
  have hb1 : Below w.heap.size w w1 := (Below.refl _ _).grown hg1 (Nat.le_refl _) (by simp)
  clear hg1 hml hby
  go_loopw [3, 4] (fun v q wr => ∃ (j rest : Nat) (A1 : Option Addr) (c1 : Nat), From m j rest ∧ j ≤ 24 ∧ q = .int .i64 (rest : Int) ∧ v = .slice A1 (upTo m j).length c1 ∧ Own 2 wr w.heap.size A1 (upTo m j).length c1 (ints (upTo m j)) ∧ Below w.heap.size w wr) (fun _ q _ => (intOf q).toNat)
  case atStart => exact ⟨0, m, _, N, fun b => by simp, Nat.zero_le _, rfl, rfl, hown0, hb1⟩
  case round =>
    obtain ⟨j, rest, A1, c1, hf, hj, rfl, rfl, ho, hb⟩ := hrel
    have hrl := hf.lt hm
    have hul := upTo_len m j
    by_cases h0 : rest = 0
    · subst h0
      have hz := Lib.hid (upTo_skip m j 24 hj (fun b h1 _ => hf.zero b h1))
      clear hf
      go_wp2
      go_ret
      refine ⟨A1, c1, ?_, ?_, hb⟩
      · unfold bitsOf; rw [hz.out]; rfl
      · unfold bitsOf; rw [hz.out]; exact ho
    · obtain ⟨_, hup, hf2, hl24, hdec⟩ := hf.next hm h0
      have hup' := Lib.hid hup
      have hT2 := hT.below hb
      have h63 : rest < 9223372036854775808 := by omega
      have hand : bits .and .i64 (rest : Int) ((rest : Int) - 1) = ((rest &&& (rest - 1) : Nat) : Int) := by
        have e : (rest : Int) - 1 = ((rest - 1 : Nat) : Int) := by omega
        rw [e]; exact i64_and_nat _ _ h63 (by omega)
      have hml : (upTo m j).length + 1 ≤ maxLen := by unfold maxLen; omega
      have hby2 : ((upTo m j).length + 1) * 8 ≤ 140737488355328 := by omega
      have hne : ((rest : Int) == 0) = false := by simp; omega
      have hne2 : ((rest : Int) != 0) = true := by simp; omega
      clear hup hf
      go_wp2_with (first | (go_at_call 133; refine (least_any rest h63 h0 _ hT2).mono ?_; rintro e w' ⟨rfl, rfl⟩) | (at_builtin; refine wpList_append_own _ rfl _ _ 22 rfl w.heap.size 2 i0 (.int .i64 0) 1 8 Tryd.underlying22 hi hz0 hz1 hz2 rfl (by decide) (.slice A1 (upTo m j).length c1) (upTo m j).length ((ints (upTo m j)).map (Value.int .i64)) rfl (World.ownsRow.alloc ho _) ⟨wr.heap.size, 0, none⟩ 1 1 [.int .i64 ((low rest : Nat) : Int)] rfl rfl ?c1 ?c2 hml hby2 ?c5 ?_))
      case c1 => exact cell_one_new _ _ _
      case c2 => intro u hu; simp at hu; subst hu; rfl
      case c5 => have := hb.size; simp; omega
      intro v' w2 hown hg _
      rw [ints_snoc_map, ← hup'.out] at hown
      have hb2 : Below w.heap.size w w2 := (hb.alloc hb.size _).grown hg (by have := hb.size; simp; omega) (fun g hgr => (World.ownsRow.lt ho g hgr).1)
      obtain ⟨A2, c2, hv, ho2⟩ := own_shape hown
      have hl2 : (upTo m j).length + 1 = (upTo m (low rest + 1)).length := by rw [hup'.out, List.length_append]; rfl
      rw [hl2] at hv ho2
      rw [hv]
      have HL2 := Lib.hid hl2
      clear hg hown hv hl2 hT2
      go_wp2
      go_roundw
      case rel => exact ⟨low rest + 1, rest &&& (rest - 1), A2, c2, hf2, by omega, rfl, rfl, ho2, hb2⟩
      case measure => simp only [intOf]; omega
/-- What MembersOf answers. -/
def memAns (m : Int) : List Int × Int := if isMaskB m 24 = true then (ints (bitsOf m.toNat), 0) else ([], 2)
theorem memAns_small (m : Int) : (memAns m).1.length ≤ 24 := by
  unfold memAns
  split
  · show (ints _).length ≤ 24
    rw [ints_len]; exact bitsOf_len _
  · show 0 ≤ 24; omega
theorem memAns_yes (m : Nat) (h : isMaskB (m : Int) 24 = true) : memAns (m : Int) = (ints (bitsOf m), 0) := by
  unfold memAns; rw [if_pos h]; rfl
theorem memAns_no (m : Int) (h : isMaskB m 24 = false) : memAns m = ([], 2) := by unfold memAns; rw [if_neg (by rw [h]; decide)]
theorem mask24 (m : Int) (h : isMaskB m 24 = true) : ∃ k : Nat, m = (k : Int) ∧ k < 16777216 := by
  unfold isMaskB at h
  simp only [decide_eq_true_eq] at h
  obtain ⟨_, _, h1, h2⟩ := h
  have e : ((2 ^ (24 : Int).toNat : Nat) : Int) = 16777216 := by decide
  rw [e] at h2
  exact ⟨m.toNat, by omega, by omega⟩
end Go.Proofs.YtdafdffmkjhhcaaDoor
namespace Go.Proofs.YtdafdffmkjhhcaaDoor
open Go.RowKit
set_option linter.unusedVariables false
set_option maxRecDepth 100000

theorem bitsOf_mem (m a : Nat) : a ∈ bitsOf m ↔ a < 24 ∧ m.testBit a = true := by
  unfold bitsOf upTo; rw [List.mem_filter, List.mem_range]
theorem getD_range_map (f : Nat → Nat) (n i : Nat) (h : i < n) : ((List.range n).map f).getD i 0 = f i := by
  rw [List.getD_eq_getElem?_getD]; simp [h]
theorem getD_past (cs : List Nat) (n i : Nat) (hl : cs.length = n) (h : n ≤ i) : cs.getD i 0 = 0 := by
  rw [List.getD_eq_getElem?_getD, List.getElem?_eq_none (by omega)]; rfl
/-- Two lists of masks of n elements with the same bits are one. -/
theorem masks_eq (cs ds : List Nat) (n : Nat) (hc : cs.length = n) (hd : ds.length = n) (hcl : ∀ i, cs.getD i 0 < 2 ^ n) (hdl : ∀ i, ds.getD i 0 < 2 ^ n)
    (h : ∀ i k, i < n → k < n → ((cs.getD i 0).testBit k = true ↔ (ds.getD i 0).testBit k = true)) : cs = ds := by
  apply List.ext_getElem?
  intro i
  by_cases hi : i < n
  · have e1 : cs[i]? = some (cs.getD i 0) := by rw [List.getD_eq_getElem?_getD, List.getElem?_eq_getElem (by omega)]; rfl
    have e2 : ds[i]? = some (ds.getD i 0) := by rw [List.getD_eq_getElem?_getD, List.getElem?_eq_getElem (by omega)]; rfl
    rw [e1, e2]
    congr 1
    exact nat_ext (hcl i) (hdl i) fun k hk => h i k hi hk
  · rw [List.getElem?_eq_none (by omega), List.getElem?_eq_none (by omega)]
/-- The set of the first t elements to which k is related from. -/
def colM (rs : List Nat) (k : Nat) : Nat → Nat
  | 0 => 0
  | i + 1 => if (rs.getD i 0).testBit k = true then colM rs k i ||| 2 ^ i else colM rs k i
theorem colM_bit (rs : List Nat) (k t b : Nat) : (colM rs k t).testBit b = true ↔ b < t ∧ R rs b k := by
  induction t with
  | zero => simp [colM]
  | succ t ih =>
    unfold colM
    by_cases h : (rs.getD t 0).testBit k = true
    · rw [if_pos h, Nat.testBit_or, Bool.or_eq_true, ih, p2_bit]
      constructor
      · rintro (⟨h1, h2⟩ | rfl)
        · exact ⟨by omega, h2⟩
        · exact ⟨by omega, h⟩
      · rintro ⟨h1, h2⟩
        by_cases e : t = b
        · exact .inr e
        · exact .inl ⟨by omega, h2⟩
    · rw [if_neg h, ih]
      constructor
      · rintro ⟨h1, h2⟩; exact ⟨by omega, h2⟩
      · rintro ⟨h1, h2⟩
        by_cases e : t = b
        · subst e; exact absurd h2 h
        · exact ⟨by omega, h2⟩
theorem colM_lt (rs : List Nat) (k t n : Nat) (h : t ≤ n) : colM rs k t < 2 ^ n := by
  induction t with
  | zero => exact p2_pos n
  | succ t ih =>
    unfold colM
    split
    · exact Nat.or_lt_two_pow (ih (by omega)) (Nat.pow_lt_pow_right (by decide) (by omega))
    · exact ih (by omega)
def convM (rs : List Nat) : List Nat := (List.range rs.length).map fun k => colM rs k rs.length
theorem convM_len (rs : List Nat) : (convM rs).length = rs.length := by simp [convM]
theorem convM_at (rs : List Nat) (i : Nat) (h : i < rs.length) : (convM rs).getD i 0 = colM rs i rs.length := getD_range_map _ _ _ h
theorem convM_lt (rs : List Nat) (n : Nat) (hn : rs.length = n) (i : Nat) : (convM rs).getD i 0 < 2 ^ n := by
  rcases Nat.lt_or_ge i n with h | h
  · rw [convM_at rs i (by omega), hn]; exact colM_lt rs i n n (Nat.le_refl _)
  · rw [getD_past _ n i (by rw [convM_len, hn]) h]; exact p2_pos n

theorem own_made {w w1 : World} {E n : Nat} (hown0 : w1.ownsRow w.heap.size E 1 (.slice (some ⟨w.heap.size, 0, none⟩) n n) n (madeCells (Value.int .i64 0).cells (n * 1)).toList) :
    Own E w1 w.heap.size (some ⟨w.heap.size, 0, none⟩) n n (ints (List.replicate n 0)) := by
  unfold Own
  have e : ints (List.replicate n 0) = List.replicate n (0 : Int) := by simp [ints]
  rw [e, ← made_int]; exact hown0
theorem replicate_getD (n i : Nat) : (List.replicate n (0 : Nat)).getD i 0 = 0 := by
  rw [List.getD_eq_getElem?_getD, List.getElem?_replicate]
  split <;> rfl
theorem conv_step (rs cs : List Nat) (n i : Nat) (ms : List Nat) (t a : Nat) (hl : cs.length = n) (ha : a < n) (hi : i < n) (hc : ∀ q, cs.getD q 0 < 2 ^ n) (hm : ms[t]? = some a)
    (hb : ∀ q b, ((cs.getD q 0).testBit b = true ↔ (b < i ∧ R rs b q) ∨ (b = i ∧ q ∈ ms.take t))) :
    (∀ q, (cs.set a (cs.getD a 0 ||| 2 ^ i)).getD q 0 < 2 ^ n) ∧ ∀ q b, (((cs.set a (cs.getD a 0 ||| 2 ^ i)).getD q 0).testBit b = true ↔ (b < i ∧ R rs b q) ∨ (b = i ∧ q ∈ ms.take (t + 1))) := by
  have hmem : ∀ q, q ∈ ms.take (t + 1) ↔ q ∈ ms.take t ∨ q = a := by
    intro q
    rw [List.take_add_one, hm, List.mem_append]; simp
  constructor
  · intro q
    rw [getD_set cs a _ q (by omega)]
    split
    · exact Nat.or_lt_two_pow (hc a) (Nat.pow_lt_pow_right (by decide) hi)
    · exact hc q
  · intro q b
    rw [getD_set cs a _ q (by omega), hmem]
    by_cases e : q = a
    · subst e
      rw [if_pos rfl, Nat.testBit_or, Bool.or_eq_true, hb, p2_bit]
      constructor
      · rintro ((h | ⟨h1, h2⟩) | h)
        · exact .inl h
        · exact .inr ⟨h1, .inl h2⟩
        · exact .inr ⟨h.symm, .inr rfl⟩
      · rintro (h | ⟨h1, _⟩)
        · exact .inl (.inl h)
        · exact .inr h1.symm
    · rw [if_neg e, hb]
      constructor
      · rintro (h | ⟨h1, h2⟩)
        · exact .inl h
        · exact .inr ⟨h1, .inl h2⟩
      · rintro (h | ⟨h1, h2 | h2⟩)
        · exact .inl h
        · exact .inr ⟨h1, h2⟩
        · exact absurd h2 e
set_option maxHeartbeats 1600000 in
theorem converse_any (A : Option Addr) (n c : Nat) (rs : List Nat) (w : World) (h : Rd w A n (ints rs)) (hn : n ≤ 24) (hr : ∀ i, rs.getD i 0 < 2 ^ n) (hT : Tab w) :
    Calls Tryd.prog 168 #[.slice A n c] w (MakesE 77 w n (ints (convM rs))) := by
  have hlen : rs.length = n := by have := h.1; rw [ints_len] at this; exact this
  have HL := Lib.hid hlen
  clear hlen
  obtain ⟨i0, hi, hz0, hz1, hz2⟩ := info_parts info_set
  have hml : n ≤ maxLen := by unfold maxLen; omega
  have hby : i0.bytes * n ≤ 281474976710656 := by rw [hz2]; omega
  go_enter Tryd.func168, Tryd.ntmps168
  go_wp2_with (first | (at_make; refine wpList_make_full _ rfl _ _ _ rfl w.heap.size 77 i0 (.int .i64 0) 1 Tryd.underlying66 hi hz0 hz1 _ _ (n : Int) (n : Int) n rfl rfl rfl rfl hby hml (Nat.le_refl _) ?_; intro w1 hown0 hg1))
  have hown := own_made hown0
  clear hown0
  have hb1 : Below w.heap.size w w1 := (Below.refl _ _).grown hg1 (Nat.le_refl _) (by simp)
  clear hg1
  go_loopw [13] (fun i wr => ∃ (k : Nat) (cs : List Nat), k ≤ n ∧ i = .int .i64 k ∧ cs.length = n ∧ Own 77 wr w.heap.size (some ⟨w.heap.size, 0, none⟩) n n (ints cs) ∧ Below w.heap.size w wr ∧ (∀ i, cs.getD i 0 < 2 ^ n) ∧ (∀ i b, ((cs.getD i 0).testBit b = true ↔ b < k ∧ R rs b i))) (fun i _ => n - (intOf i).toNat)
  case atStart => exact ⟨0, List.replicate n 0, Nat.zero_le _, rfl, List.length_replicate, hown, hb1, fun i => by rw [replicate_getD]; exact p2_pos n, fun i b => by rw [replicate_getD]; simp⟩
  case round =>
    clear hown hb1
    obtain ⟨k, cs, hk, rfl, hcl, ho, hb, hcb, hcw⟩ := hrel
    have HC := Lib.hid hcl
    have HW := Lib.hid hcw
    clear hcl hcw
    by_cases hlt : k < n
    · obtain ⟨b, off, x, rfl, hbs, hx, hcx⟩ := (h.below hb).at_ hlt
      have hx2 := ints_getD rs k (by rw [HL.out]; exact hlt)
      rw [hx2] at hx
      injection hx with hx
      subst hx
      have hm := hr k
      have hm24 : rs.getD k 0 < 16777216 := by have := p24 n hn; omega
      obtain ⟨D, hD⟩ : ∃ D, D = rs.getD k 0 := ⟨_, rfl⟩
      rw [← hD] at hcx hm hm24
      have HD := Lib.hid hD
      have hT1 := hT.below hb
      have hgs := (ho.lt _ rfl).2
      have hblen := bitsOf_len D
      clear hD hx2
      obtain ⟨wo, rfl⟩ : ∃ wo : World, wo = wr := ⟨_, rfl⟩
      go_wp2_with fail
      refine (members_any D hm24 _ hT1).mono ?_
      rintro e w2 ⟨A2, c2, rfl, ho2, hb2⟩
      have hbb := hb.trans (hb2.mono hb.size)
      have hoo := ho.below hb2
      obtain ⟨ms, hms⟩ : ∃ ms, ms = bitsOf D := ⟨_, rfl⟩
      rw [← hms] at ho2 hblen ⊢
      have HMS := Lib.hid hms
      have HI : Hid (∀ q b, ((cs.getD q 0).testBit b = true ↔ (b < k ∧ R rs b q) ∨ (b = k ∧ q ∈ ms.take 0))) := Lib.hid (fun q b => by rw [HW.out]; simp)
      clear hms HW ho hb
      go_wp2
      go_loopw [21] (fun i wr => ∃ (t : Nat) (cs : List Nat), t ≤ ms.length ∧ i = .int .i64 t ∧ cs.length = n ∧ Own 77 wr w.heap.size (some ⟨w.heap.size, 0, none⟩) n n (ints cs) ∧ Own 2 wr wo.heap.size A2 ms.length c2 (ints ms) ∧ Below w.heap.size w wr ∧ (∀ i, cs.getD i 0 < 2 ^ n) ∧ (∀ q b, ((cs.getD q 0).testBit b = true ↔ (b < k ∧ R rs b q) ∨ (b = k ∧ q ∈ ms.take t)))) (fun i _ => ms.length - (intOf i).toNat)
      case atStart => exact ⟨0, cs, Nat.zero_le _, rfl, HC.out, hoo, ho2, hbb, hcb, HI.out⟩
      case round =>
        clear hoo hbb hcb HC HI ho2
        obtain ⟨t, cs, ht, rfl, hcl, ho, ho2, hb, hcb, hcw⟩ := hrel
        have HC := Lib.hid hcl
        have HW := Lib.hid hcw
        clear hcl hcw
        by_cases hlt2 : t < ms.length
        · obtain ⟨b2, off2, x2, rfl, hbs2, hx2, hcx2⟩ := ho2.rd.at_ hlt2
          have hma : ms[t]? = some (ms.getD t 0) := by rw [List.getD_eq_getElem?_getD, List.getElem?_eq_getElem hlt2]; rfl
          have hx3 := ints_at hma
          rw [hx3] at hx2
          injection hx2 with hx2
          subst hx2
          obtain ⟨a, haa⟩ : ∃ a, a = ms.getD t 0 := ⟨_, rfl⟩
          rw [← haa] at hma hcx2
          have hmem : a ∈ bitsOf D := by rw [← HMS.out]; exact List.mem_of_getElem? hma
          have han : a < n := bit_lt hm ((bitsOf_mem D a).1 hmem).2
          have hk62 : k ≤ 62 := by omega
          obtain ⟨g, hgg, hgB, hcell, hfr, hset⟩ := own_stored ho han
          injection hgg with hgg
          injection hgg with hgg _ _
          subst hgg
          have hst := Lib.hid (conv_step rs cs n k ms t a HC.out han hlt hcb hma HW.out)
          have hm2 := lt63 hn (hcb a)
          have ho4 := hset (cs.getD a 0 ||| 2 ^ k)
          have hb4 := hb.setCell (p := ⟨w.heap.size, a, none⟩) (Nat.le_refl _) (.int .i64 ((cs.getD a 0 ||| 2 ^ k : Nat) : Int))
          have ho24 := ho2.apart (grown_set (World.grownBy.refl wr (some w.heap.size)) a (.int .i64 ((cs.getD a 0 ||| 2 ^ k : Nat) : Int))) (fun q hq e => by have := (ho2.lt q hq).1; injection e with e; omega)
          obtain ⟨S, hS⟩ : ∃ S, S = cs.getD a 0 := ⟨_, rfl⟩
          rw [← hS] at hcell hst hm2 ho4 hb4 ho24
          have HMA := Lib.hid hma
          clear hS haa hma hx3 hset
          go_wp2_with (go_at_call 57; refine (with_any _ _ hm2 hk62 _).mono ?_; rintro e w' ⟨rfl, rfl⟩)
          go_roundw
          case rel => exact ⟨t + 1, cs.set a (S ||| 2 ^ k), by omega, by go_num, by rw [List.length_set]; exact HC.out, ho4, ho24, hb4, hst.out.1, hst.out.2⟩
          case measure => simp [intOf]; omega
        · obtain rfl : t = ms.length := by omega
          have HW2 : Hid (∀ i b, ((cs.getD i 0).testBit b = true ↔ b < k + 1 ∧ R rs b i)) := Lib.hid (fun i b => by
            rw [HW.out, List.take_of_length_le (Nat.le_refl _), HMS.out, bitsOf_mem]
            constructor
            · rintro (⟨h1, h2⟩ | ⟨h1, h2, h3⟩)
              · exact ⟨by omega, h2⟩
              · subst h1; exact ⟨by omega, by unfold R; rw [← HD.out]; exact h3⟩
            · rintro ⟨h1, h2⟩
              by_cases e : b = k
              · subst e
                unfold R at h2
                rw [← HD.out] at h2
                exact .inr ⟨rfl, by have := bit_lt hm h2; omega, h2⟩
              · exact .inl ⟨by omega, h2⟩)
          clear HW
          go_wp2
          go_roundw
          case rel => exact ⟨k + 1, cs, by omega, by go_num, HC.out, ho, hb, hcb, HW2.out⟩
          case measure => simp [intOf]; omega
    · obtain rfl : k = n := by omega
      go_wp2
      go_ret
      refine ⟨_, _, rfl, ?_, hb⟩
      rw [← masks_eq cs (convM rs) k HC.out (by rw [convM_len, HL.out]) hcb (convM_lt rs k HL.out) (fun i b hi hb => by rw [HW.out i b, convM_at rs i (by rw [HL.out]; exact hi), colM_bit, HL.out])]
      exact ho

/-- A list for a relation, else ErrInvalid. -/
def ansR (f : List Nat → List Nat) (xs : List Int) : List Int × Int := if relB xs = true then (ints (f (xs.map Int.toNat)), 0) else ([], 1)
theorem ansR_no (f : List Nat → List Nat) (xs : List Int) (h : relB xs = false) : ansR f xs = ([], 1) := by unfold ansR; rw [if_neg (by rw [h]; decide)]
theorem ansR_yes (f : List Nat → List Nat) (xs : List Int) (n : Nat) (hl : xs.length = n) (h : relB xs = true) :
    ∃ rs, xs = ints rs ∧ n ≤ 24 ∧ (∀ i, rs.getD i 0 < 2 ^ n) ∧ relB (ints rs) = true ∧ ansR f xs = (ints (f rs), 0) := by
  obtain ⟨h1, h2⟩ := clos_nats xs h
  have h3 := relB_len xs h
  subst hl
  exact ⟨_, h1, h3, h2, by rw [← h1]; exact h, by unfold ansR; rw [if_pos h]⟩
theorem ansR_small (f : List Nat → List Nat) (b : Nat) (hf : ∀ rs, rs.length ≤ 24 → (f rs).length ≤ b) (xs : List Int) : (ansR f xs).1.length ≤ b := by
  unfold ansR
  split
  · rename_i h
    show (ints _).length ≤ b
    rw [ints_len]; exact hf _ (by rw [List.length_map]; exact relB_len xs h)
  · exact Nat.zero_le _
def convAns (xs : List Int) : List Int × Int := ansR convM xs
theorem convAns_small (xs : List Int) : (convAns xs).1.length ≤ 24 := ansR_small convM 24 (fun rs h => by rw [convM_len]; exact h) xs
end Go.Proofs.YtdafdffmkjhhcaaDoor

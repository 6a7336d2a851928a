/-
  The least member and the number of members of a set: the library's bit functions, by contracts. The library's table is asked for by its cells.
-/
import Derived.Test.YtmifkbmgpofjbaaDoorBits
import Derived.Test.YtmifkbmgpofjbaaDoorMaskOf
import Derived.Test.YtmifkbmgpofjbaaDoorCloMath
import Derived.Laws.Bits64b
import Derived.Lib.TrailingZeros
namespace Go.Proofs.YtmifkbmgpofjbaaDoor
open Go.RowKit
set_option linter.unusedVariables false
set_option maxRecDepth 100000

/-- The library's table lies in its variable. -/
def Tab (w : World) : Prop := ∀ j, j < 64 → w.cell? ⟨0, j, none⟩ = some (.int .u8 ((Lib.deBruijn64tab.getD j 0 : Nat) : Int))
theorem Tab.below {w w' : World} (h : Tab w) (hb : Below w.heap.size w w') : Tab w' := fun j hj =>
  (hb.cell (p := ⟨0, j, none⟩) (block_lt_of_cell (h j hj))).trans (h j hj)

theorem tz_key (x a : Nat) (hx : x < 18446744073709551616) (hx0 : x ≠ 0) (hlow : x &&& (18446744073709551616 - x) = a) :
    IntKind.u64.wrap (bits BinOp.and IntKind.u64 (x : Int) (IntKind.u64.wrap (-(x : Int))) * 285870213051353865) / 288230376151711744 = ((a * 285870213051353865 % 18446744073709551616 / 288230376151711744 : Nat) : Int) := by
  have e1 : IntKind.u64.wrap (-(x : Int)) = ((18446744073709551616 - x : Nat) : Int) := by rw [IntKind.wrap_u64]; omega
  rw [e1, bits_and_u64_nat x _ hx (by omega), hlow, IntKind.wrap_u64]
  omega
set_option maxHeartbeats 1000000 in
theorem tz_core (x k idx : Nat) (w : World) (hx0 : ((x : Int) == 0) = false)
    (key : IntKind.u64.wrap (bits BinOp.and IntKind.u64 (x : Int) (IntKind.u64.wrap (-(x : Int))) * 285870213051353865) / 288230376151711744 = (idx : Int))
    (hi : idx < 64) (hk : k < 64) (hcell : w.cell? ⟨0, idx, none⟩ = some (.int .u8 k)) :
    Calls Tryd.prog 114 #[.int .u64 x] w fun e w' => e = .returned (.int .i64 k) ∧ w = w' := by
  go_enter Tryd.func114, Tryd.ntmps114
  go_wp2_with (simp only [key])
  go_ret
  exact ⟨rfl, rfl⟩
theorem tz_any (x : Nat) (hx : x < 18446744073709551616) (hx0 : x ≠ 0) (w : World) (hT : Tab w) :
    Calls Tryd.prog 114 #[.int .u64 x] w fun e w' => e = .returned (.int .i64 (Lib.ctz 64 x)) ∧ w = w' := by
  obtain ⟨hlow, hk⟩ := Lib.lowest_bit 64 x hx0 hx
  obtain ⟨hi, htab⟩ := Lib.deBruijn64_at _ hk
  have hcell := hT _ hi
  rw [htab] at hcell
  exact tz_core x _ _ w (by simp; omega) (tz_key x _ hx hx0 hlow) hi hk hcell
/-- The least member. -/
def low (x : Nat) : Nat := Lib.ctz 64 x
theorem least_any (x : Nat) (hx : x < 9223372036854775808) (hx0 : x ≠ 0) (w : World) (hT : Tab w) :
    Calls Tryd.prog 102 #[.int .i64 (x : Int)] w fun e w' => e = .returned (.int .i64 (low x : Nat)) ∧ w = w' := by
  have hx2 : x < 18446744073709551616 := by omega
  go_enter Tryd.func102, Tryd.ntmps102
  go_wp2_with (go_at_call 114; refine (tz_any x hx2 hx0 _ hT).mono ?_; rintro e w' ⟨rfl, rfl⟩)
  go_ret
  exact ⟨rfl, rfl⟩
theorem low_spec (x : Nat) (hx0 : x ≠ 0) (hx : x < 9223372036854775808) : ∃ m, x = 2 ^ low x * (2 * m + 1) ∧ low x < 64 := by
  unfold low Lib.ctz
  rw [if_neg hx0]
  exact Lib.ctzFrom_spec 64 x (by omega) (by omega)
theorem odd_bit (l m b : Nat) : (2 ^ l * (2 * m + 1)).testBit b = (decide (b = l) || (decide (l < b) && m.testBit (b - l - 1))) := by
  rw [Nat.testBit_two_pow_mul]
  by_cases h : l ≤ b
  · obtain ⟨d, rfl⟩ : ∃ d, b = l + d := ⟨b - l, by omega⟩
    have e : l + d - l = d := by omega
    rw [e]
    cases d with
    | zero => simp
    | succ d =>
      have e3 : (2 * m + 1).testBit (d + 1) = m.testBit d := by
        rw [Nat.testBit_succ]; congr 1; omega
      rw [e3]
      have e4 : d + 1 - 1 = d := by omega
      rw [e4]; simp
  · have e1 : decide (l ≤ b) = false := decide_eq_false h
    have e2 : decide (b = l) = false := decide_eq_false (by omega)
    have e3 : decide (l < b) = false := decide_eq_false (by omega)
    rw [e1, e2, e3]; rfl
theorem pred_bit (l m b : Nat) (hb : l < b) : (2 ^ l * (2 * m + 1) - 1).testBit b = m.testBit (b - l - 1) := by
  have hp := p2_pos l
  have e0 : 2 ^ l * (2 * m + 1) - 1 = 2 ^ l * (2 * m) + (2 ^ l - 1) := by rw [Nat.mul_add]; omega
  have hl : 2 ^ l - 1 < 2 ^ l := by omega
  rw [e0, Nat.testBit_two_pow_mul_add _ hl, if_neg (by omega)]
  obtain ⟨d, rfl⟩ : ∃ d, b = l + (d + 1) := ⟨b - l - 1, by omega⟩
  have e1 : l + (d + 1) - l = d + 1 := by omega
  have e2 : d + 1 - 1 = d := by omega
  rw [e1, e2, Nat.testBit_succ]; congr 1; omega
theorem pred_low (l m : Nat) : (2 ^ l * (2 * m + 1) - 1).testBit l = false := by
  have hp := p2_pos l
  have e0 : 2 ^ l * (2 * m + 1) - 1 = 2 ^ l * (2 * m) + (2 ^ l - 1) := by rw [Nat.mul_add]; omega
  have hl : 2 ^ l - 1 < 2 ^ l := by omega
  rw [e0, Nat.testBit_two_pow_mul_add _ hl, if_neg (by omega), Nat.sub_self, Nat.testBit_zero]
  simp
/-- The least member is one, no lesser number is, and x &&& (x - 1) is without it. -/
theorem low_bit (x : Nat) (hx0 : x ≠ 0) (hx : x < 9223372036854775808) : x.testBit (low x) = true ∧ (∀ b, b < low x → x.testBit b = false) ∧ ∀ b, (x &&& (x - 1)).testBit b = (x.testBit b && !decide (b = low x)) := by
  obtain ⟨m, e, _⟩ := low_spec x hx0 hx
  generalize low x = l at e
  subst e
  refine ⟨by rw [odd_bit]; simp, fun b hb => ?_, fun b => ?_⟩
  · rw [odd_bit, decide_eq_false (by omega), decide_eq_false (by omega)]; rfl
  · rw [Nat.testBit_and, odd_bit]
    rcases Nat.lt_trichotomy b l with h | h | h
    · rw [decide_eq_false (by omega), decide_eq_false (by omega)]; rfl
    · subst h; rw [pred_low]; simp
    · rw [pred_bit l m b h, decide_eq_false (by omega), decide_eq_true h]; simp
theorem and127 (y : Int) : ∃ k : Nat, k ≤ 127 ∧ bits .and .i64 y 127 = (k : Int) := by
  refine ⟨(BitVec.ofInt 64 y).toNat &&& 127, Nat.and_le_right, ?_⟩
  have hx : (BitVec.ofInt 64 y).toNat &&& 127 ≤ 127 := Nat.and_le_right
  show IntKind.i64.wrap ((BitVec.ofInt 64 y &&& BitVec.ofInt 64 127).toNat : Int) = _
  rw [BitVec.toNat_and]
  have e : (BitVec.ofInt 64 127).toNat = 127 := by decide
  rw [e, i64_nat _ (by omega)]
/-- Some number of at most 127. -/
def Few (w : World) (e : Ending) (w' : World) : Prop := ∃ k : Nat, k ≤ 127 ∧ e = .returned (.int .i64 (k : Int)) ∧ w = w'
set_option maxHeartbeats 1000000 in
theorem ones_any (x : Nat) (hx : x < 9223372036854775808) (w : World) :
    Calls Tryd.prog 113 #[.int .u64 (x : Int)] w (Few w) := by
  go_enter Tryd.func113, Tryd.ntmps113
  go_wp2
  go_ret
  obtain ⟨k, hk, e⟩ := and127 _
  exact ⟨k, hk, ret_i _ _ e, rfl⟩
theorem size_any (x : Nat) (hx : x < 9223372036854775808) (w : World) :
    Calls Tryd.prog 101 #[.int .i64 (x : Int)] w (Few w) := by
  have hx2 : x < 18446744073709551616 := by omega
  go_enter Tryd.func101, Tryd.ntmps101
  go_wp2_with (go_at_call 113; refine (ones_any x hx _).mono ?_; rintro e w' ⟨k, hk, rfl, rfl⟩)
  go_ret
  exact ⟨k, hk, rfl, rfl⟩
end Go.Proofs.YtmifkbmgpofjbaaDoor

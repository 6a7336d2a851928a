/-
  The small functions of chapter 1 by contracts: what each one answers, and that the world is left as it was.
-/
import Derived.Test.YtmifkbmgpofjbaaDoorRows
import Derived.Test.YtmifkbmgpofjbaaDoorMath
import Derived.WalkKit
import Derived.WalkLawsBesides
import Derived.WalkSpells
import Derived.Deep.DeepMust
import Derived.Lib.Hide
namespace Go.Proofs.YtmifkbmgpofjbaaDoor
open Go.RowKit
set_option linter.unusedVariables false
set_option maxRecDepth 100000

theorem w64_nat (r : Nat) (h : r < 9223372036854775808) : wrap64 (r : Int) = (r : Int) := by unfold wrap64; omega
theorem w64_p2 (k : Nat) (hk : k ≤ 62) : wrap64 (2 ^ k : Int) = ((2 ^ k : Nat) : Int) := by
  have e : (2 ^ k : Int) = ((2 ^ k : Nat) : Int) := by rw [Int.natCast_pow]; rfl
  rw [e]; exact w64_nat _ (p2_lt k hk)
theorem w64_p2p (k : Nat) (hk : k ≤ 62) : wrap64 (wrap64 (2 ^ k : Int) - 1) = ((2 ^ k - 1 : Nat) : Int) := by
  have hp := p2_lt k hk
  have hq := p2_pos k
  rw [w64_p2 k hk]
  have e : (((2 ^ k : Nat) : Int) - 1) = ((2 ^ k - 1 : Nat) : Int) := by omega
  rw [e]; exact w64_nat _ (by omega)
theorem ret_i (a b : Int) (h : a = b) : Ending.returned (.int .i64 a) = .returned (.int .i64 b) := by rw [h]
theorem ret_b (a b : Bool) (h : a = b) : Ending.returned (.bool a) = .returned (.bool b) := by rw [h]

theorem one_any (k : Nat) (hk : k ≤ 62) (w : World) :
    Calls Tryd.prog 78 #[.int .i64 (k : Int)] w fun e w' => e = .returned (.int .i64 ((2 ^ k : Nat) : Int)) ∧ w = w' := by
  go_enter Tryd.func78, Tryd.ntmps78
  go_wp2
  go_ret
  exact ⟨ret_i _ _ (w64_p2 k hk), rfl⟩
theorem full_any (k : Nat) (hk : k ≤ 62) (w : World) :
    Calls Tryd.prog 63 #[.int .i64 (k : Int)] w fun e w' => e = .returned (.int .i64 ((2 ^ k - 1 : Nat) : Int)) ∧ w = w' := by
  go_enter Tryd.func63, Tryd.ntmps63
  go_wp2
  go_ret
  exact ⟨ret_i _ _ (w64_p2p k hk), rfl⟩
theorem in_any (n lo hi : Int) (w : World) :
    Calls Tryd.prog 62 #[.int .i64 n, .int .i64 lo, .int .i64 hi] w fun e w' => e = .returned (.bool (decide (lo ≤ n ∧ n ≤ hi))) ∧ w = w' := by
  go_enter Tryd.func62, Tryd.ntmps62
  go_wp2
  all_goals go_ret
  · exact ⟨ret_b _ _ (by simp [*]), rfl⟩
  · exact ⟨ret_b _ _ (by simp; omega), rfl⟩
theorem in_true (n lo hi : Int) (h : lo ≤ n ∧ n ≤ hi) (w : World) :
    Calls Tryd.prog 62 #[.int .i64 n, .int .i64 lo, .int .i64 hi] w fun e w' => e = .returned (.bool true) ∧ w = w' :=
  (in_any n lo hi w).mono fun _ _ ⟨he, hw⟩ => ⟨by rw [he, decide_eq_true h], hw⟩
theorem in_false (n lo hi : Int) (h : ¬ (lo ≤ n ∧ n ≤ hi)) (w : World) :
    Calls Tryd.prog 62 #[.int .i64 n, .int .i64 lo, .int .i64 hi] w fun e w' => e = .returned (.bool false) ∧ w = w' :=
  (in_any n lo hi w).mono fun _ _ ⟨he, hw⟩ => ⟨by rw [he, decide_eq_false h], hw⟩
theorem minus_int (n m : Int) (w : World) :
    Calls Tryd.prog 109 #[.int .i64 n, .int .i64 m] w fun e w' => e = .returned (.int .i64 (bits .andNot .i64 n m)) ∧ w = w' := by
  go_enter Tryd.func109, Tryd.ntmps109
  go_wp2
  go_ret
  exact ⟨rfl, rfl⟩
theorem isWithin_int (n m : Int) (w : World) :
    Calls Tryd.prog 93 #[.int .i64 n, .int .i64 m] w fun e w' => e = .returned (.bool (bits .andNot .i64 n m == 0)) ∧ w = w' := by
  go_enter Tryd.func93, Tryd.ntmps93
  go_wp2_with (go_at_call 109; refine (minus_int _ _ _).mono ?_; rintro e w' ⟨rfl, rfl⟩)
  go_ret
  exact ⟨rfl, rfl⟩
theorem firstNumbers_any (k : Nat) (hk : k ≤ 62) (w : World) :
    Calls Tryd.prog 88 #[.int .i64 (k : Int)] w fun e w' => e = .returned (.int .i64 ((2 ^ k - 1 : Nat) : Int)) ∧ w = w' := by
  go_enter Tryd.func88, Tryd.ntmps88
  go_wp2
  go_ret
  exact ⟨ret_i _ _ (w64_p2p k hk), rfl⟩
/-- impl.IsMask: for a number of int64's kind. -/
theorem isMask_any (m n : Int) (hm1 : -9223372036854775808 ≤ m) (hm2 : m ≤ 9223372036854775807) (w : World) :
    Calls Tryd.prog 65 #[.int .i64 m, .int .i64 n] w fun e w' => e = .returned (.bool (isMaskB m n)) ∧ w = w' := by
  by_cases h0 : 0 ≤ n
  · by_cases h1 : n ≤ 24
    · obtain ⟨k, rfl⟩ := Int.eq_ofNat_of_zero_le h0
      have hk : k ≤ 62 := by omega
      go_enter Tryd.func65, Tryd.ntmps65
      go_wp2_with (first | (go_at_call 88; refine (firstNumbers_any k hk _).mono ?_; rintro e w' ⟨rfl, rfl⟩) | (go_at_call 93; refine (isWithin_int _ _ _).mono ?_; rintro e w' ⟨rfl, rfl⟩))
      go_ret
      exact ⟨ret_b _ _ (by rw [andNot_full m k hk hm1 hm2, isMaskB_in m k (by omega)]), rfl⟩
    · go_enter Tryd.func65, Tryd.ntmps65
      go_wp2
      go_ret
      exact ⟨ret_b _ _ (isMaskB_high m n (by omega)).symm, rfl⟩
  · go_enter Tryd.func65, Tryd.ntmps65
    go_wp2
    go_ret
    exact ⟨ret_b _ _ (isMaskB_low m n (by omega)).symm, rfl⟩
end Go.Proofs.YtmifkbmgpofjbaaDoor

/-
  The small functions of chapter 1 by contracts: what each one answers, and that the world is left as it was.
-/
import Derived.Test.YtbjkpkgnjeaimaaDoorRows
import Derived.Test.YtbjkpkgnjeaimaaDoorMath
import Derived.WalkKit
import Derived.WalkLawsBesides
import Derived.WalkSpells
import Derived.Deep.DeepMust
import Derived.Lib.Hide
namespace Go.Proofs.YtbjkpkgnjeaimaaDoor
open Go.RowKit
set_option linter.unusedVariables false
set_option maxRecDepth 100000

theorem w64_nat (r : Nat) (h : r < 9223372036854775808) : wrap64 (r : Int) = (r : Int) := by unfold wrap64; omega
theorem w64_p2 (k : Nat) (hk : k ≤ 62) : wrap64 (2 ^ k : Int) = ((2 ^ k : Nat) : Int) := by
  have e : (2 ^ k : Int) = ((2 ^ k : Nat) : Int) := by rw [Int.natCast_pow]; rfl
  rw [e]; exact w64_nat _ (p2_lt k hk)
theorem w64_p2p (k : Nat) (hk : k ≤ 62) : wrap64 (wrap64 (2 ^ k : Int) - 1) = ((2 ^ k - 1 : Nat) : Int) := by
  have hp := p2_lt k hk
  have hq := p2_pos k
  rw [w64_p2 k hk]
  have e : (((2 ^ k : Nat) : Int) - 1) = ((2 ^ k - 1 : Nat) : Int) := by omega
  rw [e]; exact w64_nat _ (by omega)
theorem ret_i (a b : Int) (h : a = b) : Ending.returned (.int .i64 a) = .returned (.int .i64 b) := by rw [h]
theorem ret_b (a b : Bool) (h : a = b) : Ending.returned (.bool a) = .returned (.bool b) := by rw [h]

theorem one_any (k : Nat) (hk : k ≤ 62) (w : World) :
    Calls Tryd.prog 62 #[.int .i64 (k : Int)] w fun e w' => e = .returned (.int .i64 ((2 ^ k : Nat) : Int)) ∧ w = w' := by
  go_enter Tryd.func62, Tryd.ntmps62
  go_wp2
  go_ret
  exact ⟨ret_i _ _ (w64_p2 k hk), rfl⟩
theorem full_any (k : Nat) (hk : k ≤ 62) (w : World) :
    Calls Tryd.prog 68 #[.int .i64 (k : Int)] w fun e w' => e = .returned (.int .i64 ((2 ^ k - 1 : Nat) : Int)) ∧ w = w' := by
  go_enter Tryd.func68, Tryd.ntmps68
  go_wp2
  go_ret
  exact ⟨ret_i _ _ (w64_p2p k hk), rfl⟩
theorem in_any (n lo hi : Int) (w : World) :
    Calls Tryd.prog 51 #[.int .i64 n, .int .i64 lo, .int .i64 hi] w fun e w' => e = .returned (.bool (decide (lo ≤ n ∧ n ≤ hi))) ∧ w = w' := by
  go_enter Tryd.func51, Tryd.ntmps51
  go_wp2
  all_goals go_ret
  · exact ⟨ret_b _ _ (by simp [*]), rfl⟩
  · exact ⟨ret_b _ _ (by simp; omega), rfl⟩
theorem in_true (n lo hi : Int) (h : lo ≤ n ∧ n ≤ hi) (w : World) :
    Calls Tryd.prog 51 #[.int .i64 n, .int .i64 lo, .int .i64 hi] w fun e w' => e = .returned (.bool true) ∧ w = w' :=
  (in_any n lo hi w).mono fun _ _ ⟨he, hw⟩ => ⟨by rw [he, decide_eq_true h], hw⟩
theorem in_false (n lo hi : Int) (h : ¬ (lo ≤ n ∧ n ≤ hi)) (w : World) :
    Calls Tryd.prog 51 #[.int .i64 n, .int .i64 lo, .int .i64 hi] w fun e w' => e = .returned (.bool false) ∧ w = w' :=
  (in_any n lo hi w).mono fun _ _ ⟨he, hw⟩ => ⟨by rw [he, decide_eq_false h], hw⟩
theorem minus_int (n m : Int) (w : World) :
    Calls Tryd.prog 92 #[.int .i64 n, .int .i64 m] w fun e w' => e = .returned (.int .i64 (bits .andNot .i64 n m)) ∧ w = w' := by
  go_enter Tryd.func92, Tryd.ntmps92
  go_wp2
  go_ret
  exact ⟨rfl, rfl⟩
theorem isWithin_int (n m : Int) (w : World) :
    Calls Tryd.prog 96 #[.int .i64 n, .int .i64 m] w fun e w' => e = .returned (.bool (bits .andNot .i64 n m == 0)) ∧ w = w' := by
  go_enter Tryd.func96, Tryd.ntmps96
  go_wp2_with (go_at_call 92; refine (minus_int _ _ _).mono ?_; rintro e w' ⟨rfl, rfl⟩)
  go_ret
  exact ⟨rfl, rfl⟩
theorem firstNumbers_any (k : Nat) (hk : k ≤ 62) (w : World) :
    Calls Tryd.prog 91 #[.int .i64 (k : Int)] w fun e w' => e = .returned (.int .i64 ((2 ^ k - 1 : Nat) : Int)) ∧ w = w' := by
  go_enter Tryd.func91, Tryd.ntmps91
  go_wp2
  go_ret
  exact ⟨ret_i _ _ (w64_p2p k hk), rfl⟩
/-- impl.IsMask: for a number of int64's kind. -/
theorem isMask_any (m n : Int) (hm1 : -9223372036854775808 ≤ m) (hm2 : m ≤ 9223372036854775807) (w : World) :
    Calls Tryd.prog 71 #[.int .i64 m, .int .i64 n] w fun e w' => e = .returned (.bool (isMaskB m n)) ∧ w = w' := by
  by_cases h0 : 0 ≤ n
  · by_cases h1 : n ≤ 24
    · obtain ⟨k, rfl⟩ := Int.eq_ofNat_of_zero_le h0
      have hk : k ≤ 62 := by omega
      go_enter Tryd.func71, Tryd.ntmps71
      go_wp2_with (first | (go_at_call 91; refine (firstNumbers_any k hk _).mono ?_; rintro e w' ⟨rfl, rfl⟩) | (go_at_call 96; refine (isWithin_int _ _ _).mono ?_; rintro e w' ⟨rfl, rfl⟩))
      go_ret
      exact ⟨ret_b _ _ (by rw [andNot_full m k hk hm1 hm2, isMaskB_in m k (by omega)]), rfl⟩
    · go_enter Tryd.func71, Tryd.ntmps71
      go_wp2
      go_ret
      exact ⟨ret_b _ _ (isMaskB_high m n (by omega)).symm, rfl⟩
  · go_enter Tryd.func71, Tryd.ntmps71
    go_wp2
    go_ret
    exact ⟨ret_b _ _ (isMaskB_low m n (by omega)).symm, rfl⟩
end Go.Proofs.YtbjkpkgnjeaimaaDoor

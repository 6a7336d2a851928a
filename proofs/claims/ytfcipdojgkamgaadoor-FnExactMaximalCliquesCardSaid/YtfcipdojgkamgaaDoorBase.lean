/-
  The small functions of chapter 1 by contracts: what each one answers, and that the world is left as it was.
-/
import Derived.Test.YtfcipdojgkamgaaDoorRows
import Derived.Test.YtfcipdojgkamgaaDoorMath
import Derived.WalkKit
import Derived.WalkLawsBesides
import Derived.WalkSpells
import Derived.Deep.DeepMust
import Derived.Lib.Hide
namespace Go.Proofs.YtfcipdojgkamgaaDoor
open Go.RowKit
set_option linter.unusedVariables false
set_option maxRecDepth 100000

theorem w64_nat (r : Nat) (h : r < 9223372036854775808) : wrap64 (r : Int) = (r : Int) := by unfold wrap64; omega
theorem w64_p2 (k : Nat) (hk : k ≤ 62) : wrap64 (2 ^ k : Int) = ((2 ^ k : Nat) : Int) := by
  have e : (2 ^ k : Int) = ((2 ^ k : Nat) : Int) := by rw [Int.natCast_pow]; rfl
  rw [e]; exact w64_nat _ (p2_lt k hk)
theorem w64_p2p (k : Nat) (hk : k ≤ 62) : wrap64 (wrap64 (2 ^ k : Int) - 1) = ((2 ^ k - 1 : Nat) : Int) := by
  have hp := p2_lt k hk
  have hq := p2_pos k
  rw [w64_p2 k hk]
  have e : (((2 ^ k : Nat) : Int) - 1) = ((2 ^ k - 1 : Nat) : Int) := by omega
  rw [e]; exact w64_nat _ (by omega)
theorem ret_i (a b : Int) (h : a = b) : Ending.returned (.int .i64 a) = .returned (.int .i64 b) := by rw [h]
theorem ret_b (a b : Bool) (h : a = b) : Ending.returned (.bool a) = .returned (.bool b) := by rw [h]

theorem one_any (k : Nat) (hk : k ≤ 62) (w : World) :
    Calls Tryd.prog 55 #[.int .i64 (k : Int)] w fun e w' => e = .returned (.int .i64 ((2 ^ k : Nat) : Int)) ∧ w = w' := by
  go_enter Tryd.func55, Tryd.ntmps55
  go_wp2
  go_ret
  exact ⟨ret_i _ _ (w64_p2 k hk), rfl⟩
theorem full_any (k : Nat) (hk : k ≤ 62) (w : World) :
    Calls Tryd.prog 77 #[.int .i64 (k : Int)] w fun e w' => e = .returned (.int .i64 ((2 ^ k - 1 : Nat) : Int)) ∧ w = w' := by
  go_enter Tryd.func77, Tryd.ntmps77
  go_wp2
  go_ret
  exact ⟨ret_i _ _ (w64_p2p k hk), rfl⟩
theorem in_any (n lo hi : Int) (w : World) :
    Calls Tryd.prog 76 #[.int .i64 n, .int .i64 lo, .int .i64 hi] w fun e w' => e = .returned (.bool (decide (lo ≤ n ∧ n ≤ hi))) ∧ w = w' := by
  go_enter Tryd.func76, Tryd.ntmps76
  go_wp2
  all_goals go_ret
  · exact ⟨ret_b _ _ (by simp [*]), rfl⟩
  · exact ⟨ret_b _ _ (by simp; omega), rfl⟩
theorem in_true (n lo hi : Int) (h : lo ≤ n ∧ n ≤ hi) (w : World) :
    Calls Tryd.prog 76 #[.int .i64 n, .int .i64 lo, .int .i64 hi] w fun e w' => e = .returned (.bool true) ∧ w = w' :=
  (in_any n lo hi w).mono fun _ _ ⟨he, hw⟩ => ⟨by rw [he, decide_eq_true h], hw⟩
theorem in_false (n lo hi : Int) (h : ¬ (lo ≤ n ∧ n ≤ hi)) (w : World) :
    Calls Tryd.prog 76 #[.int .i64 n, .int .i64 lo, .int .i64 hi] w fun e w' => e = .returned (.bool false) ∧ w = w' :=
  (in_any n lo hi w).mono fun _ _ ⟨he, hw⟩ => ⟨by rw [he, decide_eq_false h], hw⟩
theorem minus_int (n m : Int) (w : World) :
    Calls Tryd.prog 84 #[.int .i64 n, .int .i64 m] w fun e w' => e = .returned (.int .i64 (bits .andNot .i64 n m)) ∧ w = w' := by
  go_enter Tryd.func84, Tryd.ntmps84
  go_wp2
  go_ret
  exact ⟨rfl, rfl⟩
theorem isWithin_int (n m : Int) (w : World) :
    Calls Tryd.prog 73 #[.int .i64 n, .int .i64 m] w fun e w' => e = .returned (.bool (bits .andNot .i64 n m == 0)) ∧ w = w' := by
  go_enter Tryd.func73, Tryd.ntmps73
  go_wp2_with (go_at_call 84; refine (minus_int _ _ _).mono ?_; rintro e w' ⟨rfl, rfl⟩)
  go_ret
  exact ⟨rfl, rfl⟩
theorem firstNumbers_any (k : Nat) (hk : k ≤ 62) (w : World) :
    Calls Tryd.prog 74 #[.int .i64 (k : Int)] w fun e w' => e = .returned (.int .i64 ((2 ^ k - 1 : Nat) : Int)) ∧ w = w' := by
  go_enter Tryd.func74, Tryd.ntmps74
  go_wp2
  go_ret
  exact ⟨ret_i _ _ (w64_p2p k hk), rfl⟩
/-- impl.IsMask: for a number of int64's kind. -/
theorem isMask_any (m n : Int) (hm1 : -9223372036854775808 ≤ m) (hm2 : m ≤ 9223372036854775807) (w : World) :
    Calls Tryd.prog 43 #[.int .i64 m, .int .i64 n] w fun e w' => e = .returned (.bool (isMaskB m n)) ∧ w = w' := by
  by_cases h0 : 0 ≤ n
  · by_cases h1 : n ≤ 24
    · obtain ⟨k, rfl⟩ := Int.eq_ofNat_of_zero_le h0
      have hk : k ≤ 62 := by omega
      go_enter Tryd.func43, Tryd.ntmps43
      go_wp2_with (first | (go_at_call 74; refine (firstNumbers_any k hk _).mono ?_; rintro e w' ⟨rfl, rfl⟩) | (go_at_call 73; refine (isWithin_int _ _ _).mono ?_; rintro e w' ⟨rfl, rfl⟩))
      go_ret
      exact ⟨ret_b _ _ (by rw [andNot_full m k hk hm1 hm2, isMaskB_in m k (by omega)]), rfl⟩
    · go_enter Tryd.func43, Tryd.ntmps43
      go_wp2
      go_ret
      exact ⟨ret_b _ _ (isMaskB_high m n (by omega)).symm, rfl⟩
  · go_enter Tryd.func43, Tryd.ntmps43
    go_wp2
    go_ret
    exact ⟨ret_b _ _ (isMaskB_low m n (by omega)).symm, rfl⟩
/-- spec.IsMask. -/
theorem specIsMask_any (m n : Int) (w : World) :
    Calls Tryd.prog 45 #[.int .i64 m, .int .i64 n] w fun e w' => e = .returned (.bool (isMaskB m n)) ∧ w = w' := by
  by_cases h : 0 ≤ n ∧ n ≤ 24
  · obtain ⟨k, rfl⟩ := Int.eq_ofNat_of_zero_le h.1
    have hk : k ≤ 62 := by omega
    have hk2 : k ≤ 24 := by omega
    have hq := p2_pos k
    go_enter Tryd.func45, Tryd.ntmps45
    go_wp2_with (first | (go_at_call 77; refine (full_any k hk _).mono ?_; rintro e w' ⟨rfl, rfl⟩) | (go_at_call 76; first | ((with_reducible refine (in_true (k : Int) 0 24 h _).mono ?_); rintro e w' ⟨rfl, rfl⟩) | ((with_reducible refine (in_any m _ _ _).mono ?_); rintro e w' ⟨rfl, rfl⟩)))
    go_ret
    refine ⟨ret_b _ _ ?_, rfl⟩
    rw [isMaskB_in m k hk2, Bool.eq_iff_iff]; simp only [Bool.and_eq_true, decide_eq_true_eq]; omega
  · go_enter Tryd.func45, Tryd.ntmps45
    go_wp2_with (go_at_call 76; refine (in_false n 0 24 h _).mono ?_; rintro e w' ⟨rfl, rfl⟩)
    go_ret
    refine ⟨ret_b _ _ ?_, rfl⟩
    by_cases h2 : 0 ≤ n
    · exact (isMaskB_high m n (by omega)).symm
    · exact (isMaskB_low m n (by omega)).symm
end Go.Proofs.YtfcipdojgkamgaaDoor

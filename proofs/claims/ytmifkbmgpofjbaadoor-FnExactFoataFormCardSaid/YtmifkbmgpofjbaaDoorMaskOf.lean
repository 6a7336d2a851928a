/-
  MaskOf and its model by contracts.
-/
import Derived.Test.YtmifkbmgpofjbaaDoorHelp
namespace Go.Proofs.YtmifkbmgpofjbaaDoor
open Go.RowKit
set_option linter.unusedVariables false
set_option maxRecDepth 100000

theorem ret_ii (a b c d : Int) (h : a = c) (g : b = d) : Ending.returned (.tuple #[.int .i64 a, .int .i64 b]) = .returned (.tuple #[.int .i64 c, .int .i64 d]) := by rw [h, g]
theorem ret_ans {a b : Int} {p : Int × Int} (h : p = (a, b)) : Ending.returned (.tuple #[.int .i64 a, .int .i64 b]) = .returned (.tuple #[.int .i64 p.1, .int .i64 p.2]) := by rw [h]
theorem or_w64 (m k : Nat) (hm : m < 9223372036854775808) (hk : k ≤ 62) : bits .or .i64 (m : Int) (wrap64 (2 ^ k : Int)) = ((m ||| 2 ^ k : Nat) : Int) := by
  rw [w64_p2 k hk, i64_or_nat m (2 ^ k) hm (p2_lt k hk)]
theorem or_p2 (m k : Nat) (hm : m < 9223372036854775808) (hk : k ≤ 62) : bits .or .i64 (m : Int) (2 ^ k : Int) = ((m ||| 2 ^ k : Nat) : Int) := by
  have e : (2 ^ k : Int) = ((2 ^ k : Nat) : Int) := by rw [Int.natCast_pow]; rfl
  rw [e, i64_or_nat m (2 ^ k) hm (p2_lt k hk)]
theorem with_any (m k : Nat) (hm : m < 9223372036854775808) (hk : k ≤ 62) (w : World) :
    Calls Tryd.prog 80 #[.int .i64 (m : Int), .int .i64 (k : Int)] w fun e w' => e = .returned (.int .i64 ((m ||| 2 ^ k : Nat) : Int)) ∧ w = w' := by
  go_enter Tryd.func80, Tryd.ntmps80
  go_wp2
  go_ret
  exact ⟨ret_i _ _ (or_w64 m k hm hk), rfl⟩

end Go.Proofs.YtmifkbmgpofjbaaDoor

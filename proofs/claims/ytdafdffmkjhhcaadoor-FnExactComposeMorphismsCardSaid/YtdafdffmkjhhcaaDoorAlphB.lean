/-
  The size test of a law, where it fails with less left than all.
-/
import Derived.Test.YtdafdffmkjhhcaaDoorM1
namespace Go.Proofs.YtdafdffmkjhhcaaDoor
open Go.RowKit
set_option linter.unusedVariables false
set_option maxRecDepth 100000
theorem szno_m (L : Int) (A : Option Addr) (n c m : Nat) (w : World) (hn : m < n) (hm : m ≤ 1048576) (hn2 : n ≤ 9223372036854775807) :
    Calls Tryd.prog 13 #[.agg #[.int .i64 L, .slice A n c], .int .i64 (m : Int)] w fun e w' => e = .returned (.int .i64 (-1)) ∧ Below w.heap.size w w' := by
  have h2 : wrap64 ((m : Int) - (n : Int)) = (m : Int) - (n : Int) := by unfold wrap64; omega
  have h4 : (m : Int) - (n : Int) < 0 := by omega
  have h3 : Calls Tryd.prog 49 #[.slice A n c, .int .i64 (m : Int)] (w.alloc (.cells #[.int .i64 L, .slice A n c] 24)) fun e w' => e = .returned (.int .i64 (-1)) ∧ (w.alloc (.cells #[.int .i64 L, .slice A n c] 24)) = w' := by
    go_enter Tryd.func49, Tryd.ntmps49
    go_wp2
    go_ret
    exact ⟨rfl, rfl⟩
  go_enter Tryd.func13, Tryd.ntmps13
  go_wp2_with fail
  refine h3.mono ?_
  rintro e w1 ⟨rfl, rfl⟩
  go_wp2
  go_ret
  exact ⟨rfl, (Below.refl _ _).alloc (Nat.le_refl _) _⟩
end Go.Proofs.YtdafdffmkjhhcaaDoor

/-
  orderOf, IsOrder and its model, by contracts.
-/
import Derived.Test.YtmifkbmgpofjbaaDoorOrd
namespace Go.Proofs.YtmifkbmgpofjbaaDoor
open Go.RowKit
set_option linter.unusedVariables false
set_option maxRecDepth 100000

/-- Whether a list is an order. -/
def orderB (xs : List Int) : Bool := relB xs && ordB (xs.map Int.toNat)
theorem nats_ints (rs : List Nat) : (ints rs).map Int.toNat = rs := by
  unfold ints
  rw [List.map_map]
  conv => rhs; rw [← List.map_id rs]
  apply List.map_congr_left
  intro m _; simp
theorem orderB_ints (rs : List Nat) (h : relB (ints rs) = true) : orderB (ints rs) = ordB rs := by unfold orderB; rw [h, Bool.true_and, nats_ints]
/-- A relation's list, taken apart. -/
theorem rel_nats (xs : List Int) (n : Nat) (hl : xs.length = n) (h : relB xs = true) : ∃ rs, xs = ints rs ∧ rs.length = n ∧ n ≤ 24 ∧ (∀ i, rs.getD i 0 < 2 ^ n) := by
  obtain ⟨rs, h1, h2, h3⟩ := relB_nats xs h
  have h4 := relB_len xs h
  subst hl
  exact ⟨rs, h1, h2, h4, h3⟩
theorem bit_q (m k : Nat) (hm : m < 9223372036854775808) (hk : k ≤ 62) (w : World) (j : Nat) :
    Calls Tryd.prog 82 #[.int .i64 (m : Int), .int .i64 (k : Int)] (w.drewN j) fun e w'' => e = .returned (.bool (m.testBit k)) ∧ ∃ m', w'' = w.drewN m' :=
  Calls.quiet_of_same ((bit_any m k hm hk _).mono fun _ _ ⟨he, hw⟩ => ⟨he, hw.symm⟩)
theorem bit_is (m k : Nat) (v : Bool) (h : m.testBit k = v) (hm : m < 9223372036854775808) (hk : k ≤ 62) (w : World) (j : Nat) :
    Calls Tryd.prog 82 #[.int .i64 (m : Int), .int .i64 (k : Int)] (w.drewN j) fun e w'' => e = .returned (.bool v) ∧ ∃ m', w'' = w.drewN m' := by
  rw [← h]; exact bit_q m k hm hk w j
end Go.Proofs.YtmifkbmgpofjbaaDoor
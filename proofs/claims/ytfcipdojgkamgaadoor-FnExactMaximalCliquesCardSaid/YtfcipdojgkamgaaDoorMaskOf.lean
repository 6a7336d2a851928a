/-
  MaskOf and its model by contracts.
-/
import Derived.Test.YtfcipdojgkamgaaDoorHelp
namespace Go.Proofs.YtfcipdojgkamgaaDoor
open Go.RowKit
set_option linter.unusedVariables false
set_option maxRecDepth 100000

theorem ret_ii (a b c d : Int) (h : a = c) (g : b = d) : Ending.returned (.tuple #[.int .i64 a, .int .i64 b]) = .returned (.tuple #[.int .i64 c, .int .i64 d]) := by rw [h, g]
theorem ret_ans {a b : Int} {p : Int × Int} (h : p = (a, b)) : Ending.returned (.tuple #[.int .i64 a, .int .i64 b]) = .returned (.tuple #[.int .i64 p.1, .int .i64 p.2]) := by rw [h]
theorem or_w64 (m k : Nat) (hm : m < 9223372036854775808) (hk : k ≤ 62) : bits .or .i64 (m : Int) (wrap64 (2 ^ k : Int)) = ((m ||| 2 ^ k : Nat) : Int) := by
  rw [w64_p2 k hk, i64_or_nat m (2 ^ k) hm (p2_lt k hk)]
theorem or_p2 (m k : Nat) (hm : m < 9223372036854775808) (hk : k ≤ 62) : bits .or .i64 (m : Int) (2 ^ k : Int) = ((m ||| 2 ^ k : Nat) : Int) := by
  have e : (2 ^ k : Int) = ((2 ^ k : Nat) : Int) := by rw [Int.natCast_pow]; rfl
  rw [e, i64_or_nat m (2 ^ k) hm (p2_lt k hk)]
theorem with_any (m k : Nat) (hm : m < 9223372036854775808) (hk : k ≤ 62) (w : World) :
    Calls Tryd.prog 75 #[.int .i64 (m : Int), .int .i64 (k : Int)] w fun e w' => e = .returned (.int .i64 ((m ||| 2 ^ k : Nat) : Int)) ∧ w = w' := by
  go_enter Tryd.func75, Tryd.ntmps75
  go_wp2
  go_ret
  exact ⟨ret_i _ _ (or_w64 m k hm hk), rfl⟩

set_option maxHeartbeats 400000 in
theorem maskOf_any (A : Option Addr) (n c : Nat) (xs : List Int) (w : World) (h : Rd w A n xs) (hn : n ≤ 9223372036854775807) :
    Calls Tryd.prog 44 #[.slice A n c] w fun e w' => e = .returned (.tuple #[.int .i64 (maskAns xs).1, .int .i64 (maskAns xs).2]) ∧ w = w' := by
  go_enter Tryd.func44, Tryd.ntmps44
  go_wp2
  go_loop [4, 9] (fun m i => ∃ k : Nat, k ≤ n ∧ i = .int .i64 k ∧ m = .int .i64 (orAll (xs.take k) : Nat) ∧ (xs.take k).all inSet = true) (fun _ i => n - (intOf i).toNat)
  case atStart => exact ⟨0, Nat.zero_le _, rfl, rfl, rfl⟩
  case round =>
    obtain ⟨k, hk, rfl, rfl, hall⟩ := hrel
    have hol := orAll_lt _ hall
    by_cases hlt : k < n
    · obtain ⟨b, off, x, rfl, hbs, hx, hcx⟩ := h.at_ hlt
      have HX := Lib.hid hx
      have HA := Lib.hid hall
      clear hx hall
      by_cases h0 : 0 ≤ x
      · by_cases h1 : x < 24
        · obtain ⟨y, rfl⟩ := Int.eq_ofNat_of_zero_le h0
          have hm : orAll (xs.take k) < 9223372036854775808 := by omega
          have hy : y ≤ 62 := by omega
          go_wp2_with (go_at_call 75; refine (with_any _ _ hm hy _).mono ?_; rintro e w' ⟨rfl, rfl⟩)
          go_round
          case rel => exact ⟨k + 1, by omega, by go_num, by rw [orAll_next xs k _ HX.out]; rfl, by rw [all_next inSet xs k _ HX.out, HA.out]; simp [inSet]; omega⟩
          case measure => simp [intOf]; omega
        · go_wp2
          go_ret2
          exact ⟨ret_ans (maskAns_no xs k x HX.out (by omega)), rfl⟩
      · go_wp2
        go_ret2
        exact ⟨ret_ans (maskAns_no xs k x HX.out (by omega)), rfl⟩
    · obtain rfl : k = n := by omega
      have e : xs.take k = xs := List.take_of_length_le (by have := h.1; omega)
      rw [e] at hall
      have HA := Lib.hid hall
      have HE := Lib.hid e
      clear e hall
      go_wp2
      go_ret2
      exact ⟨ret_ans ((maskAns_yes xs HA.out).trans (by rw [HE.out])), rfl⟩
end Go.Proofs.YtfcipdojgkamgaaDoor

/-
  slices.Equal of two slices of numbers.
-/
import Derived.Test.YtokikilfmglhhaaDoorB2
namespace Go.Proofs.YtokikilfmglhhaaDoor
open Go.RowKit
set_option linter.unusedVariables false
set_option maxRecDepth 100000

set_option maxHeartbeats 800000 in
theorem equal64_any (A B : Option Addr) (n c d : Nat) (xs ys : List Int) (w : World) (h : Rd w A n xs) (h2 : Rd w B n ys) (hn : n ≤ 9223372036854775807) :
    Calls Tryd.prog 53 #[.slice A n c, .slice B n d] w fun e w' => e = .returned (.bool (sameB xs ys)) ∧ Below w.heap.size w w' := by
  go_enter Tryd.func53, Tryd.ntmps53
  go_wp2
  go_loopw [13] (fun i wr => ∃ k : Nat, k ≤ n ∧ i = .int .i64 k ∧ Below w.heap.size w wr ∧ xs.take k = ys.take k) (fun i _ => n - (intOf i).toNat)
  case atStart => exact ⟨0, Nat.zero_le _, rfl, Below.refl _ _, rfl⟩
  case round =>
    obtain ⟨k, hk, rfl, hb, hsame⟩ := hrel
    by_cases hlt : k < n
    · obtain ⟨b, off, x, rfl, hbs, hx, hcx⟩ := h.at_ hlt
      obtain ⟨b2, off2, y, rfl, hbs2, hy, hcy⟩ := h2.at_ hlt
      have hc1 : wr.cell? ⟨b, off + k, none⟩ = some (.int .i64 x) := (hb.cell (p := ⟨b, off + k, none⟩) hbs).trans hcx
      have hc2 : wr.cell? ⟨b2, off2 + k, none⟩ = some (.int .i64 y) := (hb.cell (p := ⟨b2, off2 + k, none⟩) hbs2).trans hcy
      have HX := Lib.hid hx
      have HY := Lib.hid hy
      have HS := Lib.hid hsame
      clear hx hy hcx hcy hsame
      by_cases hxy : x = y
      · subst hxy
        go_wp2
        go_quiet (fail)
        go_wp2
        go_roundw
        case rel => exact ⟨k + 1, by omega, by go_num, by first | exact below_drewN hb _ | exact hb.drew, take_same xs ys k x HS.out HX.out HY.out⟩
        case measure => simp [intOf]; omega
      · have hne1 : (x == y) = false := by simpa using hxy
        have hne2 : (x != y) = true := by simpa using hxy
        have HN : Hid (sameB xs ys = false) := Lib.hid (by
          unfold sameB
          apply decide_eq_false
          intro e
          apply hxy
          have h1 := HX.out
          rw [e, HY.out] at h1
          injection h1 with h1; exact h1.symm)
        clear hxy
        go_wp2
        go_quiet (fail)
        go_wp2
        go_ret
        exact ⟨ret_b _ _ HN.out.symm, by first | exact below_drewN hb _ | exact hb.drew⟩
    · obtain rfl : k = n := by omega
      have HN : Hid (sameB xs ys = true) := Lib.hid (by
        unfold sameB
        apply decide_eq_true
        rw [List.take_of_length_le (by have := h.1; omega), List.take_of_length_le (by have := h2.1; omega)] at hsame
        exact hsame)
      clear hsame
      go_wp2
      go_ret
      exact ⟨ret_b _ _ HN.out.symm, hb⟩
set_option maxHeartbeats 800000 in
theorem equal64_len (A B : Option Addr) (n m c d : Nat) (w : World) (hnm : n ≠ m) :
    Calls Tryd.prog 53 #[.slice A n c, .slice B m d] w fun e w' => e = .returned (.bool false) ∧ Below w.heap.size w w' := by
  have h1 : ((n : Int) != (m : Int)) = true := by simp; omega
  have h2 : ¬ ((n : Int) = (m : Int)) := by omega
  have h3 : ¬ (n = m) := hnm
  go_enter Tryd.func53, Tryd.ntmps53
  go_wp2
  go_ret
  exact ⟨rfl, Below.refl _ _⟩
theorem equal64_two (A B : Option Addr) (n m c d : Nat) (xs ys : List Int) (w : World) (h : Rd w A n xs) (h2 : Rd w B m ys) (hn : n ≤ 9223372036854775807) :
    Calls Tryd.prog 53 #[.slice A n c, .slice B m d] w fun e w' => e = .returned (.bool (decide (xs = ys))) ∧ Below w.heap.size w w' := by
  by_cases e : n = m
  · subst e
    exact equal64_any A B n c d xs ys w h h2 hn
  · have : decide (xs = ys) = false := decide_eq_false (fun e9 => e (by rw [← h.1, ← h2.1, e9]))
    rw [this]
    exact equal64_len A B n m c d w e
end Go.Proofs.YtokikilfmglhhaaDoor

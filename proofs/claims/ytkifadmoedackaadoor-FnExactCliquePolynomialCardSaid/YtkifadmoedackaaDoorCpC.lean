/-
  The sets of independent letters, their sizes and signs: by contracts.
-/
import Derived.Test.YtkifadmoedackaaDoorCpM
import Derived.Test.YtkifadmoedackaaDoorSteps
namespace Go.Proofs.YtkifadmoedackaaDoor
open Go Go.RowKit
set_option linter.unusedVariables false
set_option maxRecDepth 100000

theorem size_is (x : Nat) (hx : x < 16777216) (w : World) :
    Calls Tryd.prog 82 #[.int .i64 (x : Int)] w fun e w' => e = .returned (.int .i64 ((ones24 x : Nat) : Int)) ∧ w = w' := by
  have hx2 : x < 18446744073709551616 := by omega
  have HO := Lib.hid (onesCount_is x hx w)
  obtain ⟨k, hk⟩ : ∃ k, k = ones24 x := ⟨_, rfl⟩
  rw [← hk] at HO ⊢
  clear hk
  go_enter Tryd.func82, Tryd.ntmps82
  go_wp2_with (go_at_call 125; refine HO.out.mono ?_; rintro e w' ⟨rfl, rfl⟩)
  go_ret
  exact ⟨rfl, rfl⟩
theorem and_one (k : Nat) (h : k < 9223372036854775808) : bits .and .i64 (k : Int) 1 = ((k % 2 : Nat) : Int) := by
  rw [show (1 : Int) = ((1 : Nat) : Int) from rfl, i64_and_nat k 1 h (by decide)]
  congr 1; exact Nat.and_one_is_mod k
theorem sign_is (x : Nat) (hx : x < 256) (w : World) :
    Calls Tryd.prog 95 #[.int .i64 (x : Int)] w fun e w' => e = .returned (.int .i64 (sgnM (ones24 x))) ∧ w = w' := by
  have HO := Lib.hid (size_is x (by omega) w)
  have h8 := ones24_8 x hx
  obtain ⟨k, hk⟩ : ∃ k, k = ones24 x := ⟨_, rfl⟩
  rw [← hk] at HO h8 ⊢
  have HA := Lib.hid (and_one k (by omega))
  clear hk
  go_enter Tryd.func95, Tryd.ntmps95
  go_wp2_with (go_at_call 82; refine HO.out.mono ?_; rintro e w' ⟨rfl, rfl⟩)
  go_ret
  refine ⟨ret_i _ _ ?_, rfl⟩
  rw [HA.out]
  unfold sgnM wrap64
  omega
set_option maxHeartbeats 800000 in
theorem indep_any (A : Option Addr) (n c : Nat) (rs : List Nat) (w : World) (h : Rd w A n (ints rs)) (h8 : n ≤ 8) (hr : ∀ i, rs.getD i 0 < 2 ^ n) (hd : Dep rs) (hT : Tab w) :
    Calls Tryd.prog 84 #[.slice A n c] w (MakesE 88 w (stepsM rs).length (ints (stepsM rs))) := by
  have hl : rs.length = n := by have := h.1; rw [ints_len] at this; exact this
  have h24 : n ≤ 24 := by omega
  have hclt := cplM_lt rs n hl h24 hr
  have hlen := stepsM_len rs (by omega)
  have HE := Lib.hid (steps_eq rs n hl h8 hr hd)
  clear hl
  have hsm : (stepsM rs).length ≤ 4096 := by omega
  clear hlen
  go_enter Tryd.func84, Tryd.ntmps84
  go_wp2_with fail
  refine (complement_any _ _ _ rs _ h h24 hr).mono ?_
  rintro e w2 ⟨A2, c2, rfl, ho2, hb2⟩
  have hT3 := hT.below hb2
  go_wp2_with fail
  refine (cliques_any _ _ _ (cplM rs) _ ho2.rd h24 hclt hT3).mono ?_
  rw [HE.out]
  rintro e w3 (⟨_, A3, c3, rfl, ho3, hb3⟩ | ⟨h9, _⟩)
  · obtain ⟨M, hM⟩ : ∃ M, M = (stepsM rs).length := ⟨_, rfl⟩
    rw [← hM] at ho3 ⊢
    have HM := Lib.hid hM
    clear hM hsm
    go_wp2_with fail
    go_ret
    show MakesE _ _ (stepsM rs).length _ _ _
    rw [← HM.out]
    exact ⟨A3, c3, rfl, ho3.mono hb2.size, hb2.trans (hb3.mono hb2.size)⟩
  · omega
theorem bits8_any (s : Nat) (hs : s < 256) (w : World) :
    Calls Tryd.prog 54 #[.int .i64 (s : Int)] w fun e w' => e = .returned (.int .i64 ((ones24 s : Nat) : Int)) ∧ w = w' := by
  have HC := Lib.hid (ones24_cnt s hs)
  go_enter Tryd.func54, Tryd.ntmps54
  go_wp2
  go_loop [0, 3] (fun q i => ∃ (t x k : Nat), x * 2 ^ t ≤ s ∧ t ≤ 8 ∧ x < 2 ^ (8 - t) ∧ q = .int .i64 (x : Int) ∧ i = .int .i64 (k : Int) ∧ k ≤ t ∧ Hid (k + cntO (8 - t) x = cntO 8 s)) (fun q i => (intOf q).toNat)
  case atStart => exact ⟨0, s, 0, by omega, by omega, by simpa using hs, rfl, rfl, by omega, Lib.hid (by simp)⟩
  case round =>
    obtain ⟨t, x, k, hx, ht, hx8, rfl, rfl, hk, HS⟩ := hrel
    by_cases h0 : 0 < x
    · have hx256 : x < 256 := by
        have : 2 ^ (8 - t) ≤ 2 ^ 8 := Nat.pow_le_pow_right (by decide) (by omega)
        omega
      have ht8 : t < 8 := by
        rcases Nat.lt_or_ge t 8 with h | h
        · exact h
        · rw [show 8 - t = 0 by omega] at hx8; omega
      have HN : Hid (k + x % 2 + cntO (8 - (t + 1)) (x / 2) = cntO 8 s) := Lib.hid (by
        have h9 := HS.out
        rw [show 8 - t = (8 - (t + 1)) + 1 by omega, cntO] at h9
        omega)
      have hxn : x / 2 < 2 ^ (8 - (t + 1)) := by
        rw [show 8 - t = (8 - (t + 1)) + 1 by omega, Nat.pow_succ] at hx8; omega
      have hxm : (x / 2) * 2 ^ (t + 1) ≤ s := by
        refine Nat.le_trans ?_ hx
        rw [Nat.pow_succ, Nat.mul_comm (2 ^ t) 2, ← Nat.mul_assoc]
        exact Nat.mul_le_mul_right _ (Nat.div_mul_le_self x 2)
      have HX1 := Lib.hid hxn
      have HX2 := Lib.hid hxm
      clear hxn hxm hx hx8
      go_wp2
      go_round
      case rel => exact ⟨t + 1, x / 2, k + x % 2, HX2.out, by omega, HX1.out, by go_num, by go_num, by omega, HN⟩
      case measure => simp [intOf]; omega
    · obtain rfl : x = 0 := by omega
      have HK : Hid (ones24 s = k) := Lib.hid (by
        have h9 := HS.out
        rw [cntO_zero] at h9
        rw [HC.out]; omega)
      clear hx hx8
      go_wp2
      go_ret
      exact ⟨ret_i _ _ (by rw [HK.out]), rfl⟩
end Go.Proofs.YtkifadmoedackaaDoor

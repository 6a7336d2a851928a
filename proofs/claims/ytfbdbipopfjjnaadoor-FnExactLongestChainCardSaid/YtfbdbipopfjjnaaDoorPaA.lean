/-
  PastOf, ConcurrentWith: both sides.
-/
import Derived.Test.YtfbdbipopfjjnaaDoorOrA
namespace Go.Proofs.YtfbdbipopfjjnaaDoor
open Go Go.RowKit
set_option linter.unusedVariables false
set_option maxRecDepth 100000

def pAns (f : List Nat → List Nat → Nat → Nat) (L : Int) (xs us : List Int) (a : Int) : Int × Int := if wCode L xs us = 0 then (if 0 ≤ a ∧ a < (us.length : Int) then (((f (xs.map Int.toNat) (us.map Int.toNat) a.toNat : Nat) : Int), 0) else (0, 2)) else (0, wCode L xs us)
theorem pAns_code (f : List Nat → List Nat → Nat → Nat) (L : Int) (xs us : List Int) (a : Int) (h : ¬ wCode L xs us = 0) : pAns f L xs us a = (0, wCode L xs us) := by unfold pAns; rw [if_neg h]
theorem pAns_out (f : List Nat → List Nat → Nat → Nat) (L : Int) (xs us : List Int) (a : Int) (h : wCode L xs us = 0) (h2 : ¬ (0 ≤ a ∧ a < (us.length : Int))) : pAns f L xs us a = (0, 2) := by unfold pAns; rw [if_pos h, if_neg h2]
theorem pAns_yes (f : List Nat → List Nat → Nat → Nat) (L : Int) (rs us : List Nat) (k : Nat) (h : wCode L (ints rs) (ints us) = 0) (h2 : k < us.length) : pAns f L (ints rs) (ints us) (k : Int) = (((f rs us k : Nat) : Int), 0) := by
  unfold pAns; rw [if_pos h, if_pos ⟨by omega, by rw [ints_len]; omega⟩, ints_toNat, ints_toNat]; rfl
def paR (rs us : List Nat) (k : Nat) : Nat := dnW (RDep rs) (nfR rs us) k
def coR (rs us : List Nat) (k : Nat) : Nat := concM (RDep rs) (nfR rs us) us.length k
set_option maxHeartbeats 1600000 in
theorem l01Below_any (A : Option Addr) (n c k : Nat) (rs : List Nat) (w : World) (h : Rd w A n (ints rs)) (hn : n ≤ 24) (hr : ∀ i, rs.getD i 0 < 2 ^ n) (hk : k ≤ 62) :
    Calls Tryd.prog 124 #[.slice A n c, .int .i64 (k : Int)] w fun e w' => e = .returned (.int .i64 ((colM rs k rs.length : Nat) : Int)) ∧ w = w' := by
  have hlen : rs.length = n := by have := h.1; rw [ints_len] at this; exact this
  have HL := Lib.hid hlen
  clear hlen
  go_enter Tryd.func124, Tryd.ntmps124
  go_wp2
  go_loop [5, 6] (fun q i => ∃ t : Nat, t ≤ n ∧ i = .int .i64 t ∧ q = .int .i64 (colM rs k t : Nat)) (fun _ i => n - (intOf i).toNat)
  case atStart => exact ⟨0, Nat.zero_le _, rfl, rfl⟩
  case round =>
    obtain ⟨t, ht, rfl, rfl⟩ := hrel
    have hq := lt63 hn (colM_lt rs k t n ht)
    by_cases hlt2 : t < n
    · obtain ⟨b, off, x, rfl, hbs, hx, hcx⟩ := h.at_ hlt2
      have hx2 := ints_getD rs t (by rw [HL.out]; exact hlt2)
      rw [hx2] at hx
      injection hx with hx
      subst hx
      have ht62 : t ≤ 62 := by omega
      have hrt := lt63 hn (hr t)
      have e1 : colM rs k (t + 1) = if (rs.getD t 0).testBit k = true then colM rs k t ||| 2 ^ t else colM rs k t := rfl
      obtain ⟨S, hS⟩ : ∃ S, S = colM rs k t := ⟨_, rfl⟩
      obtain ⟨D, hD⟩ : ∃ D, D = rs.getD t 0 := ⟨_, rfl⟩
      rw [← hS] at hq ⊢
      rw [← hS, ← hD] at e1
      rw [← hD] at hcx hrt
      have HE := Lib.hid e1
      clear e1 hS hD hx2
      cases hb : D.testBit k
      · have HB := Lib.hid hb
        clear hb
        go_wp2_with (go_at_call 48; refine (bit_any D k hrt hk _).mono ?_; rintro e w' ⟨rfl, rfl⟩; rw [HB.out])
        go_round
        case rel => exact ⟨t + 1, by omega, by go_num, by rw [HE.out, if_neg (by rw [HB.out]; decide)]⟩
        case measure => simp [intOf]; omega
      · have HB := Lib.hid hb
        clear hb
        go_wp2_with (first | (go_at_call 48; refine (bit_any D k hrt hk _).mono ?_; rintro e w' ⟨rfl, rfl⟩; rw [HB.out]) | (go_at_call 88; refine (one_any t ht62 _).mono ?_; rintro e w' ⟨rfl, rfl⟩))
        go_round
        case rel => exact ⟨t + 1, by omega, by go_num, by rw [HE.out, if_pos HB.out, or_p2 _ _ hq ht62]⟩
        case measure => simp [intOf]; omega
    · obtain rfl : t = n := by omega
      go_wp2
      go_ret
      exact ⟨by rw [HL.out]; rfl, rfl⟩
theorem oall_any (g m c : Nat) (A : Option Addr) (f h : Nat → Nat) (w : World) (hx : w.cell? ⟨g, 0, none⟩ = some (.slice A m c)) (hm : m ≤ 24) :
    Calls Tryd.prog 84 #[.pointer (some ⟨g, 0, none⟩)] w fun e w' => e = .returned (.int .i64 ((2 ^ m - 1 : Nat) : Int)) ∧ w = w' := by
  obtain ⟨P, hP⟩ : ∃ P, P = 2 ^ m - 1 := ⟨_, rfl⟩
  have HF : Hid (∀ ww : World, Calls Tryd.prog 107 #[.int .i64 (m : Int)] ww fun e w' => e = .returned (.int .i64 (P : Int)) ∧ ww = w') := Lib.hid fun ww => by rw [hP]; exact firstNumbers_any m (by omega) ww
  rw [← hP]
  clear hP
  go_enter Tryd.func84, Tryd.ntmps84
  go_wp2_with fail
  refine (HF.out _).mono ?_
  rintro e w' ⟨rfl, rfl⟩
  go_wp2_with fail
  go_ret
  exact ⟨rfl, rfl⟩
set_option maxHeartbeats 1600000 in
theorem conc_any (g m c k : Nat) (A : Option Addr) (D : Nat → Nat → Bool) (us : List Nat) (w : World) (x : OBox w g A m c (dnF D us m) (upW D us m)) (hm : m ≤ 24) (hk : k < m) :
    Calls Tryd.prog 123 #[.pointer (some ⟨g, 0, none⟩), .int .i64 (k : Int)] w fun e w' => e = .returned (.int .i64 ((concM D us m k : Nat) : Int)) ∧ Below w.heap.size w w' := by
  have h24 := p24 m hm
  have hp := p2_pos m
  have hc := x.c0
  have hf := x.cf k (by omega)
  have hh := x.ch k (by omega)
  rw [dnF_at _ _ _ _ hk] at hf
  obtain ⟨P, hP⟩ : ∃ P, P = dnW D us k := ⟨_, rfl⟩
  obtain ⟨Q, hQ⟩ : ∃ Q, Q = upW D us m k := ⟨_, rfl⟩
  obtain ⟨F, hF⟩ : ∃ F, F = 2 ^ m - 1 := ⟨_, rfl⟩
  rw [← hP] at hf
  rw [← hQ] at hh
  have hP24 : P < 2 ^ m := by rw [hP]; exact dnW_lt _ _ _ _ hk
  have hQ24 : Q < 2 ^ m := by rw [hQ]; exact upW_lt _ _ _ _
  have hor := i64_or_nat P Q (by omega) (by omega)
  have hor24 : P ||| Q < 2 ^ m := Nat.or_lt_two_pow hP24 hQ24
  obtain ⟨R, hR⟩ : ∃ R, R = P ||| Q := ⟨_, rfl⟩
  rw [← hR] at hor hor24
  obtain ⟨V, hV⟩ : ∃ V, V = concM D us m k := ⟨_, rfl⟩
  have hdv : dif F R = V := by rw [hV, hF, hR, hP, hQ]; rfl
  have HM : Hid (∀ (ww : World) (j : Nat), Calls Tryd.prog 103 #[.int .i64 (F : Int), .int .i64 (R : Int)] (ww.drewN j) fun e w'' => e = .returned (.int .i64 (V : Int)) ∧ ∃ m', w'' = ww.drewN m') := Lib.hid fun ww j => Calls.quiet_of_same ((minus_nat F R (by omega) (by omega) _).mono fun _ _ ⟨he, hw⟩ => ⟨by rw [← hdv]; exact he, hw.symm⟩)
  have HA : Hid (∀ (j : Nat), Calls Tryd.prog 84 #[.pointer (some ⟨g, 0, none⟩)] (w.drewN j) fun e w'' => e = .returned (.int .i64 (F : Int)) ∧ ∃ m', w'' = w.drewN m') := Lib.hid fun j => Calls.quiet_of_same ((oall_any g m c A (fun _ => 0) (fun _ => 0) _ (show (w.drewN j).cell? _ = _ from hc) hm).mono fun _ _ ⟨he, hw⟩ => ⟨by rw [hF]; exact he, hw.symm⟩)
  have hk24 : (k : Int) < 24 := by omega
  have hk0 : (0 : Int) ≤ (k : Int) := by omega
  rw [← hV]
  clear hP hQ hF hR hV hdv hP24 hQ24 hor24 h24 hp
  go_enter Tryd.func123, Tryd.ntmps123
  go_wp2_with fail
  go_quiet ((first | (go_at_call 84; exact HA.out _) | (go_at_call 103; exact HM.out _ _)))
  go_wp2_with fail
  go_ret
  exact ⟨rfl, by first | exact below_drewN (Below.refl _ _) _ | exact (Below.refl _ _).drew⟩
def paAns (L : Int) (xs us : List Int) (a : Int) : Int × Int := pAns paR L xs us a
def coAns (L : Int) (xs us : List Int) (a : Int) : Int × Int := pAns coR L xs us a
end Go.Proofs.YtfbdbipopfjjnaaDoor

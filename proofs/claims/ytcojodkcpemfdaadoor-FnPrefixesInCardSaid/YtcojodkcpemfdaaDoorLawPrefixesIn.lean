/-
  FnPrefixesIn: for every list of bytes the law answers true.
-/
import Derived.Test.YtcojodkcpemfdaaDoorM5
import Derived.Test.YtcojodkcpemfdaaDoorM6
import Derived.Test.YtcojodkcpemfdaaDoorM7
namespace Go.Proofs.YtcojodkcpemfdaaDoor
open Go Go.RowKit
set_option linter.unusedVariables false
set_option maxRecDepth 100000

theorem pnAns_zero (L : Int) (xs us : List Int) (v : Int) (h : (pnAns L xs us v).2 = 0) : alphB L xs = true ∧ wordB L us = true ∧ isMaskB v L = true := by
  cases ha : alphB L xs with
  | false => rw [pnAns_no L xs us v ha] at h; exact absurd h (by decide)
  | true =>
    cases hw : wordB L us with
    | false => rw [pnAns_bad L xs us v ha hw] at h; exact absurd h (by decide)
    | true =>
      cases hm : isMaskB v L with
      | false => rw [pnAns_out L xs us v ha hw hm] at h; exact absurd h (by decide)
      | true => exact ⟨rfl, rfl, rfl⟩
theorem mask_nat (v : Int) (n : Nat) (h8 : n ≤ 8) (h : isMaskB v (n : Int) = true) : ∃ a : Nat, v = (a : Int) ∧ a < 256 := by
  rw [isMaskB_in v n (by omega), decide_eq_true_eq] at h
  refine ⟨v.toNat, by omega, ?_⟩
  have h9 : 2 ^ n ≤ 2 ^ 8 := Nat.pow_le_pow_right (by decide) h8
  have h7 : (2 : Nat) ^ 8 = 256 := by decide
  omega
set_option maxHeartbeats 6400000 in
theorem walkPrefixesIn (A : Option Addr) (n c : Nat) (bs : List Int) (w : World) (h : RdB w A n bs) (hwf : WfB bs) (hl : n ≤ maxLen) (hT : Tab w) :
    Calls Tryd.prog 13 #[.slice A n c] w fun e w' => e = .returned (.bool true) ∧ Below w.heap.size w w' := by
  by_cases hn : n ≤ 4096
  rotate_left
  · have hbig : decide ((4096 : Int) < (n : Int)) = true := decide_eq_true (by omega)
    go_enter Tryd.func13, Tryd.ntmps13
    go_wp2_with fail
    refine (bigD_any A n c w).mono ?_
    rintro e w' ⟨rfl, rfl⟩
    go_wp2_with fail
    go_ret
    exact ⟨rfl, Below.refl _ _⟩
  have hbig : decide ((4096 : Int) < (n : Int)) = false := decide_eq_false (by omega)
  have HD := Lib.hid (dDrawPrefixIn_any A n c bs w h hwf hn)
  clear h
  go_enter Tryd.func13, Tryd.ntmps13
  go_wp2_with fail
  refine (bigD_any A n c w).mono ?_
  rintro e w' ⟨rfl, rfl⟩
  go_wp2_with fail
  with_reducible refine HD.out.mono ?_
  rintro e w1 ⟨L, N, c1, A1, xs, k, c2, A2, us, v, rfl, hL, hN, hwx, r1, hwu, hk, r2, ⟨hc1, hc2, _, _⟩, hv, b1⟩
  have HB1 := below1 w1 (.cells #[.int .i64 L, .slice A1 N c1] 29)
  have x2 := box_new 29 w1 L A1 N c1
  have r12 := r1.below HB1
  have r22 := r2.below HB1
  have T2 := (hT.below b1).below HB1
  have B2 : Hid (Below w.heap.size w (w1.alloc (.cells #[.int .i64 L, .slice A1 N c1] 29))) := Lib.hid (b1.alloc b1.size _)
  have hN24 : N ≤ maxLen := by unfold maxLen; omega
  have hk24 : k ≤ maxLen := by unfold maxLen; omega
  obtain ⟨w2, hw2⟩ : ∃ w2, w2 = w1.alloc (.cells #[.int .i64 L, .slice A1 N c1] 29) := ⟨_, rfl⟩
  have HW2 := Lib.hid hw2
  rw [← hw2] at x2 r12 r22 T2 B2
  have HI := Lib.hid (implPrefixIn L A1 N c1 xs A2 k c2 us v w2 r12 hwx hL.1 hL.2 hN24 r22 hwu hk24 hv.1 hv.2 T2)
  have hsm := pnAns_small L xs us v
  obtain ⟨K, hK⟩ : ∃ K, K = (pnAns L xs us v).1.length := ⟨_, rfl⟩
  obtain ⟨V, hV⟩ : ∃ V, V = (pnAns L xs us v).1 := ⟨_, rfl⟩
  obtain ⟨C, hC⟩ : ∃ C, C = (pnAns L xs us v).2 := ⟨_, rfl⟩
  rw [← hV, ← hC] at HI
  have HS : Hid (∀ ww : World, Rd ww A1 N xs → Rd ww A2 k us → Calls Tryd.prog 60 #[.agg #[.int .i64 L, .slice A1 N c1], .slice A2 k c2, .int .i64 v] ww (LsPost ww V.length V C)) := Lib.hid (fun ww a1 a2 => by rw [hV, hC]; exact specPrefixIn L A1 N c1 xs A2 k c2 us v ww a1 hwx hL.1 hL.2 hN24 a2 hwu hk24 hv.1 hv.2)
  rw [← hV] at hK hsm
  rw [← hK] at HI HS hsm
  have HK := Lib.hid hK
  have HV := Lib.hid hV
  have HC := Lib.hid hC
  clear hK hV hC hw2 HD r1 r2 HB1 b1
  have z0 := x2.c0
  have z1 := x2.c1
  go_wp2_with fail
  rw [← HW2.out]
  with_reducible refine HI.out.mono ?_
  rintro e w3 ⟨P1, p1, rfl, o3, b3⟩
  have B3 := Lib.hid (B2.out.trans (b3.mono B2.out.size))
  have x3 := x2.next b3
  have r13 := r12.below b3
  have r23 := r22.below b3
  have T3 := T2.below b3
  have hcap := own_capD o3
  have r33 := o3.rd
  have HS2 := Lib.hid (HS.out w3 r13 r23)
  clear x2 r12 r22 T2 B2 b3 o3 HI z0 z1 HS HW2
  have z0 := x3.c0
  have z1 := x3.c1
  go_wp2_with fail
  with_reducible refine HS2.out.mono ?_
  rintro e w4 ⟨P2, p2, rfl, o4, b4⟩
  have B4 := Lib.hid (B3.out.trans (b4.mono B3.out.size))
  have x4 := x3.next b4
  have r14 := r13.below b4
  have r24 := r23.below b4
  have r34 := r33.below b4
  have T4 := T3.below b4
  have r44 := o4.rd
  clear x3 r13 r23 r33 T3 B3 b4 o4 HS2 z0 z1
  have hCC : (C != C) = false := by simp
  have HLK := Lib.hid (likeInts_any P1 P2 K K p1 p2 V V w4 r34 r44 (by omega))
  rw [decide_eq_true (rfl : V = V)] at HLK
  go_wp2_with fail
  with_reducible refine HLK.out.mono ?_
  rintro e w5 ⟨rfl, b5⟩
  have B5 := Lib.hid (B4.out.trans (b5.mono B4.out.size))
  have x5 := x4.next b5
  have r15 := r14.below b5
  have r25 := r24.below b5
  have r35 := r34.below b5
  have T5 := T4.below b5
  clear x4 r14 r24 r34 r44 T4 B4 b5 HLK hCC
  by_cases hC0 : C = 0
  rotate_left
  · have hC1 : (C != 0) = true := by simp [hC0]
    go_wp2_with fail
    go_ret
    exact ⟨rfl, B5.out⟩
  subst hC0
  obtain ⟨ha, hw, hm⟩ := pnAns_zero L xs us v HC.out.symm
  have hlx := r15.1
  have hlu := r25.1
  obtain ⟨rs, rfl, rfl, h8, hrr, hrel, hl8, hd, _⟩ := alphB_nats L xs N hlx ha
  obtain ⟨ys, rfl, hy24, hyn⟩ := wordB_nats N us hw
  obtain ⟨a, rfl, ha256⟩ := mask_nat v N h8 hm
  obtain ⟨r, q1, q2, q3, q4⟩ := prefix_in rs ys N a hl8 h8 ((depB_iff rs N hl8 hrr).1 hd) hrr hyn
  have hVp : V = ints (pnR rs ys a) := by rw [HV.out, pnAns_yes (N : Int) rs ys a ha hw hm]
  have hpl : (pnR rs ys a).length ≤ 24 := by have h9 := HK.out; rw [hVp, ints_len] at h9; omega
  have hpn : ∀ x, x ∈ pnR rs ys a → x < N := fun x hx => by rw [← hl8]; exact nfR_ltN rs _ x hx
  have hdV : wordB (N : Int) V = true := by rw [hVp]; exact wordB_ints N _ hpl hpn
  have hwfV : Wf V := by
    rw [hVp]
    intro x hx
    obtain ⟨y, hy, rfl⟩ := List.mem_map.1 hx
    have := hpn y hy
    constructor <;> show _ ≤ _ <;> omega
  have hrl : (nfR rs r).length ≤ 24 := by have := nfR_len rs r; omega
  have hrn : ∀ x, x ∈ nfR rs r → x < N := fun x hx => by rw [← hl8]; exact nfR_ltN rs _ x hx
  have hwfR : Wf (ints (nfR rs r)) := by
    intro x hx
    obtain ⟨y, hy, rfl⟩ := List.mem_map.1 hx
    have := hrn y hy
    constructor <;> show _ ≤ _ <;> omega
  have hdR := wordB_ints N _ hrl hrn
  have hK24 : K ≤ maxLen := by unfold maxLen; omega
  have eQ : dL lqF (N : Int) (ints rs) V (ints ys) = (ints (nfR rs r), 0) := by
    have h9 := dL_yes lqF (N : Int) rs (pnR rs ys a) ys ha (by rw [← hVp, hdV, hw]; rfl)
    rw [← hVp] at h9
    rw [h9, q1]
  have eF : flAns (N : Int) (ints rs) (ints (nfR rs r)) = (((flN rs (nfR rs r) : Nat) : Int), 0) := wInt_yes flR (N : Int) rs (nfR rs r) ha hdR
  have eP : prAns (N : Int) (ints rs) V (a : Int) = (V, 0) := by
    rw [hVp, prAns_yes (N : Int) rs (pnR rs ys a) a ha (by rw [← hVp]; exact hdV) hm, q3]
  obtain ⟨F, hF⟩ : ∃ F, F = flN rs (nfR rs r) := ⟨_, rfl⟩
  have hFlt : F < 256 := by
    have h9 : F < 2 ^ rs.length := by rw [hF]; exact firstM_lt _ _ _
    rw [hl8] at h9
    have h7 : 2 ^ N ≤ 2 ^ 8 := Nat.pow_le_pow_right (by decide) h8
    have h6 : (2 : Nat) ^ 8 = 256 := by decide
    omega
  rw [← hF] at eF q2
  have hand : bits .and .i64 (F : Int) (a : Int) = 0 := by rw [i64_and_nat F a (by omega) (by omega), q2]; rfl
  have HQ := Lib.hid (implLeftQuotient (N : Int) A1 N c1 (ints rs) P1 K p1 V A2 k c2 (ints ys) w5 r15 hwx hL.1 hL.2 hN24 r35 hwfV hK24 r25 hwu hk24 hcap hc2 T5)
  rw [eQ] at HQ
  obtain ⟨R, hR⟩ : ∃ R, R = ints (nfR rs r) := ⟨_, rfl⟩
  have hRl : R.length ≤ 24 := by rw [hR, ints_len]; exact hrl
  rw [← hR] at HQ eF hwfR
  obtain ⟨M, hM⟩ : ∃ M, M = R.length := ⟨_, rfl⟩
  have HQ2 : Hid (Calls Tryd.prog 61 #[.agg #[.int .i64 (N : Int), .slice A1 N c1], .slice P1 K p1, .slice A2 k c2] w5 (LsPost w5 M R 0)) := Lib.hid (by rw [hM]; exact HQ.out)
  have hM24 : M ≤ maxLen := by unfold maxLen; omega
  have HEF := Lib.hid eF
  have HEP := Lib.hid eP
  have HFF := Lib.hid (And.intro hwfV hwfR)
  clear hM
  clear eQ eF eP hF hR hRl HQ q1 q2 q3 q4 hdR hdV hVp hwfV hwfR hpl hpn hrl hrn HV HC hm ha hw hd hrel hrr hyn hlx hlu hy24
  have z0 := x5.c0
  have z1 := x5.c1
  go_wp2_with fail
  with_reducible refine HQ2.out.mono ?_
  rintro e w6 ⟨R1, m1, rfl, o6, b6⟩
  have B6 := Lib.hid (B5.out.trans (b6.mono B5.out.size))
  have x6 := x5.next b6
  have r16 := r15.below b6
  have r26 := r25.below b6
  have r36 := r35.below b6
  have T6 := T5.below b6
  have HI6 : Hid (Calls Tryd.prog 62 #[.agg #[.int .i64 (N : Int), .slice A1 N c1], .slice R1 M m1] w6 (fun e w' => e = .returned (.tuple #[.int .i64 (F : Int), .int .i64 0]) ∧ Below w6.heap.size w6 w')) := Lib.hid (by
    have h9 := implFirstLetters (N : Int) A1 N c1 (ints rs) R1 M m1 R w6 r16 hwx hL.1 hL.2 hN24 o6.rd HFF.out.2 hM24 T6
    rw [HEF.out] at h9
    exact h9)
  clear x5 r15 r25 r35 T5 B5 b6 o6 HQ2 z0 z1
  have z0 := x6.c0
  have z1 := x6.c1
  go_wp2_with fail
  with_reducible refine HI6.out.mono ?_
  rintro e w7 ⟨rfl, b7⟩
  have B7 := Lib.hid (B6.out.trans (b7.mono B6.out.size))
  have x7 := x6.next b7
  have r17 := r16.below b7
  have r27 := r26.below b7
  have r37 := r36.below b7
  have T7 := T6.below b7
  have HI7 := Lib.hid (implProjectionOf (N : Int) A1 N c1 (ints rs) P1 K p1 V (a : Int) w7 r17 hwx hL.1 hL.2 hN24 r37 HFF.out.1 hK24 hv.1 hv.2 T7)
  rw [HEP.out] at HI7
  have HI8 : Hid (Calls Tryd.prog 63 #[.agg #[.int .i64 (N : Int), .slice A1 N c1], .slice P1 K p1, .int .i64 (a : Int)] w7 (LsPost w7 K V 0)) := Lib.hid (by rw [HK.out]; rw [HK.out] at HI7; exact HI7.out)
  clear x6 r16 r26 r36 T6 B6 b7 HI6 HI7 z0 z1
  have z0 := x7.c0
  have z1 := x7.c1
  go_wp2_with fail
  with_reducible refine HI8.out.mono ?_
  rintro e w8 ⟨Q1, q1, rfl, o8, b8⟩
  have B8 := Lib.hid (B7.out.trans (b8.mono B7.out.size))
  have r38 := r37.below b8
  have HLK := Lib.hid (likeInts_any P1 Q1 K K p1 q1 V V w8 r38 o8.rd (by omega))
  rw [decide_eq_true (rfl : V = V)] at HLK
  have hand2 : (bits .and .i64 (F : Int) (a : Int) == 0) = true := by rw [hand]; rfl
  go_wp2_with fail
  with_reducible refine HLK.out.mono ?_
  rintro e w9 ⟨rfl, b9⟩
  go_wp2_with fail
  go_ret
  exact ⟨rfl, B8.out.trans (b9.mono B8.out.size)⟩
end Go.Proofs.YtcojodkcpemfdaaDoor

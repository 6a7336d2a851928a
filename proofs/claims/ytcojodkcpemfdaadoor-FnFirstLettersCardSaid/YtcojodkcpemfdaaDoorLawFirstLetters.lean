/-
  FnFirstLetters: for every list of bytes the law answers true.
-/
import Derived.Test.YtcojodkcpemfdaaDoorMA
import Derived.Test.YtcojodkcpemfdaaDoorM6
import Derived.Test.YtcojodkcpemfdaaDoorM7
namespace Go.Proofs.YtcojodkcpemfdaaDoor
open Go Go.RowKit
set_option linter.unusedVariables false
set_option maxRecDepth 100000

theorem wInt_zero (f : List Nat → List Nat → Int) (L : Int) (xs us : List Int) (h : (wInt f L xs us).2 = 0) : alphB L xs = true ∧ wordB L us = true := by
  cases ha : alphB L xs with
  | false => rw [wInt_no f L xs us ha] at h; exact absurd h (by decide)
  | true =>
    cases hw : wordB L us with
    | false =>
      have e := wCode_bad L xs us ha hw
      unfold wInt at h
      rw [e] at h; simp at h
    | true => exact ⟨rfl, rfl⟩
theorem wf_nats {us : List Nat} {N : Nat} (hN : N ≤ 24) (h : ∀ x, x ∈ us → x < N) : Wf (ints us) := by
  intro x hx
  obtain ⟨y, hy, rfl⟩ := List.mem_map.1 hx
  have := h y hy
  constructor <;> show _ ≤ _ <;> omega
set_option maxHeartbeats 6400000 in
theorem walkFirstLetters (A : Option Addr) (n c : Nat) (bs : List Int) (w : World) (h : RdB w A n bs) (hwf : WfB bs) (hl : n ≤ maxLen) (hT : Tab w) :
    Calls Tryd.prog 14 #[.slice A n c] w fun e w' => e = .returned (.bool true) ∧ Below w.heap.size w w' := by
  by_cases hn : n ≤ 4096
  rotate_left
  · have hbig : decide ((4096 : Int) < (n : Int)) = true := decide_eq_true (by omega)
    go_enter Tryd.func14, Tryd.ntmps14
    go_wp2_with fail
    refine (bigD_any A n c w).mono ?_
    rintro e w' ⟨rfl, rfl⟩
    go_wp2_with fail
    go_ret
    exact ⟨rfl, Below.refl _ _⟩
  have hbig : decide ((4096 : Int) < (n : Int)) = false := decide_eq_false (by omega)
  have HD := Lib.hid (dDrawFirstLetters_any A n c bs w h hwf hn)
  clear h
  go_enter Tryd.func14, Tryd.ntmps14
  go_wp2_with fail
  refine (bigD_any A n c w).mono ?_
  rintro e w' ⟨rfl, rfl⟩
  go_wp2_with fail
  with_reducible refine HD.out.mono ?_
  rintro e w1 ⟨L, N, c1, A1, xs, k, c2, A2, us, rfl, hL, hN, hwx, r1, hwu, hk, r2, ⟨hc1, hc2, _, _⟩, b1⟩
  have HB1 := below1 w1 (.cells #[.int .i64 L, .slice A1 N c1] 29)
  have x2 := box_new 29 w1 L A1 N c1
  have r12 := r1.below HB1
  have r22 := r2.below HB1
  have T2 := (hT.below b1).below HB1
  have B2 : Hid (Below w.heap.size w (w1.alloc (.cells #[.int .i64 L, .slice A1 N c1] 29))) := Lib.hid (b1.alloc b1.size _)
  have hN24 : N ≤ maxLen := by unfold maxLen; omega
  have hk24 : k ≤ maxLen := by unfold maxLen; omega
  obtain ⟨w2, hw2⟩ : ∃ w2, w2 = w1.alloc (.cells #[.int .i64 L, .slice A1 N c1] 29) := ⟨_, rfl⟩
  have HW2 := Lib.hid hw2
  rw [← hw2] at x2 r12 r22 T2 B2
  obtain ⟨F, hF⟩ : ∃ F, F = (flAns L xs us).1 := ⟨_, rfl⟩
  obtain ⟨C, hC⟩ : ∃ C, C = (flAns L xs us).2 := ⟨_, rfl⟩
  have HI : Hid (Calls Tryd.prog 62 #[.agg #[.int .i64 L, .slice A1 N c1], .slice A2 k c2] w2 fun e w' => e = .returned (.tuple #[.int .i64 F, .int .i64 C]) ∧ Below w2.heap.size w2 w') := Lib.hid (by rw [hF, hC]; exact implFirstLetters L A1 N c1 xs A2 k c2 us w2 r12 hwx hL.1 hL.2 hN24 r22 hwu hk24 T2)
  have HS : Hid (∀ ww : World, Rd ww A1 N xs → Rd ww A2 k us → Calls Tryd.prog 65 #[.agg #[.int .i64 L, .slice A1 N c1], .slice A2 k c2] ww fun e w' => e = .returned (.tuple #[.int .i64 F, .int .i64 C]) ∧ Below ww.heap.size ww w') := Lib.hid (fun ww a1 a2 => by rw [hF, hC]; exact specFirstLetters L A1 N c1 xs A2 k c2 us ww a1 hwx hL.1 hL.2 hN24 a2 hwu hk24)
  have HF := Lib.hid hF
  have HC := Lib.hid hC
  clear hF hC hw2 HD r1 r2 HB1 b1
  have z0 := x2.c0
  have z1 := x2.c1
  go_wp2_with fail
  rw [← HW2.out]
  with_reducible refine HI.out.mono ?_
  rintro e w3 ⟨rfl, b3⟩
  have B3 := Lib.hid (B2.out.trans (b3.mono B2.out.size))
  have x3 := x2.next b3
  have r13 := r12.below b3
  have r23 := r22.below b3
  have T3 := T2.below b3
  have HS2 := Lib.hid (HS.out w3 r13 r23)
  clear x2 r12 r22 T2 B2 b3 HI z0 z1 HS HW2
  have z0 := x3.c0
  have z1 := x3.c1
  go_wp2_with fail
  with_reducible refine HS2.out.mono ?_
  rintro e w4 ⟨rfl, b4⟩
  have B4 := Lib.hid (B3.out.trans (b4.mono B3.out.size))
  have x4 := x3.next b4
  have r14 := r13.below b4
  have r24 := r23.below b4
  have T4 := T3.below b4
  clear x3 r13 r23 T3 B3 b4 HS2 z0 z1
  have hCC : (C != C) = false := by simp
  have hFF : (F != F) = false := by simp
  by_cases hC0 : C = 0
  rotate_left
  · have hC1 : (C != 0) = true := by simp [hC0]
    go_wp2_with fail
    go_ret
    exact ⟨rfl, B4.out⟩
  subst hC0
  obtain ⟨ha, hw⟩ := wInt_zero flR L xs us HC.out.symm
  have hlx := r14.1
  have hlu := r24.1
  obtain ⟨rs, rfl, rfl, h8, hrr, hrel, hl8, hd, _⟩ := alphB_nats L xs N hlx ha
  obtain ⟨ys, rfl, hy24, hyn⟩ := wordB_nats N us hw
  have hdep := (depB_iff rs N hl8 hrr).1 hd
  have href : ∀ a, a < N → RDep rs a a = true := fun a ha9 => hdep.1 a (by omega)
  obtain ⟨FN, hFN⟩ : ∃ q, q = flN rs ys := ⟨_, rfl⟩
  have hFe : F = (FN : Int) := by rw [HF.out, hFN]; unfold flAns; rw [wInt_yes flR (N : Int) rs ys ha hw]; rfl
  subst hFe
  have hFlt : FN < 256 := by
    have h9 : FN < 2 ^ rs.length := by rw [hFN]; exact firstM_lt _ _ _
    rw [hl8] at h9
    have h7 : 2 ^ N ≤ 2 ^ 8 := Nat.pow_le_pow_right (by decide) h8
    have h6 : (2 : Nat) ^ 8 = 256 := by decide
    omega
  have q1 := foM_first rs ys N hl8 href hyn
  have q2 := last_rev rs ys N hl8 hdep hrr hyn
  obtain ⟨LN, hLN⟩ : ∃ q, q = llN rs ys := ⟨_, rfl⟩
  have hrvl : (rvR rs ys).length ≤ 24 := by have := nfR_len rs ys.reverse; rw [List.length_reverse] at this; unfold rvR; omega
  have hrvn : ∀ x, x ∈ rvR rs ys → x < N := fun x hx => by rw [← hl8]; exact nfR_ltN rs _ x hx
  have hdR := wordB_ints N _ hrvl hrvn
  have hwfR := wf_nats (by omega : N ≤ 24) hrvn
  have eS : foAns (N : Int) (ints rs) (ints ys) = (ints (foM rs ys), 0) := wAns_yes _ (N : Int) rs ys ha hw
  have eV : rvAns (N : Int) (ints rs) (ints ys) = (ints (rvR rs ys), 0) := wAns_yes _ (N : Int) rs ys ha hw
  have eL : llAns (N : Int) (ints rs) (ints ys) = ((LN : Int), 0) := by unfold llAns; rw [wInt_yes llR (N : Int) rs ys ha hw, hLN]; rfl
  have eO : flAns (N : Int) (ints rs) (ints (rvR rs ys)) = ((LN : Int), 0) := by unfold flAns; rw [wInt_yes flR (N : Int) rs _ ha hdR, hLN, ← q2]; rfl
  have hbit : ∀ a, a < N → dB ipF (N : Int) (ints rs) (ints [a]) (ints ys) = (FN.testBit a, 0) := fun a ha9 => by
    have hwa : wordB (N : Int) (ints [a]) = true := wordB_ints N [a] (by simp) (fun u hu => by rw [List.mem_singleton.1 hu]; exact ha9)
    rw [dB_yes ipF (N : Int) rs [a] ys ha (by rw [hwa, hw]; rfl)]
    have h9 : ipF rs [a] ys = FN.testBit a := by
      unfold ipF
      rw [cut_one, hFN]
      unfold flN firstM
      rw [Bool.eq_iff_iff, mkM_bit, hl8]
      exact ⟨fun h => ⟨ha9, h⟩, fun h => h.2⟩
    rw [h9]
  have HBIT := Lib.hid hbit
  obtain ⟨ST, hST⟩ : ∃ q, q = foM rs ys := ⟨_, rfl⟩
  rw [← hST] at eS q1
  rw [← hFN] at q1
  have hstl : ST.length ≤ 24 := by rw [hST]; exact Nat.le_trans (foM_len rs ys) hy24
  obtain ⟨RV, hRV⟩ : ∃ q, q = rvR rs ys := ⟨_, rfl⟩
  rw [← hRV] at eV eO hrvl hwfR
  obtain ⟨KS, hKS⟩ : ∃ q, q = (ints ST).length := ⟨_, rfl⟩
  obtain ⟨KR, hKR⟩ : ∃ q, q = (ints RV).length := ⟨_, rfl⟩
  have hKR24 : KR ≤ maxLen := by rw [hKR, ints_len]; unfold maxLen; omega
  have HKS2 : Hid (KS = ST.length) := Lib.hid (by rw [hKS, ints_len])
  have hKS24 : KS ≤ 24 := by rw [HKS2.out]; exact hstl
  have H1 : Hid (Calls Tryd.prog 49 #[.agg #[.int .i64 (N : Int), .slice A1 N c1], .slice A2 k c2] w4 (LsPost w4 KS (ints ST) 0)) := Lib.hid (by
    have h9 := implFoataForm (N : Int) A1 N c1 (ints rs) A2 k c2 (ints ys) w4 r14 hwx hL.1 hL.2 hN24 r24 hwu hk24 T4
    rw [eS] at h9
    rw [hKS]; exact h9)
  have H2 : Hid (∀ ww, Rd ww A1 N (ints rs) → Rd ww A2 k (ints ys) → Tab ww → Calls Tryd.prog 66 #[.agg #[.int .i64 (N : Int), .slice A1 N c1], .slice A2 k c2] ww (LsPost ww KR (ints RV) 0)) := Lib.hid (fun ww a1 a2 a3 => by
    have h9 := implReverseOf (N : Int) A1 N c1 (ints rs) A2 k c2 (ints ys) ww a1 hwx hL.1 hL.2 hN24 a2 hwu hk24 a3
    rw [eV] at h9
    rw [hKR]; exact h9)
  have H3 : Hid (∀ ww, Rd ww A1 N (ints rs) → Rd ww A2 k (ints ys) → Tab ww → Calls Tryd.prog 67 #[.agg #[.int .i64 (N : Int), .slice A1 N c1], .slice A2 k c2] ww fun e w' => e = .returned (.tuple #[.int .i64 (LN : Int), .int .i64 0]) ∧ Below ww.heap.size ww w') := Lib.hid (fun ww a1 a2 a3 => by
    have h9 := implLastLetters (N : Int) A1 N c1 (ints rs) A2 k c2 (ints ys) ww a1 hwx hL.1 hL.2 hN24 a2 hwu hk24 a3
    rw [eL] at h9
    exact h9)
  have H4 : Hid (∀ ww R1 d, Rd ww A1 N (ints rs) → Rd ww R1 KR (ints RV) → Tab ww → Calls Tryd.prog 62 #[.agg #[.int .i64 (N : Int), .slice A1 N c1], .slice R1 KR d] ww fun e w' => e = .returned (.tuple #[.int .i64 (LN : Int), .int .i64 0]) ∧ Below ww.heap.size ww w') := Lib.hid (fun ww R1 d a1 a2 a3 => by
    have h9 := implFirstLetters (N : Int) A1 N c1 (ints rs) R1 KR d (ints RV) ww a1 hwx hL.1 hL.2 hN24 a2 hwfR hKR24 a3
    rw [eO] at h9
    exact h9)
  have H5 : Hid (∀ ww R1 a, a < N → Rd ww A1 N (ints rs) → Rd ww R1 1 (ints [a]) → Rd ww A2 k (ints ys) → Tab ww → Calls Tryd.prog 68 #[.agg #[.int .i64 (N : Int), .slice A1 N c1], .slice R1 1 1, .slice A2 k c2] ww fun e w' => e = .returned (.tuple #[.bool (FN.testBit a), .int .i64 0]) ∧ Below ww.heap.size ww w') := Lib.hid (fun ww R1 a a0 a1 a2 a4 a3 => by
    have h9 := implIsPrefix (N : Int) A1 N c1 (ints rs) R1 1 1 (ints [a]) A2 k c2 (ints ys) ww a1 hwx hL.1 hL.2 hN24 a2 (wf_nats (by omega : N ≤ 24) (fun x hx => by rw [List.mem_singleton.1 hx]; exact a0)) (by unfold maxLen; omega) a4 hwu hk24 (Nat.le_refl _) hc2 a3
    rw [HBIT.out a a0] at h9
    exact h9)
  have HST : Hid (ST.getD 0 0 = FN) := Lib.hid q1
  clear eS eV eL eO q1 q2 hST hRV hKS hKR hFN hLN hbit HBIT hdR hwfR hrvl hrvn href hdep hd hrel hrr hyn hlx hlu hy24 ha hw HF HC hwx hwu hKR24 hstl hl8 h8
  have z0 := x4.c0
  have z1 := x4.c1
  go_wp2_with fail
  with_reducible refine H1.out.mono ?_
  rintro e w5 ⟨S1, s1, rfl, o5, b5⟩
  have B5 := Lib.hid (B4.out.trans (b5.mono B4.out.size))
  have x5 := x4.next b5
  have r15 := r14.below b5
  have r25 := r24.below b5
  have T5 := T4.below b5
  have r35 := o5.rd
  have HX2 := Lib.hid (H2.out w5 r15 r25 T5)
  clear x4 r14 r24 T4 B4 b5 o5 H1 z0 z1
  have z0 := x5.c0
  have z1 := x5.c1
  go_wp2_with fail
  with_reducible refine HX2.out.mono ?_
  rintro e w6 ⟨R1, t1, rfl, o6, b6⟩
  have B6 := Lib.hid (B5.out.trans (b6.mono B5.out.size))
  have x6 := x5.next b6
  have r16 := r15.below b6
  have r26 := r25.below b6
  have r36 := r35.below b6
  have T6 := T5.below b6
  have r46 := o6.rd
  have HX3 := Lib.hid (H3.out w6 r16 r26 T6)
  clear x5 r15 r25 r35 T5 B5 b6 o6 HX2 z0 z1
  have z0 := x6.c0
  have z1 := x6.c1
  go_wp2_with fail
  with_reducible refine HX3.out.mono ?_
  rintro e w7 ⟨rfl, b7⟩
  have B7 := Lib.hid (B6.out.trans (b7.mono B6.out.size))
  have x7 := x6.next b7
  have r17 := r16.below b7
  have r27 := r26.below b7
  have r37 := r36.below b7
  have T7 := T6.below b7
  have HX4 := Lib.hid (H4.out w7 R1 t1 r17 (r46.below b7) T7)
  clear x6 r16 r26 r36 r46 T6 B6 b7 HX3 z0 z1
  have z0 := x7.c0
  have z1 := x7.c1
  go_wp2_with fail
  with_reducible refine HX4.out.mono ?_
  rintro e w8 ⟨rfl, b8⟩
  have B8 := Lib.hid (B7.out.trans (b8.mono B7.out.size))
  have x8 := x7.next b8
  have r18 := r17.below b8
  have r28 := r27.below b8
  have r38 := r37.below b8
  have T8 := T7.below b8
  clear x7 r17 r27 r37 T7 B7 b8 HX4 z0 z1 H2 H3 H4
  have hLL : ((LN : Int) != (LN : Int)) = false := by simp
  have HEND : Hid (∀ (P : Prop), P → P) := Lib.hid fun _ h => h
  rcases Nat.eq_zero_or_pos KS with hk0 | hk0
  · have hSn : ST = [] := List.eq_nil_of_length_eq_zero (by rw [← HKS2.out]; exact hk0)
    have hF0 : FN = 0 := by have := HST.out; rw [hSn] at this; exact this.symm
    have hk1 : ((KS : Int) == 0) = true := by simp [hk0]
    have hk2 : ¬ ((KS : Int) > 0) := by omega
    have hf1 : ((FN : Int) != 0) = false := by simp [hF0]
    clear hk0 hSn hF0
    go_wp2_with fail
    go_loopw [17] (fun i wr => ∃ a : Nat, a ≤ N ∧ i = .int .i64 (a : Int) ∧ Below w8.heap.size w8 wr) (fun i _ => N - (intOf i).toNat)
    case atStart => exact ⟨0, Nat.zero_le _, rfl, Below.refl _ _⟩
    case round =>
      obtain ⟨a, ha, rfl, hb⟩ := hrel
      have xR := x8.next hb
      have v0 := xR.c0
      by_cases hlt : a < N
      · have v1 := xR.c1
        have HL := below1 wr (.cells #[.int .i64 (a : Int)] 2)
        have LR := Own.rd (show Own 2 (wr.alloc (.cells #[.int .i64 (a : Int)] 2)) wr.heap.size (some ⟨wr.heap.size, 0, none⟩) 1 1 (ints [a]) from World.ownsRow_lit wr #[.int .i64 (a : Int)] 1 (Nat.le_refl _) (by unfold maxLen; omega) rfl)
        have HX5 := Lib.hid (H5.out _ (some ⟨wr.heap.size, 0, none⟩) a hlt ((r18.below hb).below HL) LR ((r28.below hb).below HL) ((T8.below hb).below HL))
        have hbv := bit_val FN a (by omega)
        have hcmp : (FN.testBit a != (bits .and .i64 ((FN : Int) / 2 ^ a) 1 == 1)) = false := by rw [hbv]; simp
        have hcmp2 : (!FN.testBit a == (bits .and .i64 ((FN : Int) / 2 ^ a) 1 == 1)) = false := hcmp
        clear hbv
        clear LR
        go_wp2_with fail
        with_reducible refine HX5.out.mono ?_
        rintro e w9 ⟨rfl, b9⟩
        have hb9 := (hb.trans (HL.mono hb.size)).trans (b9.mono (hb.trans (HL.mono hb.size)).size)
        clear HX5 HL b9 xR v0 v1
        go_wp2_with fail
        go_roundw
        case rel => exact ⟨a + 1, by omega, by go_num, hb9⟩
        case measure => simp [intOf]; omega
      · obtain rfl : a = N := by omega
        go_wp2_with fail
        go_ret
        exact ⟨rfl, B8.out.trans (hb.mono B8.out.size)⟩
  · obtain ⟨b, off, u, rfl, hbs, hx, hcx⟩ := r38.at_ hk0
    have hu : u = (FN : Int) := by
      have h9 := HST.out
      rw [ints_getD ST 0 (by rw [← HKS2.out]; exact hk0)] at hx
      injection hx with hx
      rw [← hx, h9]
    subst hu
    have hcx2 : w8.cell? ⟨b, off, none⟩ = some (.int .i64 (FN : Int)) := by simpa using hcx
    have hk1 : ((KS : Int) == 0) = false := by simp; omega
    have hk2 : ((KS : Int) > 0) := by omega
    go_wp2_with fail
    go_loopw [17] (fun i wr => ∃ a : Nat, a ≤ N ∧ i = .int .i64 (a : Int) ∧ Below w8.heap.size w8 wr) (fun i _ => N - (intOf i).toNat)
    case atStart => exact ⟨0, Nat.zero_le _, rfl, Below.refl _ _⟩
    case round =>
      obtain ⟨a, ha, rfl, hb⟩ := hrel
      have xR := x8.next hb
      have v0 := xR.c0
      by_cases hlt : a < N
      · have v1 := xR.c1
        have HL := below1 wr (.cells #[.int .i64 (a : Int)] 2)
        have LR := Own.rd (show Own 2 (wr.alloc (.cells #[.int .i64 (a : Int)] 2)) wr.heap.size (some ⟨wr.heap.size, 0, none⟩) 1 1 (ints [a]) from World.ownsRow_lit wr #[.int .i64 (a : Int)] 1 (Nat.le_refl _) (by unfold maxLen; omega) rfl)
        have HX5 := Lib.hid (H5.out _ (some ⟨wr.heap.size, 0, none⟩) a hlt ((r18.below hb).below HL) LR ((r28.below hb).below HL) ((T8.below hb).below HL))
        have hbv := bit_val FN a (by omega)
        have hcmp : (FN.testBit a != (bits .and .i64 ((FN : Int) / 2 ^ a) 1 == 1)) = false := by rw [hbv]; simp
        have hcmp2 : (!FN.testBit a == (bits .and .i64 ((FN : Int) / 2 ^ a) 1 == 1)) = false := hcmp
        clear hbv
        clear LR
        go_wp2_with fail
        with_reducible refine HX5.out.mono ?_
        rintro e w9 ⟨rfl, b9⟩
        have hb9 := (hb.trans (HL.mono hb.size)).trans (b9.mono (hb.trans (HL.mono hb.size)).size)
        clear HX5 HL b9 xR v0 v1
        go_wp2_with fail
        go_roundw
        case rel => exact ⟨a + 1, by omega, by go_num, hb9⟩
        case measure => simp [intOf]; omega
      · obtain rfl : a = N := by omega
        go_wp2_with fail
        go_ret
        exact ⟨rfl, B8.out.trans (hb.mono B8.out.size)⟩
end Go.Proofs.YtcojodkcpemfdaaDoor

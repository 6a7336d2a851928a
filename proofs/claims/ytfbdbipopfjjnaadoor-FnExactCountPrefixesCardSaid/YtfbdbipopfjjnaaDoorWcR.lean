/-
  The recursions over sets of places: width, countDownsets, l04Width, l04CountDown, by contracts.
-/
import Derived.Test.YtfbdbipopfjjnaaDoorPaA
import Derived.Test.YtfbdbipopfjjnaaDoorCntM
namespace Go.Proofs.YtfbdbipopfjjnaaDoor
open Go Go.RowKit
set_option linter.unusedVariables false
set_option maxRecDepth 100000

set_option maxHeartbeats 3200000 in
theorem width_any (g m c : Nat) (A : Option Addr) (D : Nat → Nat → Bool) (us : List Nat) (hm : m ≤ 24) : ∀ (s : Nat), s < 2 ^ m → ∀ (w : World), OBox w g A m c (dnF D us m) (upW D us m) → Tab w →
    Calls Tryd.prog 83 #[.pointer (some ⟨g, 0, none⟩), .int .i64 (s : Int)] w fun e w' => e = .returned (.int .i64 ((widS D us m s : Nat) : Int)) ∧ Below w.heap.size w w' := by
  intro s
  induction s using Nat.strongRecOn with
  | ind s ih =>
    intro hs w x hT
    have h24 := p24 m hm
    by_cases h0 : s = 0
    · have HZ : Hid (widS D us m s = 0) := Lib.hid (by rw [h0]; exact widS_zero D us m)
      subst h0
      clear ih
      go_enter Tryd.func83, Tryd.ntmps83
      go_wp2_with fail
      go_ret
      exact ⟨ret_i _ _ (by rw [HZ.out]; rfl), Below.refl _ _⟩
    · obtain ⟨i, hi⟩ : ∃ i, i = low s := ⟨_, rfl⟩
      have hb : s.testBit (low s) = true ∧ ∀ j, j < low s → s.testBit j = false := by have := low_bit s h0 (by omega); exact ⟨this.1, this.2.1⟩
      rw [← hi] at hb
      have him := bit_lt hs hb.1
      have hsp := widS_split D us m s i hm hs hb.1 hb.2
      obtain ⟨s1, hs1⟩ : ∃ s1, s1 = dif s (2 ^ i) := ⟨_, rfl⟩
      obtain ⟨C, hC⟩ : ∃ C, C = concM D us m i := ⟨_, rfl⟩
      obtain ⟨s2, hs2⟩ : ∃ s2, s2 = s &&& C := ⟨_, rfl⟩
      rw [← hs1, ← hC, ← hs2] at hsp
      have hdu : (dnW D us i ||| upW D us m i) < 2 ^ m := Nat.or_lt_two_pow (dnW_lt _ _ _ _ him) (upW_lt _ _ _ _)
      have hp := p2_pos m
      have hC24 : C < 2 ^ m := by rw [hC]; unfold concM; exact Nat.lt_of_le_of_lt (dif_le _ _) (by omega)
      have hbi1 : s1.testBit i = false := by rw [hs1, dif_one s i (by omega) (by omega)]; simp
      have hbi2 : C.testBit i = false := by
        rw [hC]; unfold concM
        rw [dif_bit _ _ i (by omega) (by omega), Nat.testBit_or, (upW_bit _ _ _ _ _).2 ⟨him, lq_refl _ _ _⟩]; simp
      have hl1 : s1 < s := by
        have h1 : s1 ≤ s := by rw [hs1]; exact dif_le _ _
        rcases Nat.eq_or_lt_of_le h1 with h2 | h2
        · rw [h2, hb.1] at hbi1; cases hbi1
        · exact h2
      have hl2 : s2 < s := by
        have h1 : s2 ≤ s := by rw [hs2]; exact Nat.and_le_left
        rcases Nat.eq_or_lt_of_le h1 with h2 | h2
        · have h3 : (s &&& C).testBit i = true := by rw [← hs2, h2]; exact hb.1
          rw [Nat.testBit_and, hbi2, Bool.and_false] at h3; cases h3
        · exact h2
      have hs63' : s < 9223372036854775808 := by omega
      have HLO : Hid (∀ ww : World, Tab ww → Calls Tryd.prog 122 #[.int .i64 (s : Int)] ww fun e w' => e = .returned (.int .i64 (i : Int)) ∧ ww = w') := Lib.hid fun ww ht => by rw [hi]; exact least_any s hs63' h0 ww ht
      have hp2 : (2:Nat) ^ i < 9223372036854775808 := p2_lt i (by omega)
      have hw64 := w64_p2 i (by omega)
      have HMI : Hid (∀ ww : World, Calls Tryd.prog 103 #[.int .i64 (s : Int), .int .i64 ((2 ^ i : Nat) : Int)] ww fun e w' => e = .returned (.int .i64 (s1 : Int)) ∧ ww = w') := Lib.hid fun ww => by rw [hs1]; exact minus_nat s (2 ^ i) hs63' hp2 ww
      obtain ⟨P2, hP2⟩ : ∃ P2, P2 = 2 ^ i := ⟨_, rfl⟩
      rw [← hP2] at HMI hw64
      have HW1 : Hid (∀ ww, OBox ww g A m c (dnF D us m) (upW D us m) → Tab ww → Calls Tryd.prog 83 #[.pointer (some ⟨g, 0, none⟩), .int .i64 (s1 : Int)] ww fun e w' => e = .returned (.int .i64 ((widS D us m s1 : Nat) : Int)) ∧ Below ww.heap.size ww w') := Lib.hid fun ww hx ht => ih s1 hl1 (by omega) ww hx ht
      have HW2 : Hid (∀ ww, OBox ww g A m c (dnF D us m) (upW D us m) → Tab ww → Calls Tryd.prog 83 #[.pointer (some ⟨g, 0, none⟩), .int .i64 (s2 : Int)] ww fun e w' => e = .returned (.int .i64 ((widS D us m s2 : Nat) : Int)) ∧ Below ww.heap.size ww w') := Lib.hid fun ww hx ht => ih s2 hl2 (by omega) ww hx ht
      have HCO : Hid (∀ ww, OBox ww g A m c (dnF D us m) (upW D us m) → Calls Tryd.prog 123 #[.pointer (some ⟨g, 0, none⟩), .int .i64 (i : Int)] ww fun e w' => e = .returned (.int .i64 (C : Int)) ∧ Below ww.heap.size ww w') := Lib.hid fun ww hx => by rw [hC]; exact conc_any g m c i A D us ww hx hm him
      have hand := i64_and_nat s C (by omega) (by omega)
      rw [← hs2] at hand
      have hv1 := widS_le D us m s1
      have hv2 := widS_le D us m s2
      obtain ⟨V, hV⟩ : ∃ V, V = widS D us m s := ⟨_, rfl⟩
      obtain ⟨V1, hV1⟩ : ∃ V1, V1 = widS D us m s1 := ⟨_, rfl⟩
      obtain ⟨V2, hV2⟩ : ∃ V2, V2 = widS D us m s2 := ⟨_, rfl⟩
      rw [← hV, ← hV1, ← hV2] at hsp
      rw [← hV1] at HW1 hv1
      rw [← hV2] at HW2 hv2
      rw [← hV]
      have HSP := Lib.hid hsp
      have hs63 : ((s : Int) == 0) = false := by simp; omega
      have hs64 : (s == 0) = false := by simp; omega
      clear ih hi hb hsp hs1 hC hs2 hdu hp hC24 hbi1 hbi2 hl1 hl2 hp2 hP2 hV hV1 hV2
      go_enter Tryd.func83, Tryd.ntmps83
      go_wp2_with fail
      refine (HLO.out _ hT).mono ?_
      rintro e w' ⟨rfl, rfl⟩
      go_wp2_with fail
      rw [hw64]
      refine (HMI.out _).mono ?_
      rintro e w' ⟨rfl, rfl⟩
      go_wp2_with fail
      refine (HW1.out _ x hT).mono ?_
      rintro e w1 ⟨rfl, hb1⟩
      have hx1 := x.next hb1
      have hT1 := hT.below hb1
      go_wp2_with fail
      refine (HCO.out _ hx1).mono ?_
      rintro e w2 ⟨rfl, hb2⟩
      have hx2 := hx1.next hb2
      have hT2 := hT1.below hb2
      have HB2 := Lib.hid (hb1.trans (hb2.mono hb1.size))
      clear hx1 hT1 hb1 hb2
      go_wp2_with fail
      refine (HW2.out _ hx2 hT2).mono ?_
      rintro e w3 ⟨rfl, hb3⟩
      have HB3 := Lib.hid (HB2.out.trans (hb3.mono HB2.out.size))
      clear hb3 hx2 hT2
      go_wp2_with fail
      all_goals (
        go_ret
        exact ⟨ret_i _ _ (by rw [HSP.out]; omega), HB3.out⟩)
set_option maxHeartbeats 3200000 in
theorem count_any (g m c : Nat) (A : Option Addr) (D : Nat → Nat → Bool) (us : List Nat) (hm : m ≤ 24) : ∀ (s : Nat), s < 2 ^ m → ∀ (w : World), OBox w g A m c (dnF D us m) (upW D us m) → Tab w →
    Calls Tryd.prog 86 #[.pointer (some ⟨g, 0, none⟩), .int .i64 (s : Int)] w fun e w' => e = .returned (.int .i64 ((cntS D us m s : Nat) : Int)) ∧ ∃ q, w' = w.drewN q := by
  intro s
  induction s using Nat.strongRecOn with
  | ind s ih =>
    intro hs w x hT
    have h24 := p24 m hm
    by_cases h0 : s = 0
    · have HZ : Hid (cntS D us m s = 1) := Lib.hid (by rw [h0]; exact cntS_zero D us m)
      subst h0
      clear ih
      go_enter Tryd.func86, Tryd.ntmps86
      go_wp2_with fail
      go_ret
      exact ⟨ret_i _ _ (by rw [HZ.out]; rfl), 0, rfl⟩
    · obtain ⟨i, hi⟩ : ∃ i, i = low s := ⟨_, rfl⟩
      have hs63' : s < 9223372036854775808 := by omega
      have hb : s.testBit i = true := by rw [hi]; exact (low_bit s h0 hs63').1
      have him := bit_lt hs hb
      have hsp := cntS_split D us m s i hm hs hb
      have hu24 : upW D us m i < 9223372036854775808 := by have := upW_lt D us m i; omega
      have hd24 : dnW D us i < 9223372036854775808 := Nat.lt_of_lt_of_le (dnW_lt24 _ _ _) (by decide)
      have hci := x.cf i (by omega)
      have hhi := x.ch i (by omega)
      rw [dnF_at _ _ _ _ him] at hci
      have hbu : (dif s (upW D us m i)).testBit i = false := by rw [dif_bit _ _ i hs63' hu24, (upW_bit _ _ _ _ _).2 ⟨him, lq_refl _ _ _⟩]; simp
      have hbd : (dif s (dnW D us i)).testBit i = false := by rw [dif_bit _ _ i hs63' hd24, (dnW_bit _ _ _ _).2 ⟨by omega, lq_refl _ _ _⟩]; simp
      obtain ⟨U, hU⟩ : ∃ U, U = upW D us m i := ⟨_, rfl⟩
      obtain ⟨N, hN⟩ : ∃ N, N = dnW D us i := ⟨_, rfl⟩
      rw [← hU] at hsp hu24 hhi hbu
      rw [← hN] at hsp hd24 hci hbd
      obtain ⟨s1, hs1⟩ : ∃ s1, s1 = dif s U := ⟨_, rfl⟩
      obtain ⟨s2, hs2⟩ : ∃ s2, s2 = dif s N := ⟨_, rfl⟩
      rw [← hs1] at hsp hbu
      rw [← hs2] at hsp hbd
      have hl1 : s1 < s := by
        have h1 : s1 ≤ s := by rw [hs1]; exact dif_le _ _
        rcases Nat.eq_or_lt_of_le h1 with h2 | h2
        · rw [h2, hb] at hbu; cases hbu
        · exact h2
      have hl2 : s2 < s := by
        have h1 : s2 ≤ s := by rw [hs2]; exact dif_le _ _
        rcases Nat.eq_or_lt_of_le h1 with h2 | h2
        · rw [h2, hb] at hbd; cases hbd
        · exact h2
      have HLO : Hid (Calls Tryd.prog 122 #[.int .i64 (s : Int)] w fun e w' => e = .returned (.int .i64 (i : Int)) ∧ w = w') := Lib.hid (by rw [hi]; exact least_any s hs63' h0 _ hT)
      have HM1 : Hid (∀ q, Calls Tryd.prog 103 #[.int .i64 (s : Int), .int .i64 (U : Int)] (w.drewN q) fun e w'' => e = .returned (.int .i64 (s1 : Int)) ∧ ∃ m', w'' = w.drewN m') := Lib.hid fun q => Calls.quiet_of_same ((minus_nat s U hs63' hu24 _).mono fun _ _ ⟨he, hw⟩ => ⟨by rw [hs1]; exact he, hw.symm⟩)
      have HM2 : Hid (∀ q, Calls Tryd.prog 103 #[.int .i64 (s : Int), .int .i64 (N : Int)] (w.drewN q) fun e w'' => e = .returned (.int .i64 (s2 : Int)) ∧ ∃ m', w'' = w.drewN m') := Lib.hid fun q => Calls.quiet_of_same ((minus_nat s N hs63' hd24 _).mono fun _ _ ⟨he, hw⟩ => ⟨by rw [hs2]; exact he, hw.symm⟩)
      have HIH : ∀ r, r < s → ∀ q, Calls Tryd.prog 86 #[.pointer (some ⟨g, 0, none⟩), .int .i64 (r : Int)] (w.drewN q) fun e w'' => e = .returned (.int .i64 ((cntS D us m r : Nat) : Int)) ∧ ∃ m', w'' = w.drewN m' := fun r hr q => (ih r hr (by omega) (w.drewN q) (x.next (below_drewN (Below.refl _ _) q)) (hT.below (below_drewN (Below.refl _ _) q))).mono fun _ _ ⟨he, b, hw⟩ => ⟨he, q + b, by rw [hw]; show World.mk _ _ _ _ _ = World.mk _ _ _ _ _; congr 1; show w.drawn + q + b = w.drawn + (q + b); omega⟩
      have HC1 := Lib.hid (HIH s1 hl1)
      have HC2 := Lib.hid (HIH s2 hl2)
      have hv1 := cntS_le D us m s1 hm
      have hv2 := cntS_le D us m s2 hm
      obtain ⟨V, hV⟩ : ∃ V, V = cntS D us m s := ⟨_, rfl⟩
      obtain ⟨V1, hV1⟩ : ∃ V1, V1 = cntS D us m s1 := ⟨_, rfl⟩
      obtain ⟨V2, hV2⟩ : ∃ V2, V2 = cntS D us m s2 := ⟨_, rfl⟩
      rw [← hV, ← hV1, ← hV2] at hsp
      rw [← hV1] at HC1 hv1
      rw [← hV2] at HC2 hv2
      rw [← hV]
      have hadd : IntKind.i64.wrap ((V1 : Int) + (V2 : Int)) = (V : Int) := by rw [IntWalk.i64_left]; unfold wrap64; omega
      have HADD := Lib.hid hadd
      have hs63 : ((s : Int) == 0) = false := by simp; omega
      have hs64 : (s == 0) = false := by simp; omega
      have hi24 : (i : Int) < 24 := by omega
      have hi0 : (0 : Int) ≤ (i : Int) := by omega
      clear ih HIH hi hb hsp hs1 hs2 hbu hbd hl1 hl2 hU hN hV hV1 hV2 hadd x
      go_enter Tryd.func86, Tryd.ntmps86
      go_wp2_with fail
      refine HLO.out.mono ?_
      rintro e w' ⟨rfl, rfl⟩
      have hadd := HADD.out
      go_wp2_with fail
      go_quiet ((first | (go_at_call 103; first | (with_reducible exact HM1.out _) | (with_reducible exact HM2.out _)) | (go_at_call 86; first | (with_reducible exact HC1.out _) | (with_reducible exact HC2.out _))))
      clear hadd
      go_wp2_with fail
      go_ret
      exact ⟨by first | rfl | rw [HADD.out], _, rfl⟩
theorem widD_le (up : Nat → Nat) (m : Nat) : ∀ d out, widD up m d out ≤ d
  | 0, _ => Nat.le_refl _
  | d + 1, out => by
    have U : widD up m (d + 1) out = if out.testBit (m - (d + 1)) = true then widD up m d out else max (widD up m d out) (1 + widD up m d (out ||| up (m - (d + 1)))) := rfl
    have h1 := widD_le up m d out
    have h2 := widD_le up m d (out ||| up (m - (d + 1)))
    rw [U]
    split <;> omega
theorem cntD_le (up : Nat → Nat) : ∀ k inn, cntD up k inn ≤ 2 ^ k
  | 0, _ => Nat.le_refl _
  | k + 1, inn => by
    have U : cntD up (k + 1) inn = (if up k &&& inn = 0 then cntD up k inn else 0) + cntD up k (inn ||| 2 ^ k) := rfl
    have h1 := cntD_le up k inn
    have h2 := cntD_le up k (inn ||| 2 ^ k)
    rw [U, Nat.pow_succ]
    split <;> omega
set_option maxHeartbeats 3200000 in
theorem l04Width_any (A : Option Addr) (m c : Nat) (D : Nat → Nat → Bool) (us : List Nat) (w : World) (h : Rd w A m (ints (ordM D us m))) (hm : m ≤ 24) : ∀ (d out : Nat), d ≤ m → out < 2 ^ m →
    Calls Tryd.prog 82 #[.slice A m c, .int .i64 ((m - d : Nat) : Int), .int .i64 (out : Int)] w fun e w' => e = .returned (.int .i64 ((widD (upW D us m) m d out : Nat) : Int)) ∧ w = w' := by
  have h24 := p24 m hm
  intro d
  induction d with
  | zero =>
    intro out hd ho
    have hq : (((m - 0 : Nat) : Int) == (m : Int)) = true := by simp
    go_enter Tryd.func82, Tryd.ntmps82
    go_wp2_with fail
    go_ret
    exact ⟨rfl, rfl⟩
  | succ d ih =>
    intro out hd ho
    obtain ⟨i, hi⟩ : ∃ i, i = m - (d + 1) := ⟨_, rfl⟩
    have U : widD (upW D us m) m (d + 1) out = if out.testBit i = true then widD (upW D us m) m d out else max (widD (upW D us m) m d out) (1 + widD (upW D us m) m d (out ||| upW D us m i)) := by rw [hi]; rfl
    have him : i < m := by omega
    have he : ((m - d : Nat) : Int) = (i : Int) + 1 := by omega
    have hu := upW_lt D us m i
    have hor24 : out ||| upW D us m i < 2 ^ m := Nat.or_lt_two_pow ho hu
    have HI1 := Lib.hid (ih out (by omega) ho)
    have HI2 := Lib.hid (ih (out ||| upW D us m i) (by omega) hor24)
    rw [he] at HI1 HI2
    have hv1 : widD (upW D us m) m d out ≤ 24 := Nat.le_trans (widD_le _ _ _ _) (by omega)
    have hv2 : widD (upW D us m) m d (out ||| upW D us m i) ≤ 24 := Nat.le_trans (widD_le _ _ _ _) (by omega)
    obtain ⟨b, off, y, eA, hbs, hy, hcy⟩ := h.at_ him
    rw [ints_getD _ i (by rw [ordM_len]; exact him), ordM_at _ _ _ _ him] at hy
    injection hy with hy
    obtain ⟨X, hX⟩ : ∃ X, X = upW D us m i := ⟨_, rfl⟩
    rw [← hX] at hy HI2 hv2 U hu hor24
    have hor := i64_or_nat out X (by omega) (by omega)
    obtain ⟨O2, hO2⟩ : ∃ O2, O2 = out ||| X := ⟨_, rfl⟩
    rw [← hO2] at HI2 hv2 U hor
    subst hy eA
    have HB : Hid (∀ ww : World, Calls Tryd.prog 48 #[.int .i64 (out : Int), .int .i64 (i : Int)] ww fun e w' => e = .returned (.bool (out.testBit i)) ∧ ww = w') := Lib.hid fun ww => bit_any out i (by omega) (by omega) ww
    obtain ⟨V1, hV1⟩ : ∃ V1, V1 = widD (upW D us m) m d out := ⟨_, rfl⟩
    obtain ⟨V2, hV2⟩ : ∃ V2, V2 = widD (upW D us m) m d O2 := ⟨_, rfl⟩
    rw [← hV1] at HI1 hv1 U
    rw [← hV2] at HI2 hv2 U
    rw [← hi, U]
    have hne : ((i : Int) == (m : Int)) = false := by simp; omega
    clear U hX hO2 hV1 hV2 ih he hi hd
    cases hb : out.testBit i
    · rw [hb] at HB
      rw [if_neg (by decide)]
      by_cases hk : V1 < 1 + V2
      · have hgt : decide ((V1 : Int) < 1 + (V2 : Int)) = true := decide_eq_true (by omega)
        rw [show max V1 (1 + V2) = 1 + V2 by omega]
        clear hb
        go_enter Tryd.func82, Tryd.ntmps82
        go_wp2_with fail
        refine HI1.out.mono ?_
        rintro e w' ⟨rfl, rfl⟩
        go_wp2_with fail
        refine (HB.out _).mono ?_
        rintro e w' ⟨rfl, rfl⟩
        go_wp2_with fail
        refine HI2.out.mono ?_
        rintro e w' ⟨rfl, rfl⟩
        go_wp2_with fail
        go_ret
        exact ⟨ret_i _ _ (by omega), rfl⟩
      · have hgt : decide ((V1 : Int) < 1 + (V2 : Int)) = false := decide_eq_false (by omega)
        rw [show max V1 (1 + V2) = V1 by omega]
        clear hb
        go_enter Tryd.func82, Tryd.ntmps82
        go_wp2_with fail
        refine HI1.out.mono ?_
        rintro e w' ⟨rfl, rfl⟩
        go_wp2_with fail
        refine (HB.out _).mono ?_
        rintro e w' ⟨rfl, rfl⟩
        go_wp2_with fail
        refine HI2.out.mono ?_
        rintro e w' ⟨rfl, rfl⟩
        go_wp2_with fail
        go_ret
        exact ⟨rfl, rfl⟩
    · rw [hb] at HB
      rw [if_pos rfl]
      clear hb
      go_enter Tryd.func82, Tryd.ntmps82
      go_wp2_with fail
      refine HI1.out.mono ?_
      rintro e w' ⟨rfl, rfl⟩
      go_wp2_with fail
      refine (HB.out _).mono ?_
      rintro e w' ⟨rfl, rfl⟩
      go_wp2_with fail
      go_ret
      exact ⟨rfl, rfl⟩
set_option maxHeartbeats 3200000 in
theorem l04CountDown_any (A : Option Addr) (m c : Nat) (D : Nat → Nat → Bool) (us : List Nat) (w : World) (h : Rd w A m (ints (ordM D us m))) (hm : m ≤ 24) : ∀ (k inn out : Nat), k ≤ m → inn < 2 ^ 24 → out < 2 ^ 24 → (∀ j, j < k → out.testBit j = false) →
    Calls Tryd.prog 85 #[.slice A m c, .int .i64 (k : Int), .int .i64 (inn : Int), .int .i64 (out : Int)] w fun e w' => e = .returned (.int .i64 ((cntD (upW D us m) k inn : Nat) : Int)) ∧ w = w' := by
  have h24 := p24 m hm
  intro k
  induction k with
  | zero =>
    intro inn out hk hi ho hz
    clear hz
    go_enter Tryd.func85, Tryd.ntmps85
    go_wp2_with fail
    go_ret
    exact ⟨rfl, rfl⟩
  | succ k ih =>
    intro inn out hk hi ho hz
    have U : cntD (upW D us m) (k + 1) inn = (if upW D us m k &&& inn = 0 then cntD (upW D us m) k inn else 0) + cntD (upW D us m) k (inn ||| 2 ^ k) := rfl
    have hkm : k < m := by omega
    have hp2 : (2:Nat) ^ k < 2 ^ 24 := Nat.pow_lt_pow_right (by decide) (by omega)
    have hu := upW_lt D us m k
    have ho2 : out ||| 2 ^ k < 2 ^ 24 := Nat.or_lt_two_pow ho hp2
    have hi2 : inn ||| 2 ^ k < 2 ^ 24 := Nat.or_lt_two_pow hi hp2
    have HI1 := Lib.hid (ih inn (out ||| 2 ^ k) (by omega) hi ho2 (fun j hj => by rw [Nat.testBit_or, hz j (by omega), Nat.testBit_two_pow, decide_eq_false (by omega)]; rfl))
    have HI2 := Lib.hid (ih (inn ||| 2 ^ k) out (by omega) hi2 ho (fun j hj => hz j (by omega)))
    have hv1 : cntD (upW D us m) k inn ≤ 16777216 := Nat.le_trans (cntD_le _ _ _) (Nat.pow_le_pow_right (n := 2) (by decide) (show k ≤ 24 by omega))
    have hv2 : cntD (upW D us m) k (inn ||| 2 ^ k) ≤ 16777216 := Nat.le_trans (cntD_le _ _ _) (Nat.pow_le_pow_right (n := 2) (by decide) (show k ≤ 24 by omega))
    obtain ⟨b, off, y, eA, hbs, hy, hcy⟩ := h.at_ hkm
    rw [ints_getD _ k (by rw [ordM_len]; exact hkm), ordM_at _ _ _ _ hkm] at hy
    injection hy with hy
    have HBE := Lib.hid (l01Below_any A m c k (ordM D us m) w h hm (ordM_lt _ _ _) (by omega))
    rw [ordM_len, col_ord _ _ _ _ hm hkm] at HBE
    have hdn : dnW D us k &&& out = 0 := by
      rw [and_zero_iff]
      intro j hj
      have := lq_le D us j k ((dnW_bit _ _ _ _).1 hj).2
      exact hz j (by omega)
    have hd24 : dnW D us k < 9223372036854775808 := Nat.lt_of_lt_of_le (dnW_lt24 _ _ _) (by decide)
    obtain ⟨N, hN⟩ : ∃ N, N = dnW D us k := ⟨_, rfl⟩
    rw [← hN] at HBE hdn hd24
    have hand2 := i64_and_nat N out hd24 (by omega)
    rw [hdn] at hand2
    obtain ⟨X, hX⟩ : ∃ X, X = upW D us m k := ⟨_, rfl⟩
    rw [← hX] at hy U hu
    have hand1 := i64_and_nat X inn (by omega) (by omega)
    obtain ⟨Y, hY⟩ : ∃ Y, Y = X &&& inn := ⟨_, rfl⟩
    rw [← hY] at hand1 U
    have HON : Hid (∀ ww : World, Calls Tryd.prog 88 #[.int .i64 (k : Int)] ww fun e w' => e = .returned (.int .i64 ((2 ^ k : Nat) : Int)) ∧ ww = w') := Lib.hid fun ww => one_any k (by omega) ww
    obtain ⟨P2, hP2⟩ : ∃ P2, P2 = 2 ^ k := ⟨_, rfl⟩
    rw [← hP2] at HON HI1 HI2 hv2 U hp2
    have hor1 := i64_or_nat out P2 (by omega) (by omega)
    have hor2 := i64_or_nat inn P2 (by omega) (by omega)
    obtain ⟨O2, hO2⟩ : ∃ O2, O2 = out ||| P2 := ⟨_, rfl⟩
    obtain ⟨I2, hI2⟩ : ∃ I2, I2 = inn ||| P2 := ⟨_, rfl⟩
    rw [← hO2] at hor1 HI1
    rw [← hI2] at hor2 HI2 hv2 U
    subst hy eA
    obtain ⟨V1, hV1⟩ : ∃ V1, V1 = cntD (upW D us m) k inn := ⟨_, rfl⟩
    obtain ⟨V2, hV2⟩ : ∃ V2, V2 = cntD (upW D us m) k I2 := ⟨_, rfl⟩
    rw [← hV1] at HI1 hv1 U
    rw [← hV2] at HI2 hv2 U
    rw [U]
    obtain ⟨K, hK⟩ : ∃ K, K = k + 1 := ⟨_, rfl⟩
    have hk1 : (K : Int) - 1 = (k : Int) := by omega
    have hK0 : ((K : Int) == 0) = false := by simp; omega
    rw [← hK]
    have hk0 : (0 : Int) ≤ (k : Int) := by omega
    have hkz : (k : Int) < (m : Int) := by omega
    have hw1 : wrap64 ((K : Int) - 1) = (k : Int) := by unfold wrap64; omega
    clear U hX hO2 hI2 hV1 hV2 ih hz hP2 hN hY hdn hd24 hu hp2 hi2 ho2 hK hi ho hk
    by_cases hY0 : Y = 0
    · have hq : ((Y : Int) == 0) = true := by rw [hY0]; rfl
      rw [if_pos hY0]
      clear hY0
      go_enter Tryd.func85, Tryd.ntmps85
      go_wp2_with fail
      refine (HON.out _).mono ?_
      rintro e w' ⟨rfl, rfl⟩
      go_wp2_with fail
      refine HI1.out.mono ?_
      rintro e w' ⟨rfl, rfl⟩
      go_wp2_with fail
      refine HBE.out.mono ?_
      rintro e w' ⟨rfl, rfl⟩
      go_wp2_with fail
      refine (HON.out _).mono ?_
      rintro e w' ⟨rfl, rfl⟩
      go_wp2_with fail
      refine HI2.out.mono ?_
      rintro e w' ⟨rfl, rfl⟩
      go_wp2_with fail
      go_ret
      exact ⟨ret_i _ _ (by omega), rfl⟩
    · have hq : ((Y : Int) == 0) = false := by simp; omega
      rw [if_neg hY0]
      clear hY0
      go_enter Tryd.func85, Tryd.ntmps85
      go_wp2_with fail
      refine HBE.out.mono ?_
      rintro e w' ⟨rfl, rfl⟩
      go_wp2_with fail
      refine (HON.out _).mono ?_
      rintro e w' ⟨rfl, rfl⟩
      go_wp2_with fail
      refine HI2.out.mono ?_
      rintro e w' ⟨rfl, rfl⟩
      go_wp2_with fail
      go_ret
      exact ⟨ret_i _ _ (by omega), rfl⟩
end Go.Proofs.YtfbdbipopfjjnaaDoor

/-
  The walk of FnExactComposeMorphisms, over contracts of both sides.
-/
import Derived.Test.YtdafdffmkjhhcaaDoorMoC
import Derived.Test.YtdafdffmkjhhcaaDoorAlphB
import Derived.Deep.CutRange
import Derived.Deep.RegionWith
import Derived.Test.YtdafdffmkjhhcaaDoorLsb
import Derived.Deep.RegionHeld3
namespace Go.Proofs.YtdafdffmkjhhcaaDoor
open Go.RowKit
set_option linter.unusedVariables false
set_option maxRecDepth 100000
set_option maxHeartbeats 25600000 in
theorem lawComposeMorphisms (L0 : Int) (A0 : Option Addr) (n0 c0 : Nat) (xs0 : List Int) (L1 : Int) (A1 : Option Addr) (n1 c1 : Nat) (xs1 : List Int) (L2 : Int) (A2 : Option Addr) (n2 c2 : Nat) (xs2 : List Int) (A3 : Option Addr) (n3 c3 : Nat) (ts3 : List (Option Addr × Nat × Nat × List Int)) (xs3 : List (List Int)) (hX3 : ts3.map (fun t => t.2.2.2) = xs3) (A4 : Option Addr) (n4 c4 : Nat) (ts4 : List (Option Addr × Nat × Nat × List Int)) (xs4 : List (List Int)) (hX4 : ts4.map (fun t => t.2.2.2) = xs4) (w : World) (hL01 : -9223372036854775808 ≤ L0) (hL02 : L0 ≤ 9223372036854775807) (h0 : Rd w A0 n0 xs0) (hwf0 : Wf xs0) (hl0 : n0 ≤ maxLen) (hL11 : -9223372036854775808 ≤ L1) (hL12 : L1 ≤ 9223372036854775807) (h1 : Rd w A1 n1 xs1) (hwf1 : Wf xs1) (hl1 : n1 ≤ maxLen) (hL21 : -9223372036854775808 ≤ L2) (hL22 : L2 ≤ 9223372036854775807) (h2 : Rd w A2 n2 xs2) (hwf2 : Wf xs2) (hl2 : n2 ≤ maxLen) (h3 : RdT w A3 n3 ts3) (hwf3 : ∀ t, t ∈ ts3 → Wf t.2.2.2) (hl3 : n3 ≤ maxLen) (h4 : RdT w A4 n4 ts4) (hwf4 : ∀ t, t ∈ ts4 → Wf t.2.2.2) (hl4 : n4 ≤ maxLen) (hT : Tab w) (VN : Nat) (VX : List (List Int)) (C : Int) (SV : Nat) (hVN : VN ≤ 1048576) (hSV : sumL VX = SV) (hVS : SV ≤ 1048576)
    (hspec : ∀ (B0 : Option Addr) (d0 : Nat) (B1 : Option Addr) (d1 : Nat) (B2 : Option Addr) (d2 : Nat) (B3 : Option Addr) (d3 : Nat) (B4 : Option Addr) (d4 : Nat) (w' : World), n0 ≤ 1048576 → Rd w' B0 n0 xs0 → n1 ≤ 1048576 → Rd w' B1 n1 xs1 → n2 ≤ 1048576 → Rd w' B2 n2 xs2 → n3 ≤ 1048576 → RdSS w' B3 n3 xs3 → n4 ≤ 1048576 → RdSS w' B4 n4 xs4 → Calls Tryd.prog 31 #[.agg #[.int .i64 L0, .slice B0 n0 d0], .agg #[.int .i64 L1, .slice B1 n1 d1], .agg #[.int .i64 L2, .slice B2 n2 d2], .slice B3 n3 d3, .slice B4 n4 d4] w' (LssPost w' VN VX C))
    (himpl : ∀ (B0 : Option Addr) (d0 : Nat) (B1 : Option Addr) (d1 : Nat) (B2 : Option Addr) (d2 : Nat) (B3 : Option Addr) (d3 : Nat) (B4 : Option Addr) (d4 : Nat) (w' : World), n0 ≤ 1048576 → Rd w' B0 n0 xs0 → n1 ≤ 1048576 → Rd w' B1 n1 xs1 → n2 ≤ 1048576 → Rd w' B2 n2 xs2 → n3 ≤ 1048576 → RdSS w' B3 n3 xs3 → n4 ≤ 1048576 → RdSS w' B4 n4 xs4 → Tab w' → Calls Tryd.prog 32 #[.agg #[.int .i64 L0, .slice B0 n0 d0], .agg #[.int .i64 L1, .slice B1 n1 d1], .agg #[.int .i64 L2, .slice B2 n2 d2], .slice B3 n3 d3, .slice B4 n4 d4] w' (LssPost w' VN VX C)) :
    Calls Tryd.prog 6 #[.agg #[.int .i64 L0, .slice A0 n0 c0], .agg #[.int .i64 L1, .slice A1 n1 c1], .agg #[.int .i64 L2, .slice A2 n2 c2], .slice A3 n3 c3, .slice A4 n4 c4] w fun e w' => e = .returned (.bool true) ∧ Below w.heap.size w w' := by
  have HSM := Lib.hid (small_of hSV hVS)
  have HSM2 := Lib.hid (small_marks hSV hVS)
  have HSV := Lib.hid hSV
  clear hSV
  have hlm3 := hl3
  have hlm4 := hl4
  unfold maxLen at hl0
  have hm0 : n0 ≤ 9223372036854775807 := by omega
  unfold maxLen at hl1
  have hm1 : n1 ≤ 9223372036854775807 := by omega
  unfold maxLen at hl2
  have hm2 : n2 ≤ 9223372036854775807 := by omega
  unfold maxLen at hl3
  have hm3 : n3 ≤ 9223372036854775807 := by omega
  unfold maxLen at hl4
  have hm4 : n4 ≤ 9223372036854775807 := by omega
  obtain ⟨w0, hw0⟩ : ∃ w0 : World, w0 = (((w.alloc (.cells #[.int .i64 L0, .slice A0 n0 c0] 24)).alloc (.cells #[.int .i64 L1, .slice A1 n1 c1] 24)).alloc (.cells #[.int .i64 L2, .slice A2 n2 c2] 24)) := ⟨_, rfl⟩
  have B_0 := Lib.hid (show Below w.heap.size w w0 by rw [hw0]; exact below3L w _ _ _)
  have S0_ : Hid (w0.heap.size = w.heap.size + 3) := Lib.hid (by rw [hw0]; simp)
  have a0_0 : Box 24 w0 (w.heap.size) L0 A0 n0 c0 := by rw [hw0]; have h9 := box_new 24 w L0 A0 n0 c0; have h8 : Box 24 (w.alloc (.cells #[.int .i64 L0, .slice A0 n0 c0] 24)) (w.heap.size) L0 A0 n0 c0 := (by simpa using h9); exact ((h8.next (below1 _ _)).next (below1 _ _))
  have a1_0 : Box 24 w0 (w.heap.size + 1) L1 A1 n1 c1 := by rw [hw0]; have h9 := box_new 24 (w.alloc (.cells #[.int .i64 L0, .slice A0 n0 c0] 24)) L1 A1 n1 c1; have h8 : Box 24 ((w.alloc (.cells #[.int .i64 L0, .slice A0 n0 c0] 24)).alloc (.cells #[.int .i64 L1, .slice A1 n1 c1] 24)) (w.heap.size + 1) L1 A1 n1 c1 := (by simpa using h9); exact (h8.next (below1 _ _))
  have a2_0 : Box 24 w0 (w.heap.size + 1 + 1) L2 A2 n2 c2 := by rw [hw0]; have h9 := box_new 24 ((w.alloc (.cells #[.int .i64 L0, .slice A0 n0 c0] 24)).alloc (.cells #[.int .i64 L1, .slice A1 n1 c1] 24)) L2 A2 n2 c2; have h8 : Box 24 (((w.alloc (.cells #[.int .i64 L0, .slice A0 n0 c0] 24)).alloc (.cells #[.int .i64 L1, .slice A1 n1 c1] 24)).alloc (.cells #[.int .i64 L2, .slice A2 n2 c2] 24)) (w.heap.size + 1 + 1) L2 A2 n2 c2 := (by simpa using h9); exact h8
  have h0_0 := h0.below B_0.out
  have h1_0 := h1.below B_0.out
  have h2_0 := h2.below B_0.out
  have h3_0 := h3.below B_0.out
  have h4_0 := h4.below B_0.out
  have T_0 := hT.below B_0.out
  by_cases hs0 : n0 ≤ 1048576
  · by_cases hs1 : n1 ≤ 1048576 - n0
    · by_cases hs2 : n2 ≤ (1048576 - n0 - n1)
      · by_cases hs3 : n3 + sumT ts3 ≤ (((1048576 - n0) - n1) - n2)
        · by_cases hs4 : n4 + sumT ts4 ≤ ((((1048576 - n0) - n1) - n2) - (n3 + sumT ts3))
          · have hn0 : n0 ≤ 1048576 := by omega
            have hn1 : n1 ≤ 1048576 := by omega
            have hn2 : n2 ≤ 1048576 := by omega
            have hn3 : n3 ≤ 1048576 := by omega
            have hn4 : n4 ≤ 1048576 := by omega
            have hsl3 : sumL xs3 = sumT ts3 := by rw [← hX3]; exact sumL_sumT h3
            obtain ⟨SX3, hSX3⟩ : ∃ S, S = sumL xs3 := ⟨_, rfl⟩
            have hSXb3 : SX3 ≤ 1048576 := by omega
            have HSV3 := Lib.hid hSX3.symm
            have HSX3 := Lib.hid (ss_small hSX3.symm hSXb3)
            have hts3 : ∀ t, t ∈ ts3 → t.2.1 ≤ 1048576 := fun t ht => by have := sumT_mem ts3 t ht; omega
            have HTO3 := Lib.hid (fun (ww : World) (hw : RdT ww A3 n3 ts3) => toSS_any A3 n3 c3 ts3 ww hw hn3 hts3)
            rw [hX3] at HTO3
            clear hts3 hsl3 hSX3
            have hsl4 : sumL xs4 = sumT ts4 := by rw [← hX4]; exact sumL_sumT h4
            obtain ⟨SX4, hSX4⟩ : ∃ S, S = sumL xs4 := ⟨_, rfl⟩
            have hSXb4 : SX4 ≤ 1048576 := by omega
            have HSV4 := Lib.hid hSX4.symm
            have HSX4 := Lib.hid (ss_small hSX4.symm hSXb4)
            have hts4 : ∀ t, t ∈ ts4 → t.2.1 ≤ 1048576 := fun t ht => by have := sumT_mem ts4 t ht; omega
            have HTO4 := Lib.hid (fun (ww : World) (hw : RdT ww A4 n4 ts4) => toSS_any A4 n4 c4 ts4 ww hw hn4 hts4)
            rw [hX4] at HTO4
            clear hts4 hsl4 hSX4
            clear hX3
            clear hX4
            go_enter Tryd.func6, Tryd.ntmps6
            go_wp2_with fail
            rw [← hw0]
            refine (sz_law L0 A0 n0 c0 _ hs0).mono ?_
            rintro e w1 ⟨rfl, hz0⟩
            have B_1 := Lib.hid (B_0.out.trans (hz0.mono B_0.out.size))
            have S_0 := Lib.hid hz0.size
            have a0_1 := a0_0.next hz0
            have a1_1 := a1_0.next hz0
            have a2_1 := a2_0.next hz0
            have h0_1 := h0_0.below hz0
            have h1_1 := h1_0.below hz0
            have h2_1 := h2_0.below hz0
            have h3_1 := h3_0.below hz0
            have h4_1 := h4_0.below hz0
            have T_1 := T_0.below hz0
            clear a0_0 a1_0 a2_0 h0_0 h1_0 h2_0 h3_0 h4_0 T_0
            have f1 := a0_1.c0
            have f2 := a0_1.c1
            have f3 := a1_1.c0
            have f4 := a1_1.c1
            have f5 := a2_1.c0
            have f6 := a2_1.c1
            go_wp2_with fail
            refine (sz_any L1 A1 n1 c1 (1048576 - n0) _ hs1 (by omega)).mono ?_
            rintro e w2 ⟨rfl, hz1⟩
            clear f1 f2 f3 f4 f5 f6
            have B_2 := Lib.hid (B_1.out.trans (hz1.mono B_1.out.size))
            have S_1 := Lib.hid hz1.size
            have a0_2 := a0_1.next hz1
            have a1_2 := a1_1.next hz1
            have a2_2 := a2_1.next hz1
            have h0_2 := h0_1.below hz1
            have h1_2 := h1_1.below hz1
            have h2_2 := h2_1.below hz1
            have h3_2 := h3_1.below hz1
            have h4_2 := h4_1.below hz1
            have T_2 := T_1.below hz1
            clear a0_1 a1_1 a2_1 h0_1 h1_1 h2_1 h3_1 h4_1 T_1
            have f7 := a0_2.c0
            have f8 := a0_2.c1
            have f9 := a1_2.c0
            have f10 := a1_2.c1
            have f11 := a2_2.c0
            have f12 := a2_2.c1
            go_wp2_with fail
            refine (sz_any L2 A2 n2 c2 ((1048576 - n0 - n1)) _ hs2 (by omega)).mono ?_
            rintro e w3 ⟨rfl, hz2⟩
            clear f7 f8 f9 f10 f11 f12
            have B_3 := Lib.hid (B_2.out.trans (hz2.mono B_2.out.size))
            have S_2 := Lib.hid hz2.size
            have a0_3 := a0_2.next hz2
            have a1_3 := a1_2.next hz2
            have a2_3 := a2_2.next hz2
            have h0_3 := h0_2.below hz2
            have h1_3 := h1_2.below hz2
            have h2_3 := h2_2.below hz2
            have h3_3 := h3_2.below hz2
            have h4_3 := h4_2.below hz2
            have T_3 := T_2.below hz2
            clear a0_2 a1_2 a2_2 h0_2 h1_2 h2_2 h3_2 h4_2 T_2
            have HSZ3 := Lib.hid (szSS_any A3 n3 c3 ((((1048576 - n0) - n1) - n2)) ts3 _ h3_3 (by omega) hlm3)
            rw [if_pos hs3] at HSZ3
            have f13 := a0_3.c0
            have f14 := a0_3.c1
            have f15 := a1_3.c0
            have f16 := a1_3.c1
            have f17 := a2_3.c0
            have f18 := a2_3.c1
            go_wp2_with fail
            refine HSZ3.out.mono ?_
            rintro e w' ⟨rfl, rfl⟩
            clear f13 f14 f15 f16 f17 f18
            clear HSZ3
            have HSZ4 := Lib.hid (szSS_any A4 n4 c4 (((((1048576 - n0) - n1) - n2) - (n3 + sumT ts3))) ts4 _ h4_3 (by omega) hlm4)
            rw [if_pos hs4] at HSZ4
            have f19 := a0_3.c0
            have f20 := a0_3.c1
            have f21 := a1_3.c0
            have f22 := a1_3.c1
            have f23 := a2_3.c0
            have f24 := a2_3.c1
            go_wp2_with fail
            refine HSZ4.out.mono ?_
            rintro e w' ⟨rfl, rfl⟩
            clear f19 f20 f21 f22 f23 f24
            clear HSZ4
            have hcur : Below w3.heap.size w3 w3.drew := (Below.refl _ _).drew
            have HS9 : Hid (∀ w', Below w3.heap.size w3 w' → w'.cell? ⟨w.heap.size, 0, none⟩ = some (.int .i64 L0) ∧ w'.cell? ⟨w.heap.size, 1, none⟩ = some (.slice A0 n0 c0) ∧ w'.cell? ⟨w.heap.size + 1, 0, none⟩ = some (.int .i64 L1) ∧ w'.cell? ⟨w.heap.size + 1, 1, none⟩ = some (.slice A1 n1 c1) ∧ w'.cell? ⟨w.heap.size + 1 + 1, 0, none⟩ = some (.int .i64 L2) ∧ w'.cell? ⟨w.heap.size + 1 + 1, 1, none⟩ = some (.slice A2 n2 c2)) := Lib.hid (fun w' hw => ⟨(a0_3.next hw).c0, (a0_3.next hw).c1, (a1_3.next hw).c0, (a1_3.next hw).c1, (a2_3.next hw).c0, (a2_3.next hw).c1⟩)
            have hcd := HS9.out _ hcur
            have Z0 := Lib.hid (fun (ww : World) (hw : Below w3.heap.size w3 ww) => toAl_any L0 A0 n0 c0 xs0 ww (h0_3.below hw) hn0)
            have Z1 := Lib.hid (fun (ww : World) (hw : Below w3.heap.size w3 ww) => toAl_any L1 A1 n1 c1 xs1 ww (h1_3.below hw) hn1)
            have Z2 := Lib.hid (fun (ww : World) (hw : Below w3.heap.size w3 ww) => toAl_any L2 A2 n2 c2 xs2 ww (h2_3.below hw) hn2)
            have Z3 := Lib.hid (fun (ww : World) (hw : Below w3.heap.size w3 ww) => HTO3.out ww (h3_3.below hw))
            have Z4 := Lib.hid (fun (ww : World) (hw : Below w3.heap.size w3 ww) => HTO4.out ww (h4_3.below hw))
            go_upto_region 17 with fail
            go_cut [12, 13] from 51 to 64 (fun v u wx => ∃ (oA : Option Addr) (oc : Nat), v = .slice oA VN oc ∧ u = .int .i64 C ∧ OwnSS wx w3.heap.size wx.heap.size oA VN oc VX ∧ Below w3.heap.size w3 wx)
            case first =>
              go_region_held3 (fun w' => w'.cell? ⟨w.heap.size, 0, none⟩ = some (.int .i64 L0) ∧ w'.cell? ⟨w.heap.size, 1, none⟩ = some (.slice A0 n0 c0) ∧ w'.cell? ⟨w.heap.size + 1, 0, none⟩ = some (.int .i64 L1) ∧ w'.cell? ⟨w.heap.size + 1, 1, none⟩ = some (.slice A1 n1 c1) ∧ w'.cell? ⟨w.heap.size + 1 + 1, 0, none⟩ = some (.int .i64 L2) ∧ w'.cell? ⟨w.heap.size + 1 + 1, 1, none⟩ = some (.slice A2 n2 c2)) (first | exact hcd | exact HS9.out _ hcur | go_keep) (first | (go_at_call 16; first | ((with_reducible refine (Z0.out _ hcur).mono ?_); rintro e wz0 ⟨g0, k0, rfl, -, oc0, hb0⟩; have hcz := hcur.size; have hcur := hcur.trans (hb0.mono hcz)) | ((with_reducible refine (Z1.out _ hcur).mono ?_); rintro e wz1 ⟨g1, k1, rfl, -, oc1, hb1⟩; have oc0 := oc0.below hb1; have hcz := hcur.size; have hcur := hcur.trans (hb1.mono hcz)) | ((with_reducible refine (Z2.out _ hcur).mono ?_); rintro e wz2 ⟨g2, k2, rfl, -, oc2, hb2⟩; have oc0 := oc0.below hb2; have oc1 := oc1.below hb2; have hcz := hcur.size; have hcur := hcur.trans (hb2.mono hcz))) | (go_at_call 17; first | ((with_reducible refine (Z3.out _ hcur).mono ?_); rintro e wz3 ⟨p3, k3, rfl, oc3, hb3⟩; have oc0 := oc0.below hb3; have oc1 := oc1.below hb3; have oc2 := oc2.below hb3; have hcz := hcur.size; have hcur := hcur.trans (hb3.mono hcz)) | ((with_reducible refine (Z4.out _ hcur).mono ?_); rintro e wz4 ⟨p4, k4, rfl, oc4, hb4⟩; have oc0 := oc0.below hb4; have oc1 := oc1.below hb4; have oc2 := oc2.below hb4; have oc3 := oc3.below hb4; have hcz := hcur.size; have hcur := hcur.trans (hb4.mono hcz))) | (go_at_call 31; refine (hspec _ _ _ _ _ _ _ _ _ _ _ hn0 oc0.rd hn1 oc1.rd hn2 oc2.rd hn3 (oc3.rd HSX3.out) hn4 (oc4.rd HSX4.out)).mono ?_; rintro e wF ⟨oA, occ, rfl, oho, hbF⟩; have hcz := hcur.size; have own3 := oho.wide hcz (Nat.le_refl _); have hcur := hcur.trans (hbF.mono hcz)))
              all_goals (
                go_wp2_with fail
                go_meet
                exact ⟨oA, occ, rfl, rfl, own3, hcur⟩)
            case rest =>
              obtain ⟨oA, oc, rfl, rfl, oho, ohb⟩ := hcut
              obtain ⟨w4, rfl⟩ : ∃ w9 : World, w9 = wc := ⟨_, rfl⟩
              clear hcur HS9 hcd Z0 Z1 Z2 Z3 Z4
              obtain ⟨olo, oe1⟩ : ∃ q : Nat, q = w3.heap.size := ⟨_, rfl⟩
              obtain ⟨ohi, oe2⟩ : ∃ q : Nat, q = w4.heap.size := ⟨_, rfl⟩
              have oh2 : OwnSS w4 olo ohi oA VN oc VX := by rw [oe1, oe2]; exact oho
              have LTo : Hid (w3.heap.size ≤ olo ∧ ohi = w4.heap.size) := Lib.hid ⟨by rw [oe1]; exact Nat.le_refl _, oe2⟩
              clear oho oe1 oe2
              have B_4 := Lib.hid (B_3.out.trans (ohb.mono B_3.out.size))
              have S_3 := Lib.hid ohb.size
              have a0_4 := a0_3.next ohb
              have a1_4 := a1_3.next ohb
              have a2_4 := a2_3.next ohb
              have h0_4 := h0_3.below ohb
              have h1_4 := h1_3.below ohb
              have h2_4 := h2_3.below ohb
              have h3_4 := h3_3.below ohb
              have h4_4 := h4_3.below ohb
              have T_4 := T_3.below ohb
              clear a0_3 a1_3 a2_3 h0_3 h1_3 h2_3 h3_3 h4_3 T_3
              have o_4 := oh2
              have f25 := a0_4.c0
              have f26 := a0_4.c1
              have f27 := a1_4.c0
              have f28 := a1_4.c1
              have f29 := a2_4.c0
              have f30 := a2_4.c1
              go_wp2_with fail
              refine (toAl_any L0 _ n0 _ xs0 _ h0_4 hn0).mono ?_
              rintro e w5 ⟨x0g, x0c, rfl, x0hg, x0ho, x0hb⟩
              clear f25 f26 f27 f28 f29 f30
              obtain ⟨x0A, x0e⟩ : ∃ x0A : Option Addr, x0A = (some ⟨x0g, 0, none⟩) := ⟨_, rfl⟩
              rw [← x0e] at x0ho ⊢
              clear x0e
              have LTx0 : Hid (∀ k, (x0A : Option Addr).map (·.block) = some k → w4.heap.size ≤ k ∧ k < w5.heap.size) := Lib.hid (fun k hk => x0ho.lt k hk)
              have B_5 := Lib.hid (B_4.out.trans (x0hb.mono B_4.out.size))
              have S_4 := Lib.hid x0hb.size
              have a0_5 := a0_4.next x0hb
              have a1_5 := a1_4.next x0hb
              have a2_5 := a2_4.next x0hb
              have h0_5 := h0_4.below x0hb
              have h1_5 := h1_4.below x0hb
              have h2_5 := h2_4.below x0hb
              have h3_5 := h3_4.below x0hb
              have h4_5 := h4_4.below x0hb
              have T_5 := T_4.below x0hb
              have o_5 := o_4.below x0hb
              clear a0_4 a1_4 a2_4 h0_4 h1_4 h2_4 h3_4 h4_4 T_4 o_4
              have x0_5 := x0ho
              have kp_5 := below1 w5 (.cells #[.int .i64 L0, .slice x0A n0 x0c] 29)
              have f31 := a0_5.c0
              have f32 := a0_5.c1
              have f33 := (a0_5.next kp_5).c0
              have f34 := (a0_5.next kp_5).c1
              have f35 := a1_5.c0
              have f36 := a1_5.c1
              have f37 := (a1_5.next kp_5).c0
              have f38 := (a1_5.next kp_5).c1
              have f39 := a2_5.c0
              have f40 := a2_5.c1
              have f41 := (a2_5.next kp_5).c0
              have f42 := (a2_5.next kp_5).c1
              go_wp2_with fail
              refine (toAl_any L1 _ n1 _ xs1 _ (h1_5.below kp_5) hn1).mono ?_
              rintro e w6 ⟨x1g, x1c, rfl, x1hg, x1ho, x1hb⟩
              clear f31 f32 f33 f34 f35 f36 f37 f38 f39 f40 f41 f42
              obtain ⟨x1A, x1e⟩ : ∃ x1A : Option Addr, x1A = (some ⟨x1g, 0, none⟩) := ⟨_, rfl⟩
              rw [← x1e] at x1ho ⊢
              clear x1e
              have LTx1 : Hid (∀ k, (x1A : Option Addr).map (·.block) = some k → w5.heap.size + 1 ≤ k ∧ k < w6.heap.size) := Lib.hid (fun k hk => by have h9 := x1ho.lt k hk; have e9 : (w5.alloc (.cells #[.int .i64 L0, .slice x0A n0 x0c] 29)).heap.size = w5.heap.size + 1 := (by simp); omega)
              have hbb_5 := kp_5.trans (x1hb.mono kp_5.size)
              have B_6 := Lib.hid (B_5.out.trans (hbb_5.mono B_5.out.size))
              have S_5 : Hid (w5.heap.size + 1 ≤ w6.heap.size) := Lib.hid (by have h9 := x1hb.size; have e9 : (w5.alloc (.cells #[.int .i64 L0, .slice x0A n0 x0c] 29)).heap.size = w5.heap.size + 1 := (by simp); omega)
              have a0_6 := a0_5.next hbb_5
              have a1_6 := a1_5.next hbb_5
              have a2_6 := a2_5.next hbb_5
              have h0_6 := h0_5.below hbb_5
              have h1_6 := h1_5.below hbb_5
              have h2_6 := h2_5.below hbb_5
              have h3_6 := h3_5.below hbb_5
              have h4_6 := h4_5.below hbb_5
              have T_6 := T_5.below hbb_5
              have o_6 := o_5.below hbb_5
              have x0_6 := x0_5.below hbb_5
              have x0x_6 := (box_new 29 w5 L0 x0A n0 x0c).next x1hb
              clear a0_5 a1_5 a2_5 h0_5 h1_5 h2_5 h3_5 h4_5 T_5 o_5 x0_5
              have x1_6 := x1ho.mono kp_5.size
              have kp_6 := below1 w6 (.cells #[.int .i64 L1, .slice x1A n1 x1c] 29)
              have f43 := a0_6.c0
              have f44 := a0_6.c1
              have f45 := (a0_6.next kp_6).c0
              have f46 := (a0_6.next kp_6).c1
              have f47 := a1_6.c0
              have f48 := a1_6.c1
              have f49 := (a1_6.next kp_6).c0
              have f50 := (a1_6.next kp_6).c1
              have f51 := a2_6.c0
              have f52 := a2_6.c1
              have f53 := (a2_6.next kp_6).c0
              have f54 := (a2_6.next kp_6).c1
              have f55 := x0x_6.c0
              have f56 := x0x_6.c1
              have f57 := (x0x_6.next kp_6).c0
              have f58 := (x0x_6.next kp_6).c1
              go_wp2_with fail
              refine (toAl_any L2 _ n2 _ xs2 _ (h2_6.below kp_6) hn2).mono ?_
              rintro e w7 ⟨x2g, x2c, rfl, x2hg, x2ho, x2hb⟩
              clear f43 f44 f45 f46 f47 f48 f49 f50 f51 f52 f53 f54 f55 f56 f57 f58
              obtain ⟨x2A, x2e⟩ : ∃ x2A : Option Addr, x2A = (some ⟨x2g, 0, none⟩) := ⟨_, rfl⟩
              rw [← x2e] at x2ho ⊢
              clear x2e
              have LTx2 : Hid (∀ k, (x2A : Option Addr).map (·.block) = some k → w6.heap.size + 1 ≤ k ∧ k < w7.heap.size) := Lib.hid (fun k hk => by have h9 := x2ho.lt k hk; have e9 : (w6.alloc (.cells #[.int .i64 L1, .slice x1A n1 x1c] 29)).heap.size = w6.heap.size + 1 := (by simp); omega)
              have hbb_6 := kp_6.trans (x2hb.mono kp_6.size)
              have B_7 := Lib.hid (B_6.out.trans (hbb_6.mono B_6.out.size))
              have S_6 : Hid (w6.heap.size + 1 ≤ w7.heap.size) := Lib.hid (by have h9 := x2hb.size; have e9 : (w6.alloc (.cells #[.int .i64 L1, .slice x1A n1 x1c] 29)).heap.size = w6.heap.size + 1 := (by simp); omega)
              have a0_7 := a0_6.next hbb_6
              have a1_7 := a1_6.next hbb_6
              have a2_7 := a2_6.next hbb_6
              have h0_7 := h0_6.below hbb_6
              have h1_7 := h1_6.below hbb_6
              have h2_7 := h2_6.below hbb_6
              have h3_7 := h3_6.below hbb_6
              have h4_7 := h4_6.below hbb_6
              have T_7 := T_6.below hbb_6
              have o_7 := o_6.below hbb_6
              have x0_7 := x0_6.below hbb_6
              have x0x_7 := x0x_6.next hbb_6
              have x1_7 := x1_6.below hbb_6
              have x1x_7 := (box_new 29 w6 L1 x1A n1 x1c).next x2hb
              clear a0_6 a1_6 a2_6 h0_6 h1_6 h2_6 h3_6 h4_6 T_6 o_6 x0_6 x0x_6 x1_6
              have x2_7 := x2ho.mono kp_6.size
              have kp_7 := below1 w7 (.cells #[.int .i64 L2, .slice x2A n2 x2c] 29)
              have f59 := a0_7.c0
              have f60 := a0_7.c1
              have f61 := (a0_7.next kp_7).c0
              have f62 := (a0_7.next kp_7).c1
              have f63 := a1_7.c0
              have f64 := a1_7.c1
              have f65 := (a1_7.next kp_7).c0
              have f66 := (a1_7.next kp_7).c1
              have f67 := a2_7.c0
              have f68 := a2_7.c1
              have f69 := (a2_7.next kp_7).c0
              have f70 := (a2_7.next kp_7).c1
              have f71 := x0x_7.c0
              have f72 := x0x_7.c1
              have f73 := (x0x_7.next kp_7).c0
              have f74 := (x0x_7.next kp_7).c1
              have f75 := x1x_7.c0
              have f76 := x1x_7.c1
              have f77 := (x1x_7.next kp_7).c0
              have f78 := (x1x_7.next kp_7).c1
              go_wp2_with fail
              refine (HTO3.out _ (h3_7.below kp_7)).mono ?_
              rintro e w8 ⟨x3A, x3c, rfl, x3ho, x3hb⟩
              clear f59 f60 f61 f62 f63 f64 f65 f66 f67 f68 f69 f70 f71 f72 f73 f74 f75 f76 f77 f78
              obtain ⟨x3lo, x3e1⟩ : ∃ q : Nat, q = (w7.alloc (.cells #[.int .i64 L2, .slice x2A n2 x2c] 29)).heap.size := ⟨_, rfl⟩
              obtain ⟨x3hi, x3e2⟩ : ∃ q : Nat, q = w8.heap.size := ⟨_, rfl⟩
              have x3h2 : OwnSS w8 x3lo x3hi x3A n3 x3c xs3 := by rw [x3e1, x3e2]; exact x3ho
              have LTx3 : Hid (w7.heap.size + 1 ≤ x3lo ∧ x3hi = w8.heap.size) := Lib.hid ⟨by rw [x3e1]; simp, x3e2⟩
              clear x3ho x3e1 x3e2
              have hbb_7 := kp_7.trans (x3hb.mono kp_7.size)
              have B_8 := Lib.hid (B_7.out.trans (hbb_7.mono B_7.out.size))
              have S_7 : Hid (w7.heap.size + 1 ≤ w8.heap.size) := Lib.hid (by have h9 := x3hb.size; have e9 : (w7.alloc (.cells #[.int .i64 L2, .slice x2A n2 x2c] 29)).heap.size = w7.heap.size + 1 := (by simp); omega)
              have a0_8 := a0_7.next hbb_7
              have a1_8 := a1_7.next hbb_7
              have a2_8 := a2_7.next hbb_7
              have h0_8 := h0_7.below hbb_7
              have h1_8 := h1_7.below hbb_7
              have h2_8 := h2_7.below hbb_7
              have h3_8 := h3_7.below hbb_7
              have h4_8 := h4_7.below hbb_7
              have T_8 := T_7.below hbb_7
              have o_8 := o_7.below hbb_7
              have x0_8 := x0_7.below hbb_7
              have x0x_8 := x0x_7.next hbb_7
              have x1_8 := x1_7.below hbb_7
              have x1x_8 := x1x_7.next hbb_7
              have x2_8 := x2_7.below hbb_7
              have x2x_8 := (box_new 29 w7 L2 x2A n2 x2c).next x3hb
              clear a0_7 a1_7 a2_7 h0_7 h1_7 h2_7 h3_7 h4_7 T_7 o_7 x0_7 x0x_7 x1_7 x1x_7 x2_7
              have x3_8 := x3h2
              have f79 := a0_8.c0
              have f80 := a0_8.c1
              have f81 := a1_8.c0
              have f82 := a1_8.c1
              have f83 := a2_8.c0
              have f84 := a2_8.c1
              have f85 := x0x_8.c0
              have f86 := x0x_8.c1
              have f87 := x1x_8.c0
              have f88 := x1x_8.c1
              have f89 := x2x_8.c0
              have f90 := x2x_8.c1
              go_wp2_with fail
              refine (HTO4.out _ h4_8).mono ?_
              rintro e w9 ⟨x4A, x4c, rfl, x4ho, x4hb⟩
              clear f79 f80 f81 f82 f83 f84 f85 f86 f87 f88 f89 f90
              obtain ⟨x4lo, x4e1⟩ : ∃ q : Nat, q = w8.heap.size := ⟨_, rfl⟩
              obtain ⟨x4hi, x4e2⟩ : ∃ q : Nat, q = w9.heap.size := ⟨_, rfl⟩
              have x4h2 : OwnSS w9 x4lo x4hi x4A n4 x4c xs4 := by rw [x4e1, x4e2]; exact x4ho
              have LTx4 : Hid (w8.heap.size ≤ x4lo ∧ x4hi = w9.heap.size) := Lib.hid ⟨by rw [x4e1]; exact Nat.le_refl _, x4e2⟩
              clear x4ho x4e1 x4e2
              have B_9 := Lib.hid (B_8.out.trans (x4hb.mono B_8.out.size))
              have S_8 := Lib.hid x4hb.size
              have a0_9 := a0_8.next x4hb
              have a1_9 := a1_8.next x4hb
              have a2_9 := a2_8.next x4hb
              have h0_9 := h0_8.below x4hb
              have h1_9 := h1_8.below x4hb
              have h2_9 := h2_8.below x4hb
              have h3_9 := h3_8.below x4hb
              have h4_9 := h4_8.below x4hb
              have T_9 := T_8.below x4hb
              have o_9 := o_8.below x4hb
              have x0_9 := x0_8.below x4hb
              have x0x_9 := x0x_8.next x4hb
              have x1_9 := x1_8.below x4hb
              have x1x_9 := x1x_8.next x4hb
              have x2_9 := x2_8.below x4hb
              have x2x_9 := x2x_8.next x4hb
              have x3_9 := x3_8.below x4hb
              clear a0_8 a1_8 a2_8 h0_8 h1_8 h2_8 h3_8 h4_8 T_8 o_8 x0_8 x0x_8 x1_8 x1x_8 x2_8 x2x_8 x3_8
              have x4_9 := x4h2
              have f91 := a0_9.c0
              have f92 := a0_9.c1
              have f93 := a1_9.c0
              have f94 := a1_9.c1
              have f95 := a2_9.c0
              have f96 := a2_9.c1
              have f97 := x0x_9.c0
              have f98 := x0x_9.c1
              have f99 := x1x_9.c0
              have f100 := x1x_9.c1
              have f101 := x2x_9.c0
              have f102 := x2x_9.c1
              go_wp2_with fail
              refine (himpl _ _ _ _ _ _ _ _ _ _ _ hn0 x0_9.rd hn1 x1_9.rd hn2 x2_9.rd hn3 (x3_9.rd HSX3.out) hn4 (x4_9.rd HSX4.out) T_9).mono ?_
              rintro e w10 ⟨gA, gc, rfl, gho, ghb⟩
              clear f91 f92 f93 f94 f95 f96 f97 f98 f99 f100 f101 f102
              obtain ⟨glo, ge1⟩ : ∃ q : Nat, q = w9.heap.size := ⟨_, rfl⟩
              obtain ⟨ghi, ge2⟩ : ∃ q : Nat, q = w10.heap.size := ⟨_, rfl⟩
              have gh2 : OwnSS w10 glo ghi gA VN gc VX := by rw [ge1, ge2]; exact gho
              have LTg : Hid (w9.heap.size ≤ glo ∧ ghi = w10.heap.size) := Lib.hid ⟨by rw [ge1]; exact Nat.le_refl _, ge2⟩
              clear gho ge1 ge2
              have B_10 := Lib.hid (B_9.out.trans (ghb.mono B_9.out.size))
              have S_9 := Lib.hid ghb.size
              have a0_10 := a0_9.next ghb
              have a1_10 := a1_9.next ghb
              have a2_10 := a2_9.next ghb
              have h0_10 := h0_9.below ghb
              have h1_10 := h1_9.below ghb
              have h2_10 := h2_9.below ghb
              have h3_10 := h3_9.below ghb
              have h4_10 := h4_9.below ghb
              have T_10 := T_9.below ghb
              have o_10 := o_9.below ghb
              have x0_10 := x0_9.below ghb
              have x0x_10 := x0x_9.next ghb
              have x1_10 := x1_9.below ghb
              have x1x_10 := x1x_9.next ghb
              have x2_10 := x2_9.below ghb
              have x2x_10 := x2x_9.next ghb
              have x3_10 := x3_9.below ghb
              have x4_10 := x4_9.below ghb
              clear a0_9 a1_9 a2_9 h0_9 h1_9 h2_9 h3_9 h4_9 T_9 o_9 x0_9 x0x_9 x1_9 x1x_9 x2_9 x2x_9 x3_9 x4_9
              have g_10 := gh2
              have f104 := a0_10.c0
              have f105 := a0_10.c1
              have f106 := a1_10.c0
              have f107 := a1_10.c1
              have f108 := a2_10.c0
              have f109 := a2_10.c1
              have f110 := x0x_10.c0
              have f111 := x0x_10.c1
              have f112 := x1x_10.c0
              have f113 := x1x_10.c1
              have f114 := x2x_10.c0
              have f115 := x2x_10.c1
              go_wp2_with fail
              refine (eqSS_true _ _ _ _ _ VX _ (g_10.rd HSM.out) (o_10.rd HSM.out) (by omega)).mono ?_
              rintro e w11 ⟨rfl, hb103⟩
              clear f104 f105 f106 f107 f108 f109 f110 f111 f112 f113 f114 f115
              have B_11 := Lib.hid (B_10.out.trans (hb103.mono B_10.out.size))
              have S_10 := Lib.hid hb103.size
              have a0_11 := a0_10.next hb103
              have a1_11 := a1_10.next hb103
              have a2_11 := a2_10.next hb103
              have h0_11 := h0_10.below hb103
              have h1_11 := h1_10.below hb103
              have h2_11 := h2_10.below hb103
              have h3_11 := h3_10.below hb103
              have h4_11 := h4_10.below hb103
              have T_11 := T_10.below hb103
              have o_11 := o_10.below hb103
              have x0_11 := x0_10.below hb103
              have x0x_11 := x0x_10.next hb103
              have x1_11 := x1_10.below hb103
              have x1x_11 := x1x_10.next hb103
              have x2_11 := x2_10.below hb103
              have x2x_11 := x2x_10.next hb103
              have x3_11 := x3_10.below hb103
              have x4_11 := x4_10.below hb103
              have g_11 := g_10.below hb103
              clear a0_10 a1_10 a2_10 h0_10 h1_10 h2_10 h3_10 h4_10 T_10 o_10 x0_10 x0x_10 x1_10 x1x_10 x2_10 x2x_10 x3_10 x4_10 g_10
              have f116 := a0_11.c0
              have f117 := a0_11.c1
              have f118 := a1_11.c0
              have f119 := a1_11.c1
              have f120 := a2_11.c0
              have f121 := a2_11.c1
              have f122 := x0x_11.c0
              have f123 := x0x_11.c1
              have f124 := x1x_11.c0
              have f125 := x1x_11.c1
              have f126 := x2x_11.c0
              have f127 := x2x_11.c1
              go_upto_region 26 with fail
              go_cut [97] from 93 to 97 (fun v wx => v = .bool false ∧ Below w11.heap.size w11 wx)
              case first =>
                have Z0 : ∀ (ww : World), Below w11.heap.size w11 ww → Calls Tryd.prog 16 #[.agg #[.int .i64 L0, .slice A0 n0 c0]] ww fun e w' => ∃ g c', e = .returned (.agg #[.int .i64 L0, .slice (some ⟨g, 0, none⟩) n0 c']) ∧ Own 2 w' ww.heap.size (some ⟨g, 0, none⟩) n0 c' xs0 ∧ Below ww.heap.size ww w' := fun ww hww => (toAl_any L0 _ n0 _ xs0 _ (h0_11.below hww) hn0).mono fun e w' ⟨g, c', he, _, ho, hb⟩ => ⟨g, c', he, ho, hb⟩
                have hdr : Below w11.heap.size w11 w11.drew := (Below.refl _ _).drew
                have rc0 := (x0x_11.next hdr).c0
                have tc0 := (a0_11.next hdr).c0
                have rc1 := (x0x_11.next hdr).c1
                have tc1 := (a0_11.next hdr).c1
                go_region_with (first | (go_at_call 16; refine (Z0 _ hdr).mono ?_; rintro e wz ⟨gz, cz, rfl, hoz, hbz⟩; have hbz2 := hdr.trans (hbz.mono hdr.size); have q0 := (x0x_11.next hbz2).c0; have q1 := (x0x_11.next hbz2).c1) | (go_at_call 19; refine (eqAl_true L0 _ _ _ _ _ xs0 _ (x0_11.below hbz2).rd hoz.rd hm0).mono ?_; rintro e wy ⟨rfl, hby⟩; have hby2 := hbz2.trans (hby.mono hbz2.size)))
                all_goals (go_wp2_with fail; go_meet; exact ⟨rfl, hby2⟩)
              case rest =>
                obtain ⟨rfl, hcb⟩ := hcut
                obtain ⟨w12, rfl⟩ : ∃ w9 : World, w9 = wc := ⟨_, rfl⟩
                clear f116 f117 f118 f119 f120 f121 f122 f123 f124 f125 f126 f127
                have B_12 := Lib.hid (B_11.out.trans (hcb.mono B_11.out.size))
                have S_11 := Lib.hid hcb.size
                have a0_12 := a0_11.next hcb
                have a1_12 := a1_11.next hcb
                have a2_12 := a2_11.next hcb
                have h0_12 := h0_11.below hcb
                have h1_12 := h1_11.below hcb
                have h2_12 := h2_11.below hcb
                have h3_12 := h3_11.below hcb
                have h4_12 := h4_11.below hcb
                have T_12 := T_11.below hcb
                have o_12 := o_11.below hcb
                have x0_12 := x0_11.below hcb
                have x0x_12 := x0x_11.next hcb
                have x1_12 := x1_11.below hcb
                have x1x_12 := x1x_11.next hcb
                have x2_12 := x2_11.below hcb
                have x2x_12 := x2x_11.next hcb
                have x3_12 := x3_11.below hcb
                have x4_12 := x4_11.below hcb
                have g_12 := g_11.below hcb
                clear a0_11 a1_11 a2_11 h0_11 h1_11 h2_11 h3_11 h4_11 T_11 o_11 x0_11 x0x_11 x1_11 x1x_11 x2_11 x2x_11 x3_11 x4_11 g_11
                have f128 := a0_12.c0
                have f129 := a0_12.c1
                have f130 := a1_12.c0
                have f131 := a1_12.c1
                have f132 := a2_12.c0
                have f133 := a2_12.c1
                have f134 := x0x_12.c0
                have f135 := x0x_12.c1
                have f136 := x1x_12.c0
                have f137 := x1x_12.c1
                have f138 := x2x_12.c0
                have f139 := x2x_12.c1
                go_upto_region 28 with fail
                go_cut [102] from 98 to 102 (fun v wx => v = .bool false ∧ Below w12.heap.size w12 wx)
                case first =>
                  have Z1 : ∀ (ww : World), Below w12.heap.size w12 ww → Calls Tryd.prog 16 #[.agg #[.int .i64 L1, .slice A1 n1 c1]] ww fun e w' => ∃ g c', e = .returned (.agg #[.int .i64 L1, .slice (some ⟨g, 0, none⟩) n1 c']) ∧ Own 2 w' ww.heap.size (some ⟨g, 0, none⟩) n1 c' xs1 ∧ Below ww.heap.size ww w' := fun ww hww => (toAl_any L1 _ n1 _ xs1 _ (h1_12.below hww) hn1).mono fun e w' ⟨g, c', he, _, ho, hb⟩ => ⟨g, c', he, ho, hb⟩
                  have hdr : Below w12.heap.size w12 w12.drew := (Below.refl _ _).drew
                  have rc0 := (x1x_12.next hdr).c0
                  have tc0 := (a1_12.next hdr).c0
                  have rc1 := (x1x_12.next hdr).c1
                  have tc1 := (a1_12.next hdr).c1
                  go_region_with (first | (go_at_call 16; refine (Z1 _ hdr).mono ?_; rintro e wz ⟨gz, cz, rfl, hoz, hbz⟩; have hbz2 := hdr.trans (hbz.mono hdr.size); have q0 := (x1x_12.next hbz2).c0; have q1 := (x1x_12.next hbz2).c1) | (go_at_call 19; refine (eqAl_true L1 _ _ _ _ _ xs1 _ (x1_12.below hbz2).rd hoz.rd hm1).mono ?_; rintro e wy ⟨rfl, hby⟩; have hby2 := hbz2.trans (hby.mono hbz2.size)))
                  all_goals (go_wp2_with fail; go_meet; exact ⟨rfl, hby2⟩)
                case rest =>
                  obtain ⟨rfl, hcb⟩ := hcut
                  obtain ⟨w13, rfl⟩ : ∃ w9 : World, w9 = wc := ⟨_, rfl⟩
                  clear f128 f129 f130 f131 f132 f133 f134 f135 f136 f137 f138 f139
                  have B_13 := Lib.hid (B_12.out.trans (hcb.mono B_12.out.size))
                  have S_12 := Lib.hid hcb.size
                  have a0_13 := a0_12.next hcb
                  have a1_13 := a1_12.next hcb
                  have a2_13 := a2_12.next hcb
                  have h0_13 := h0_12.below hcb
                  have h1_13 := h1_12.below hcb
                  have h2_13 := h2_12.below hcb
                  have h3_13 := h3_12.below hcb
                  have h4_13 := h4_12.below hcb
                  have T_13 := T_12.below hcb
                  have o_13 := o_12.below hcb
                  have x0_13 := x0_12.below hcb
                  have x0x_13 := x0x_12.next hcb
                  have x1_13 := x1_12.below hcb
                  have x1x_13 := x1x_12.next hcb
                  have x2_13 := x2_12.below hcb
                  have x2x_13 := x2x_12.next hcb
                  have x3_13 := x3_12.below hcb
                  have x4_13 := x4_12.below hcb
                  have g_13 := g_12.below hcb
                  clear a0_12 a1_12 a2_12 h0_12 h1_12 h2_12 h3_12 h4_12 T_12 o_12 x0_12 x0x_12 x1_12 x1x_12 x2_12 x2x_12 x3_12 x4_12 g_12
                  have f140 := a0_13.c0
                  have f141 := a0_13.c1
                  have f142 := a1_13.c0
                  have f143 := a1_13.c1
                  have f144 := a2_13.c0
                  have f145 := a2_13.c1
                  have f146 := x0x_13.c0
                  have f147 := x0x_13.c1
                  have f148 := x1x_13.c0
                  have f149 := x1x_13.c1
                  have f150 := x2x_13.c0
                  have f151 := x2x_13.c1
                  go_upto_region 30 with fail
                  go_cut [107] from 103 to 107 (fun v wx => v = .bool false ∧ Below w13.heap.size w13 wx)
                  case first =>
                    have Z2 : ∀ (ww : World), Below w13.heap.size w13 ww → Calls Tryd.prog 16 #[.agg #[.int .i64 L2, .slice A2 n2 c2]] ww fun e w' => ∃ g c', e = .returned (.agg #[.int .i64 L2, .slice (some ⟨g, 0, none⟩) n2 c']) ∧ Own 2 w' ww.heap.size (some ⟨g, 0, none⟩) n2 c' xs2 ∧ Below ww.heap.size ww w' := fun ww hww => (toAl_any L2 _ n2 _ xs2 _ (h2_13.below hww) hn2).mono fun e w' ⟨g, c', he, _, ho, hb⟩ => ⟨g, c', he, ho, hb⟩
                    have hdr : Below w13.heap.size w13 w13.drew := (Below.refl _ _).drew
                    have rc0 := (x2x_13.next hdr).c0
                    have tc0 := (a2_13.next hdr).c0
                    have rc1 := (x2x_13.next hdr).c1
                    have tc1 := (a2_13.next hdr).c1
                    go_region_with (first | (go_at_call 16; refine (Z2 _ hdr).mono ?_; rintro e wz ⟨gz, cz, rfl, hoz, hbz⟩; have hbz2 := hdr.trans (hbz.mono hdr.size); have q0 := (x2x_13.next hbz2).c0; have q1 := (x2x_13.next hbz2).c1) | (go_at_call 19; refine (eqAl_true L2 _ _ _ _ _ xs2 _ (x2_13.below hbz2).rd hoz.rd hm2).mono ?_; rintro e wy ⟨rfl, hby⟩; have hby2 := hbz2.trans (hby.mono hbz2.size)))
                    all_goals (go_wp2_with fail; go_meet; exact ⟨rfl, hby2⟩)
                  case rest =>
                    obtain ⟨rfl, hcb⟩ := hcut
                    obtain ⟨w14, rfl⟩ : ∃ w9 : World, w9 = wc := ⟨_, rfl⟩
                    clear f140 f141 f142 f143 f144 f145 f146 f147 f148 f149 f150 f151
                    have B_14 := Lib.hid (B_13.out.trans (hcb.mono B_13.out.size))
                    have S_13 := Lib.hid hcb.size
                    have a0_14 := a0_13.next hcb
                    have a1_14 := a1_13.next hcb
                    have a2_14 := a2_13.next hcb
                    have h0_14 := h0_13.below hcb
                    have h1_14 := h1_13.below hcb
                    have h2_14 := h2_13.below hcb
                    have h3_14 := h3_13.below hcb
                    have h4_14 := h4_13.below hcb
                    have T_14 := T_13.below hcb
                    have o_14 := o_13.below hcb
                    have x0_14 := x0_13.below hcb
                    have x0x_14 := x0x_13.next hcb
                    have x1_14 := x1_13.below hcb
                    have x1x_14 := x1x_13.next hcb
                    have x2_14 := x2_13.below hcb
                    have x2x_14 := x2x_13.next hcb
                    have x3_14 := x3_13.below hcb
                    have x4_14 := x4_13.below hcb
                    have g_14 := g_13.below hcb
                    clear a0_13 a1_13 a2_13 h0_13 h1_13 h2_13 h3_13 h4_13 T_13 o_13 x0_13 x0x_13 x1_13 x1x_13 x2_13 x2x_13 x3_13 x4_13 g_13
                    have f152 := a0_14.c0
                    have f153 := a0_14.c1
                    have f154 := a1_14.c0
                    have f155 := a1_14.c1
                    have f156 := a2_14.c0
                    have f157 := a2_14.c1
                    have f158 := x0x_14.c0
                    have f159 := x0x_14.c1
                    have f160 := x1x_14.c0
                    have f161 := x1x_14.c1
                    have f162 := x2x_14.c0
                    have f163 := x2x_14.c1
                    go_wp2_with fail
                    refine (HTO3.out _ h3_14).mono ?_
                    rintro e w15 ⟨y3A, y3c, rfl, y3ho, y3hb⟩
                    clear f152 f153 f154 f155 f156 f157 f158 f159 f160 f161 f162 f163
                    obtain ⟨y3lo, y3e1⟩ : ∃ q : Nat, q = w14.heap.size := ⟨_, rfl⟩
                    obtain ⟨y3hi, y3e2⟩ : ∃ q : Nat, q = w15.heap.size := ⟨_, rfl⟩
                    have y3h2 : OwnSS w15 y3lo y3hi y3A n3 y3c xs3 := by rw [y3e1, y3e2]; exact y3ho
                    have LTy3 : Hid (w14.heap.size ≤ y3lo ∧ y3hi = w15.heap.size) := Lib.hid ⟨by rw [y3e1]; exact Nat.le_refl _, y3e2⟩
                    clear y3ho y3e1 y3e2
                    have B_15 := Lib.hid (B_14.out.trans (y3hb.mono B_14.out.size))
                    have S_14 := Lib.hid y3hb.size
                    have a0_15 := a0_14.next y3hb
                    have a1_15 := a1_14.next y3hb
                    have a2_15 := a2_14.next y3hb
                    have h0_15 := h0_14.below y3hb
                    have h1_15 := h1_14.below y3hb
                    have h2_15 := h2_14.below y3hb
                    have h3_15 := h3_14.below y3hb
                    have h4_15 := h4_14.below y3hb
                    have T_15 := T_14.below y3hb
                    have o_15 := o_14.below y3hb
                    have x0_15 := x0_14.below y3hb
                    have x0x_15 := x0x_14.next y3hb
                    have x1_15 := x1_14.below y3hb
                    have x1x_15 := x1x_14.next y3hb
                    have x2_15 := x2_14.below y3hb
                    have x2x_15 := x2x_14.next y3hb
                    have x3_15 := x3_14.below y3hb
                    have x4_15 := x4_14.below y3hb
                    have g_15 := g_14.below y3hb
                    clear a0_14 a1_14 a2_14 h0_14 h1_14 h2_14 h3_14 h4_14 T_14 o_14 x0_14 x0x_14 x1_14 x1x_14 x2_14 x2x_14 x3_14 x4_14 g_14
                    have y3_15 := y3h2
                    have f165 := a0_15.c0
                    have f166 := a0_15.c1
                    have f167 := a1_15.c0
                    have f168 := a1_15.c1
                    have f169 := a2_15.c0
                    have f170 := a2_15.c1
                    have f171 := x0x_15.c0
                    have f172 := x0x_15.c1
                    have f173 := x1x_15.c0
                    have f174 := x1x_15.c1
                    have f175 := x2x_15.c0
                    have f176 := x2x_15.c1
                    go_wp2_with fail
                    refine (eqSS_true _ _ _ _ _ xs3 _ (x3_15.rd HSX3.out) (y3_15.rd HSX3.out) (by omega)).mono ?_
                    rintro e w16 ⟨rfl, hb164⟩
                    clear f165 f166 f167 f168 f169 f170 f171 f172 f173 f174 f175 f176
                    have B_16 := Lib.hid (B_15.out.trans (hb164.mono B_15.out.size))
                    have S_15 := Lib.hid hb164.size
                    have a0_16 := a0_15.next hb164
                    have a1_16 := a1_15.next hb164
                    have a2_16 := a2_15.next hb164
                    have h0_16 := h0_15.below hb164
                    have h1_16 := h1_15.below hb164
                    have h2_16 := h2_15.below hb164
                    have h3_16 := h3_15.below hb164
                    have h4_16 := h4_15.below hb164
                    have T_16 := T_15.below hb164
                    have o_16 := o_15.below hb164
                    have x0_16 := x0_15.below hb164
                    have x0x_16 := x0x_15.next hb164
                    have x1_16 := x1_15.below hb164
                    have x1x_16 := x1x_15.next hb164
                    have x2_16 := x2_15.below hb164
                    have x2x_16 := x2x_15.next hb164
                    have x3_16 := x3_15.below hb164
                    have x4_16 := x4_15.below hb164
                    have g_16 := g_15.below hb164
                    have y3_16 := y3_15.below hb164
                    clear a0_15 a1_15 a2_15 h0_15 h1_15 h2_15 h3_15 h4_15 T_15 o_15 x0_15 x0x_15 x1_15 x1x_15 x2_15 x2x_15 x3_15 x4_15 g_15 y3_15
                    clear y3_16
                    have f177 := a0_16.c0
                    have f178 := a0_16.c1
                    have f179 := a1_16.c0
                    have f180 := a1_16.c1
                    have f181 := a2_16.c0
                    have f182 := a2_16.c1
                    have f183 := x0x_16.c0
                    have f184 := x0x_16.c1
                    have f185 := x1x_16.c0
                    have f186 := x1x_16.c1
                    have f187 := x2x_16.c0
                    have f188 := x2x_16.c1
                    go_wp2_with fail
                    refine (HTO4.out _ h4_16).mono ?_
                    rintro e w17 ⟨y4A, y4c, rfl, y4ho, y4hb⟩
                    clear f177 f178 f179 f180 f181 f182 f183 f184 f185 f186 f187 f188
                    obtain ⟨y4lo, y4e1⟩ : ∃ q : Nat, q = w16.heap.size := ⟨_, rfl⟩
                    obtain ⟨y4hi, y4e2⟩ : ∃ q : Nat, q = w17.heap.size := ⟨_, rfl⟩
                    have y4h2 : OwnSS w17 y4lo y4hi y4A n4 y4c xs4 := by rw [y4e1, y4e2]; exact y4ho
                    have LTy4 : Hid (w16.heap.size ≤ y4lo ∧ y4hi = w17.heap.size) := Lib.hid ⟨by rw [y4e1]; exact Nat.le_refl _, y4e2⟩
                    clear y4ho y4e1 y4e2
                    have B_17 := Lib.hid (B_16.out.trans (y4hb.mono B_16.out.size))
                    have S_16 := Lib.hid y4hb.size
                    have a0_17 := a0_16.next y4hb
                    have a1_17 := a1_16.next y4hb
                    have a2_17 := a2_16.next y4hb
                    have h0_17 := h0_16.below y4hb
                    have h1_17 := h1_16.below y4hb
                    have h2_17 := h2_16.below y4hb
                    have h3_17 := h3_16.below y4hb
                    have h4_17 := h4_16.below y4hb
                    have T_17 := T_16.below y4hb
                    have o_17 := o_16.below y4hb
                    have x0_17 := x0_16.below y4hb
                    have x0x_17 := x0x_16.next y4hb
                    have x1_17 := x1_16.below y4hb
                    have x1x_17 := x1x_16.next y4hb
                    have x2_17 := x2_16.below y4hb
                    have x2x_17 := x2x_16.next y4hb
                    have x3_17 := x3_16.below y4hb
                    have x4_17 := x4_16.below y4hb
                    have g_17 := g_16.below y4hb
                    clear a0_16 a1_16 a2_16 h0_16 h1_16 h2_16 h3_16 h4_16 T_16 o_16 x0_16 x0x_16 x1_16 x1x_16 x2_16 x2x_16 x3_16 x4_16 g_16
                    have y4_17 := y4h2
                    have f190 := a0_17.c0
                    have f191 := a0_17.c1
                    have f192 := a1_17.c0
                    have f193 := a1_17.c1
                    have f194 := a2_17.c0
                    have f195 := a2_17.c1
                    have f196 := x0x_17.c0
                    have f197 := x0x_17.c1
                    have f198 := x1x_17.c0
                    have f199 := x1x_17.c1
                    have f200 := x2x_17.c0
                    have f201 := x2x_17.c1
                    go_wp2_with fail
                    refine (eqSS_true _ _ _ _ _ xs4 _ (x4_17.rd HSX4.out) (y4_17.rd HSX4.out) (by omega)).mono ?_
                    rintro e w18 ⟨rfl, hb189⟩
                    clear f190 f191 f192 f193 f194 f195 f196 f197 f198 f199 f200 f201
                    have B_18 := Lib.hid (B_17.out.trans (hb189.mono B_17.out.size))
                    have S_17 := Lib.hid hb189.size
                    have a0_18 := a0_17.next hb189
                    have a1_18 := a1_17.next hb189
                    have a2_18 := a2_17.next hb189
                    have h0_18 := h0_17.below hb189
                    have h1_18 := h1_17.below hb189
                    have h2_18 := h2_17.below hb189
                    have h3_18 := h3_17.below hb189
                    have h4_18 := h4_17.below hb189
                    have T_18 := T_17.below hb189
                    have o_18 := o_17.below hb189
                    have x0_18 := x0_17.below hb189
                    have x0x_18 := x0x_17.next hb189
                    have x1_18 := x1_17.below hb189
                    have x1x_18 := x1x_17.next hb189
                    have x2_18 := x2_17.below hb189
                    have x2x_18 := x2x_17.next hb189
                    have x3_18 := x3_17.below hb189
                    have x4_18 := x4_17.below hb189
                    have g_18 := g_17.below hb189
                    have y4_18 := y4_17.below hb189
                    clear a0_17 a1_17 a2_17 h0_17 h1_17 h2_17 h3_17 h4_17 T_17 o_17 x0_17 x0x_17 x1_17 x1x_17 x2_17 x2x_17 x3_17 x4_17 g_17 y4_17
                    clear y4_18
                    have f202 := a0_18.c0
                    have f203 := a0_18.c1
                    have f204 := a1_18.c0
                    have f205 := a1_18.c1
                    have f206 := a2_18.c0
                    have f207 := a2_18.c1
                    have f208 := x0x_18.c0
                    have f209 := x0x_18.c1
                    have f210 := x1x_18.c0
                    have f211 := x1x_18.c1
                    have f212 := x2x_18.c0
                    have f213 := x2x_18.c1
                    go_wp2_with fail
                    refine (markAl_any _ _ L0 _ _ _ (1) _ _ x0_18 hn0 (by omega)).mono ?_
                    rintro e w19 ⟨rfl, mx0, mg0⟩
                    clear f202 f203 f204 f205 f206 f207 f208 f209 f210 f211 f212 f213
                    have S_18 := Lib.hid mg0.size
                    have B_19 := Lib.hid (B_18.out.grown mg0 B_18.out.size (fun k hk => by have := (LTx0.out k hk).1; have := S_0.out; have := S_1.out; have := S_2.out; have := S_3.out; have := S_4.out; have := S_5.out; have := S_6.out; have := S_7.out; have := S_8.out; have := S_9.out; have := S_10.out; have := S_11.out; have := S_12.out; have := S_13.out; have := S_14.out; have := S_15.out; have := S_16.out; have := S_17.out; have := S0_.out; omega))
                    have a0_19 := a0_18.apart mg0 (fun e => by have := LTx0.out _ e; have := S_0.out; have := S_1.out; have := S_2.out; have := S_3.out; have := S_4.out; have := S_5.out; have := S_6.out; have := S_7.out; have := S_8.out; have := S_9.out; have := S_10.out; have := S_11.out; have := S_12.out; have := S_13.out; have := S_14.out; have := S_15.out; have := S_16.out; have := S_17.out; have := S0_.out; omega)
                    have a1_19 := a1_18.apart mg0 (fun e => by have := LTx0.out _ e; have := S_0.out; have := S_1.out; have := S_2.out; have := S_3.out; have := S_4.out; have := S_5.out; have := S_6.out; have := S_7.out; have := S_8.out; have := S_9.out; have := S_10.out; have := S_11.out; have := S_12.out; have := S_13.out; have := S_14.out; have := S_15.out; have := S_16.out; have := S_17.out; have := S0_.out; omega)
                    have a2_19 := a2_18.apart mg0 (fun e => by have := LTx0.out _ e; have := S_0.out; have := S_1.out; have := S_2.out; have := S_3.out; have := S_4.out; have := S_5.out; have := S_6.out; have := S_7.out; have := S_8.out; have := S_9.out; have := S_10.out; have := S_11.out; have := S_12.out; have := S_13.out; have := S_14.out; have := S_15.out; have := S_16.out; have := S_17.out; have := S0_.out; omega)
                    have h0_19 := h0.below B_19.out
                    have h1_19 := h1.below B_19.out
                    have h2_19 := h2.below B_19.out
                    have h3_19 := h3.below B_19.out
                    have h4_19 := h4.below B_19.out
                    have T_19 := hT.below B_19.out
                    have o_19 := o_18.apart mg0 (fun r hr => by have := LTo.out; have := LTx0.out r hr; have := S_0.out; have := S_1.out; have := S_2.out; have := S_3.out; have := S_4.out; have := S_5.out; have := S_6.out; have := S_7.out; have := S_8.out; have := S_9.out; have := S_10.out; have := S_11.out; have := S_12.out; have := S_13.out; have := S_14.out; have := S_15.out; have := S_16.out; have := S_17.out; omega)
                    have x0x_19 := x0x_18.apart mg0 (fun e => by have := LTx0.out _ e; have := S_0.out; have := S_1.out; have := S_2.out; have := S_3.out; have := S_4.out; have := S_5.out; have := S_6.out; have := S_7.out; have := S_8.out; have := S_9.out; have := S_10.out; have := S_11.out; have := S_12.out; have := S_13.out; have := S_14.out; have := S_15.out; have := S_16.out; have := S_17.out; have := S0_.out; omega)
                    have x1_19 := x1_18.apart mg0 (fun k hk e => by have := LTx1.out k hk; have := LTx0.out k e; have := S_0.out; have := S_1.out; have := S_2.out; have := S_3.out; have := S_4.out; have := S_5.out; have := S_6.out; have := S_7.out; have := S_8.out; have := S_9.out; have := S_10.out; have := S_11.out; have := S_12.out; have := S_13.out; have := S_14.out; have := S_15.out; have := S_16.out; have := S_17.out; omega)
                    have x1x_19 := x1x_18.apart mg0 (fun e => by have := LTx0.out _ e; have := S_0.out; have := S_1.out; have := S_2.out; have := S_3.out; have := S_4.out; have := S_5.out; have := S_6.out; have := S_7.out; have := S_8.out; have := S_9.out; have := S_10.out; have := S_11.out; have := S_12.out; have := S_13.out; have := S_14.out; have := S_15.out; have := S_16.out; have := S_17.out; have := S0_.out; omega)
                    have x2_19 := x2_18.apart mg0 (fun k hk e => by have := LTx2.out k hk; have := LTx0.out k e; have := S_0.out; have := S_1.out; have := S_2.out; have := S_3.out; have := S_4.out; have := S_5.out; have := S_6.out; have := S_7.out; have := S_8.out; have := S_9.out; have := S_10.out; have := S_11.out; have := S_12.out; have := S_13.out; have := S_14.out; have := S_15.out; have := S_16.out; have := S_17.out; omega)
                    have x2x_19 := x2x_18.apart mg0 (fun e => by have := LTx0.out _ e; have := S_0.out; have := S_1.out; have := S_2.out; have := S_3.out; have := S_4.out; have := S_5.out; have := S_6.out; have := S_7.out; have := S_8.out; have := S_9.out; have := S_10.out; have := S_11.out; have := S_12.out; have := S_13.out; have := S_14.out; have := S_15.out; have := S_16.out; have := S_17.out; have := S0_.out; omega)
                    have x3_19 := x3_18.apart mg0 (fun r hr => by have := LTx3.out; have := LTx0.out r hr; have := S_0.out; have := S_1.out; have := S_2.out; have := S_3.out; have := S_4.out; have := S_5.out; have := S_6.out; have := S_7.out; have := S_8.out; have := S_9.out; have := S_10.out; have := S_11.out; have := S_12.out; have := S_13.out; have := S_14.out; have := S_15.out; have := S_16.out; have := S_17.out; omega)
                    have x4_19 := x4_18.apart mg0 (fun r hr => by have := LTx4.out; have := LTx0.out r hr; have := S_0.out; have := S_1.out; have := S_2.out; have := S_3.out; have := S_4.out; have := S_5.out; have := S_6.out; have := S_7.out; have := S_8.out; have := S_9.out; have := S_10.out; have := S_11.out; have := S_12.out; have := S_13.out; have := S_14.out; have := S_15.out; have := S_16.out; have := S_17.out; omega)
                    have g_19 := g_18.apart mg0 (fun r hr => by have := LTg.out; have := LTx0.out r hr; have := S_0.out; have := S_1.out; have := S_2.out; have := S_3.out; have := S_4.out; have := S_5.out; have := S_6.out; have := S_7.out; have := S_8.out; have := S_9.out; have := S_10.out; have := S_11.out; have := S_12.out; have := S_13.out; have := S_14.out; have := S_15.out; have := S_16.out; have := S_17.out; omega)
                    clear a0_18 a1_18 a2_18 h0_18 h1_18 h2_18 h3_18 h4_18 T_18 o_18 x0x_18 x1_18 x1x_18 x2_18 x2x_18 x3_18 x4_18 g_18
                    have x0_19 := mx0
                    have f214 := a0_19.c0
                    have f215 := a0_19.c1
                    have f216 := a1_19.c0
                    have f217 := a1_19.c1
                    have f218 := a2_19.c0
                    have f219 := a2_19.c1
                    have f220 := x0x_19.c0
                    have f221 := x0x_19.c1
                    have f222 := x1x_19.c0
                    have f223 := x1x_19.c1
                    have f224 := x2x_19.c0
                    have f225 := x2x_19.c1
                    go_wp2_with fail
                    refine (markAl_any _ _ L1 _ _ _ (1 + n0) _ _ x1_19 hn1 (by omega)).mono ?_
                    rintro e w20 ⟨rfl, mx1, mg1⟩
                    clear f214 f215 f216 f217 f218 f219 f220 f221 f222 f223 f224 f225
                    have S_19 := Lib.hid mg1.size
                    have B_20 := Lib.hid (B_19.out.grown mg1 B_19.out.size (fun k hk => by have := (LTx1.out k hk).1; have := S_0.out; have := S_1.out; have := S_2.out; have := S_3.out; have := S_4.out; have := S_5.out; have := S_6.out; have := S_7.out; have := S_8.out; have := S_9.out; have := S_10.out; have := S_11.out; have := S_12.out; have := S_13.out; have := S_14.out; have := S_15.out; have := S_16.out; have := S_17.out; have := S_18.out; have := S0_.out; omega))
                    have a0_20 := a0_19.apart mg1 (fun e => by have := LTx1.out _ e; have := S_0.out; have := S_1.out; have := S_2.out; have := S_3.out; have := S_4.out; have := S_5.out; have := S_6.out; have := S_7.out; have := S_8.out; have := S_9.out; have := S_10.out; have := S_11.out; have := S_12.out; have := S_13.out; have := S_14.out; have := S_15.out; have := S_16.out; have := S_17.out; have := S_18.out; have := S0_.out; omega)
                    have a1_20 := a1_19.apart mg1 (fun e => by have := LTx1.out _ e; have := S_0.out; have := S_1.out; have := S_2.out; have := S_3.out; have := S_4.out; have := S_5.out; have := S_6.out; have := S_7.out; have := S_8.out; have := S_9.out; have := S_10.out; have := S_11.out; have := S_12.out; have := S_13.out; have := S_14.out; have := S_15.out; have := S_16.out; have := S_17.out; have := S_18.out; have := S0_.out; omega)
                    have a2_20 := a2_19.apart mg1 (fun e => by have := LTx1.out _ e; have := S_0.out; have := S_1.out; have := S_2.out; have := S_3.out; have := S_4.out; have := S_5.out; have := S_6.out; have := S_7.out; have := S_8.out; have := S_9.out; have := S_10.out; have := S_11.out; have := S_12.out; have := S_13.out; have := S_14.out; have := S_15.out; have := S_16.out; have := S_17.out; have := S_18.out; have := S0_.out; omega)
                    have h0_20 := h0.below B_20.out
                    have h1_20 := h1.below B_20.out
                    have h2_20 := h2.below B_20.out
                    have h3_20 := h3.below B_20.out
                    have h4_20 := h4.below B_20.out
                    have T_20 := hT.below B_20.out
                    have o_20 := o_19.apart mg1 (fun r hr => by have := LTo.out; have := LTx1.out r hr; have := S_0.out; have := S_1.out; have := S_2.out; have := S_3.out; have := S_4.out; have := S_5.out; have := S_6.out; have := S_7.out; have := S_8.out; have := S_9.out; have := S_10.out; have := S_11.out; have := S_12.out; have := S_13.out; have := S_14.out; have := S_15.out; have := S_16.out; have := S_17.out; have := S_18.out; omega)
                    have x0_20 := x0_19.apart mg1 (fun k hk e => by have := LTx0.out k hk; have := LTx1.out k e; have := S_0.out; have := S_1.out; have := S_2.out; have := S_3.out; have := S_4.out; have := S_5.out; have := S_6.out; have := S_7.out; have := S_8.out; have := S_9.out; have := S_10.out; have := S_11.out; have := S_12.out; have := S_13.out; have := S_14.out; have := S_15.out; have := S_16.out; have := S_17.out; have := S_18.out; omega)
                    have x0x_20 := x0x_19.apart mg1 (fun e => by have := LTx1.out _ e; have := S_0.out; have := S_1.out; have := S_2.out; have := S_3.out; have := S_4.out; have := S_5.out; have := S_6.out; have := S_7.out; have := S_8.out; have := S_9.out; have := S_10.out; have := S_11.out; have := S_12.out; have := S_13.out; have := S_14.out; have := S_15.out; have := S_16.out; have := S_17.out; have := S_18.out; have := S0_.out; omega)
                    have x1x_20 := x1x_19.apart mg1 (fun e => by have := LTx1.out _ e; have := S_0.out; have := S_1.out; have := S_2.out; have := S_3.out; have := S_4.out; have := S_5.out; have := S_6.out; have := S_7.out; have := S_8.out; have := S_9.out; have := S_10.out; have := S_11.out; have := S_12.out; have := S_13.out; have := S_14.out; have := S_15.out; have := S_16.out; have := S_17.out; have := S_18.out; have := S0_.out; omega)
                    have x2_20 := x2_19.apart mg1 (fun k hk e => by have := LTx2.out k hk; have := LTx1.out k e; have := S_0.out; have := S_1.out; have := S_2.out; have := S_3.out; have := S_4.out; have := S_5.out; have := S_6.out; have := S_7.out; have := S_8.out; have := S_9.out; have := S_10.out; have := S_11.out; have := S_12.out; have := S_13.out; have := S_14.out; have := S_15.out; have := S_16.out; have := S_17.out; have := S_18.out; omega)
                    have x2x_20 := x2x_19.apart mg1 (fun e => by have := LTx1.out _ e; have := S_0.out; have := S_1.out; have := S_2.out; have := S_3.out; have := S_4.out; have := S_5.out; have := S_6.out; have := S_7.out; have := S_8.out; have := S_9.out; have := S_10.out; have := S_11.out; have := S_12.out; have := S_13.out; have := S_14.out; have := S_15.out; have := S_16.out; have := S_17.out; have := S_18.out; have := S0_.out; omega)
                    have x3_20 := x3_19.apart mg1 (fun r hr => by have := LTx3.out; have := LTx1.out r hr; have := S_0.out; have := S_1.out; have := S_2.out; have := S_3.out; have := S_4.out; have := S_5.out; have := S_6.out; have := S_7.out; have := S_8.out; have := S_9.out; have := S_10.out; have := S_11.out; have := S_12.out; have := S_13.out; have := S_14.out; have := S_15.out; have := S_16.out; have := S_17.out; have := S_18.out; omega)
                    have x4_20 := x4_19.apart mg1 (fun r hr => by have := LTx4.out; have := LTx1.out r hr; have := S_0.out; have := S_1.out; have := S_2.out; have := S_3.out; have := S_4.out; have := S_5.out; have := S_6.out; have := S_7.out; have := S_8.out; have := S_9.out; have := S_10.out; have := S_11.out; have := S_12.out; have := S_13.out; have := S_14.out; have := S_15.out; have := S_16.out; have := S_17.out; have := S_18.out; omega)
                    have g_20 := g_19.apart mg1 (fun r hr => by have := LTg.out; have := LTx1.out r hr; have := S_0.out; have := S_1.out; have := S_2.out; have := S_3.out; have := S_4.out; have := S_5.out; have := S_6.out; have := S_7.out; have := S_8.out; have := S_9.out; have := S_10.out; have := S_11.out; have := S_12.out; have := S_13.out; have := S_14.out; have := S_15.out; have := S_16.out; have := S_17.out; have := S_18.out; omega)
                    clear a0_19 a1_19 a2_19 h0_19 h1_19 h2_19 h3_19 h4_19 T_19 o_19 x0_19 x0x_19 x1x_19 x2_19 x2x_19 x3_19 x4_19 g_19
                    have x1_20 := mx1
                    have f226 := a0_20.c0
                    have f227 := a0_20.c1
                    have f228 := a1_20.c0
                    have f229 := a1_20.c1
                    have f230 := a2_20.c0
                    have f231 := a2_20.c1
                    have f232 := x0x_20.c0
                    have f233 := x0x_20.c1
                    have f234 := x1x_20.c0
                    have f235 := x1x_20.c1
                    have f236 := x2x_20.c0
                    have f237 := x2x_20.c1
                    go_wp2_with fail
                    refine (markAl_any _ _ L2 _ _ _ (1 + n0 + n1) _ _ x2_20 hn2 (by omega)).mono ?_
                    rintro e w21 ⟨rfl, mx2, mg2⟩
                    clear f226 f227 f228 f229 f230 f231 f232 f233 f234 f235 f236 f237
                    have S_20 := Lib.hid mg2.size
                    have B_21 := Lib.hid (B_20.out.grown mg2 B_20.out.size (fun k hk => by have := (LTx2.out k hk).1; have := S_0.out; have := S_1.out; have := S_2.out; have := S_3.out; have := S_4.out; have := S_5.out; have := S_6.out; have := S_7.out; have := S_8.out; have := S_9.out; have := S_10.out; have := S_11.out; have := S_12.out; have := S_13.out; have := S_14.out; have := S_15.out; have := S_16.out; have := S_17.out; have := S_18.out; have := S_19.out; have := S0_.out; omega))
                    have a0_21 := a0_20.apart mg2 (fun e => by have := LTx2.out _ e; have := S_0.out; have := S_1.out; have := S_2.out; have := S_3.out; have := S_4.out; have := S_5.out; have := S_6.out; have := S_7.out; have := S_8.out; have := S_9.out; have := S_10.out; have := S_11.out; have := S_12.out; have := S_13.out; have := S_14.out; have := S_15.out; have := S_16.out; have := S_17.out; have := S_18.out; have := S_19.out; have := S0_.out; omega)
                    have a1_21 := a1_20.apart mg2 (fun e => by have := LTx2.out _ e; have := S_0.out; have := S_1.out; have := S_2.out; have := S_3.out; have := S_4.out; have := S_5.out; have := S_6.out; have := S_7.out; have := S_8.out; have := S_9.out; have := S_10.out; have := S_11.out; have := S_12.out; have := S_13.out; have := S_14.out; have := S_15.out; have := S_16.out; have := S_17.out; have := S_18.out; have := S_19.out; have := S0_.out; omega)
                    have a2_21 := a2_20.apart mg2 (fun e => by have := LTx2.out _ e; have := S_0.out; have := S_1.out; have := S_2.out; have := S_3.out; have := S_4.out; have := S_5.out; have := S_6.out; have := S_7.out; have := S_8.out; have := S_9.out; have := S_10.out; have := S_11.out; have := S_12.out; have := S_13.out; have := S_14.out; have := S_15.out; have := S_16.out; have := S_17.out; have := S_18.out; have := S_19.out; have := S0_.out; omega)
                    have h0_21 := h0.below B_21.out
                    have h1_21 := h1.below B_21.out
                    have h2_21 := h2.below B_21.out
                    have h3_21 := h3.below B_21.out
                    have h4_21 := h4.below B_21.out
                    have T_21 := hT.below B_21.out
                    have o_21 := o_20.apart mg2 (fun r hr => by have := LTo.out; have := LTx2.out r hr; have := S_0.out; have := S_1.out; have := S_2.out; have := S_3.out; have := S_4.out; have := S_5.out; have := S_6.out; have := S_7.out; have := S_8.out; have := S_9.out; have := S_10.out; have := S_11.out; have := S_12.out; have := S_13.out; have := S_14.out; have := S_15.out; have := S_16.out; have := S_17.out; have := S_18.out; have := S_19.out; omega)
                    have x0_21 := x0_20.apart mg2 (fun k hk e => by have := LTx0.out k hk; have := LTx2.out k e; have := S_0.out; have := S_1.out; have := S_2.out; have := S_3.out; have := S_4.out; have := S_5.out; have := S_6.out; have := S_7.out; have := S_8.out; have := S_9.out; have := S_10.out; have := S_11.out; have := S_12.out; have := S_13.out; have := S_14.out; have := S_15.out; have := S_16.out; have := S_17.out; have := S_18.out; have := S_19.out; omega)
                    have x0x_21 := x0x_20.apart mg2 (fun e => by have := LTx2.out _ e; have := S_0.out; have := S_1.out; have := S_2.out; have := S_3.out; have := S_4.out; have := S_5.out; have := S_6.out; have := S_7.out; have := S_8.out; have := S_9.out; have := S_10.out; have := S_11.out; have := S_12.out; have := S_13.out; have := S_14.out; have := S_15.out; have := S_16.out; have := S_17.out; have := S_18.out; have := S_19.out; have := S0_.out; omega)
                    have x1_21 := x1_20.apart mg2 (fun k hk e => by have := LTx1.out k hk; have := LTx2.out k e; have := S_0.out; have := S_1.out; have := S_2.out; have := S_3.out; have := S_4.out; have := S_5.out; have := S_6.out; have := S_7.out; have := S_8.out; have := S_9.out; have := S_10.out; have := S_11.out; have := S_12.out; have := S_13.out; have := S_14.out; have := S_15.out; have := S_16.out; have := S_17.out; have := S_18.out; have := S_19.out; omega)
                    have x1x_21 := x1x_20.apart mg2 (fun e => by have := LTx2.out _ e; have := S_0.out; have := S_1.out; have := S_2.out; have := S_3.out; have := S_4.out; have := S_5.out; have := S_6.out; have := S_7.out; have := S_8.out; have := S_9.out; have := S_10.out; have := S_11.out; have := S_12.out; have := S_13.out; have := S_14.out; have := S_15.out; have := S_16.out; have := S_17.out; have := S_18.out; have := S_19.out; have := S0_.out; omega)
                    have x2x_21 := x2x_20.apart mg2 (fun e => by have := LTx2.out _ e; have := S_0.out; have := S_1.out; have := S_2.out; have := S_3.out; have := S_4.out; have := S_5.out; have := S_6.out; have := S_7.out; have := S_8.out; have := S_9.out; have := S_10.out; have := S_11.out; have := S_12.out; have := S_13.out; have := S_14.out; have := S_15.out; have := S_16.out; have := S_17.out; have := S_18.out; have := S_19.out; have := S0_.out; omega)
                    have x3_21 := x3_20.apart mg2 (fun r hr => by have := LTx3.out; have := LTx2.out r hr; have := S_0.out; have := S_1.out; have := S_2.out; have := S_3.out; have := S_4.out; have := S_5.out; have := S_6.out; have := S_7.out; have := S_8.out; have := S_9.out; have := S_10.out; have := S_11.out; have := S_12.out; have := S_13.out; have := S_14.out; have := S_15.out; have := S_16.out; have := S_17.out; have := S_18.out; have := S_19.out; omega)
                    have x4_21 := x4_20.apart mg2 (fun r hr => by have := LTx4.out; have := LTx2.out r hr; have := S_0.out; have := S_1.out; have := S_2.out; have := S_3.out; have := S_4.out; have := S_5.out; have := S_6.out; have := S_7.out; have := S_8.out; have := S_9.out; have := S_10.out; have := S_11.out; have := S_12.out; have := S_13.out; have := S_14.out; have := S_15.out; have := S_16.out; have := S_17.out; have := S_18.out; have := S_19.out; omega)
                    have g_21 := g_20.apart mg2 (fun r hr => by have := LTg.out; have := LTx2.out r hr; have := S_0.out; have := S_1.out; have := S_2.out; have := S_3.out; have := S_4.out; have := S_5.out; have := S_6.out; have := S_7.out; have := S_8.out; have := S_9.out; have := S_10.out; have := S_11.out; have := S_12.out; have := S_13.out; have := S_14.out; have := S_15.out; have := S_16.out; have := S_17.out; have := S_18.out; have := S_19.out; omega)
                    clear a0_20 a1_20 a2_20 h0_20 h1_20 h2_20 h3_20 h4_20 T_20 o_20 x0_20 x0x_20 x1_20 x1x_20 x2x_20 x3_20 x4_20 g_20
                    have x2_21 := mx2
                    have f238 := a0_21.c0
                    have f239 := a0_21.c1
                    have f240 := a1_21.c0
                    have f241 := a1_21.c1
                    have f242 := a2_21.c0
                    have f243 := a2_21.c1
                    have f244 := x0x_21.c0
                    have f245 := x0x_21.c1
                    have f246 := x1x_21.c0
                    have f247 := x1x_21.c1
                    have f248 := x2x_21.c0
                    have f249 := x2x_21.c1
                    go_wp2_with fail
                    refine (markSS4_any _ _ _ _ _ (1 + n0 + n1 + n2) _ _ x3_21 (by rw [HSV3.out]; exact hSXb3) hn3 (by omega)).mono ?_
                    rw [HSV3.out]
                    rintro e w22 ⟨rfl, mx3, mg3⟩
                    clear f238 f239 f240 f241 f242 f243 f244 f245 f246 f247 f248 f249
                    have S_21 := Lib.hid mg3.size
                    have B_22 := Lib.hid (mg3.under B_21.out (by have := LTx3.out; have := S_0.out; have := S_1.out; have := S_2.out; have := S_3.out; have := S_4.out; have := S_5.out; have := S_6.out; have := S_7.out; have := S_8.out; have := S_9.out; have := S_10.out; have := S_11.out; have := S_12.out; have := S_13.out; have := S_14.out; have := S_15.out; have := S_16.out; have := S_17.out; have := S_18.out; have := S_19.out; have := S_20.out; have := S0_.out; omega))
                    have a0_22 := a0_21.touched mg3 (by have := LTx3.out; have := S_0.out; have := S_1.out; have := S_2.out; have := S_3.out; have := S_4.out; have := S_5.out; have := S_6.out; have := S_7.out; have := S_8.out; have := S_9.out; have := S_10.out; have := S_11.out; have := S_12.out; have := S_13.out; have := S_14.out; have := S_15.out; have := S_16.out; have := S_17.out; have := S_18.out; have := S_19.out; have := S_20.out; have := S0_.out; omega)
                    have a1_22 := a1_21.touched mg3 (by have := LTx3.out; have := S_0.out; have := S_1.out; have := S_2.out; have := S_3.out; have := S_4.out; have := S_5.out; have := S_6.out; have := S_7.out; have := S_8.out; have := S_9.out; have := S_10.out; have := S_11.out; have := S_12.out; have := S_13.out; have := S_14.out; have := S_15.out; have := S_16.out; have := S_17.out; have := S_18.out; have := S_19.out; have := S_20.out; have := S0_.out; omega)
                    have a2_22 := a2_21.touched mg3 (by have := LTx3.out; have := S_0.out; have := S_1.out; have := S_2.out; have := S_3.out; have := S_4.out; have := S_5.out; have := S_6.out; have := S_7.out; have := S_8.out; have := S_9.out; have := S_10.out; have := S_11.out; have := S_12.out; have := S_13.out; have := S_14.out; have := S_15.out; have := S_16.out; have := S_17.out; have := S_18.out; have := S_19.out; have := S_20.out; have := S0_.out; omega)
                    have h0_22 := h0.below B_22.out
                    have h1_22 := h1.below B_22.out
                    have h2_22 := h2.below B_22.out
                    have h3_22 := h3.below B_22.out
                    have h4_22 := h4.below B_22.out
                    have T_22 := hT.below B_22.out
                    have o_22 := o_21.touched mg3 (by have := LTo.out; have := LTx3.out; have := S_0.out; have := S_1.out; have := S_2.out; have := S_3.out; have := S_4.out; have := S_5.out; have := S_6.out; have := S_7.out; have := S_8.out; have := S_9.out; have := S_10.out; have := S_11.out; have := S_12.out; have := S_13.out; have := S_14.out; have := S_15.out; have := S_16.out; have := S_17.out; have := S_18.out; have := S_19.out; have := S_20.out; omega)
                    have x0_22 := own_touched x0_21 mg3 (fun k hk => by have := LTx0.out k hk; have := LTx3.out; have := S_0.out; have := S_1.out; have := S_2.out; have := S_3.out; have := S_4.out; have := S_5.out; have := S_6.out; have := S_7.out; have := S_8.out; have := S_9.out; have := S_10.out; have := S_11.out; have := S_12.out; have := S_13.out; have := S_14.out; have := S_15.out; have := S_16.out; have := S_17.out; have := S_18.out; have := S_19.out; have := S_20.out; omega)
                    have x0x_22 := x0x_21.touched mg3 (by have := LTx3.out; have := S_0.out; have := S_1.out; have := S_2.out; have := S_3.out; have := S_4.out; have := S_5.out; have := S_6.out; have := S_7.out; have := S_8.out; have := S_9.out; have := S_10.out; have := S_11.out; have := S_12.out; have := S_13.out; have := S_14.out; have := S_15.out; have := S_16.out; have := S_17.out; have := S_18.out; have := S_19.out; have := S_20.out; have := S0_.out; omega)
                    have x1_22 := own_touched x1_21 mg3 (fun k hk => by have := LTx1.out k hk; have := LTx3.out; have := S_0.out; have := S_1.out; have := S_2.out; have := S_3.out; have := S_4.out; have := S_5.out; have := S_6.out; have := S_7.out; have := S_8.out; have := S_9.out; have := S_10.out; have := S_11.out; have := S_12.out; have := S_13.out; have := S_14.out; have := S_15.out; have := S_16.out; have := S_17.out; have := S_18.out; have := S_19.out; have := S_20.out; omega)
                    have x1x_22 := x1x_21.touched mg3 (by have := LTx3.out; have := S_0.out; have := S_1.out; have := S_2.out; have := S_3.out; have := S_4.out; have := S_5.out; have := S_6.out; have := S_7.out; have := S_8.out; have := S_9.out; have := S_10.out; have := S_11.out; have := S_12.out; have := S_13.out; have := S_14.out; have := S_15.out; have := S_16.out; have := S_17.out; have := S_18.out; have := S_19.out; have := S_20.out; have := S0_.out; omega)
                    have x2_22 := own_touched x2_21 mg3 (fun k hk => by have := LTx2.out k hk; have := LTx3.out; have := S_0.out; have := S_1.out; have := S_2.out; have := S_3.out; have := S_4.out; have := S_5.out; have := S_6.out; have := S_7.out; have := S_8.out; have := S_9.out; have := S_10.out; have := S_11.out; have := S_12.out; have := S_13.out; have := S_14.out; have := S_15.out; have := S_16.out; have := S_17.out; have := S_18.out; have := S_19.out; have := S_20.out; omega)
                    have x2x_22 := x2x_21.touched mg3 (by have := LTx3.out; have := S_0.out; have := S_1.out; have := S_2.out; have := S_3.out; have := S_4.out; have := S_5.out; have := S_6.out; have := S_7.out; have := S_8.out; have := S_9.out; have := S_10.out; have := S_11.out; have := S_12.out; have := S_13.out; have := S_14.out; have := S_15.out; have := S_16.out; have := S_17.out; have := S_18.out; have := S_19.out; have := S_20.out; have := S0_.out; omega)
                    have x4_22 := x4_21.touched mg3 (by have := LTx4.out; have := LTx3.out; have := S_0.out; have := S_1.out; have := S_2.out; have := S_3.out; have := S_4.out; have := S_5.out; have := S_6.out; have := S_7.out; have := S_8.out; have := S_9.out; have := S_10.out; have := S_11.out; have := S_12.out; have := S_13.out; have := S_14.out; have := S_15.out; have := S_16.out; have := S_17.out; have := S_18.out; have := S_19.out; have := S_20.out; omega)
                    have g_22 := g_21.touched mg3 (by have := LTg.out; have := LTx3.out; have := S_0.out; have := S_1.out; have := S_2.out; have := S_3.out; have := S_4.out; have := S_5.out; have := S_6.out; have := S_7.out; have := S_8.out; have := S_9.out; have := S_10.out; have := S_11.out; have := S_12.out; have := S_13.out; have := S_14.out; have := S_15.out; have := S_16.out; have := S_17.out; have := S_18.out; have := S_19.out; have := S_20.out; omega)
                    clear a0_21 a1_21 a2_21 h0_21 h1_21 h2_21 h3_21 h4_21 T_21 o_21 x0_21 x0x_21 x1_21 x1x_21 x2_21 x2x_21 x4_21 g_21
                    clear x3_21
                    have x3_22 := mx3
                    have f250 := a0_22.c0
                    have f251 := a0_22.c1
                    have f252 := a1_22.c0
                    have f253 := a1_22.c1
                    have f254 := a2_22.c0
                    have f255 := a2_22.c1
                    have f256 := x0x_22.c0
                    have f257 := x0x_22.c1
                    have f258 := x1x_22.c0
                    have f259 := x1x_22.c1
                    have f260 := x2x_22.c0
                    have f261 := x2x_22.c1
                    go_wp2_with fail
                    refine (markSS4_any _ _ _ _ _ (1 + n0 + n1 + n2 + SX3) _ _ x4_22 (by rw [HSV4.out]; exact hSXb4) hn4 (by omega)).mono ?_
                    rw [HSV4.out]
                    rintro e w23 ⟨rfl, mx4, mg4⟩
                    clear f250 f251 f252 f253 f254 f255 f256 f257 f258 f259 f260 f261
                    have S_22 := Lib.hid mg4.size
                    have B_23 := Lib.hid (mg4.under B_22.out (by have := LTx4.out; have := S_0.out; have := S_1.out; have := S_2.out; have := S_3.out; have := S_4.out; have := S_5.out; have := S_6.out; have := S_7.out; have := S_8.out; have := S_9.out; have := S_10.out; have := S_11.out; have := S_12.out; have := S_13.out; have := S_14.out; have := S_15.out; have := S_16.out; have := S_17.out; have := S_18.out; have := S_19.out; have := S_20.out; have := S_21.out; have := S0_.out; omega))
                    have a0_23 := a0_22.touched mg4 (by have := LTx4.out; have := S_0.out; have := S_1.out; have := S_2.out; have := S_3.out; have := S_4.out; have := S_5.out; have := S_6.out; have := S_7.out; have := S_8.out; have := S_9.out; have := S_10.out; have := S_11.out; have := S_12.out; have := S_13.out; have := S_14.out; have := S_15.out; have := S_16.out; have := S_17.out; have := S_18.out; have := S_19.out; have := S_20.out; have := S_21.out; have := S0_.out; omega)
                    have a1_23 := a1_22.touched mg4 (by have := LTx4.out; have := S_0.out; have := S_1.out; have := S_2.out; have := S_3.out; have := S_4.out; have := S_5.out; have := S_6.out; have := S_7.out; have := S_8.out; have := S_9.out; have := S_10.out; have := S_11.out; have := S_12.out; have := S_13.out; have := S_14.out; have := S_15.out; have := S_16.out; have := S_17.out; have := S_18.out; have := S_19.out; have := S_20.out; have := S_21.out; have := S0_.out; omega)
                    have a2_23 := a2_22.touched mg4 (by have := LTx4.out; have := S_0.out; have := S_1.out; have := S_2.out; have := S_3.out; have := S_4.out; have := S_5.out; have := S_6.out; have := S_7.out; have := S_8.out; have := S_9.out; have := S_10.out; have := S_11.out; have := S_12.out; have := S_13.out; have := S_14.out; have := S_15.out; have := S_16.out; have := S_17.out; have := S_18.out; have := S_19.out; have := S_20.out; have := S_21.out; have := S0_.out; omega)
                    have h0_23 := h0.below B_23.out
                    have h1_23 := h1.below B_23.out
                    have h2_23 := h2.below B_23.out
                    have h3_23 := h3.below B_23.out
                    have h4_23 := h4.below B_23.out
                    have T_23 := hT.below B_23.out
                    have o_23 := o_22.touched mg4 (by have := LTo.out; have := LTx4.out; have := S_0.out; have := S_1.out; have := S_2.out; have := S_3.out; have := S_4.out; have := S_5.out; have := S_6.out; have := S_7.out; have := S_8.out; have := S_9.out; have := S_10.out; have := S_11.out; have := S_12.out; have := S_13.out; have := S_14.out; have := S_15.out; have := S_16.out; have := S_17.out; have := S_18.out; have := S_19.out; have := S_20.out; have := S_21.out; omega)
                    have x0_23 := own_touched x0_22 mg4 (fun k hk => by have := LTx0.out k hk; have := LTx4.out; have := S_0.out; have := S_1.out; have := S_2.out; have := S_3.out; have := S_4.out; have := S_5.out; have := S_6.out; have := S_7.out; have := S_8.out; have := S_9.out; have := S_10.out; have := S_11.out; have := S_12.out; have := S_13.out; have := S_14.out; have := S_15.out; have := S_16.out; have := S_17.out; have := S_18.out; have := S_19.out; have := S_20.out; have := S_21.out; omega)
                    have x0x_23 := x0x_22.touched mg4 (by have := LTx4.out; have := S_0.out; have := S_1.out; have := S_2.out; have := S_3.out; have := S_4.out; have := S_5.out; have := S_6.out; have := S_7.out; have := S_8.out; have := S_9.out; have := S_10.out; have := S_11.out; have := S_12.out; have := S_13.out; have := S_14.out; have := S_15.out; have := S_16.out; have := S_17.out; have := S_18.out; have := S_19.out; have := S_20.out; have := S_21.out; have := S0_.out; omega)
                    have x1_23 := own_touched x1_22 mg4 (fun k hk => by have := LTx1.out k hk; have := LTx4.out; have := S_0.out; have := S_1.out; have := S_2.out; have := S_3.out; have := S_4.out; have := S_5.out; have := S_6.out; have := S_7.out; have := S_8.out; have := S_9.out; have := S_10.out; have := S_11.out; have := S_12.out; have := S_13.out; have := S_14.out; have := S_15.out; have := S_16.out; have := S_17.out; have := S_18.out; have := S_19.out; have := S_20.out; have := S_21.out; omega)
                    have x1x_23 := x1x_22.touched mg4 (by have := LTx4.out; have := S_0.out; have := S_1.out; have := S_2.out; have := S_3.out; have := S_4.out; have := S_5.out; have := S_6.out; have := S_7.out; have := S_8.out; have := S_9.out; have := S_10.out; have := S_11.out; have := S_12.out; have := S_13.out; have := S_14.out; have := S_15.out; have := S_16.out; have := S_17.out; have := S_18.out; have := S_19.out; have := S_20.out; have := S_21.out; have := S0_.out; omega)
                    have x2_23 := own_touched x2_22 mg4 (fun k hk => by have := LTx2.out k hk; have := LTx4.out; have := S_0.out; have := S_1.out; have := S_2.out; have := S_3.out; have := S_4.out; have := S_5.out; have := S_6.out; have := S_7.out; have := S_8.out; have := S_9.out; have := S_10.out; have := S_11.out; have := S_12.out; have := S_13.out; have := S_14.out; have := S_15.out; have := S_16.out; have := S_17.out; have := S_18.out; have := S_19.out; have := S_20.out; have := S_21.out; omega)
                    have x2x_23 := x2x_22.touched mg4 (by have := LTx4.out; have := S_0.out; have := S_1.out; have := S_2.out; have := S_3.out; have := S_4.out; have := S_5.out; have := S_6.out; have := S_7.out; have := S_8.out; have := S_9.out; have := S_10.out; have := S_11.out; have := S_12.out; have := S_13.out; have := S_14.out; have := S_15.out; have := S_16.out; have := S_17.out; have := S_18.out; have := S_19.out; have := S_20.out; have := S_21.out; have := S0_.out; omega)
                    have x3_23 := x3_22.touched mg4 (by have := LTx3.out; have := LTx4.out; have := S_0.out; have := S_1.out; have := S_2.out; have := S_3.out; have := S_4.out; have := S_5.out; have := S_6.out; have := S_7.out; have := S_8.out; have := S_9.out; have := S_10.out; have := S_11.out; have := S_12.out; have := S_13.out; have := S_14.out; have := S_15.out; have := S_16.out; have := S_17.out; have := S_18.out; have := S_19.out; have := S_20.out; have := S_21.out; omega)
                    have g_23 := g_22.touched mg4 (by have := LTg.out; have := LTx4.out; have := S_0.out; have := S_1.out; have := S_2.out; have := S_3.out; have := S_4.out; have := S_5.out; have := S_6.out; have := S_7.out; have := S_8.out; have := S_9.out; have := S_10.out; have := S_11.out; have := S_12.out; have := S_13.out; have := S_14.out; have := S_15.out; have := S_16.out; have := S_17.out; have := S_18.out; have := S_19.out; have := S_20.out; have := S_21.out; omega)
                    clear a0_22 a1_22 a2_22 h0_22 h1_22 h2_22 h3_22 h4_22 T_22 o_22 x0_22 x0x_22 x1_22 x1x_22 x2_22 x2x_22 x3_22 g_22
                    clear x4_22
                    have x4_23 := mx4
                    clear x0_23
                    clear x1_23
                    clear x2_23
                    clear x3_23
                    clear x4_23
                    have f263 := a0_23.c0
                    have f264 := a0_23.c1
                    have f265 := a1_23.c0
                    have f266 := a1_23.c1
                    have f267 := a2_23.c0
                    have f268 := a2_23.c1
                    have f269 := x0x_23.c0
                    have f270 := x0x_23.c1
                    have f271 := x1x_23.c0
                    have f272 := x1x_23.c1
                    have f273 := x2x_23.c0
                    have f274 := x2x_23.c1
                    go_wp2_with fail
                    refine (eqSS_true _ _ _ _ _ VX _ (g_23.rd HSM.out) (o_23.rd HSM.out) (by omega)).mono ?_
                    rintro e w24 ⟨rfl, hb262⟩
                    clear f263 f264 f265 f266 f267 f268 f269 f270 f271 f272 f273 f274
                    have B_24 := Lib.hid (B_23.out.trans (hb262.mono B_23.out.size))
                    have S_23 := Lib.hid hb262.size
                    have a0_24 := a0_23.next hb262
                    have a1_24 := a1_23.next hb262
                    have a2_24 := a2_23.next hb262
                    have h0_24 := h0_23.below hb262
                    have h1_24 := h1_23.below hb262
                    have h2_24 := h2_23.below hb262
                    have h3_24 := h3_23.below hb262
                    have h4_24 := h4_23.below hb262
                    have T_24 := T_23.below hb262
                    have o_24 := o_23.below hb262
                    have x0x_24 := x0x_23.next hb262
                    have x1x_24 := x1x_23.next hb262
                    have x2x_24 := x2x_23.next hb262
                    have g_24 := g_23.below hb262
                    clear a0_23 a1_23 a2_23 h0_23 h1_23 h2_23 h3_23 h4_23 T_23 o_23 x0x_23 x1x_23 x2x_23 g_23
                    have f275 := a0_24.c0
                    have f276 := a0_24.c1
                    have f277 := a1_24.c0
                    have f278 := a1_24.c1
                    have f279 := a2_24.c0
                    have f280 := a2_24.c1
                    have f281 := x0x_24.c0
                    have f282 := x0x_24.c1
                    have f283 := x1x_24.c0
                    have f284 := x1x_24.c1
                    have f285 := x2x_24.c0
                    have f286 := x2x_24.c1
                    go_wp2_with fail
                    refine (markSS_one _ _ _ _ _ _ _ g_24 HSV.out hVS hVN).mono ?_
                    rintro e w25 ⟨rfl, mxg, mgg⟩
                    clear f275 f276 f277 f278 f279 f280 f281 f282 f283 f284 f285 f286
                    have S_24 := Lib.hid mgg.size
                    have B_25 := Lib.hid (mgg.under B_24.out (by have := LTg.out; have := S_0.out; have := S_1.out; have := S_2.out; have := S_3.out; have := S_4.out; have := S_5.out; have := S_6.out; have := S_7.out; have := S_8.out; have := S_9.out; have := S_10.out; have := S_11.out; have := S_12.out; have := S_13.out; have := S_14.out; have := S_15.out; have := S_16.out; have := S_17.out; have := S_18.out; have := S_19.out; have := S_20.out; have := S_21.out; have := S_22.out; have := S_23.out; have := S0_.out; omega))
                    have a0_25 := a0_24.touched mgg (by have := LTg.out; have := S_0.out; have := S_1.out; have := S_2.out; have := S_3.out; have := S_4.out; have := S_5.out; have := S_6.out; have := S_7.out; have := S_8.out; have := S_9.out; have := S_10.out; have := S_11.out; have := S_12.out; have := S_13.out; have := S_14.out; have := S_15.out; have := S_16.out; have := S_17.out; have := S_18.out; have := S_19.out; have := S_20.out; have := S_21.out; have := S_22.out; have := S_23.out; have := S0_.out; omega)
                    have a1_25 := a1_24.touched mgg (by have := LTg.out; have := S_0.out; have := S_1.out; have := S_2.out; have := S_3.out; have := S_4.out; have := S_5.out; have := S_6.out; have := S_7.out; have := S_8.out; have := S_9.out; have := S_10.out; have := S_11.out; have := S_12.out; have := S_13.out; have := S_14.out; have := S_15.out; have := S_16.out; have := S_17.out; have := S_18.out; have := S_19.out; have := S_20.out; have := S_21.out; have := S_22.out; have := S_23.out; have := S0_.out; omega)
                    have a2_25 := a2_24.touched mgg (by have := LTg.out; have := S_0.out; have := S_1.out; have := S_2.out; have := S_3.out; have := S_4.out; have := S_5.out; have := S_6.out; have := S_7.out; have := S_8.out; have := S_9.out; have := S_10.out; have := S_11.out; have := S_12.out; have := S_13.out; have := S_14.out; have := S_15.out; have := S_16.out; have := S_17.out; have := S_18.out; have := S_19.out; have := S_20.out; have := S_21.out; have := S_22.out; have := S_23.out; have := S0_.out; omega)
                    have h0_25 := h0.below B_25.out
                    have h1_25 := h1.below B_25.out
                    have h2_25 := h2.below B_25.out
                    have h3_25 := h3.below B_25.out
                    have h4_25 := h4.below B_25.out
                    have T_25 := hT.below B_25.out
                    have o_25 := o_24.touched mgg (by have := LTo.out; have := LTg.out; have := S_0.out; have := S_1.out; have := S_2.out; have := S_3.out; have := S_4.out; have := S_5.out; have := S_6.out; have := S_7.out; have := S_8.out; have := S_9.out; have := S_10.out; have := S_11.out; have := S_12.out; have := S_13.out; have := S_14.out; have := S_15.out; have := S_16.out; have := S_17.out; have := S_18.out; have := S_19.out; have := S_20.out; have := S_21.out; have := S_22.out; have := S_23.out; omega)
                    have x0x_25 := x0x_24.touched mgg (by have := LTg.out; have := S_0.out; have := S_1.out; have := S_2.out; have := S_3.out; have := S_4.out; have := S_5.out; have := S_6.out; have := S_7.out; have := S_8.out; have := S_9.out; have := S_10.out; have := S_11.out; have := S_12.out; have := S_13.out; have := S_14.out; have := S_15.out; have := S_16.out; have := S_17.out; have := S_18.out; have := S_19.out; have := S_20.out; have := S_21.out; have := S_22.out; have := S_23.out; have := S0_.out; omega)
                    have x1x_25 := x1x_24.touched mgg (by have := LTg.out; have := S_0.out; have := S_1.out; have := S_2.out; have := S_3.out; have := S_4.out; have := S_5.out; have := S_6.out; have := S_7.out; have := S_8.out; have := S_9.out; have := S_10.out; have := S_11.out; have := S_12.out; have := S_13.out; have := S_14.out; have := S_15.out; have := S_16.out; have := S_17.out; have := S_18.out; have := S_19.out; have := S_20.out; have := S_21.out; have := S_22.out; have := S_23.out; have := S0_.out; omega)
                    have x2x_25 := x2x_24.touched mgg (by have := LTg.out; have := S_0.out; have := S_1.out; have := S_2.out; have := S_3.out; have := S_4.out; have := S_5.out; have := S_6.out; have := S_7.out; have := S_8.out; have := S_9.out; have := S_10.out; have := S_11.out; have := S_12.out; have := S_13.out; have := S_14.out; have := S_15.out; have := S_16.out; have := S_17.out; have := S_18.out; have := S_19.out; have := S_20.out; have := S_21.out; have := S_22.out; have := S_23.out; have := S0_.out; omega)
                    clear a0_24 a1_24 a2_24 h0_24 h1_24 h2_24 h3_24 h4_24 T_24 o_24 x0x_24 x1x_24 x2x_24
                    clear g_24
                    have g_25 := mxg
                    have f287 := a0_25.c0
                    have f288 := a0_25.c1
                    have f289 := a1_25.c0
                    have f290 := a1_25.c1
                    have f291 := a2_25.c0
                    have f292 := a2_25.c1
                    have f293 := x0x_25.c0
                    have f294 := x0x_25.c1
                    have f295 := x1x_25.c0
                    have f296 := x1x_25.c1
                    have f297 := x2x_25.c0
                    have f298 := x2x_25.c1
                    go_wp2_with fail
                    refine (heldSS_one _ _ _ VX _ (g_25.rd HSM2.out) HSV.out hVS hVN).mono ?_
                    rintro e w' ⟨rfl, rfl⟩
                    clear f287 f288 f289 f290 f291 f292 f293 f294 f295 f296 f297 f298
                    have hcur : Below w25.heap.size w25 w25.drew := (Below.refl _ _).drew
                    have HS9 : Hid (∀ w', Below w25.heap.size w25 w' → w'.cell? ⟨w.heap.size, 0, none⟩ = some (.int .i64 L0) ∧ w'.cell? ⟨w.heap.size, 1, none⟩ = some (.slice A0 n0 c0) ∧ w'.cell? ⟨w.heap.size + 1, 0, none⟩ = some (.int .i64 L1) ∧ w'.cell? ⟨w.heap.size + 1, 1, none⟩ = some (.slice A1 n1 c1) ∧ w'.cell? ⟨w.heap.size + 1 + 1, 0, none⟩ = some (.int .i64 L2) ∧ w'.cell? ⟨w.heap.size + 1 + 1, 1, none⟩ = some (.slice A2 n2 c2)) := Lib.hid (fun w' hw => ⟨(a0_25.next hw).c0, (a0_25.next hw).c1, (a1_25.next hw).c0, (a1_25.next hw).c1, (a2_25.next hw).c0, (a2_25.next hw).c1⟩)
                    have hcd := HS9.out _ hcur
                    have Z0 := Lib.hid (fun (ww : World) (hw : Below w25.heap.size w25 ww) => toAl_any L0 A0 n0 c0 xs0 ww (h0_25.below hw) hn0)
                    have Z1 := Lib.hid (fun (ww : World) (hw : Below w25.heap.size w25 ww) => toAl_any L1 A1 n1 c1 xs1 ww (h1_25.below hw) hn1)
                    have Z2 := Lib.hid (fun (ww : World) (hw : Below w25.heap.size w25 ww) => toAl_any L2 A2 n2 c2 xs2 ww (h2_25.below hw) hn2)
                    have Z3 := Lib.hid (fun (ww : World) (hw : Below w25.heap.size w25 ww) => HTO3.out ww (h3_25.below hw))
                    have Z4 := Lib.hid (fun (ww : World) (hw : Below w25.heap.size w25 ww) => HTO4.out ww (h4_25.below hw))
                    go_upto_region 52 with fail
                    go_cut [24, 25] from 157 to 170 (fun v u wx => ∃ (oA : Option Addr) (oc : Nat), v = .slice oA VN oc ∧ u = .int .i64 C ∧ OwnSS wx w25.heap.size wx.heap.size oA VN oc VX ∧ Below w25.heap.size w25 wx)
                    case first =>
                      go_region_held3 (fun w' => w'.cell? ⟨w.heap.size, 0, none⟩ = some (.int .i64 L0) ∧ w'.cell? ⟨w.heap.size, 1, none⟩ = some (.slice A0 n0 c0) ∧ w'.cell? ⟨w.heap.size + 1, 0, none⟩ = some (.int .i64 L1) ∧ w'.cell? ⟨w.heap.size + 1, 1, none⟩ = some (.slice A1 n1 c1) ∧ w'.cell? ⟨w.heap.size + 1 + 1, 0, none⟩ = some (.int .i64 L2) ∧ w'.cell? ⟨w.heap.size + 1 + 1, 1, none⟩ = some (.slice A2 n2 c2)) (first | exact hcd | exact HS9.out _ hcur | go_keep) (first | (go_at_call 16; first | ((with_reducible refine (Z0.out _ hcur).mono ?_); rintro e wz0 ⟨g0, k0, rfl, -, oc0, hb0⟩; have hcz := hcur.size; have hcur := hcur.trans (hb0.mono hcz)) | ((with_reducible refine (Z1.out _ hcur).mono ?_); rintro e wz1 ⟨g1, k1, rfl, -, oc1, hb1⟩; have oc0 := oc0.below hb1; have hcz := hcur.size; have hcur := hcur.trans (hb1.mono hcz)) | ((with_reducible refine (Z2.out _ hcur).mono ?_); rintro e wz2 ⟨g2, k2, rfl, -, oc2, hb2⟩; have oc0 := oc0.below hb2; have oc1 := oc1.below hb2; have hcz := hcur.size; have hcur := hcur.trans (hb2.mono hcz))) | (go_at_call 17; first | ((with_reducible refine (Z3.out _ hcur).mono ?_); rintro e wz3 ⟨p3, k3, rfl, oc3, hb3⟩; have oc0 := oc0.below hb3; have oc1 := oc1.below hb3; have oc2 := oc2.below hb3; have hcz := hcur.size; have hcur := hcur.trans (hb3.mono hcz)) | ((with_reducible refine (Z4.out _ hcur).mono ?_); rintro e wz4 ⟨p4, k4, rfl, oc4, hb4⟩; have oc0 := oc0.below hb4; have oc1 := oc1.below hb4; have oc2 := oc2.below hb4; have oc3 := oc3.below hb4; have hcz := hcur.size; have hcur := hcur.trans (hb4.mono hcz))) | (go_at_call 32; refine (himpl _ _ _ _ _ _ _ _ _ _ _ hn0 oc0.rd hn1 oc1.rd hn2 oc2.rd hn3 (oc3.rd HSX3.out) hn4 (oc4.rd HSX4.out) (T_25.below hcur)).mono ?_; rintro e wF ⟨oA, occ, rfl, oho, hbF⟩; have hcz := hcur.size; have own3 := oho.wide hcz (Nat.le_refl _); have hcur := hcur.trans (hbF.mono hcz)))
                      all_goals (
                        go_wp2_with fail
                        go_meet
                        exact ⟨oA, occ, rfl, rfl, own3, hcur⟩)
                    case rest =>
                      obtain ⟨qA, qc, rfl, rfl, qho, qhb⟩ := hcut
                      obtain ⟨w26, rfl⟩ : ∃ w9 : World, w9 = wc := ⟨_, rfl⟩
                      clear hcur HS9 hcd Z0 Z1 Z2 Z3 Z4
                      obtain ⟨qlo, qe1⟩ : ∃ q : Nat, q = w25.heap.size := ⟨_, rfl⟩
                      obtain ⟨qhi, qe2⟩ : ∃ q : Nat, q = w26.heap.size := ⟨_, rfl⟩
                      have qh2 : OwnSS w26 qlo qhi qA VN qc VX := by rw [qe1, qe2]; exact qho
                      have LTq : Hid (w25.heap.size ≤ qlo ∧ qhi = w26.heap.size) := Lib.hid ⟨by rw [qe1]; exact Nat.le_refl _, qe2⟩
                      clear qho qe1 qe2
                      have B_26 := Lib.hid (B_25.out.trans (qhb.mono B_25.out.size))
                      have S_25 := Lib.hid qhb.size
                      have a0_26 := a0_25.next qhb
                      have a1_26 := a1_25.next qhb
                      have a2_26 := a2_25.next qhb
                      have h0_26 := h0_25.below qhb
                      have h1_26 := h1_25.below qhb
                      have h2_26 := h2_25.below qhb
                      have h3_26 := h3_25.below qhb
                      have h4_26 := h4_25.below qhb
                      have T_26 := T_25.below qhb
                      have o_26 := o_25.below qhb
                      have x0x_26 := x0x_25.next qhb
                      have x1x_26 := x1x_25.next qhb
                      have x2x_26 := x2x_25.next qhb
                      have g_26 := g_25.below qhb
                      clear a0_25 a1_25 a2_25 h0_25 h1_25 h2_25 h3_25 h4_25 T_25 o_25 x0x_25 x1x_25 x2x_25 g_25
                      have q_26 := qh2
                      have f300 := a0_26.c0
                      have f301 := a0_26.c1
                      have f302 := a1_26.c0
                      have f303 := a1_26.c1
                      have f304 := a2_26.c0
                      have f305 := a2_26.c1
                      have f306 := x0x_26.c0
                      have f307 := x0x_26.c1
                      have f308 := x1x_26.c0
                      have f309 := x1x_26.c1
                      have f310 := x2x_26.c0
                      have f311 := x2x_26.c1
                      go_wp2_with fail
                      refine (eqSS_true _ _ _ _ _ VX _ (q_26.rd HSM.out) (o_26.rd HSM.out) (by omega)).mono ?_
                      rintro e w27 ⟨rfl, hb299⟩
                      clear f300 f301 f302 f303 f304 f305 f306 f307 f308 f309 f310 f311
                      have B_27 := Lib.hid (B_26.out.trans (hb299.mono B_26.out.size))
                      have S_26 := Lib.hid hb299.size
                      have a0_27 := a0_26.next hb299
                      have a1_27 := a1_26.next hb299
                      have a2_27 := a2_26.next hb299
                      have h0_27 := h0_26.below hb299
                      have h1_27 := h1_26.below hb299
                      have h2_27 := h2_26.below hb299
                      have h3_27 := h3_26.below hb299
                      have h4_27 := h4_26.below hb299
                      have T_27 := T_26.below hb299
                      have o_27 := o_26.below hb299
                      have x0x_27 := x0x_26.next hb299
                      have x1x_27 := x1x_26.next hb299
                      have x2x_27 := x2x_26.next hb299
                      have g_27 := g_26.below hb299
                      have q_27 := q_26.below hb299
                      clear a0_26 a1_26 a2_26 h0_26 h1_26 h2_26 h3_26 h4_26 T_26 o_26 x0x_26 x1x_26 x2x_26 g_26 q_26
                      have f312 := a0_27.c0
                      have f313 := a0_27.c1
                      have f314 := a1_27.c0
                      have f315 := a1_27.c1
                      have f316 := a2_27.c0
                      have f317 := a2_27.c1
                      have f318 := x0x_27.c0
                      have f319 := x0x_27.c1
                      have f320 := x1x_27.c0
                      have f321 := x1x_27.c1
                      have f322 := x2x_27.c0
                      have f323 := x2x_27.c1
                      go_wp2_with fail
                      refine (heldSS_one _ _ _ VX _ (g_27.rd HSM2.out) HSV.out hVS hVN).mono ?_
                      rintro e w' ⟨rfl, rfl⟩
                      clear f312 f313 f314 f315 f316 f317 f318 f319 f320 f321 f322 f323
                      have f324 := a0_27.c0
                      have f325 := a0_27.c1
                      have f326 := a1_27.c0
                      have f327 := a1_27.c1
                      have f328 := a2_27.c0
                      have f329 := a2_27.c1
                      have f330 := x0x_27.c0
                      have f331 := x0x_27.c1
                      have f332 := x1x_27.c0
                      have f333 := x1x_27.c1
                      have f334 := x2x_27.c0
                      have f335 := x2x_27.c1
                      go_wp2_with fail
                      go_ret
                      exact ⟨rfl, B_27.out⟩
          · go_enter Tryd.func6, Tryd.ntmps6
            go_wp2_with fail
            rw [← hw0]
            refine (sz_law L0 A0 n0 c0 _ hs0).mono ?_
            rintro e w1 ⟨rfl, hz0⟩
            have B_1 := Lib.hid (B_0.out.trans (hz0.mono B_0.out.size))
            have S_0 := Lib.hid hz0.size
            have a0_1 := a0_0.next hz0
            have a1_1 := a1_0.next hz0
            have a2_1 := a2_0.next hz0
            have h0_1 := h0_0.below hz0
            have h1_1 := h1_0.below hz0
            have h2_1 := h2_0.below hz0
            have h3_1 := h3_0.below hz0
            have h4_1 := h4_0.below hz0
            have T_1 := T_0.below hz0
            clear a0_0 a1_0 a2_0 h0_0 h1_0 h2_0 h3_0 h4_0 T_0
            have f336 := a0_1.c0
            have f337 := a0_1.c1
            have f338 := a1_1.c0
            have f339 := a1_1.c1
            have f340 := a2_1.c0
            have f341 := a2_1.c1
            go_wp2_with fail
            refine (sz_any L1 A1 n1 c1 (1048576 - n0) _ hs1 (by omega)).mono ?_
            rintro e w2 ⟨rfl, hz1⟩
            clear f336 f337 f338 f339 f340 f341
            have B_2 := Lib.hid (B_1.out.trans (hz1.mono B_1.out.size))
            have S_1 := Lib.hid hz1.size
            have a0_2 := a0_1.next hz1
            have a1_2 := a1_1.next hz1
            have a2_2 := a2_1.next hz1
            have h0_2 := h0_1.below hz1
            have h1_2 := h1_1.below hz1
            have h2_2 := h2_1.below hz1
            have h3_2 := h3_1.below hz1
            have h4_2 := h4_1.below hz1
            have T_2 := T_1.below hz1
            clear a0_1 a1_1 a2_1 h0_1 h1_1 h2_1 h3_1 h4_1 T_1
            have f342 := a0_2.c0
            have f343 := a0_2.c1
            have f344 := a1_2.c0
            have f345 := a1_2.c1
            have f346 := a2_2.c0
            have f347 := a2_2.c1
            go_wp2_with fail
            refine (sz_any L2 A2 n2 c2 ((1048576 - n0 - n1)) _ hs2 (by omega)).mono ?_
            rintro e w3 ⟨rfl, hz2⟩
            clear f342 f343 f344 f345 f346 f347
            have B_3 := Lib.hid (B_2.out.trans (hz2.mono B_2.out.size))
            have S_2 := Lib.hid hz2.size
            have a0_3 := a0_2.next hz2
            have a1_3 := a1_2.next hz2
            have a2_3 := a2_2.next hz2
            have h0_3 := h0_2.below hz2
            have h1_3 := h1_2.below hz2
            have h2_3 := h2_2.below hz2
            have h3_3 := h3_2.below hz2
            have h4_3 := h4_2.below hz2
            have T_3 := T_2.below hz2
            clear a0_2 a1_2 a2_2 h0_2 h1_2 h2_2 h3_2 h4_2 T_2
            have HSZ3 := Lib.hid (szSS_any A3 n3 c3 ((((1048576 - n0) - n1) - n2)) ts3 _ h3_3 (by omega) hlm3)
            rw [if_pos hs3] at HSZ3
            have f348 := a0_3.c0
            have f349 := a0_3.c1
            have f350 := a1_3.c0
            have f351 := a1_3.c1
            have f352 := a2_3.c0
            have f353 := a2_3.c1
            go_wp2_with fail
            refine HSZ3.out.mono ?_
            rintro e w' ⟨rfl, rfl⟩
            clear f348 f349 f350 f351 f352 f353
            clear HSZ3
            have HSZ4 := Lib.hid (szSS_any A4 n4 c4 (((((1048576 - n0) - n1) - n2) - (n3 + sumT ts3))) ts4 _ h4_3 (by omega) hlm4)
            rw [if_neg hs4] at HSZ4
            have f354 := a0_3.c0
            have f355 := a0_3.c1
            have f356 := a1_3.c0
            have f357 := a1_3.c1
            have f358 := a2_3.c0
            have f359 := a2_3.c1
            go_wp2_with fail
            refine HSZ4.out.mono ?_
            rintro e w' ⟨rfl, rfl⟩
            clear f354 f355 f356 f357 f358 f359
            clear HSZ4
            go_wp2_with fail
            go_ret
            exact ⟨rfl, B_3.out⟩
        · go_enter Tryd.func6, Tryd.ntmps6
          go_wp2_with fail
          rw [← hw0]
          refine (sz_law L0 A0 n0 c0 _ hs0).mono ?_
          rintro e w1 ⟨rfl, hz0⟩
          have B_1 := Lib.hid (B_0.out.trans (hz0.mono B_0.out.size))
          have S_0 := Lib.hid hz0.size
          have a0_1 := a0_0.next hz0
          have a1_1 := a1_0.next hz0
          have a2_1 := a2_0.next hz0
          have h0_1 := h0_0.below hz0
          have h1_1 := h1_0.below hz0
          have h2_1 := h2_0.below hz0
          have h3_1 := h3_0.below hz0
          have h4_1 := h4_0.below hz0
          have T_1 := T_0.below hz0
          clear a0_0 a1_0 a2_0 h0_0 h1_0 h2_0 h3_0 h4_0 T_0
          have f360 := a0_1.c0
          have f361 := a0_1.c1
          have f362 := a1_1.c0
          have f363 := a1_1.c1
          have f364 := a2_1.c0
          have f365 := a2_1.c1
          go_wp2_with fail
          refine (sz_any L1 A1 n1 c1 (1048576 - n0) _ hs1 (by omega)).mono ?_
          rintro e w2 ⟨rfl, hz1⟩
          clear f360 f361 f362 f363 f364 f365
          have B_2 := Lib.hid (B_1.out.trans (hz1.mono B_1.out.size))
          have S_1 := Lib.hid hz1.size
          have a0_2 := a0_1.next hz1
          have a1_2 := a1_1.next hz1
          have a2_2 := a2_1.next hz1
          have h0_2 := h0_1.below hz1
          have h1_2 := h1_1.below hz1
          have h2_2 := h2_1.below hz1
          have h3_2 := h3_1.below hz1
          have h4_2 := h4_1.below hz1
          have T_2 := T_1.below hz1
          clear a0_1 a1_1 a2_1 h0_1 h1_1 h2_1 h3_1 h4_1 T_1
          have f366 := a0_2.c0
          have f367 := a0_2.c1
          have f368 := a1_2.c0
          have f369 := a1_2.c1
          have f370 := a2_2.c0
          have f371 := a2_2.c1
          go_wp2_with fail
          refine (sz_any L2 A2 n2 c2 ((1048576 - n0 - n1)) _ hs2 (by omega)).mono ?_
          rintro e w3 ⟨rfl, hz2⟩
          clear f366 f367 f368 f369 f370 f371
          have B_3 := Lib.hid (B_2.out.trans (hz2.mono B_2.out.size))
          have S_2 := Lib.hid hz2.size
          have a0_3 := a0_2.next hz2
          have a1_3 := a1_2.next hz2
          have a2_3 := a2_2.next hz2
          have h0_3 := h0_2.below hz2
          have h1_3 := h1_2.below hz2
          have h2_3 := h2_2.below hz2
          have h3_3 := h3_2.below hz2
          have h4_3 := h4_2.below hz2
          have T_3 := T_2.below hz2
          clear a0_2 a1_2 a2_2 h0_2 h1_2 h2_2 h3_2 h4_2 T_2
          have HSZ3 := Lib.hid (szSS_any A3 n3 c3 ((((1048576 - n0) - n1) - n2)) ts3 _ h3_3 (by omega) hlm3)
          rw [if_neg hs3] at HSZ3
          have f372 := a0_3.c0
          have f373 := a0_3.c1
          have f374 := a1_3.c0
          have f375 := a1_3.c1
          have f376 := a2_3.c0
          have f377 := a2_3.c1
          go_wp2_with fail
          refine HSZ3.out.mono ?_
          rintro e w' ⟨rfl, rfl⟩
          clear f372 f373 f374 f375 f376 f377
          clear HSZ3
          go_wp2_with fail
          go_ret
          exact ⟨rfl, B_3.out⟩
      · go_enter Tryd.func6, Tryd.ntmps6
        go_wp2_with fail
        rw [← hw0]
        refine (sz_law L0 A0 n0 c0 _ hs0).mono ?_
        rintro e w1 ⟨rfl, hz0⟩
        have B_1 := Lib.hid (B_0.out.trans (hz0.mono B_0.out.size))
        have S_0 := Lib.hid hz0.size
        have a0_1 := a0_0.next hz0
        have a1_1 := a1_0.next hz0
        have a2_1 := a2_0.next hz0
        have h0_1 := h0_0.below hz0
        have h1_1 := h1_0.below hz0
        have h2_1 := h2_0.below hz0
        have h3_1 := h3_0.below hz0
        have h4_1 := h4_0.below hz0
        have T_1 := T_0.below hz0
        clear a0_0 a1_0 a2_0 h0_0 h1_0 h2_0 h3_0 h4_0 T_0
        have f378 := a0_1.c0
        have f379 := a0_1.c1
        have f380 := a1_1.c0
        have f381 := a1_1.c1
        have f382 := a2_1.c0
        have f383 := a2_1.c1
        go_wp2_with fail
        refine (sz_any L1 A1 n1 c1 (1048576 - n0) _ hs1 (by omega)).mono ?_
        rintro e w2 ⟨rfl, hz1⟩
        clear f378 f379 f380 f381 f382 f383
        have B_2 := Lib.hid (B_1.out.trans (hz1.mono B_1.out.size))
        have S_1 := Lib.hid hz1.size
        have a0_2 := a0_1.next hz1
        have a1_2 := a1_1.next hz1
        have a2_2 := a2_1.next hz1
        have h0_2 := h0_1.below hz1
        have h1_2 := h1_1.below hz1
        have h2_2 := h2_1.below hz1
        have h3_2 := h3_1.below hz1
        have h4_2 := h4_1.below hz1
        have T_2 := T_1.below hz1
        clear a0_1 a1_1 a2_1 h0_1 h1_1 h2_1 h3_1 h4_1 T_1
        have f384 := a0_2.c0
        have f385 := a0_2.c1
        have f386 := a1_2.c0
        have f387 := a1_2.c1
        have f388 := a2_2.c0
        have f389 := a2_2.c1
        go_wp2_with fail
        refine (szno_m L2 A2 n2 c2 ((1048576 - n0 - n1)) _ (by omega) (by omega) hm2).mono ?_
        rintro e w3 ⟨rfl, hz2⟩
        clear f384 f385 f386 f387 f388 f389
        have B_3 := Lib.hid (B_2.out.trans (hz2.mono B_2.out.size))
        have S_2 := Lib.hid hz2.size
        have a0_3 := a0_2.next hz2
        have a1_3 := a1_2.next hz2
        have a2_3 := a2_2.next hz2
        have h0_3 := h0_2.below hz2
        have h1_3 := h1_2.below hz2
        have h2_3 := h2_2.below hz2
        have h3_3 := h3_2.below hz2
        have h4_3 := h4_2.below hz2
        have T_3 := T_2.below hz2
        clear a0_2 a1_2 a2_2 h0_2 h1_2 h2_2 h3_2 h4_2 T_2
        go_wp2_with fail
        go_ret
        exact ⟨rfl, B_3.out⟩
    · go_enter Tryd.func6, Tryd.ntmps6
      go_wp2_with fail
      rw [← hw0]
      refine (sz_law L0 A0 n0 c0 _ hs0).mono ?_
      rintro e w1 ⟨rfl, hz0⟩
      have B_1 := Lib.hid (B_0.out.trans (hz0.mono B_0.out.size))
      have S_0 := Lib.hid hz0.size
      have a0_1 := a0_0.next hz0
      have a1_1 := a1_0.next hz0
      have a2_1 := a2_0.next hz0
      have h0_1 := h0_0.below hz0
      have h1_1 := h1_0.below hz0
      have h2_1 := h2_0.below hz0
      have h3_1 := h3_0.below hz0
      have h4_1 := h4_0.below hz0
      have T_1 := T_0.below hz0
      clear a0_0 a1_0 a2_0 h0_0 h1_0 h2_0 h3_0 h4_0 T_0
      have f390 := a0_1.c0
      have f391 := a0_1.c1
      have f392 := a1_1.c0
      have f393 := a1_1.c1
      have f394 := a2_1.c0
      have f395 := a2_1.c1
      go_wp2_with fail
      refine (szno_m L1 A1 n1 c1 (1048576 - n0) _ (by omega) (by omega) hm1).mono ?_
      rintro e w2 ⟨rfl, hz1⟩
      clear f390 f391 f392 f393 f394 f395
      have B_2 := Lib.hid (B_1.out.trans (hz1.mono B_1.out.size))
      have S_1 := Lib.hid hz1.size
      have a0_2 := a0_1.next hz1
      have a1_2 := a1_1.next hz1
      have a2_2 := a2_1.next hz1
      have h0_2 := h0_1.below hz1
      have h1_2 := h1_1.below hz1
      have h2_2 := h2_1.below hz1
      have h3_2 := h3_1.below hz1
      have h4_2 := h4_1.below hz1
      have T_2 := T_1.below hz1
      clear a0_1 a1_1 a2_1 h0_1 h1_1 h2_1 h3_1 h4_1 T_1
      go_wp2_with fail
      go_ret
      exact ⟨rfl, B_2.out⟩
  · go_enter Tryd.func6, Tryd.ntmps6
    go_wp2_with fail
    rw [← hw0]
    refine (szno_any L0 A0 n0 c0 _ (by omega) hm0).mono ?_
    rintro e w1 ⟨rfl, hz0⟩
    have B_1 := Lib.hid (B_0.out.trans (hz0.mono B_0.out.size))
    have S_0 := Lib.hid hz0.size
    have a0_1 := a0_0.next hz0
    have a1_1 := a1_0.next hz0
    have a2_1 := a2_0.next hz0
    have h0_1 := h0_0.below hz0
    have h1_1 := h1_0.below hz0
    have h2_1 := h2_0.below hz0
    have h3_1 := h3_0.below hz0
    have h4_1 := h4_0.below hz0
    have T_1 := T_0.below hz0
    clear a0_0 a1_0 a2_0 h0_0 h1_0 h2_0 h3_0 h4_0 T_0
    go_wp2_with fail
    go_ret
    exact ⟨rfl, B_1.out⟩
end Go.Proofs.YtdafdffmkjhhcaaDoor

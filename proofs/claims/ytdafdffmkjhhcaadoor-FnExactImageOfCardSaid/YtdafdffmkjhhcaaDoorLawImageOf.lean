/-
  The walk of FnExactImageOf, over contracts of both sides.
-/
import Derived.Test.YtdafdffmkjhhcaaDoorMoI
import Derived.Test.YtdafdffmkjhhcaaDoorAlphB
import Derived.Deep.CutRange
import Derived.Deep.RegionWith
import Derived.Test.YtdafdffmkjhhcaaDoorLsb
import Derived.Deep.RegionHeld3
namespace Go.Proofs.YtdafdffmkjhhcaaDoor
open Go.RowKit
set_option linter.unusedVariables false
set_option maxRecDepth 100000
set_option maxHeartbeats 25600000 in
theorem lawImageOf (L0 : Int) (A0 : Option Addr) (n0 c0 : Nat) (xs0 : List Int) (L1 : Int) (A1 : Option Addr) (n1 c1 : Nat) (xs1 : List Int) (A2 : Option Addr) (n2 c2 : Nat) (ts2 : List (Option Addr × Nat × Nat × List Int)) (xs2 : List (List Int)) (hX2 : ts2.map (fun t => t.2.2.2) = xs2) (A3 : Option Addr) (n3 c3 : Nat) (xs3 : List Int) (w : World) (hL01 : -9223372036854775808 ≤ L0) (hL02 : L0 ≤ 9223372036854775807) (h0 : Rd w A0 n0 xs0) (hwf0 : Wf xs0) (hl0 : n0 ≤ maxLen) (hL11 : -9223372036854775808 ≤ L1) (hL12 : L1 ≤ 9223372036854775807) (h1 : Rd w A1 n1 xs1) (hwf1 : Wf xs1) (hl1 : n1 ≤ maxLen) (h2 : RdT w A2 n2 ts2) (hwf2 : ∀ t, t ∈ ts2 → Wf t.2.2.2) (hl2 : n2 ≤ maxLen) (h3 : Rd w A3 n3 xs3) (hwf3 : Wf xs3) (hl3 : n3 ≤ maxLen) (hT : Tab w) (VN : Nat) (VX : List Int) (C : Int) (hVN : VN ≤ 1048576)
    (hspec : ∀ (B0 : Option Addr) (d0 : Nat) (B1 : Option Addr) (d1 : Nat) (B2 : Option Addr) (d2 : Nat) (B3 : Option Addr) (d3 : Nat) (w' : World), n0 ≤ 1048576 → Rd w' B0 n0 xs0 → n1 ≤ 1048576 → Rd w' B1 n1 xs1 → n2 ≤ 1048576 → RdSS w' B2 n2 xs2 → n3 ≤ 1048576 → Rd w' B3 n3 xs3 → Calls Tryd.prog 21 #[.agg #[.int .i64 L0, .slice B0 n0 d0], .agg #[.int .i64 L1, .slice B1 n1 d1], .slice B2 n2 d2, .slice B3 n3 d3] w' (LsPost w' VN VX C))
    (himpl : ∀ (B0 : Option Addr) (d0 : Nat) (B1 : Option Addr) (d1 : Nat) (B2 : Option Addr) (d2 : Nat) (B3 : Option Addr) (d3 : Nat) (w' : World), n0 ≤ 1048576 → Rd w' B0 n0 xs0 → n1 ≤ 1048576 → Rd w' B1 n1 xs1 → n2 ≤ 1048576 → RdSS w' B2 n2 xs2 → n3 ≤ 1048576 → Rd w' B3 n3 xs3 → Tab w' → Calls Tryd.prog 23 #[.agg #[.int .i64 L0, .slice B0 n0 d0], .agg #[.int .i64 L1, .slice B1 n1 d1], .slice B2 n2 d2, .slice B3 n3 d3] w' (LsPost w' VN VX C)) :
    Calls Tryd.prog 4 #[.agg #[.int .i64 L0, .slice A0 n0 c0], .agg #[.int .i64 L1, .slice A1 n1 c1], .slice A2 n2 c2, .slice A3 n3 c3] w fun e w' => e = .returned (.bool true) ∧ Below w.heap.size w w' := by
  have hlm2 := hl2
  unfold maxLen at hl0
  have hm0 : n0 ≤ 9223372036854775807 := by omega
  unfold maxLen at hl1
  have hm1 : n1 ≤ 9223372036854775807 := by omega
  unfold maxLen at hl2
  have hm2 : n2 ≤ 9223372036854775807 := by omega
  unfold maxLen at hl3
  have hm3 : n3 ≤ 9223372036854775807 := by omega
  obtain ⟨w0, hw0⟩ : ∃ w0 : World, w0 = ((w.alloc (.cells #[.int .i64 L0, .slice A0 n0 c0] 24)).alloc (.cells #[.int .i64 L1, .slice A1 n1 c1] 24)) := ⟨_, rfl⟩
  have B_0 := Lib.hid (show Below w.heap.size w w0 by rw [hw0]; exact below2 w _ _)
  have S0_ : Hid (w0.heap.size = w.heap.size + 2) := Lib.hid (by rw [hw0]; simp)
  have a0_0 : Box 24 w0 (w.heap.size) L0 A0 n0 c0 := by rw [hw0]; have h9 := box_new 24 w L0 A0 n0 c0; have h8 : Box 24 (w.alloc (.cells #[.int .i64 L0, .slice A0 n0 c0] 24)) (w.heap.size) L0 A0 n0 c0 := (by simpa using h9); exact h8.next (below1 _ _)
  have a1_0 : Box 24 w0 (w.heap.size + 1) L1 A1 n1 c1 := by rw [hw0]; have h9 := box_new 24 (w.alloc (.cells #[.int .i64 L0, .slice A0 n0 c0] 24)) L1 A1 n1 c1; have h8 : Box 24 ((w.alloc (.cells #[.int .i64 L0, .slice A0 n0 c0] 24)).alloc (.cells #[.int .i64 L1, .slice A1 n1 c1] 24)) (w.heap.size + 1) L1 A1 n1 c1 := (by simpa using h9); exact h8
  have h0_0 := h0.below B_0.out
  have h1_0 := h1.below B_0.out
  have h2_0 := h2.below B_0.out
  have h3_0 := h3.below B_0.out
  have T_0 := hT.below B_0.out
  by_cases hs3 : n3 ≤ 1048576
  · by_cases hs0 : n0 ≤ 1048576
    · by_cases hs1 : n1 ≤ 1048576 - n0
      · by_cases hs2 : n2 + sumT ts2 ≤ ((1048576 - n0) - n1)
        · have hn0 : n0 ≤ 1048576 := by omega
          have hn1 : n1 ≤ 1048576 := by omega
          have hn2 : n2 ≤ 1048576 := by omega
          have hn3 : n3 ≤ 1048576 := by omega
          have hsl2 : sumL xs2 = sumT ts2 := by rw [← hX2]; exact sumL_sumT h2
          obtain ⟨SX2, hSX2⟩ : ∃ S, S = sumL xs2 := ⟨_, rfl⟩
          have hSXb2 : SX2 ≤ 1048576 := by omega
          have HSV2 := Lib.hid hSX2.symm
          have HSX2 := Lib.hid (ss_small hSX2.symm hSXb2)
          have hts2 : ∀ t, t ∈ ts2 → t.2.1 ≤ 1048576 := fun t ht => by have := sumT_mem ts2 t ht; omega
          have HTO2 := Lib.hid (fun (ww : World) (hw : RdT ww A2 n2 ts2) => toSS_any A2 n2 c2 ts2 ww hw hn2 hts2)
          rw [hX2] at HTO2
          clear hts2 hsl2 hSX2
          clear hX2
          go_enter Tryd.func4, Tryd.ntmps4
          go_wp2_with fail
          rw [← hw0]
          refine (sz_law L0 A0 n0 c0 _ hs0).mono ?_
          rintro e w1 ⟨rfl, hz0⟩
          have B_1 := Lib.hid (B_0.out.trans (hz0.mono B_0.out.size))
          have S_0 := Lib.hid hz0.size
          have a0_1 := a0_0.next hz0
          have a1_1 := a1_0.next hz0
          have h0_1 := h0_0.below hz0
          have h1_1 := h1_0.below hz0
          have h2_1 := h2_0.below hz0
          have h3_1 := h3_0.below hz0
          have T_1 := T_0.below hz0
          clear a0_0 a1_0 h0_0 h1_0 h2_0 h3_0 T_0
          have f1 := a0_1.c0
          have f2 := a0_1.c1
          have f3 := a1_1.c0
          have f4 := a1_1.c1
          go_wp2_with fail
          refine (sz_any L1 A1 n1 c1 (1048576 - n0) _ hs1 (by omega)).mono ?_
          rintro e w2 ⟨rfl, hz1⟩
          clear f1 f2 f3 f4
          have B_2 := Lib.hid (B_1.out.trans (hz1.mono B_1.out.size))
          have S_1 := Lib.hid hz1.size
          have a0_2 := a0_1.next hz1
          have a1_2 := a1_1.next hz1
          have h0_2 := h0_1.below hz1
          have h1_2 := h1_1.below hz1
          have h2_2 := h2_1.below hz1
          have h3_2 := h3_1.below hz1
          have T_2 := T_1.below hz1
          clear a0_1 a1_1 h0_1 h1_1 h2_1 h3_1 T_1
          have HSZ2 := Lib.hid (szSS_any A2 n2 c2 (((1048576 - n0) - n1)) ts2 _ h2_2 (by omega) hlm2)
          rw [if_pos hs2] at HSZ2
          have f5 := a0_2.c0
          have f6 := a0_2.c1
          have f7 := a1_2.c0
          have f8 := a1_2.c1
          go_wp2_with fail
          refine HSZ2.out.mono ?_
          rintro e w' ⟨rfl, rfl⟩
          clear f5 f6 f7 f8
          clear HSZ2
          have hcur : Below w2.heap.size w2 w2.drew := (Below.refl _ _).drew
          have HS9 : Hid (∀ w', Below w2.heap.size w2 w' → w'.cell? ⟨w.heap.size, 0, none⟩ = some (.int .i64 L0) ∧ w'.cell? ⟨w.heap.size, 1, none⟩ = some (.slice A0 n0 c0) ∧ w'.cell? ⟨w.heap.size + 1, 0, none⟩ = some (.int .i64 L1) ∧ w'.cell? ⟨w.heap.size + 1, 1, none⟩ = some (.slice A1 n1 c1)) := Lib.hid (fun w' hw => ⟨(a0_2.next hw).c0, (a0_2.next hw).c1, (a1_2.next hw).c0, (a1_2.next hw).c1⟩)
          have hcd := HS9.out _ hcur
          have Z0 := Lib.hid (fun (ww : World) (hw : Below w2.heap.size w2 ww) => toAl_any L0 A0 n0 c0 xs0 ww (h0_2.below hw) hn0)
          have Z1 := Lib.hid (fun (ww : World) (hw : Below w2.heap.size w2 ww) => toAl_any L1 A1 n1 c1 xs1 ww (h1_2.below hw) hn1)
          have Z2 := Lib.hid (fun (ww : World) (hw : Below w2.heap.size w2 ww) => HTO2.out ww (h2_2.below hw))
          have Z3 := Lib.hid (fun (ww : World) (hw : Below w2.heap.size w2 ww) => toInt_any A3 n3 c3 xs3 ww (h3_2.below hw) hn3)
          go_upto_region 13 with fail
          go_cut [10, 11] from 41 to 52 (fun v u wx => ∃ (oA : Option Addr) (oc : Nat), v = .slice oA VN oc ∧ u = .int .i64 C ∧ Own 2 wx w2.heap.size oA VN oc VX ∧ Below w2.heap.size w2 wx)
          case first =>
            go_region_held3 (fun w' => w'.cell? ⟨w.heap.size, 0, none⟩ = some (.int .i64 L0) ∧ w'.cell? ⟨w.heap.size, 1, none⟩ = some (.slice A0 n0 c0) ∧ w'.cell? ⟨w.heap.size + 1, 0, none⟩ = some (.int .i64 L1) ∧ w'.cell? ⟨w.heap.size + 1, 1, none⟩ = some (.slice A1 n1 c1)) (first | exact hcd | exact HS9.out _ hcur | go_keep) (first | (go_at_call 16; first | ((with_reducible refine (Z0.out _ hcur).mono ?_); rintro e wz0 ⟨g0, k0, rfl, -, oc0, hb0⟩; have hcz := hcur.size; have hcur := hcur.trans (hb0.mono hcz)) | ((with_reducible refine (Z1.out _ hcur).mono ?_); rintro e wz1 ⟨g1, k1, rfl, -, oc1, hb1⟩; have oc0 := oc0.below hb1; have hcz := hcur.size; have hcur := hcur.trans (hb1.mono hcz))) | (go_at_call 17; first | ((with_reducible refine (Z2.out _ hcur).mono ?_); rintro e wz2 ⟨p2, k2, rfl, oc2, hb2⟩; have oc0 := oc0.below hb2; have oc1 := oc1.below hb2; have hcz := hcur.size; have hcur := hcur.trans (hb2.mono hcz))) | (go_at_call 22; first | ((with_reducible refine (Z3.out _ hcur).mono ?_); rintro e wz3 ⟨k3, rfl, oc3, hb3⟩; have oc0 := oc0.below hb3; have oc1 := oc1.below hb3; have oc2 := oc2.below hb3; have hcz := hcur.size; have hcur := hcur.trans (hb3.mono hcz))) | (go_at_call 21; refine (hspec _ _ _ _ _ _ _ _ _ hn0 oc0.rd hn1 oc1.rd hn2 (oc2.rd HSX2.out) hn3 oc3.rd).mono ?_; rintro e wF ⟨oA, occ, rfl, oho, hbF⟩; have hcz := hcur.size; have own3 := oho.mono hcz; have hcur := hcur.trans (hbF.mono hcz)))
            all_goals (
              go_wp2_with fail
              go_meet
              exact ⟨oA, occ, rfl, rfl, own3, hcur⟩)
          case rest =>
            obtain ⟨oA, oc, rfl, rfl, oho, ohb⟩ := hcut
            obtain ⟨w3, rfl⟩ : ∃ w9 : World, w9 = wc := ⟨_, rfl⟩
            clear hcur HS9 hcd Z0 Z1 Z2 Z3
            have LTo : Hid (∀ k, (oA : Option Addr).map (·.block) = some k → w2.heap.size ≤ k ∧ k < w3.heap.size) := Lib.hid (fun k hk => oho.lt k hk)
            have B_3 := Lib.hid (B_2.out.trans (ohb.mono B_2.out.size))
            have S_2 := Lib.hid ohb.size
            have a0_3 := a0_2.next ohb
            have a1_3 := a1_2.next ohb
            have h0_3 := h0_2.below ohb
            have h1_3 := h1_2.below ohb
            have h2_3 := h2_2.below ohb
            have h3_3 := h3_2.below ohb
            have T_3 := T_2.below ohb
            clear a0_2 a1_2 h0_2 h1_2 h2_2 h3_2 T_2
            have o_3 := oho
            have f9 := a0_3.c0
            have f10 := a0_3.c1
            have f11 := a1_3.c0
            have f12 := a1_3.c1
            go_wp2_with fail
            refine (toAl_any L0 _ n0 _ xs0 _ h0_3 hn0).mono ?_
            rintro e w4 ⟨x0g, x0c, rfl, x0hg, x0ho, x0hb⟩
            clear f9 f10 f11 f12
            obtain ⟨x0A, x0e⟩ : ∃ x0A : Option Addr, x0A = (some ⟨x0g, 0, none⟩) := ⟨_, rfl⟩
            rw [← x0e] at x0ho ⊢
            clear x0e
            have LTx0 : Hid (∀ k, (x0A : Option Addr).map (·.block) = some k → w3.heap.size ≤ k ∧ k < w4.heap.size) := Lib.hid (fun k hk => x0ho.lt k hk)
            have B_4 := Lib.hid (B_3.out.trans (x0hb.mono B_3.out.size))
            have S_3 := Lib.hid x0hb.size
            have a0_4 := a0_3.next x0hb
            have a1_4 := a1_3.next x0hb
            have h0_4 := h0_3.below x0hb
            have h1_4 := h1_3.below x0hb
            have h2_4 := h2_3.below x0hb
            have h3_4 := h3_3.below x0hb
            have T_4 := T_3.below x0hb
            have o_4 := o_3.below x0hb
            clear a0_3 a1_3 h0_3 h1_3 h2_3 h3_3 T_3 o_3
            have x0_4 := x0ho
            have kp_4 := below1 w4 (.cells #[.int .i64 L0, .slice x0A n0 x0c] 29)
            have f13 := a0_4.c0
            have f14 := a0_4.c1
            have f15 := (a0_4.next kp_4).c0
            have f16 := (a0_4.next kp_4).c1
            have f17 := a1_4.c0
            have f18 := a1_4.c1
            have f19 := (a1_4.next kp_4).c0
            have f20 := (a1_4.next kp_4).c1
            go_wp2_with fail
            refine (toAl_any L1 _ n1 _ xs1 _ (h1_4.below kp_4) hn1).mono ?_
            rintro e w5 ⟨x1g, x1c, rfl, x1hg, x1ho, x1hb⟩
            clear f13 f14 f15 f16 f17 f18 f19 f20
            obtain ⟨x1A, x1e⟩ : ∃ x1A : Option Addr, x1A = (some ⟨x1g, 0, none⟩) := ⟨_, rfl⟩
            rw [← x1e] at x1ho ⊢
            clear x1e
            have LTx1 : Hid (∀ k, (x1A : Option Addr).map (·.block) = some k → w4.heap.size + 1 ≤ k ∧ k < w5.heap.size) := Lib.hid (fun k hk => by have h9 := x1ho.lt k hk; have e9 : (w4.alloc (.cells #[.int .i64 L0, .slice x0A n0 x0c] 29)).heap.size = w4.heap.size + 1 := (by simp); omega)
            have hbb_4 := kp_4.trans (x1hb.mono kp_4.size)
            have B_5 := Lib.hid (B_4.out.trans (hbb_4.mono B_4.out.size))
            have S_4 : Hid (w4.heap.size + 1 ≤ w5.heap.size) := Lib.hid (by have h9 := x1hb.size; have e9 : (w4.alloc (.cells #[.int .i64 L0, .slice x0A n0 x0c] 29)).heap.size = w4.heap.size + 1 := (by simp); omega)
            have a0_5 := a0_4.next hbb_4
            have a1_5 := a1_4.next hbb_4
            have h0_5 := h0_4.below hbb_4
            have h1_5 := h1_4.below hbb_4
            have h2_5 := h2_4.below hbb_4
            have h3_5 := h3_4.below hbb_4
            have T_5 := T_4.below hbb_4
            have o_5 := o_4.below hbb_4
            have x0_5 := x0_4.below hbb_4
            have x0x_5 := (box_new 29 w4 L0 x0A n0 x0c).next x1hb
            clear a0_4 a1_4 h0_4 h1_4 h2_4 h3_4 T_4 o_4 x0_4
            have x1_5 := x1ho.mono kp_4.size
            have kp_5 := below1 w5 (.cells #[.int .i64 L1, .slice x1A n1 x1c] 29)
            have f21 := a0_5.c0
            have f22 := a0_5.c1
            have f23 := (a0_5.next kp_5).c0
            have f24 := (a0_5.next kp_5).c1
            have f25 := a1_5.c0
            have f26 := a1_5.c1
            have f27 := (a1_5.next kp_5).c0
            have f28 := (a1_5.next kp_5).c1
            have f29 := x0x_5.c0
            have f30 := x0x_5.c1
            have f31 := (x0x_5.next kp_5).c0
            have f32 := (x0x_5.next kp_5).c1
            go_wp2_with fail
            refine (HTO2.out _ (h2_5.below kp_5)).mono ?_
            rintro e w6 ⟨x2A, x2c, rfl, x2ho, x2hb⟩
            clear f21 f22 f23 f24 f25 f26 f27 f28 f29 f30 f31 f32
            obtain ⟨x2lo, x2e1⟩ : ∃ q : Nat, q = (w5.alloc (.cells #[.int .i64 L1, .slice x1A n1 x1c] 29)).heap.size := ⟨_, rfl⟩
            obtain ⟨x2hi, x2e2⟩ : ∃ q : Nat, q = w6.heap.size := ⟨_, rfl⟩
            have x2h2 : OwnSS w6 x2lo x2hi x2A n2 x2c xs2 := by rw [x2e1, x2e2]; exact x2ho
            have LTx2 : Hid (w5.heap.size + 1 ≤ x2lo ∧ x2hi = w6.heap.size) := Lib.hid ⟨by rw [x2e1]; simp, x2e2⟩
            clear x2ho x2e1 x2e2
            have hbb_5 := kp_5.trans (x2hb.mono kp_5.size)
            have B_6 := Lib.hid (B_5.out.trans (hbb_5.mono B_5.out.size))
            have S_5 : Hid (w5.heap.size + 1 ≤ w6.heap.size) := Lib.hid (by have h9 := x2hb.size; have e9 : (w5.alloc (.cells #[.int .i64 L1, .slice x1A n1 x1c] 29)).heap.size = w5.heap.size + 1 := (by simp); omega)
            have a0_6 := a0_5.next hbb_5
            have a1_6 := a1_5.next hbb_5
            have h0_6 := h0_5.below hbb_5
            have h1_6 := h1_5.below hbb_5
            have h2_6 := h2_5.below hbb_5
            have h3_6 := h3_5.below hbb_5
            have T_6 := T_5.below hbb_5
            have o_6 := o_5.below hbb_5
            have x0_6 := x0_5.below hbb_5
            have x0x_6 := x0x_5.next hbb_5
            have x1_6 := x1_5.below hbb_5
            have x1x_6 := (box_new 29 w5 L1 x1A n1 x1c).next x2hb
            clear a0_5 a1_5 h0_5 h1_5 h2_5 h3_5 T_5 o_5 x0_5 x0x_5 x1_5
            have x2_6 := x2h2
            have f33 := a0_6.c0
            have f34 := a0_6.c1
            have f35 := a1_6.c0
            have f36 := a1_6.c1
            have f37 := x0x_6.c0
            have f38 := x0x_6.c1
            have f39 := x1x_6.c0
            have f40 := x1x_6.c1
            go_wp2_with fail
            refine (toInt_any _ _ _ xs3 _ h3_6 hn3).mono ?_
            rintro e w7 ⟨x3c, rfl, x3ho, x3hb⟩
            clear f33 f34 f35 f36 f37 f38 f39 f40
            obtain ⟨x3A, x3e⟩ : ∃ x3A : Option Addr, x3A = (some ⟨w6.heap.size, 0, none⟩) := ⟨_, rfl⟩
            rw [← x3e] at x3ho ⊢
            clear x3e
            have LTx3 : Hid (∀ k, (x3A : Option Addr).map (·.block) = some k → w6.heap.size ≤ k ∧ k < w7.heap.size) := Lib.hid (fun k hk => x3ho.lt k hk)
            have B_7 := Lib.hid (B_6.out.trans (x3hb.mono B_6.out.size))
            have S_6 := Lib.hid x3hb.size
            have a0_7 := a0_6.next x3hb
            have a1_7 := a1_6.next x3hb
            have h0_7 := h0_6.below x3hb
            have h1_7 := h1_6.below x3hb
            have h2_7 := h2_6.below x3hb
            have h3_7 := h3_6.below x3hb
            have T_7 := T_6.below x3hb
            have o_7 := o_6.below x3hb
            have x0_7 := x0_6.below x3hb
            have x0x_7 := x0x_6.next x3hb
            have x1_7 := x1_6.below x3hb
            have x1x_7 := x1x_6.next x3hb
            have x2_7 := x2_6.below x3hb
            clear a0_6 a1_6 h0_6 h1_6 h2_6 h3_6 T_6 o_6 x0_6 x0x_6 x1_6 x1x_6 x2_6
            have x3_7 := x3ho
            have f41 := a0_7.c0
            have f42 := a0_7.c1
            have f43 := a1_7.c0
            have f44 := a1_7.c1
            have f45 := x0x_7.c0
            have f46 := x0x_7.c1
            have f47 := x1x_7.c0
            have f48 := x1x_7.c1
            go_wp2_with fail
            refine (himpl _ _ _ _ _ _ _ _ _ hn0 x0_7.rd hn1 x1_7.rd hn2 (x2_7.rd HSX2.out) hn3 x3_7.rd T_7).mono ?_
            rintro e w8 ⟨gA, gc, rfl, gho, ghb⟩
            clear f41 f42 f43 f44 f45 f46 f47 f48
            have LTg : Hid (∀ k, (gA : Option Addr).map (·.block) = some k → w7.heap.size ≤ k ∧ k < w8.heap.size) := Lib.hid (fun k hk => gho.lt k hk)
            have B_8 := Lib.hid (B_7.out.trans (ghb.mono B_7.out.size))
            have S_7 := Lib.hid ghb.size
            have a0_8 := a0_7.next ghb
            have a1_8 := a1_7.next ghb
            have h0_8 := h0_7.below ghb
            have h1_8 := h1_7.below ghb
            have h2_8 := h2_7.below ghb
            have h3_8 := h3_7.below ghb
            have T_8 := T_7.below ghb
            have o_8 := o_7.below ghb
            have x0_8 := x0_7.below ghb
            have x0x_8 := x0x_7.next ghb
            have x1_8 := x1_7.below ghb
            have x1x_8 := x1x_7.next ghb
            have x2_8 := x2_7.below ghb
            have x3_8 := x3_7.below ghb
            clear a0_7 a1_7 h0_7 h1_7 h2_7 h3_7 T_7 o_7 x0_7 x0x_7 x1_7 x1x_7 x2_7 x3_7
            have g_8 := gho
            have f50 := a0_8.c0
            have f51 := a0_8.c1
            have f52 := a1_8.c0
            have f53 := a1_8.c1
            have f54 := x0x_8.c0
            have f55 := x0x_8.c1
            have f56 := x1x_8.c0
            have f57 := x1x_8.c1
            go_wp2_with fail
            refine (eq_true _ _ _ _ _ VX _ g_8.rd o_8.rd (by omega)).mono ?_
            rintro e w9 ⟨rfl, hb49⟩
            clear f50 f51 f52 f53 f54 f55 f56 f57
            have B_9 := Lib.hid (B_8.out.trans (hb49.mono B_8.out.size))
            have S_8 := Lib.hid hb49.size
            have a0_9 := a0_8.next hb49
            have a1_9 := a1_8.next hb49
            have h0_9 := h0_8.below hb49
            have h1_9 := h1_8.below hb49
            have h2_9 := h2_8.below hb49
            have h3_9 := h3_8.below hb49
            have T_9 := T_8.below hb49
            have o_9 := o_8.below hb49
            have x0_9 := x0_8.below hb49
            have x0x_9 := x0x_8.next hb49
            have x1_9 := x1_8.below hb49
            have x1x_9 := x1x_8.next hb49
            have x2_9 := x2_8.below hb49
            have x3_9 := x3_8.below hb49
            have g_9 := g_8.below hb49
            clear a0_8 a1_8 h0_8 h1_8 h2_8 h3_8 T_8 o_8 x0_8 x0x_8 x1_8 x1x_8 x2_8 x3_8 g_8
            have f58 := a0_9.c0
            have f59 := a0_9.c1
            have f60 := a1_9.c0
            have f61 := a1_9.c1
            have f62 := x0x_9.c0
            have f63 := x0x_9.c1
            have f64 := x1x_9.c0
            have f65 := x1x_9.c1
            go_upto_region 21 with fail
            go_cut [82] from 78 to 82 (fun v wx => v = .bool false ∧ Below w9.heap.size w9 wx)
            case first =>
              have Z0 : ∀ (ww : World), Below w9.heap.size w9 ww → Calls Tryd.prog 16 #[.agg #[.int .i64 L0, .slice A0 n0 c0]] ww fun e w' => ∃ g c', e = .returned (.agg #[.int .i64 L0, .slice (some ⟨g, 0, none⟩) n0 c']) ∧ Own 2 w' ww.heap.size (some ⟨g, 0, none⟩) n0 c' xs0 ∧ Below ww.heap.size ww w' := fun ww hww => (toAl_any L0 _ n0 _ xs0 _ (h0_9.below hww) hn0).mono fun e w' ⟨g, c', he, _, ho, hb⟩ => ⟨g, c', he, ho, hb⟩
              have hdr : Below w9.heap.size w9 w9.drew := (Below.refl _ _).drew
              have rc0 := (x0x_9.next hdr).c0
              have tc0 := (a0_9.next hdr).c0
              have rc1 := (x0x_9.next hdr).c1
              have tc1 := (a0_9.next hdr).c1
              go_region_with (first | (go_at_call 16; refine (Z0 _ hdr).mono ?_; rintro e wz ⟨gz, cz, rfl, hoz, hbz⟩; have hbz2 := hdr.trans (hbz.mono hdr.size); have q0 := (x0x_9.next hbz2).c0; have q1 := (x0x_9.next hbz2).c1) | (go_at_call 19; refine (eqAl_true L0 _ _ _ _ _ xs0 _ (x0_9.below hbz2).rd hoz.rd hm0).mono ?_; rintro e wy ⟨rfl, hby⟩; have hby2 := hbz2.trans (hby.mono hbz2.size)))
              all_goals (go_wp2_with fail; go_meet; exact ⟨rfl, hby2⟩)
            case rest =>
              obtain ⟨rfl, hcb⟩ := hcut
              obtain ⟨w10, rfl⟩ : ∃ w9 : World, w9 = wc := ⟨_, rfl⟩
              clear f58 f59 f60 f61 f62 f63 f64 f65
              have B_10 := Lib.hid (B_9.out.trans (hcb.mono B_9.out.size))
              have S_9 := Lib.hid hcb.size
              have a0_10 := a0_9.next hcb
              have a1_10 := a1_9.next hcb
              have h0_10 := h0_9.below hcb
              have h1_10 := h1_9.below hcb
              have h2_10 := h2_9.below hcb
              have h3_10 := h3_9.below hcb
              have T_10 := T_9.below hcb
              have o_10 := o_9.below hcb
              have x0_10 := x0_9.below hcb
              have x0x_10 := x0x_9.next hcb
              have x1_10 := x1_9.below hcb
              have x1x_10 := x1x_9.next hcb
              have x2_10 := x2_9.below hcb
              have x3_10 := x3_9.below hcb
              have g_10 := g_9.below hcb
              clear a0_9 a1_9 h0_9 h1_9 h2_9 h3_9 T_9 o_9 x0_9 x0x_9 x1_9 x1x_9 x2_9 x3_9 g_9
              have f66 := a0_10.c0
              have f67 := a0_10.c1
              have f68 := a1_10.c0
              have f69 := a1_10.c1
              have f70 := x0x_10.c0
              have f71 := x0x_10.c1
              have f72 := x1x_10.c0
              have f73 := x1x_10.c1
              go_upto_region 23 with fail
              go_cut [87] from 83 to 87 (fun v wx => v = .bool false ∧ Below w10.heap.size w10 wx)
              case first =>
                have Z1 : ∀ (ww : World), Below w10.heap.size w10 ww → Calls Tryd.prog 16 #[.agg #[.int .i64 L1, .slice A1 n1 c1]] ww fun e w' => ∃ g c', e = .returned (.agg #[.int .i64 L1, .slice (some ⟨g, 0, none⟩) n1 c']) ∧ Own 2 w' ww.heap.size (some ⟨g, 0, none⟩) n1 c' xs1 ∧ Below ww.heap.size ww w' := fun ww hww => (toAl_any L1 _ n1 _ xs1 _ (h1_10.below hww) hn1).mono fun e w' ⟨g, c', he, _, ho, hb⟩ => ⟨g, c', he, ho, hb⟩
                have hdr : Below w10.heap.size w10 w10.drew := (Below.refl _ _).drew
                have rc0 := (x1x_10.next hdr).c0
                have tc0 := (a1_10.next hdr).c0
                have rc1 := (x1x_10.next hdr).c1
                have tc1 := (a1_10.next hdr).c1
                go_region_with (first | (go_at_call 16; refine (Z1 _ hdr).mono ?_; rintro e wz ⟨gz, cz, rfl, hoz, hbz⟩; have hbz2 := hdr.trans (hbz.mono hdr.size); have q0 := (x1x_10.next hbz2).c0; have q1 := (x1x_10.next hbz2).c1) | (go_at_call 19; refine (eqAl_true L1 _ _ _ _ _ xs1 _ (x1_10.below hbz2).rd hoz.rd hm1).mono ?_; rintro e wy ⟨rfl, hby⟩; have hby2 := hbz2.trans (hby.mono hbz2.size)))
                all_goals (go_wp2_with fail; go_meet; exact ⟨rfl, hby2⟩)
              case rest =>
                obtain ⟨rfl, hcb⟩ := hcut
                obtain ⟨w11, rfl⟩ : ∃ w9 : World, w9 = wc := ⟨_, rfl⟩
                clear f66 f67 f68 f69 f70 f71 f72 f73
                have B_11 := Lib.hid (B_10.out.trans (hcb.mono B_10.out.size))
                have S_10 := Lib.hid hcb.size
                have a0_11 := a0_10.next hcb
                have a1_11 := a1_10.next hcb
                have h0_11 := h0_10.below hcb
                have h1_11 := h1_10.below hcb
                have h2_11 := h2_10.below hcb
                have h3_11 := h3_10.below hcb
                have T_11 := T_10.below hcb
                have o_11 := o_10.below hcb
                have x0_11 := x0_10.below hcb
                have x0x_11 := x0x_10.next hcb
                have x1_11 := x1_10.below hcb
                have x1x_11 := x1x_10.next hcb
                have x2_11 := x2_10.below hcb
                have x3_11 := x3_10.below hcb
                have g_11 := g_10.below hcb
                clear a0_10 a1_10 h0_10 h1_10 h2_10 h3_10 T_10 o_10 x0_10 x0x_10 x1_10 x1x_10 x2_10 x3_10 g_10
                have f74 := a0_11.c0
                have f75 := a0_11.c1
                have f76 := a1_11.c0
                have f77 := a1_11.c1
                have f78 := x0x_11.c0
                have f79 := x0x_11.c1
                have f80 := x1x_11.c0
                have f81 := x1x_11.c1
                go_wp2_with fail
                refine (HTO2.out _ h2_11).mono ?_
                rintro e w12 ⟨y2A, y2c, rfl, y2ho, y2hb⟩
                clear f74 f75 f76 f77 f78 f79 f80 f81
                obtain ⟨y2lo, y2e1⟩ : ∃ q : Nat, q = w11.heap.size := ⟨_, rfl⟩
                obtain ⟨y2hi, y2e2⟩ : ∃ q : Nat, q = w12.heap.size := ⟨_, rfl⟩
                have y2h2 : OwnSS w12 y2lo y2hi y2A n2 y2c xs2 := by rw [y2e1, y2e2]; exact y2ho
                have LTy2 : Hid (w11.heap.size ≤ y2lo ∧ y2hi = w12.heap.size) := Lib.hid ⟨by rw [y2e1]; exact Nat.le_refl _, y2e2⟩
                clear y2ho y2e1 y2e2
                have B_12 := Lib.hid (B_11.out.trans (y2hb.mono B_11.out.size))
                have S_11 := Lib.hid y2hb.size
                have a0_12 := a0_11.next y2hb
                have a1_12 := a1_11.next y2hb
                have h0_12 := h0_11.below y2hb
                have h1_12 := h1_11.below y2hb
                have h2_12 := h2_11.below y2hb
                have h3_12 := h3_11.below y2hb
                have T_12 := T_11.below y2hb
                have o_12 := o_11.below y2hb
                have x0_12 := x0_11.below y2hb
                have x0x_12 := x0x_11.next y2hb
                have x1_12 := x1_11.below y2hb
                have x1x_12 := x1x_11.next y2hb
                have x2_12 := x2_11.below y2hb
                have x3_12 := x3_11.below y2hb
                have g_12 := g_11.below y2hb
                clear a0_11 a1_11 h0_11 h1_11 h2_11 h3_11 T_11 o_11 x0_11 x0x_11 x1_11 x1x_11 x2_11 x3_11 g_11
                have y2_12 := y2h2
                have f83 := a0_12.c0
                have f84 := a0_12.c1
                have f85 := a1_12.c0
                have f86 := a1_12.c1
                have f87 := x0x_12.c0
                have f88 := x0x_12.c1
                have f89 := x1x_12.c0
                have f90 := x1x_12.c1
                go_wp2_with fail
                refine (eqSS_true _ _ _ _ _ xs2 _ (x2_12.rd HSX2.out) (y2_12.rd HSX2.out) (by omega)).mono ?_
                rintro e w13 ⟨rfl, hb82⟩
                clear f83 f84 f85 f86 f87 f88 f89 f90
                have B_13 := Lib.hid (B_12.out.trans (hb82.mono B_12.out.size))
                have S_12 := Lib.hid hb82.size
                have a0_13 := a0_12.next hb82
                have a1_13 := a1_12.next hb82
                have h0_13 := h0_12.below hb82
                have h1_13 := h1_12.below hb82
                have h2_13 := h2_12.below hb82
                have h3_13 := h3_12.below hb82
                have T_13 := T_12.below hb82
                have o_13 := o_12.below hb82
                have x0_13 := x0_12.below hb82
                have x0x_13 := x0x_12.next hb82
                have x1_13 := x1_12.below hb82
                have x1x_13 := x1x_12.next hb82
                have x2_13 := x2_12.below hb82
                have x3_13 := x3_12.below hb82
                have g_13 := g_12.below hb82
                have y2_13 := y2_12.below hb82
                clear a0_12 a1_12 h0_12 h1_12 h2_12 h3_12 T_12 o_12 x0_12 x0x_12 x1_12 x1x_12 x2_12 x3_12 g_12 y2_12
                clear y2_13
                have f91 := a0_13.c0
                have f92 := a0_13.c1
                have f93 := a1_13.c0
                have f94 := a1_13.c1
                have f95 := x0x_13.c0
                have f96 := x0x_13.c1
                have f97 := x1x_13.c0
                have f98 := x1x_13.c1
                go_wp2_with fail
                refine (toInt_any _ _ _ xs3 _ h3_13 hn3).mono ?_
                rintro e w14 ⟨y3c, rfl, y3ho, y3hb⟩
                clear f91 f92 f93 f94 f95 f96 f97 f98
                obtain ⟨y3A, y3e⟩ : ∃ y3A : Option Addr, y3A = (some ⟨w13.heap.size, 0, none⟩) := ⟨_, rfl⟩
                rw [← y3e] at y3ho ⊢
                clear y3e
                have LTy3 : Hid (∀ k, (y3A : Option Addr).map (·.block) = some k → w13.heap.size ≤ k ∧ k < w14.heap.size) := Lib.hid (fun k hk => y3ho.lt k hk)
                have B_14 := Lib.hid (B_13.out.trans (y3hb.mono B_13.out.size))
                have S_13 := Lib.hid y3hb.size
                have a0_14 := a0_13.next y3hb
                have a1_14 := a1_13.next y3hb
                have h0_14 := h0_13.below y3hb
                have h1_14 := h1_13.below y3hb
                have h2_14 := h2_13.below y3hb
                have h3_14 := h3_13.below y3hb
                have T_14 := T_13.below y3hb
                have o_14 := o_13.below y3hb
                have x0_14 := x0_13.below y3hb
                have x0x_14 := x0x_13.next y3hb
                have x1_14 := x1_13.below y3hb
                have x1x_14 := x1x_13.next y3hb
                have x2_14 := x2_13.below y3hb
                have x3_14 := x3_13.below y3hb
                have g_14 := g_13.below y3hb
                clear a0_13 a1_13 h0_13 h1_13 h2_13 h3_13 T_13 o_13 x0_13 x0x_13 x1_13 x1x_13 x2_13 x3_13 g_13
                have y3_14 := y3ho
                have f100 := a0_14.c0
                have f101 := a0_14.c1
                have f102 := a1_14.c0
                have f103 := a1_14.c1
                have f104 := x0x_14.c0
                have f105 := x0x_14.c1
                have f106 := x1x_14.c0
                have f107 := x1x_14.c1
                go_wp2_with fail
                refine (eq_true _ _ _ _ _ xs3 _ x3_14.rd y3_14.rd (by omega)).mono ?_
                rintro e w15 ⟨rfl, hb99⟩
                clear f100 f101 f102 f103 f104 f105 f106 f107
                have B_15 := Lib.hid (B_14.out.trans (hb99.mono B_14.out.size))
                have S_14 := Lib.hid hb99.size
                have a0_15 := a0_14.next hb99
                have a1_15 := a1_14.next hb99
                have h0_15 := h0_14.below hb99
                have h1_15 := h1_14.below hb99
                have h2_15 := h2_14.below hb99
                have h3_15 := h3_14.below hb99
                have T_15 := T_14.below hb99
                have o_15 := o_14.below hb99
                have x0_15 := x0_14.below hb99
                have x0x_15 := x0x_14.next hb99
                have x1_15 := x1_14.below hb99
                have x1x_15 := x1x_14.next hb99
                have x2_15 := x2_14.below hb99
                have x3_15 := x3_14.below hb99
                have g_15 := g_14.below hb99
                have y3_15 := y3_14.below hb99
                clear a0_14 a1_14 h0_14 h1_14 h2_14 h3_14 T_14 o_14 x0_14 x0x_14 x1_14 x1x_14 x2_14 x3_14 g_14 y3_14
                clear y3_15
                have f108 := a0_15.c0
                have f109 := a0_15.c1
                have f110 := a1_15.c0
                have f111 := a1_15.c1
                have f112 := x0x_15.c0
                have f113 := x0x_15.c1
                have f114 := x1x_15.c0
                have f115 := x1x_15.c1
                go_wp2_with fail
                refine (markAl_any _ _ L0 _ _ _ (1) _ _ x0_15 hn0 (by omega)).mono ?_
                rintro e w16 ⟨rfl, mx0, mg0⟩
                clear f108 f109 f110 f111 f112 f113 f114 f115
                have S_15 := Lib.hid mg0.size
                have B_16 := Lib.hid (B_15.out.grown mg0 B_15.out.size (fun k hk => by have := (LTx0.out k hk).1; have := S_0.out; have := S_1.out; have := S_2.out; have := S_3.out; have := S_4.out; have := S_5.out; have := S_6.out; have := S_7.out; have := S_8.out; have := S_9.out; have := S_10.out; have := S_11.out; have := S_12.out; have := S_13.out; have := S_14.out; have := S0_.out; omega))
                have a0_16 := a0_15.apart mg0 (fun e => by have := LTx0.out _ e; have := S_0.out; have := S_1.out; have := S_2.out; have := S_3.out; have := S_4.out; have := S_5.out; have := S_6.out; have := S_7.out; have := S_8.out; have := S_9.out; have := S_10.out; have := S_11.out; have := S_12.out; have := S_13.out; have := S_14.out; have := S0_.out; omega)
                have a1_16 := a1_15.apart mg0 (fun e => by have := LTx0.out _ e; have := S_0.out; have := S_1.out; have := S_2.out; have := S_3.out; have := S_4.out; have := S_5.out; have := S_6.out; have := S_7.out; have := S_8.out; have := S_9.out; have := S_10.out; have := S_11.out; have := S_12.out; have := S_13.out; have := S_14.out; have := S0_.out; omega)
                have h0_16 := h0.below B_16.out
                have h1_16 := h1.below B_16.out
                have h2_16 := h2.below B_16.out
                have h3_16 := h3.below B_16.out
                have T_16 := hT.below B_16.out
                have o_16 := o_15.apart mg0 (fun k hk e => by have := LTo.out k hk; have := LTx0.out k e; have := S_0.out; have := S_1.out; have := S_2.out; have := S_3.out; have := S_4.out; have := S_5.out; have := S_6.out; have := S_7.out; have := S_8.out; have := S_9.out; have := S_10.out; have := S_11.out; have := S_12.out; have := S_13.out; have := S_14.out; omega)
                have x0x_16 := x0x_15.apart mg0 (fun e => by have := LTx0.out _ e; have := S_0.out; have := S_1.out; have := S_2.out; have := S_3.out; have := S_4.out; have := S_5.out; have := S_6.out; have := S_7.out; have := S_8.out; have := S_9.out; have := S_10.out; have := S_11.out; have := S_12.out; have := S_13.out; have := S_14.out; have := S0_.out; omega)
                have x1_16 := x1_15.apart mg0 (fun k hk e => by have := LTx1.out k hk; have := LTx0.out k e; have := S_0.out; have := S_1.out; have := S_2.out; have := S_3.out; have := S_4.out; have := S_5.out; have := S_6.out; have := S_7.out; have := S_8.out; have := S_9.out; have := S_10.out; have := S_11.out; have := S_12.out; have := S_13.out; have := S_14.out; omega)
                have x1x_16 := x1x_15.apart mg0 (fun e => by have := LTx0.out _ e; have := S_0.out; have := S_1.out; have := S_2.out; have := S_3.out; have := S_4.out; have := S_5.out; have := S_6.out; have := S_7.out; have := S_8.out; have := S_9.out; have := S_10.out; have := S_11.out; have := S_12.out; have := S_13.out; have := S_14.out; have := S0_.out; omega)
                have x2_16 := x2_15.apart mg0 (fun r hr => by have := LTx2.out; have := LTx0.out r hr; have := S_0.out; have := S_1.out; have := S_2.out; have := S_3.out; have := S_4.out; have := S_5.out; have := S_6.out; have := S_7.out; have := S_8.out; have := S_9.out; have := S_10.out; have := S_11.out; have := S_12.out; have := S_13.out; have := S_14.out; omega)
                have x3_16 := x3_15.apart mg0 (fun k hk e => by have := LTx3.out k hk; have := LTx0.out k e; have := S_0.out; have := S_1.out; have := S_2.out; have := S_3.out; have := S_4.out; have := S_5.out; have := S_6.out; have := S_7.out; have := S_8.out; have := S_9.out; have := S_10.out; have := S_11.out; have := S_12.out; have := S_13.out; have := S_14.out; omega)
                have g_16 := g_15.apart mg0 (fun k hk e => by have := LTg.out k hk; have := LTx0.out k e; have := S_0.out; have := S_1.out; have := S_2.out; have := S_3.out; have := S_4.out; have := S_5.out; have := S_6.out; have := S_7.out; have := S_8.out; have := S_9.out; have := S_10.out; have := S_11.out; have := S_12.out; have := S_13.out; have := S_14.out; omega)
                clear a0_15 a1_15 h0_15 h1_15 h2_15 h3_15 T_15 o_15 x0x_15 x1_15 x1x_15 x2_15 x3_15 g_15
                have x0_16 := mx0
                have f116 := a0_16.c0
                have f117 := a0_16.c1
                have f118 := a1_16.c0
                have f119 := a1_16.c1
                have f120 := x0x_16.c0
                have f121 := x0x_16.c1
                have f122 := x1x_16.c0
                have f123 := x1x_16.c1
                go_wp2_with fail
                refine (markAl_any _ _ L1 _ _ _ (1 + n0) _ _ x1_16 hn1 (by omega)).mono ?_
                rintro e w17 ⟨rfl, mx1, mg1⟩
                clear f116 f117 f118 f119 f120 f121 f122 f123
                have S_16 := Lib.hid mg1.size
                have B_17 := Lib.hid (B_16.out.grown mg1 B_16.out.size (fun k hk => by have := (LTx1.out k hk).1; have := S_0.out; have := S_1.out; have := S_2.out; have := S_3.out; have := S_4.out; have := S_5.out; have := S_6.out; have := S_7.out; have := S_8.out; have := S_9.out; have := S_10.out; have := S_11.out; have := S_12.out; have := S_13.out; have := S_14.out; have := S_15.out; have := S0_.out; omega))
                have a0_17 := a0_16.apart mg1 (fun e => by have := LTx1.out _ e; have := S_0.out; have := S_1.out; have := S_2.out; have := S_3.out; have := S_4.out; have := S_5.out; have := S_6.out; have := S_7.out; have := S_8.out; have := S_9.out; have := S_10.out; have := S_11.out; have := S_12.out; have := S_13.out; have := S_14.out; have := S_15.out; have := S0_.out; omega)
                have a1_17 := a1_16.apart mg1 (fun e => by have := LTx1.out _ e; have := S_0.out; have := S_1.out; have := S_2.out; have := S_3.out; have := S_4.out; have := S_5.out; have := S_6.out; have := S_7.out; have := S_8.out; have := S_9.out; have := S_10.out; have := S_11.out; have := S_12.out; have := S_13.out; have := S_14.out; have := S_15.out; have := S0_.out; omega)
                have h0_17 := h0.below B_17.out
                have h1_17 := h1.below B_17.out
                have h2_17 := h2.below B_17.out
                have h3_17 := h3.below B_17.out
                have T_17 := hT.below B_17.out
                have o_17 := o_16.apart mg1 (fun k hk e => by have := LTo.out k hk; have := LTx1.out k e; have := S_0.out; have := S_1.out; have := S_2.out; have := S_3.out; have := S_4.out; have := S_5.out; have := S_6.out; have := S_7.out; have := S_8.out; have := S_9.out; have := S_10.out; have := S_11.out; have := S_12.out; have := S_13.out; have := S_14.out; have := S_15.out; omega)
                have x0_17 := x0_16.apart mg1 (fun k hk e => by have := LTx0.out k hk; have := LTx1.out k e; have := S_0.out; have := S_1.out; have := S_2.out; have := S_3.out; have := S_4.out; have := S_5.out; have := S_6.out; have := S_7.out; have := S_8.out; have := S_9.out; have := S_10.out; have := S_11.out; have := S_12.out; have := S_13.out; have := S_14.out; have := S_15.out; omega)
                have x0x_17 := x0x_16.apart mg1 (fun e => by have := LTx1.out _ e; have := S_0.out; have := S_1.out; have := S_2.out; have := S_3.out; have := S_4.out; have := S_5.out; have := S_6.out; have := S_7.out; have := S_8.out; have := S_9.out; have := S_10.out; have := S_11.out; have := S_12.out; have := S_13.out; have := S_14.out; have := S_15.out; have := S0_.out; omega)
                have x1x_17 := x1x_16.apart mg1 (fun e => by have := LTx1.out _ e; have := S_0.out; have := S_1.out; have := S_2.out; have := S_3.out; have := S_4.out; have := S_5.out; have := S_6.out; have := S_7.out; have := S_8.out; have := S_9.out; have := S_10.out; have := S_11.out; have := S_12.out; have := S_13.out; have := S_14.out; have := S_15.out; have := S0_.out; omega)
                have x2_17 := x2_16.apart mg1 (fun r hr => by have := LTx2.out; have := LTx1.out r hr; have := S_0.out; have := S_1.out; have := S_2.out; have := S_3.out; have := S_4.out; have := S_5.out; have := S_6.out; have := S_7.out; have := S_8.out; have := S_9.out; have := S_10.out; have := S_11.out; have := S_12.out; have := S_13.out; have := S_14.out; have := S_15.out; omega)
                have x3_17 := x3_16.apart mg1 (fun k hk e => by have := LTx3.out k hk; have := LTx1.out k e; have := S_0.out; have := S_1.out; have := S_2.out; have := S_3.out; have := S_4.out; have := S_5.out; have := S_6.out; have := S_7.out; have := S_8.out; have := S_9.out; have := S_10.out; have := S_11.out; have := S_12.out; have := S_13.out; have := S_14.out; have := S_15.out; omega)
                have g_17 := g_16.apart mg1 (fun k hk e => by have := LTg.out k hk; have := LTx1.out k e; have := S_0.out; have := S_1.out; have := S_2.out; have := S_3.out; have := S_4.out; have := S_5.out; have := S_6.out; have := S_7.out; have := S_8.out; have := S_9.out; have := S_10.out; have := S_11.out; have := S_12.out; have := S_13.out; have := S_14.out; have := S_15.out; omega)
                clear a0_16 a1_16 h0_16 h1_16 h2_16 h3_16 T_16 o_16 x0_16 x0x_16 x1x_16 x2_16 x3_16 g_16
                have x1_17 := mx1
                have f124 := a0_17.c0
                have f125 := a0_17.c1
                have f126 := a1_17.c0
                have f127 := a1_17.c1
                have f128 := x0x_17.c0
                have f129 := x0x_17.c1
                have f130 := x1x_17.c0
                have f131 := x1x_17.c1
                go_wp2_with fail
                refine (markSS4_any _ _ _ _ _ (1 + n0 + n1) _ _ x2_17 (by rw [HSV2.out]; exact hSXb2) hn2 (by omega)).mono ?_
                rw [HSV2.out]
                rintro e w18 ⟨rfl, mx2, mg2⟩
                clear f124 f125 f126 f127 f128 f129 f130 f131
                have S_17 := Lib.hid mg2.size
                have B_18 := Lib.hid (mg2.under B_17.out (by have := LTx2.out; have := S_0.out; have := S_1.out; have := S_2.out; have := S_3.out; have := S_4.out; have := S_5.out; have := S_6.out; have := S_7.out; have := S_8.out; have := S_9.out; have := S_10.out; have := S_11.out; have := S_12.out; have := S_13.out; have := S_14.out; have := S_15.out; have := S_16.out; have := S0_.out; omega))
                have a0_18 := a0_17.touched mg2 (by have := LTx2.out; have := S_0.out; have := S_1.out; have := S_2.out; have := S_3.out; have := S_4.out; have := S_5.out; have := S_6.out; have := S_7.out; have := S_8.out; have := S_9.out; have := S_10.out; have := S_11.out; have := S_12.out; have := S_13.out; have := S_14.out; have := S_15.out; have := S_16.out; have := S0_.out; omega)
                have a1_18 := a1_17.touched mg2 (by have := LTx2.out; have := S_0.out; have := S_1.out; have := S_2.out; have := S_3.out; have := S_4.out; have := S_5.out; have := S_6.out; have := S_7.out; have := S_8.out; have := S_9.out; have := S_10.out; have := S_11.out; have := S_12.out; have := S_13.out; have := S_14.out; have := S_15.out; have := S_16.out; have := S0_.out; omega)
                have h0_18 := h0.below B_18.out
                have h1_18 := h1.below B_18.out
                have h2_18 := h2.below B_18.out
                have h3_18 := h3.below B_18.out
                have T_18 := hT.below B_18.out
                have o_18 := own_touched o_17 mg2 (fun k hk => by have := LTo.out k hk; have := LTx2.out; have := S_0.out; have := S_1.out; have := S_2.out; have := S_3.out; have := S_4.out; have := S_5.out; have := S_6.out; have := S_7.out; have := S_8.out; have := S_9.out; have := S_10.out; have := S_11.out; have := S_12.out; have := S_13.out; have := S_14.out; have := S_15.out; have := S_16.out; omega)
                have x0_18 := own_touched x0_17 mg2 (fun k hk => by have := LTx0.out k hk; have := LTx2.out; have := S_0.out; have := S_1.out; have := S_2.out; have := S_3.out; have := S_4.out; have := S_5.out; have := S_6.out; have := S_7.out; have := S_8.out; have := S_9.out; have := S_10.out; have := S_11.out; have := S_12.out; have := S_13.out; have := S_14.out; have := S_15.out; have := S_16.out; omega)
                have x0x_18 := x0x_17.touched mg2 (by have := LTx2.out; have := S_0.out; have := S_1.out; have := S_2.out; have := S_3.out; have := S_4.out; have := S_5.out; have := S_6.out; have := S_7.out; have := S_8.out; have := S_9.out; have := S_10.out; have := S_11.out; have := S_12.out; have := S_13.out; have := S_14.out; have := S_15.out; have := S_16.out; have := S0_.out; omega)
                have x1_18 := own_touched x1_17 mg2 (fun k hk => by have := LTx1.out k hk; have := LTx2.out; have := S_0.out; have := S_1.out; have := S_2.out; have := S_3.out; have := S_4.out; have := S_5.out; have := S_6.out; have := S_7.out; have := S_8.out; have := S_9.out; have := S_10.out; have := S_11.out; have := S_12.out; have := S_13.out; have := S_14.out; have := S_15.out; have := S_16.out; omega)
                have x1x_18 := x1x_17.touched mg2 (by have := LTx2.out; have := S_0.out; have := S_1.out; have := S_2.out; have := S_3.out; have := S_4.out; have := S_5.out; have := S_6.out; have := S_7.out; have := S_8.out; have := S_9.out; have := S_10.out; have := S_11.out; have := S_12.out; have := S_13.out; have := S_14.out; have := S_15.out; have := S_16.out; have := S0_.out; omega)
                have x3_18 := own_touched x3_17 mg2 (fun k hk => by have := LTx3.out k hk; have := LTx2.out; have := S_0.out; have := S_1.out; have := S_2.out; have := S_3.out; have := S_4.out; have := S_5.out; have := S_6.out; have := S_7.out; have := S_8.out; have := S_9.out; have := S_10.out; have := S_11.out; have := S_12.out; have := S_13.out; have := S_14.out; have := S_15.out; have := S_16.out; omega)
                have g_18 := own_touched g_17 mg2 (fun k hk => by have := LTg.out k hk; have := LTx2.out; have := S_0.out; have := S_1.out; have := S_2.out; have := S_3.out; have := S_4.out; have := S_5.out; have := S_6.out; have := S_7.out; have := S_8.out; have := S_9.out; have := S_10.out; have := S_11.out; have := S_12.out; have := S_13.out; have := S_14.out; have := S_15.out; have := S_16.out; omega)
                clear a0_17 a1_17 h0_17 h1_17 h2_17 h3_17 T_17 o_17 x0_17 x0x_17 x1_17 x1x_17 x3_17 g_17
                clear x2_17
                have x2_18 := mx2
                have f132 := a0_18.c0
                have f133 := a0_18.c1
                have f134 := a1_18.c0
                have f135 := a1_18.c1
                have f136 := x0x_18.c0
                have f137 := x0x_18.c1
                have f138 := x1x_18.c0
                have f139 := x1x_18.c1
                go_wp2_with fail
                refine (mark_any _ _ _ _ _ (1 + n0 + n1 + SX2) _ _ x3_18 hn3 (by omega)).mono ?_
                rintro e w19 ⟨rfl, mx3, mg3⟩
                clear f132 f133 f134 f135 f136 f137 f138 f139
                have S_18 := Lib.hid mg3.size
                have B_19 := Lib.hid (B_18.out.grown mg3 B_18.out.size (fun k hk => by have := (LTx3.out k hk).1; have := S_0.out; have := S_1.out; have := S_2.out; have := S_3.out; have := S_4.out; have := S_5.out; have := S_6.out; have := S_7.out; have := S_8.out; have := S_9.out; have := S_10.out; have := S_11.out; have := S_12.out; have := S_13.out; have := S_14.out; have := S_15.out; have := S_16.out; have := S_17.out; have := S0_.out; omega))
                have a0_19 := a0_18.apart mg3 (fun e => by have := LTx3.out _ e; have := S_0.out; have := S_1.out; have := S_2.out; have := S_3.out; have := S_4.out; have := S_5.out; have := S_6.out; have := S_7.out; have := S_8.out; have := S_9.out; have := S_10.out; have := S_11.out; have := S_12.out; have := S_13.out; have := S_14.out; have := S_15.out; have := S_16.out; have := S_17.out; have := S0_.out; omega)
                have a1_19 := a1_18.apart mg3 (fun e => by have := LTx3.out _ e; have := S_0.out; have := S_1.out; have := S_2.out; have := S_3.out; have := S_4.out; have := S_5.out; have := S_6.out; have := S_7.out; have := S_8.out; have := S_9.out; have := S_10.out; have := S_11.out; have := S_12.out; have := S_13.out; have := S_14.out; have := S_15.out; have := S_16.out; have := S_17.out; have := S0_.out; omega)
                have h0_19 := h0.below B_19.out
                have h1_19 := h1.below B_19.out
                have h2_19 := h2.below B_19.out
                have h3_19 := h3.below B_19.out
                have T_19 := hT.below B_19.out
                have o_19 := o_18.apart mg3 (fun k hk e => by have := LTo.out k hk; have := LTx3.out k e; have := S_0.out; have := S_1.out; have := S_2.out; have := S_3.out; have := S_4.out; have := S_5.out; have := S_6.out; have := S_7.out; have := S_8.out; have := S_9.out; have := S_10.out; have := S_11.out; have := S_12.out; have := S_13.out; have := S_14.out; have := S_15.out; have := S_16.out; have := S_17.out; omega)
                have x0_19 := x0_18.apart mg3 (fun k hk e => by have := LTx0.out k hk; have := LTx3.out k e; have := S_0.out; have := S_1.out; have := S_2.out; have := S_3.out; have := S_4.out; have := S_5.out; have := S_6.out; have := S_7.out; have := S_8.out; have := S_9.out; have := S_10.out; have := S_11.out; have := S_12.out; have := S_13.out; have := S_14.out; have := S_15.out; have := S_16.out; have := S_17.out; omega)
                have x0x_19 := x0x_18.apart mg3 (fun e => by have := LTx3.out _ e; have := S_0.out; have := S_1.out; have := S_2.out; have := S_3.out; have := S_4.out; have := S_5.out; have := S_6.out; have := S_7.out; have := S_8.out; have := S_9.out; have := S_10.out; have := S_11.out; have := S_12.out; have := S_13.out; have := S_14.out; have := S_15.out; have := S_16.out; have := S_17.out; have := S0_.out; omega)
                have x1_19 := x1_18.apart mg3 (fun k hk e => by have := LTx1.out k hk; have := LTx3.out k e; have := S_0.out; have := S_1.out; have := S_2.out; have := S_3.out; have := S_4.out; have := S_5.out; have := S_6.out; have := S_7.out; have := S_8.out; have := S_9.out; have := S_10.out; have := S_11.out; have := S_12.out; have := S_13.out; have := S_14.out; have := S_15.out; have := S_16.out; have := S_17.out; omega)
                have x1x_19 := x1x_18.apart mg3 (fun e => by have := LTx3.out _ e; have := S_0.out; have := S_1.out; have := S_2.out; have := S_3.out; have := S_4.out; have := S_5.out; have := S_6.out; have := S_7.out; have := S_8.out; have := S_9.out; have := S_10.out; have := S_11.out; have := S_12.out; have := S_13.out; have := S_14.out; have := S_15.out; have := S_16.out; have := S_17.out; have := S0_.out; omega)
                have x2_19 := x2_18.apart mg3 (fun r hr => by have := LTx2.out; have := LTx3.out r hr; have := S_0.out; have := S_1.out; have := S_2.out; have := S_3.out; have := S_4.out; have := S_5.out; have := S_6.out; have := S_7.out; have := S_8.out; have := S_9.out; have := S_10.out; have := S_11.out; have := S_12.out; have := S_13.out; have := S_14.out; have := S_15.out; have := S_16.out; have := S_17.out; omega)
                have g_19 := g_18.apart mg3 (fun k hk e => by have := LTg.out k hk; have := LTx3.out k e; have := S_0.out; have := S_1.out; have := S_2.out; have := S_3.out; have := S_4.out; have := S_5.out; have := S_6.out; have := S_7.out; have := S_8.out; have := S_9.out; have := S_10.out; have := S_11.out; have := S_12.out; have := S_13.out; have := S_14.out; have := S_15.out; have := S_16.out; have := S_17.out; omega)
                clear a0_18 a1_18 h0_18 h1_18 h2_18 h3_18 T_18 o_18 x0_18 x0x_18 x1_18 x1x_18 x2_18 g_18
                have x3_19 := mx3
                clear x0_19
                clear x1_19
                clear x2_19
                clear x3_19
                have f141 := a0_19.c0
                have f142 := a0_19.c1
                have f143 := a1_19.c0
                have f144 := a1_19.c1
                have f145 := x0x_19.c0
                have f146 := x0x_19.c1
                have f147 := x1x_19.c0
                have f148 := x1x_19.c1
                go_wp2_with fail
                refine (eq_true _ _ _ _ _ VX _ g_19.rd o_19.rd (by omega)).mono ?_
                rintro e w20 ⟨rfl, hb140⟩
                clear f141 f142 f143 f144 f145 f146 f147 f148
                have B_20 := Lib.hid (B_19.out.trans (hb140.mono B_19.out.size))
                have S_19 := Lib.hid hb140.size
                have a0_20 := a0_19.next hb140
                have a1_20 := a1_19.next hb140
                have h0_20 := h0_19.below hb140
                have h1_20 := h1_19.below hb140
                have h2_20 := h2_19.below hb140
                have h3_20 := h3_19.below hb140
                have T_20 := T_19.below hb140
                have o_20 := o_19.below hb140
                have x0x_20 := x0x_19.next hb140
                have x1x_20 := x1x_19.next hb140
                have g_20 := g_19.below hb140
                clear a0_19 a1_19 h0_19 h1_19 h2_19 h3_19 T_19 o_19 x0x_19 x1x_19 g_19
                have f149 := a0_20.c0
                have f150 := a0_20.c1
                have f151 := a1_20.c0
                have f152 := a1_20.c1
                have f153 := x0x_20.c0
                have f154 := x0x_20.c1
                have f155 := x1x_20.c0
                have f156 := x1x_20.c1
                go_wp2_with fail
                refine (mark_any _ _ _ _ _ 1 _ _ g_20 hVN (by omega)).mono ?_
                rintro e w21 ⟨rfl, mxg, mgg⟩
                clear f149 f150 f151 f152 f153 f154 f155 f156
                have S_20 := Lib.hid mgg.size
                have B_21 := Lib.hid (B_20.out.grown mgg B_20.out.size (fun k hk => by have := (LTg.out k hk).1; have := S_0.out; have := S_1.out; have := S_2.out; have := S_3.out; have := S_4.out; have := S_5.out; have := S_6.out; have := S_7.out; have := S_8.out; have := S_9.out; have := S_10.out; have := S_11.out; have := S_12.out; have := S_13.out; have := S_14.out; have := S_15.out; have := S_16.out; have := S_17.out; have := S_18.out; have := S_19.out; have := S0_.out; omega))
                have a0_21 := a0_20.apart mgg (fun e => by have := LTg.out _ e; have := S_0.out; have := S_1.out; have := S_2.out; have := S_3.out; have := S_4.out; have := S_5.out; have := S_6.out; have := S_7.out; have := S_8.out; have := S_9.out; have := S_10.out; have := S_11.out; have := S_12.out; have := S_13.out; have := S_14.out; have := S_15.out; have := S_16.out; have := S_17.out; have := S_18.out; have := S_19.out; have := S0_.out; omega)
                have a1_21 := a1_20.apart mgg (fun e => by have := LTg.out _ e; have := S_0.out; have := S_1.out; have := S_2.out; have := S_3.out; have := S_4.out; have := S_5.out; have := S_6.out; have := S_7.out; have := S_8.out; have := S_9.out; have := S_10.out; have := S_11.out; have := S_12.out; have := S_13.out; have := S_14.out; have := S_15.out; have := S_16.out; have := S_17.out; have := S_18.out; have := S_19.out; have := S0_.out; omega)
                have h0_21 := h0.below B_21.out
                have h1_21 := h1.below B_21.out
                have h2_21 := h2.below B_21.out
                have h3_21 := h3.below B_21.out
                have T_21 := hT.below B_21.out
                have o_21 := o_20.apart mgg (fun k hk e => by have := LTo.out k hk; have := LTg.out k e; have := S_0.out; have := S_1.out; have := S_2.out; have := S_3.out; have := S_4.out; have := S_5.out; have := S_6.out; have := S_7.out; have := S_8.out; have := S_9.out; have := S_10.out; have := S_11.out; have := S_12.out; have := S_13.out; have := S_14.out; have := S_15.out; have := S_16.out; have := S_17.out; have := S_18.out; have := S_19.out; omega)
                have x0x_21 := x0x_20.apart mgg (fun e => by have := LTg.out _ e; have := S_0.out; have := S_1.out; have := S_2.out; have := S_3.out; have := S_4.out; have := S_5.out; have := S_6.out; have := S_7.out; have := S_8.out; have := S_9.out; have := S_10.out; have := S_11.out; have := S_12.out; have := S_13.out; have := S_14.out; have := S_15.out; have := S_16.out; have := S_17.out; have := S_18.out; have := S_19.out; have := S0_.out; omega)
                have x1x_21 := x1x_20.apart mgg (fun e => by have := LTg.out _ e; have := S_0.out; have := S_1.out; have := S_2.out; have := S_3.out; have := S_4.out; have := S_5.out; have := S_6.out; have := S_7.out; have := S_8.out; have := S_9.out; have := S_10.out; have := S_11.out; have := S_12.out; have := S_13.out; have := S_14.out; have := S_15.out; have := S_16.out; have := S_17.out; have := S_18.out; have := S_19.out; have := S0_.out; omega)
                clear a0_20 a1_20 h0_20 h1_20 h2_20 h3_20 T_20 o_20 x0x_20 x1x_20
                clear g_20
                have g_21 := mxg
                have f157 := a0_21.c0
                have f158 := a0_21.c1
                have f159 := a1_21.c0
                have f160 := a1_21.c1
                have f161 := x0x_21.c0
                have f162 := x0x_21.c1
                have f163 := x1x_21.c0
                have f164 := x1x_21.c1
                go_wp2_with fail
                refine (held_any _ _ _ 1 _ g_21.rd hVN (by omega)).mono ?_
                rintro e w' ⟨rfl, rfl⟩
                clear f157 f158 f159 f160 f161 f162 f163 f164
                have hcur : Below w21.heap.size w21 w21.drew := (Below.refl _ _).drew
                have HS9 : Hid (∀ w', Below w21.heap.size w21 w' → w'.cell? ⟨w.heap.size, 0, none⟩ = some (.int .i64 L0) ∧ w'.cell? ⟨w.heap.size, 1, none⟩ = some (.slice A0 n0 c0) ∧ w'.cell? ⟨w.heap.size + 1, 0, none⟩ = some (.int .i64 L1) ∧ w'.cell? ⟨w.heap.size + 1, 1, none⟩ = some (.slice A1 n1 c1)) := Lib.hid (fun w' hw => ⟨(a0_21.next hw).c0, (a0_21.next hw).c1, (a1_21.next hw).c0, (a1_21.next hw).c1⟩)
                have hcd := HS9.out _ hcur
                have Z0 := Lib.hid (fun (ww : World) (hw : Below w21.heap.size w21 ww) => toAl_any L0 A0 n0 c0 xs0 ww (h0_21.below hw) hn0)
                have Z1 := Lib.hid (fun (ww : World) (hw : Below w21.heap.size w21 ww) => toAl_any L1 A1 n1 c1 xs1 ww (h1_21.below hw) hn1)
                have Z2 := Lib.hid (fun (ww : World) (hw : Below w21.heap.size w21 ww) => HTO2.out ww (h2_21.below hw))
                have Z3 := Lib.hid (fun (ww : World) (hw : Below w21.heap.size w21 ww) => toInt_any A3 n3 c3 xs3 ww (h3_21.below hw) hn3)
                go_upto_region 44 with fail
                go_cut [21, 22] from 134 to 145 (fun v u wx => ∃ (oA : Option Addr) (oc : Nat), v = .slice oA VN oc ∧ u = .int .i64 C ∧ Own 2 wx w21.heap.size oA VN oc VX ∧ Below w21.heap.size w21 wx)
                case first =>
                  go_region_held3 (fun w' => w'.cell? ⟨w.heap.size, 0, none⟩ = some (.int .i64 L0) ∧ w'.cell? ⟨w.heap.size, 1, none⟩ = some (.slice A0 n0 c0) ∧ w'.cell? ⟨w.heap.size + 1, 0, none⟩ = some (.int .i64 L1) ∧ w'.cell? ⟨w.heap.size + 1, 1, none⟩ = some (.slice A1 n1 c1)) (first | exact hcd | exact HS9.out _ hcur | go_keep) (first | (go_at_call 16; first | ((with_reducible refine (Z0.out _ hcur).mono ?_); rintro e wz0 ⟨g0, k0, rfl, -, oc0, hb0⟩; have hcz := hcur.size; have hcur := hcur.trans (hb0.mono hcz)) | ((with_reducible refine (Z1.out _ hcur).mono ?_); rintro e wz1 ⟨g1, k1, rfl, -, oc1, hb1⟩; have oc0 := oc0.below hb1; have hcz := hcur.size; have hcur := hcur.trans (hb1.mono hcz))) | (go_at_call 17; first | ((with_reducible refine (Z2.out _ hcur).mono ?_); rintro e wz2 ⟨p2, k2, rfl, oc2, hb2⟩; have oc0 := oc0.below hb2; have oc1 := oc1.below hb2; have hcz := hcur.size; have hcur := hcur.trans (hb2.mono hcz))) | (go_at_call 22; first | ((with_reducible refine (Z3.out _ hcur).mono ?_); rintro e wz3 ⟨k3, rfl, oc3, hb3⟩; have oc0 := oc0.below hb3; have oc1 := oc1.below hb3; have oc2 := oc2.below hb3; have hcz := hcur.size; have hcur := hcur.trans (hb3.mono hcz))) | (go_at_call 23; refine (himpl _ _ _ _ _ _ _ _ _ hn0 oc0.rd hn1 oc1.rd hn2 (oc2.rd HSX2.out) hn3 oc3.rd (T_21.below hcur)).mono ?_; rintro e wF ⟨oA, occ, rfl, oho, hbF⟩; have hcz := hcur.size; have own3 := oho.mono hcz; have hcur := hcur.trans (hbF.mono hcz)))
                  all_goals (
                    go_wp2_with fail
                    go_meet
                    exact ⟨oA, occ, rfl, rfl, own3, hcur⟩)
                case rest =>
                  obtain ⟨qA, qc, rfl, rfl, qho, qhb⟩ := hcut
                  obtain ⟨w22, rfl⟩ : ∃ w9 : World, w9 = wc := ⟨_, rfl⟩
                  clear hcur HS9 hcd Z0 Z1 Z2 Z3
                  have LTq : Hid (∀ k, (qA : Option Addr).map (·.block) = some k → w21.heap.size ≤ k ∧ k < w22.heap.size) := Lib.hid (fun k hk => qho.lt k hk)
                  have B_22 := Lib.hid (B_21.out.trans (qhb.mono B_21.out.size))
                  have S_21 := Lib.hid qhb.size
                  have a0_22 := a0_21.next qhb
                  have a1_22 := a1_21.next qhb
                  have h0_22 := h0_21.below qhb
                  have h1_22 := h1_21.below qhb
                  have h2_22 := h2_21.below qhb
                  have h3_22 := h3_21.below qhb
                  have T_22 := T_21.below qhb
                  have o_22 := o_21.below qhb
                  have x0x_22 := x0x_21.next qhb
                  have x1x_22 := x1x_21.next qhb
                  have g_22 := g_21.below qhb
                  clear a0_21 a1_21 h0_21 h1_21 h2_21 h3_21 T_21 o_21 x0x_21 x1x_21 g_21
                  have q_22 := qho
                  have f166 := a0_22.c0
                  have f167 := a0_22.c1
                  have f168 := a1_22.c0
                  have f169 := a1_22.c1
                  have f170 := x0x_22.c0
                  have f171 := x0x_22.c1
                  have f172 := x1x_22.c0
                  have f173 := x1x_22.c1
                  go_wp2_with fail
                  refine (eq_true _ _ _ _ _ VX _ q_22.rd o_22.rd (by omega)).mono ?_
                  rintro e w23 ⟨rfl, hb165⟩
                  clear f166 f167 f168 f169 f170 f171 f172 f173
                  have B_23 := Lib.hid (B_22.out.trans (hb165.mono B_22.out.size))
                  have S_22 := Lib.hid hb165.size
                  have a0_23 := a0_22.next hb165
                  have a1_23 := a1_22.next hb165
                  have h0_23 := h0_22.below hb165
                  have h1_23 := h1_22.below hb165
                  have h2_23 := h2_22.below hb165
                  have h3_23 := h3_22.below hb165
                  have T_23 := T_22.below hb165
                  have o_23 := o_22.below hb165
                  have x0x_23 := x0x_22.next hb165
                  have x1x_23 := x1x_22.next hb165
                  have g_23 := g_22.below hb165
                  have q_23 := q_22.below hb165
                  clear a0_22 a1_22 h0_22 h1_22 h2_22 h3_22 T_22 o_22 x0x_22 x1x_22 g_22 q_22
                  have f174 := a0_23.c0
                  have f175 := a0_23.c1
                  have f176 := a1_23.c0
                  have f177 := a1_23.c1
                  have f178 := x0x_23.c0
                  have f179 := x0x_23.c1
                  have f180 := x1x_23.c0
                  have f181 := x1x_23.c1
                  go_wp2_with fail
                  refine (held_any _ _ _ 1 _ g_23.rd hVN (by omega)).mono ?_
                  rintro e w' ⟨rfl, rfl⟩
                  clear f174 f175 f176 f177 f178 f179 f180 f181
                  have f182 := a0_23.c0
                  have f183 := a0_23.c1
                  have f184 := a1_23.c0
                  have f185 := a1_23.c1
                  have f186 := x0x_23.c0
                  have f187 := x0x_23.c1
                  have f188 := x1x_23.c0
                  have f189 := x1x_23.c1
                  go_wp2_with fail
                  go_ret
                  exact ⟨rfl, B_23.out⟩
        · go_enter Tryd.func4, Tryd.ntmps4
          go_wp2_with fail
          rw [← hw0]
          refine (sz_law L0 A0 n0 c0 _ hs0).mono ?_
          rintro e w1 ⟨rfl, hz0⟩
          have B_1 := Lib.hid (B_0.out.trans (hz0.mono B_0.out.size))
          have S_0 := Lib.hid hz0.size
          have a0_1 := a0_0.next hz0
          have a1_1 := a1_0.next hz0
          have h0_1 := h0_0.below hz0
          have h1_1 := h1_0.below hz0
          have h2_1 := h2_0.below hz0
          have h3_1 := h3_0.below hz0
          have T_1 := T_0.below hz0
          clear a0_0 a1_0 h0_0 h1_0 h2_0 h3_0 T_0
          have f190 := a0_1.c0
          have f191 := a0_1.c1
          have f192 := a1_1.c0
          have f193 := a1_1.c1
          go_wp2_with fail
          refine (sz_any L1 A1 n1 c1 (1048576 - n0) _ hs1 (by omega)).mono ?_
          rintro e w2 ⟨rfl, hz1⟩
          clear f190 f191 f192 f193
          have B_2 := Lib.hid (B_1.out.trans (hz1.mono B_1.out.size))
          have S_1 := Lib.hid hz1.size
          have a0_2 := a0_1.next hz1
          have a1_2 := a1_1.next hz1
          have h0_2 := h0_1.below hz1
          have h1_2 := h1_1.below hz1
          have h2_2 := h2_1.below hz1
          have h3_2 := h3_1.below hz1
          have T_2 := T_1.below hz1
          clear a0_1 a1_1 h0_1 h1_1 h2_1 h3_1 T_1
          have HSZ2 := Lib.hid (szSS_any A2 n2 c2 (((1048576 - n0) - n1)) ts2 _ h2_2 (by omega) hlm2)
          rw [if_neg hs2] at HSZ2
          have f194 := a0_2.c0
          have f195 := a0_2.c1
          have f196 := a1_2.c0
          have f197 := a1_2.c1
          go_wp2_with fail
          refine HSZ2.out.mono ?_
          rintro e w' ⟨rfl, rfl⟩
          clear f194 f195 f196 f197
          clear HSZ2
          go_wp2_with fail
          go_ret
          exact ⟨rfl, B_2.out⟩
      · go_enter Tryd.func4, Tryd.ntmps4
        go_wp2_with fail
        rw [← hw0]
        refine (sz_law L0 A0 n0 c0 _ hs0).mono ?_
        rintro e w1 ⟨rfl, hz0⟩
        have B_1 := Lib.hid (B_0.out.trans (hz0.mono B_0.out.size))
        have S_0 := Lib.hid hz0.size
        have a0_1 := a0_0.next hz0
        have a1_1 := a1_0.next hz0
        have h0_1 := h0_0.below hz0
        have h1_1 := h1_0.below hz0
        have h2_1 := h2_0.below hz0
        have h3_1 := h3_0.below hz0
        have T_1 := T_0.below hz0
        clear a0_0 a1_0 h0_0 h1_0 h2_0 h3_0 T_0
        have f198 := a0_1.c0
        have f199 := a0_1.c1
        have f200 := a1_1.c0
        have f201 := a1_1.c1
        go_wp2_with fail
        refine (szno_m L1 A1 n1 c1 (1048576 - n0) _ (by omega) (by omega) hm1).mono ?_
        rintro e w2 ⟨rfl, hz1⟩
        clear f198 f199 f200 f201
        have B_2 := Lib.hid (B_1.out.trans (hz1.mono B_1.out.size))
        have S_1 := Lib.hid hz1.size
        have a0_2 := a0_1.next hz1
        have a1_2 := a1_1.next hz1
        have h0_2 := h0_1.below hz1
        have h1_2 := h1_1.below hz1
        have h2_2 := h2_1.below hz1
        have h3_2 := h3_1.below hz1
        have T_2 := T_1.below hz1
        clear a0_1 a1_1 h0_1 h1_1 h2_1 h3_1 T_1
        go_wp2_with fail
        go_ret
        exact ⟨rfl, B_2.out⟩
    · go_enter Tryd.func4, Tryd.ntmps4
      go_wp2_with fail
      rw [← hw0]
      refine (szno_any L0 A0 n0 c0 _ (by omega) hm0).mono ?_
      rintro e w1 ⟨rfl, hz0⟩
      have B_1 := Lib.hid (B_0.out.trans (hz0.mono B_0.out.size))
      have S_0 := Lib.hid hz0.size
      have a0_1 := a0_0.next hz0
      have a1_1 := a1_0.next hz0
      have h0_1 := h0_0.below hz0
      have h1_1 := h1_0.below hz0
      have h2_1 := h2_0.below hz0
      have h3_1 := h3_0.below hz0
      have T_1 := T_0.below hz0
      clear a0_0 a1_0 h0_0 h1_0 h2_0 h3_0 T_0
      go_wp2_with fail
      go_ret
      exact ⟨rfl, B_1.out⟩
  · go_enter Tryd.func4, Tryd.ntmps4
    go_wp2_with fail
    go_ret
    exact ⟨rfl, below2 _ _ _⟩
end Go.Proofs.YtdafdffmkjhhcaaDoor

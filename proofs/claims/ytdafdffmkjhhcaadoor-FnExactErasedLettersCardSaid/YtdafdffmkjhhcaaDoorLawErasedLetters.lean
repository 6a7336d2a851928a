/-
  The walk of FnExactErasedLetters, over contracts of both sides.
-/
import Derived.Test.YtdafdffmkjhhcaaDoorMoA
import Derived.Test.YtdafdffmkjhhcaaDoorAlphB
import Derived.Deep.CutRange
import Derived.Deep.RegionWith
import Derived.Test.YtdafdffmkjhhcaaDoorLsa
import Derived.Deep.RegionHeld3
namespace Go.Proofs.YtdafdffmkjhhcaaDoor
open Go.RowKit
set_option linter.unusedVariables false
set_option maxRecDepth 100000
set_option maxHeartbeats 25600000 in
theorem lawErasedLetters (L0 : Int) (A0 : Option Addr) (n0 c0 : Nat) (xs0 : List Int) (L1 : Int) (A1 : Option Addr) (n1 c1 : Nat) (xs1 : List Int) (A2 : Option Addr) (n2 c2 : Nat) (ts2 : List (Option Addr × Nat × Nat × List Int)) (xs2 : List (List Int)) (hX2 : ts2.map (fun t => t.2.2.2) = xs2) (w : World) (hL01 : -9223372036854775808 ≤ L0) (hL02 : L0 ≤ 9223372036854775807) (h0 : Rd w A0 n0 xs0) (hwf0 : Wf xs0) (hl0 : n0 ≤ maxLen) (hL11 : -9223372036854775808 ≤ L1) (hL12 : L1 ≤ 9223372036854775807) (h1 : Rd w A1 n1 xs1) (hwf1 : Wf xs1) (hl1 : n1 ≤ maxLen) (h2 : RdT w A2 n2 ts2) (hwf2 : ∀ t, t ∈ ts2 → Wf t.2.2.2) (hl2 : n2 ≤ maxLen) (hT : Tab w) (V : Int) (C : Int)
    (hspec : ∀ (B0 : Option Addr) (d0 : Nat) (B1 : Option Addr) (d1 : Nat) (B2 : Option Addr) (d2 : Nat) (w' : World), n0 ≤ 1048576 → Rd w' B0 n0 xs0 → n1 ≤ 1048576 → Rd w' B1 n1 xs1 → n2 ≤ 1048576 → RdSS w' B2 n2 xs2 → Calls Tryd.prog 29 #[.agg #[.int .i64 L0, .slice B0 n0 d0], .agg #[.int .i64 L1, .slice B1 n1 d1], .slice B2 n2 d2] w' (fun e w'' => e = .returned (.tuple #[.int .i64 V, .int .i64 C]) ∧ Below w'.heap.size w' w''))
    (himpl : ∀ (B0 : Option Addr) (d0 : Nat) (B1 : Option Addr) (d1 : Nat) (B2 : Option Addr) (d2 : Nat) (w' : World), n0 ≤ 1048576 → Rd w' B0 n0 xs0 → n1 ≤ 1048576 → Rd w' B1 n1 xs1 → n2 ≤ 1048576 → RdSS w' B2 n2 xs2 → Tab w' → Calls Tryd.prog 30 #[.agg #[.int .i64 L0, .slice B0 n0 d0], .agg #[.int .i64 L1, .slice B1 n1 d1], .slice B2 n2 d2] w' (fun e w'' => e = .returned (.tuple #[.int .i64 V, .int .i64 C]) ∧ Below w'.heap.size w' w'')) :
    Calls Tryd.prog 5 #[.agg #[.int .i64 L0, .slice A0 n0 c0], .agg #[.int .i64 L1, .slice A1 n1 c1], .slice A2 n2 c2] w fun e w' => e = .returned (.bool true) ∧ Below w.heap.size w w' := by
  have hlm2 := hl2
  unfold maxLen at hl0
  have hm0 : n0 ≤ 9223372036854775807 := by omega
  unfold maxLen at hl1
  have hm1 : n1 ≤ 9223372036854775807 := by omega
  unfold maxLen at hl2
  have hm2 : n2 ≤ 9223372036854775807 := by omega
  obtain ⟨w0, hw0⟩ : ∃ w0 : World, w0 = ((w.alloc (.cells #[.int .i64 L0, .slice A0 n0 c0] 24)).alloc (.cells #[.int .i64 L1, .slice A1 n1 c1] 24)) := ⟨_, rfl⟩
  have B_0 := Lib.hid (show Below w.heap.size w w0 by rw [hw0]; exact below2 w _ _)
  have S0_ : Hid (w0.heap.size = w.heap.size + 2) := Lib.hid (by rw [hw0]; simp)
  have a0_0 : Box 24 w0 (w.heap.size) L0 A0 n0 c0 := by rw [hw0]; exact (box_new 24 w L0 A0 n0 c0).next (below1 _ _)
  have a1_0 : Box 24 w0 (w.heap.size + 1) L1 A1 n1 c1 := by rw [hw0]; have h9 := box_new 24 (w.alloc (.cells #[.int .i64 L0, .slice A0 n0 c0] 24)) L1 A1 n1 c1; simpa using h9
  have h0_0 := h0.below B_0.out
  have h1_0 := h1.below B_0.out
  have h2_0 := h2.below B_0.out
  have T_0 := hT.below B_0.out
  by_cases hs0 : n0 ≤ 1048576
  · by_cases hs1 : n1 ≤ 1048576 - n0
    · by_cases hs2 : n2 + sumT ts2 ≤ ((1048576 - n0) - n1)
      · have hn0 : n0 ≤ 1048576 := by omega
        have hn1 : n1 ≤ 1048576 := by omega
        have hn2 : n2 ≤ 1048576 := by omega
        have hsl2 : sumL xs2 = sumT ts2 := by rw [← hX2]; exact sumL_sumT h2
        obtain ⟨SX2, hSX2⟩ : ∃ S, S = sumL xs2 := ⟨_, rfl⟩
        have hSXb2 : SX2 ≤ 1048576 := by omega
        have HSV2 := Lib.hid hSX2.symm
        have HSX2 := Lib.hid (ss_small hSX2.symm hSXb2)
        have hts2 : ∀ t, t ∈ ts2 → t.2.1 ≤ 1048576 := fun t ht => by have := sumT_mem ts2 t ht; omega
        have HTO2 := Lib.hid (fun (ww : World) (hw : RdT ww A2 n2 ts2) => toSS_any A2 n2 c2 ts2 ww hw hn2 hts2)
        rw [hX2] at HTO2
        clear hts2 hsl2 hSX2
        clear hX2
        go_enter Tryd.func5, Tryd.ntmps5
        go_wp2_with fail
        rw [← hw0]
        refine (sz_law L0 A0 n0 c0 _ hs0).mono ?_
        rintro e w1 ⟨rfl, hz0⟩
        have B_1 := Lib.hid (B_0.out.trans (hz0.mono B_0.out.size))
        have S_0 := Lib.hid hz0.size
        have a0_1 := a0_0.next hz0
        have a1_1 := a1_0.next hz0
        have h0_1 := h0_0.below hz0
        have h1_1 := h1_0.below hz0
        have h2_1 := h2_0.below hz0
        have T_1 := T_0.below hz0
        clear a0_0 a1_0 h0_0 h1_0 h2_0 T_0
        have f1 := a0_1.c0
        have f2 := a0_1.c1
        have f3 := a1_1.c0
        have f4 := a1_1.c1
        go_wp2_with fail
        refine (sz_any L1 A1 n1 c1 (1048576 - n0) _ hs1 (by omega)).mono ?_
        rintro e w2 ⟨rfl, hz1⟩
        clear f1 f2 f3 f4
        have B_2 := Lib.hid (B_1.out.trans (hz1.mono B_1.out.size))
        have S_1 := Lib.hid hz1.size
        have a0_2 := a0_1.next hz1
        have a1_2 := a1_1.next hz1
        have h0_2 := h0_1.below hz1
        have h1_2 := h1_1.below hz1
        have h2_2 := h2_1.below hz1
        have T_2 := T_1.below hz1
        clear a0_1 a1_1 h0_1 h1_1 h2_1 T_1
        have HSZ2 := Lib.hid (szSS_any A2 n2 c2 (((1048576 - n0) - n1)) ts2 _ h2_2 (by omega) hlm2)
        rw [if_pos hs2] at HSZ2
        have f5 := a0_2.c0
        have f6 := a0_2.c1
        have f7 := a1_2.c0
        have f8 := a1_2.c1
        go_wp2_with fail
        refine HSZ2.out.mono ?_
        rintro e w' ⟨rfl, rfl⟩
        clear f5 f6 f7 f8
        clear HSZ2
        have hcur : Below w2.heap.size w2 w2.drew := (Below.refl _ _).drew
        have HS9 : Hid (∀ w', Below w2.heap.size w2 w' → w'.cell? ⟨w.heap.size, 0, none⟩ = some (.int .i64 L0) ∧ w'.cell? ⟨w.heap.size, 1, none⟩ = some (.slice A0 n0 c0) ∧ w'.cell? ⟨w.heap.size + 1, 0, none⟩ = some (.int .i64 L1) ∧ w'.cell? ⟨w.heap.size + 1, 1, none⟩ = some (.slice A1 n1 c1)) := Lib.hid (fun w' hw => ⟨(a0_2.next hw).c0, (a0_2.next hw).c1, (a1_2.next hw).c0, (a1_2.next hw).c1⟩)
        have hcd := HS9.out _ hcur
        have Z0 := Lib.hid (fun (ww : World) (hw : Below w2.heap.size w2 ww) => toAl_any L0 A0 n0 c0 xs0 ww (h0_2.below hw) hn0)
        have Z1 := Lib.hid (fun (ww : World) (hw : Below w2.heap.size w2 ww) => toAl_any L1 A1 n1 c1 xs1 ww (h1_2.below hw) hn1)
        have Z2 := Lib.hid (fun (ww : World) (hw : Below w2.heap.size w2 ww) => HTO2.out ww (h2_2.below hw))
        go_upto_region 11 with fail
        go_cut [8, 9] from 30 to 39 (fun v u wx => v = .int .i64 V ∧ u = .int .i64 C ∧ Below w2.heap.size w2 wx)
        case first =>
          go_region_held3 (fun w' => w'.cell? ⟨w.heap.size, 0, none⟩ = some (.int .i64 L0) ∧ w'.cell? ⟨w.heap.size, 1, none⟩ = some (.slice A0 n0 c0) ∧ w'.cell? ⟨w.heap.size + 1, 0, none⟩ = some (.int .i64 L1) ∧ w'.cell? ⟨w.heap.size + 1, 1, none⟩ = some (.slice A1 n1 c1)) (first | exact hcd | exact HS9.out _ hcur | go_keep) (first | (go_at_call 16; first | ((with_reducible refine (Z0.out _ hcur).mono ?_); rintro e wz0 ⟨g0, k0, rfl, -, oc0, hb0⟩; have hcz := hcur.size; have hcur := hcur.trans (hb0.mono hcz)) | ((with_reducible refine (Z1.out _ hcur).mono ?_); rintro e wz1 ⟨g1, k1, rfl, -, oc1, hb1⟩; have oc0 := oc0.below hb1; have hcz := hcur.size; have hcur := hcur.trans (hb1.mono hcz))) | (go_at_call 17; first | ((with_reducible refine (Z2.out _ hcur).mono ?_); rintro e wz2 ⟨p2, k2, rfl, oc2, hb2⟩; have oc0 := oc0.below hb2; have oc1 := oc1.below hb2; have hcz := hcur.size; have hcur := hcur.trans (hb2.mono hcz))) | (go_at_call 29; refine (hspec _ _ _ _ _ _ _ hn0 oc0.rd hn1 oc1.rd hn2 (oc2.rd HSX2.out)).mono ?_; rintro e wF ⟨rfl, hbF⟩; have hcz := hcur.size; have hcur := hcur.trans (hbF.mono hcz)))
          all_goals (
            go_wp2_with fail
            go_meet
            exact ⟨rfl, rfl, hcur⟩)
        case rest =>
          obtain ⟨rfl, rfl, ohb⟩ := hcut
          obtain ⟨w3, rfl⟩ : ∃ w9 : World, w9 = wc := ⟨_, rfl⟩
          clear hcur HS9 hcd Z0 Z1 Z2
          have B_3 := Lib.hid (B_2.out.trans (ohb.mono B_2.out.size))
          have S_2 := Lib.hid ohb.size
          have a0_3 := a0_2.next ohb
          have a1_3 := a1_2.next ohb
          have h0_3 := h0_2.below ohb
          have h1_3 := h1_2.below ohb
          have h2_3 := h2_2.below ohb
          have T_3 := T_2.below ohb
          clear a0_2 a1_2 h0_2 h1_2 h2_2 T_2
          have f9 := a0_3.c0
          have f10 := a0_3.c1
          have f11 := a1_3.c0
          have f12 := a1_3.c1
          go_wp2_with fail
          refine (toAl_any L0 _ n0 _ xs0 _ h0_3 hn0).mono ?_
          rintro e w4 ⟨x0g, x0c, rfl, x0hg, x0ho, x0hb⟩
          clear f9 f10 f11 f12
          obtain ⟨x0A, x0e⟩ : ∃ x0A : Option Addr, x0A = (some ⟨x0g, 0, none⟩) := ⟨_, rfl⟩
          rw [← x0e] at x0ho ⊢
          clear x0e
          have LTx0 : Hid (∀ k, (x0A : Option Addr).map (·.block) = some k → w3.heap.size ≤ k ∧ k < w4.heap.size) := Lib.hid (fun k hk => x0ho.lt k hk)
          have B_4 := Lib.hid (B_3.out.trans (x0hb.mono B_3.out.size))
          have S_3 := Lib.hid x0hb.size
          have a0_4 := a0_3.next x0hb
          have a1_4 := a1_3.next x0hb
          have h0_4 := h0_3.below x0hb
          have h1_4 := h1_3.below x0hb
          have h2_4 := h2_3.below x0hb
          have T_4 := T_3.below x0hb
          clear a0_3 a1_3 h0_3 h1_3 h2_3 T_3
          have x0_4 := x0ho
          have kp_4 := below1 w4 (.cells #[.int .i64 L0, .slice x0A n0 x0c] 29)
          have f13 := a0_4.c0
          have f14 := a0_4.c1
          have f15 := (a0_4.next kp_4).c0
          have f16 := (a0_4.next kp_4).c1
          have f17 := a1_4.c0
          have f18 := a1_4.c1
          have f19 := (a1_4.next kp_4).c0
          have f20 := (a1_4.next kp_4).c1
          go_wp2_with fail
          refine (toAl_any L1 _ n1 _ xs1 _ (h1_4.below kp_4) hn1).mono ?_
          rintro e w5 ⟨x1g, x1c, rfl, x1hg, x1ho, x1hb⟩
          clear f13 f14 f15 f16 f17 f18 f19 f20
          obtain ⟨x1A, x1e⟩ : ∃ x1A : Option Addr, x1A = (some ⟨x1g, 0, none⟩) := ⟨_, rfl⟩
          rw [← x1e] at x1ho ⊢
          clear x1e
          have LTx1 : Hid (∀ k, (x1A : Option Addr).map (·.block) = some k → w4.heap.size + 1 ≤ k ∧ k < w5.heap.size) := Lib.hid (fun k hk => by have h9 := x1ho.lt k hk; have e9 : (w4.alloc (.cells #[.int .i64 L0, .slice x0A n0 x0c] 29)).heap.size = w4.heap.size + 1 := (by simp); omega)
          have hbb_4 := kp_4.trans (x1hb.mono kp_4.size)
          have B_5 := Lib.hid (B_4.out.trans (hbb_4.mono B_4.out.size))
          have S_4 : Hid (w4.heap.size + 1 ≤ w5.heap.size) := Lib.hid (by have h9 := x1hb.size; have e9 : (w4.alloc (.cells #[.int .i64 L0, .slice x0A n0 x0c] 29)).heap.size = w4.heap.size + 1 := (by simp); omega)
          have a0_5 := a0_4.next hbb_4
          have a1_5 := a1_4.next hbb_4
          have h0_5 := h0_4.below hbb_4
          have h1_5 := h1_4.below hbb_4
          have h2_5 := h2_4.below hbb_4
          have T_5 := T_4.below hbb_4
          have x0_5 := x0_4.below hbb_4
          have x0x_5 := (box_new 29 w4 L0 x0A n0 x0c).next x1hb
          clear a0_4 a1_4 h0_4 h1_4 h2_4 T_4 x0_4
          have x1_5 := x1ho.mono kp_4.size
          have kp_5 := below1 w5 (.cells #[.int .i64 L1, .slice x1A n1 x1c] 29)
          have f21 := a0_5.c0
          have f22 := a0_5.c1
          have f23 := (a0_5.next kp_5).c0
          have f24 := (a0_5.next kp_5).c1
          have f25 := a1_5.c0
          have f26 := a1_5.c1
          have f27 := (a1_5.next kp_5).c0
          have f28 := (a1_5.next kp_5).c1
          have f29 := x0x_5.c0
          have f30 := x0x_5.c1
          have f31 := (x0x_5.next kp_5).c0
          have f32 := (x0x_5.next kp_5).c1
          go_wp2_with fail
          refine (HTO2.out _ (h2_5.below kp_5)).mono ?_
          rintro e w6 ⟨x2A, x2c, rfl, x2ho, x2hb⟩
          clear f21 f22 f23 f24 f25 f26 f27 f28 f29 f30 f31 f32
          obtain ⟨x2lo, x2e1⟩ : ∃ q : Nat, q = (w5.alloc (.cells #[.int .i64 L1, .slice x1A n1 x1c] 29)).heap.size := ⟨_, rfl⟩
          obtain ⟨x2hi, x2e2⟩ : ∃ q : Nat, q = w6.heap.size := ⟨_, rfl⟩
          have x2h2 : OwnSS w6 x2lo x2hi x2A n2 x2c xs2 := by rw [x2e1, x2e2]; exact x2ho
          have LTx2 : Hid (w5.heap.size + 1 ≤ x2lo ∧ x2hi = w6.heap.size) := Lib.hid ⟨by rw [x2e1]; simp, x2e2⟩
          clear x2ho x2e1 x2e2
          have hbb_5 := kp_5.trans (x2hb.mono kp_5.size)
          have B_6 := Lib.hid (B_5.out.trans (hbb_5.mono B_5.out.size))
          have S_5 : Hid (w5.heap.size + 1 ≤ w6.heap.size) := Lib.hid (by have h9 := x2hb.size; have e9 : (w5.alloc (.cells #[.int .i64 L1, .slice x1A n1 x1c] 29)).heap.size = w5.heap.size + 1 := (by simp); omega)
          have a0_6 := a0_5.next hbb_5
          have a1_6 := a1_5.next hbb_5
          have h0_6 := h0_5.below hbb_5
          have h1_6 := h1_5.below hbb_5
          have h2_6 := h2_5.below hbb_5
          have T_6 := T_5.below hbb_5
          have x0_6 := x0_5.below hbb_5
          have x0x_6 := x0x_5.next hbb_5
          have x1_6 := x1_5.below hbb_5
          have x1x_6 := (box_new 29 w5 L1 x1A n1 x1c).next x2hb
          clear a0_5 a1_5 h0_5 h1_5 h2_5 T_5 x0_5 x0x_5 x1_5
          have x2_6 := x2h2
          have f33 := a0_6.c0
          have f34 := a0_6.c1
          have f35 := a1_6.c0
          have f36 := a1_6.c1
          have f37 := x0x_6.c0
          have f38 := x0x_6.c1
          have f39 := x1x_6.c0
          have f40 := x1x_6.c1
          go_wp2_with fail
          refine (himpl _ _ _ _ _ _ _ hn0 x0_6.rd hn1 x1_6.rd hn2 (x2_6.rd HSX2.out) T_6).mono ?_
          rintro e w7 ⟨rfl, ghb⟩
          clear f33 f34 f35 f36 f37 f38 f39 f40
          have B_7 := Lib.hid (B_6.out.trans (ghb.mono B_6.out.size))
          have S_6 := Lib.hid ghb.size
          have a0_7 := a0_6.next ghb
          have a1_7 := a1_6.next ghb
          have h0_7 := h0_6.below ghb
          have h1_7 := h1_6.below ghb
          have h2_7 := h2_6.below ghb
          have T_7 := T_6.below ghb
          have x0_7 := x0_6.below ghb
          have x0x_7 := x0x_6.next ghb
          have x1_7 := x1_6.below ghb
          have x1x_7 := x1x_6.next ghb
          have x2_7 := x2_6.below ghb
          clear a0_6 a1_6 h0_6 h1_6 h2_6 T_6 x0_6 x0x_6 x1_6 x1x_6 x2_6
          have hvv : (V == V) = true := by simp
          have f41 := a0_7.c0
          have f42 := a0_7.c1
          have f43 := a1_7.c0
          have f44 := a1_7.c1
          have f45 := x0x_7.c0
          have f46 := x0x_7.c1
          have f47 := x1x_7.c0
          have f48 := x1x_7.c1
          go_upto_region 18 with fail
          go_cut [65] from 61 to 65 (fun v wx => v = .bool false ∧ Below w7.heap.size w7 wx)
          case first =>
            have Z0 : ∀ (ww : World), Below w7.heap.size w7 ww → Calls Tryd.prog 16 #[.agg #[.int .i64 L0, .slice A0 n0 c0]] ww fun e w' => ∃ g c', e = .returned (.agg #[.int .i64 L0, .slice (some ⟨g, 0, none⟩) n0 c']) ∧ Own 2 w' ww.heap.size (some ⟨g, 0, none⟩) n0 c' xs0 ∧ Below ww.heap.size ww w' := fun ww hww => (toAl_any L0 _ n0 _ xs0 _ (h0_7.below hww) hn0).mono fun e w' ⟨g, c', he, _, ho, hb⟩ => ⟨g, c', he, ho, hb⟩
            have hdr : Below w7.heap.size w7 w7.drew := (Below.refl _ _).drew
            have rc0 := (x0x_7.next hdr).c0
            have tc0 := (a0_7.next hdr).c0
            have rc1 := (x0x_7.next hdr).c1
            have tc1 := (a0_7.next hdr).c1
            go_region_with (first | (go_at_call 16; refine (Z0 _ hdr).mono ?_; rintro e wz ⟨gz, cz, rfl, hoz, hbz⟩; have hbz2 := hdr.trans (hbz.mono hdr.size); have q0 := (x0x_7.next hbz2).c0; have q1 := (x0x_7.next hbz2).c1) | (go_at_call 19; refine (eqAl_true L0 _ _ _ _ _ xs0 _ (x0_7.below hbz2).rd hoz.rd hm0).mono ?_; rintro e wy ⟨rfl, hby⟩; have hby2 := hbz2.trans (hby.mono hbz2.size)))
            all_goals (go_wp2_with fail; go_meet; exact ⟨rfl, hby2⟩)
          case rest =>
            obtain ⟨rfl, hcb⟩ := hcut
            obtain ⟨w8, rfl⟩ : ∃ w9 : World, w9 = wc := ⟨_, rfl⟩
            clear f41 f42 f43 f44 f45 f46 f47 f48
            have B_8 := Lib.hid (B_7.out.trans (hcb.mono B_7.out.size))
            have S_7 := Lib.hid hcb.size
            have a0_8 := a0_7.next hcb
            have a1_8 := a1_7.next hcb
            have h0_8 := h0_7.below hcb
            have h1_8 := h1_7.below hcb
            have h2_8 := h2_7.below hcb
            have T_8 := T_7.below hcb
            have x0_8 := x0_7.below hcb
            have x0x_8 := x0x_7.next hcb
            have x1_8 := x1_7.below hcb
            have x1x_8 := x1x_7.next hcb
            have x2_8 := x2_7.below hcb
            clear a0_7 a1_7 h0_7 h1_7 h2_7 T_7 x0_7 x0x_7 x1_7 x1x_7 x2_7
            have f49 := a0_8.c0
            have f50 := a0_8.c1
            have f51 := a1_8.c0
            have f52 := a1_8.c1
            have f53 := x0x_8.c0
            have f54 := x0x_8.c1
            have f55 := x1x_8.c0
            have f56 := x1x_8.c1
            go_upto_region 20 with fail
            go_cut [70] from 66 to 70 (fun v wx => v = .bool false ∧ Below w8.heap.size w8 wx)
            case first =>
              have Z1 : ∀ (ww : World), Below w8.heap.size w8 ww → Calls Tryd.prog 16 #[.agg #[.int .i64 L1, .slice A1 n1 c1]] ww fun e w' => ∃ g c', e = .returned (.agg #[.int .i64 L1, .slice (some ⟨g, 0, none⟩) n1 c']) ∧ Own 2 w' ww.heap.size (some ⟨g, 0, none⟩) n1 c' xs1 ∧ Below ww.heap.size ww w' := fun ww hww => (toAl_any L1 _ n1 _ xs1 _ (h1_8.below hww) hn1).mono fun e w' ⟨g, c', he, _, ho, hb⟩ => ⟨g, c', he, ho, hb⟩
              have hdr : Below w8.heap.size w8 w8.drew := (Below.refl _ _).drew
              have rc0 := (x1x_8.next hdr).c0
              have tc0 := (a1_8.next hdr).c0
              have rc1 := (x1x_8.next hdr).c1
              have tc1 := (a1_8.next hdr).c1
              go_region_with (first | (go_at_call 16; refine (Z1 _ hdr).mono ?_; rintro e wz ⟨gz, cz, rfl, hoz, hbz⟩; have hbz2 := hdr.trans (hbz.mono hdr.size); have q0 := (x1x_8.next hbz2).c0; have q1 := (x1x_8.next hbz2).c1) | (go_at_call 19; refine (eqAl_true L1 _ _ _ _ _ xs1 _ (x1_8.below hbz2).rd hoz.rd hm1).mono ?_; rintro e wy ⟨rfl, hby⟩; have hby2 := hbz2.trans (hby.mono hbz2.size)))
              all_goals (go_wp2_with fail; go_meet; exact ⟨rfl, hby2⟩)
            case rest =>
              obtain ⟨rfl, hcb⟩ := hcut
              obtain ⟨w9, rfl⟩ : ∃ w9 : World, w9 = wc := ⟨_, rfl⟩
              clear f49 f50 f51 f52 f53 f54 f55 f56
              have B_9 := Lib.hid (B_8.out.trans (hcb.mono B_8.out.size))
              have S_8 := Lib.hid hcb.size
              have a0_9 := a0_8.next hcb
              have a1_9 := a1_8.next hcb
              have h0_9 := h0_8.below hcb
              have h1_9 := h1_8.below hcb
              have h2_9 := h2_8.below hcb
              have T_9 := T_8.below hcb
              have x0_9 := x0_8.below hcb
              have x0x_9 := x0x_8.next hcb
              have x1_9 := x1_8.below hcb
              have x1x_9 := x1x_8.next hcb
              have x2_9 := x2_8.below hcb
              clear a0_8 a1_8 h0_8 h1_8 h2_8 T_8 x0_8 x0x_8 x1_8 x1x_8 x2_8
              have f57 := a0_9.c0
              have f58 := a0_9.c1
              have f59 := a1_9.c0
              have f60 := a1_9.c1
              have f61 := x0x_9.c0
              have f62 := x0x_9.c1
              have f63 := x1x_9.c0
              have f64 := x1x_9.c1
              go_wp2_with fail
              refine (HTO2.out _ h2_9).mono ?_
              rintro e w10 ⟨y2A, y2c, rfl, y2ho, y2hb⟩
              clear f57 f58 f59 f60 f61 f62 f63 f64
              obtain ⟨y2lo, y2e1⟩ : ∃ q : Nat, q = w9.heap.size := ⟨_, rfl⟩
              obtain ⟨y2hi, y2e2⟩ : ∃ q : Nat, q = w10.heap.size := ⟨_, rfl⟩
              have y2h2 : OwnSS w10 y2lo y2hi y2A n2 y2c xs2 := by rw [y2e1, y2e2]; exact y2ho
              have LTy2 : Hid (w9.heap.size ≤ y2lo ∧ y2hi = w10.heap.size) := Lib.hid ⟨by rw [y2e1]; exact Nat.le_refl _, y2e2⟩
              clear y2ho y2e1 y2e2
              have B_10 := Lib.hid (B_9.out.trans (y2hb.mono B_9.out.size))
              have S_9 := Lib.hid y2hb.size
              have a0_10 := a0_9.next y2hb
              have a1_10 := a1_9.next y2hb
              have h0_10 := h0_9.below y2hb
              have h1_10 := h1_9.below y2hb
              have h2_10 := h2_9.below y2hb
              have T_10 := T_9.below y2hb
              have x0_10 := x0_9.below y2hb
              have x0x_10 := x0x_9.next y2hb
              have x1_10 := x1_9.below y2hb
              have x1x_10 := x1x_9.next y2hb
              have x2_10 := x2_9.below y2hb
              clear a0_9 a1_9 h0_9 h1_9 h2_9 T_9 x0_9 x0x_9 x1_9 x1x_9 x2_9
              have y2_10 := y2h2
              have f66 := a0_10.c0
              have f67 := a0_10.c1
              have f68 := a1_10.c0
              have f69 := a1_10.c1
              have f70 := x0x_10.c0
              have f71 := x0x_10.c1
              have f72 := x1x_10.c0
              have f73 := x1x_10.c1
              go_wp2_with fail
              refine (eqSS_true _ _ _ _ _ xs2 _ (x2_10.rd HSX2.out) (y2_10.rd HSX2.out) (by omega)).mono ?_
              rintro e w11 ⟨rfl, hb65⟩
              clear f66 f67 f68 f69 f70 f71 f72 f73
              have B_11 := Lib.hid (B_10.out.trans (hb65.mono B_10.out.size))
              have S_10 := Lib.hid hb65.size
              have a0_11 := a0_10.next hb65
              have a1_11 := a1_10.next hb65
              have h0_11 := h0_10.below hb65
              have h1_11 := h1_10.below hb65
              have h2_11 := h2_10.below hb65
              have T_11 := T_10.below hb65
              have x0_11 := x0_10.below hb65
              have x0x_11 := x0x_10.next hb65
              have x1_11 := x1_10.below hb65
              have x1x_11 := x1x_10.next hb65
              have x2_11 := x2_10.below hb65
              have y2_11 := y2_10.below hb65
              clear a0_10 a1_10 h0_10 h1_10 h2_10 T_10 x0_10 x0x_10 x1_10 x1x_10 x2_10 y2_10
              clear y2_11
              have f74 := a0_11.c0
              have f75 := a0_11.c1
              have f76 := a1_11.c0
              have f77 := a1_11.c1
              have f78 := x0x_11.c0
              have f79 := x0x_11.c1
              have f80 := x1x_11.c0
              have f81 := x1x_11.c1
              go_wp2_with fail
              go_ret
              exact ⟨rfl, B_11.out⟩
      · go_enter Tryd.func5, Tryd.ntmps5
        go_wp2_with fail
        rw [← hw0]
        refine (sz_law L0 A0 n0 c0 _ hs0).mono ?_
        rintro e w1 ⟨rfl, hz0⟩
        have B_1 := Lib.hid (B_0.out.trans (hz0.mono B_0.out.size))
        have S_0 := Lib.hid hz0.size
        have a0_1 := a0_0.next hz0
        have a1_1 := a1_0.next hz0
        have h0_1 := h0_0.below hz0
        have h1_1 := h1_0.below hz0
        have h2_1 := h2_0.below hz0
        have T_1 := T_0.below hz0
        clear a0_0 a1_0 h0_0 h1_0 h2_0 T_0
        have f82 := a0_1.c0
        have f83 := a0_1.c1
        have f84 := a1_1.c0
        have f85 := a1_1.c1
        go_wp2_with fail
        refine (sz_any L1 A1 n1 c1 (1048576 - n0) _ hs1 (by omega)).mono ?_
        rintro e w2 ⟨rfl, hz1⟩
        clear f82 f83 f84 f85
        have B_2 := Lib.hid (B_1.out.trans (hz1.mono B_1.out.size))
        have S_1 := Lib.hid hz1.size
        have a0_2 := a0_1.next hz1
        have a1_2 := a1_1.next hz1
        have h0_2 := h0_1.below hz1
        have h1_2 := h1_1.below hz1
        have h2_2 := h2_1.below hz1
        have T_2 := T_1.below hz1
        clear a0_1 a1_1 h0_1 h1_1 h2_1 T_1
        have HSZ2 := Lib.hid (szSS_any A2 n2 c2 (((1048576 - n0) - n1)) ts2 _ h2_2 (by omega) hlm2)
        rw [if_neg hs2] at HSZ2
        have f86 := a0_2.c0
        have f87 := a0_2.c1
        have f88 := a1_2.c0
        have f89 := a1_2.c1
        go_wp2_with fail
        refine HSZ2.out.mono ?_
        rintro e w' ⟨rfl, rfl⟩
        clear f86 f87 f88 f89
        clear HSZ2
        go_wp2_with fail
        go_ret
        exact ⟨rfl, B_2.out⟩
    · go_enter Tryd.func5, Tryd.ntmps5
      go_wp2_with fail
      rw [← hw0]
      refine (sz_law L0 A0 n0 c0 _ hs0).mono ?_
      rintro e w1 ⟨rfl, hz0⟩
      have B_1 := Lib.hid (B_0.out.trans (hz0.mono B_0.out.size))
      have S_0 := Lib.hid hz0.size
      have a0_1 := a0_0.next hz0
      have a1_1 := a1_0.next hz0
      have h0_1 := h0_0.below hz0
      have h1_1 := h1_0.below hz0
      have h2_1 := h2_0.below hz0
      have T_1 := T_0.below hz0
      clear a0_0 a1_0 h0_0 h1_0 h2_0 T_0
      have f90 := a0_1.c0
      have f91 := a0_1.c1
      have f92 := a1_1.c0
      have f93 := a1_1.c1
      go_wp2_with fail
      refine (szno_m L1 A1 n1 c1 (1048576 - n0) _ (by omega) (by omega) hm1).mono ?_
      rintro e w2 ⟨rfl, hz1⟩
      clear f90 f91 f92 f93
      have B_2 := Lib.hid (B_1.out.trans (hz1.mono B_1.out.size))
      have S_1 := Lib.hid hz1.size
      have a0_2 := a0_1.next hz1
      have a1_2 := a1_1.next hz1
      have h0_2 := h0_1.below hz1
      have h1_2 := h1_1.below hz1
      have h2_2 := h2_1.below hz1
      have T_2 := T_1.below hz1
      clear a0_1 a1_1 h0_1 h1_1 h2_1 T_1
      go_wp2_with fail
      go_ret
      exact ⟨rfl, B_2.out⟩
  · go_enter Tryd.func5, Tryd.ntmps5
    go_wp2_with fail
    rw [← hw0]
    refine (szno_any L0 A0 n0 c0 _ (by omega) hm0).mono ?_
    rintro e w1 ⟨rfl, hz0⟩
    have B_1 := Lib.hid (B_0.out.trans (hz0.mono B_0.out.size))
    have S_0 := Lib.hid hz0.size
    have a0_1 := a0_0.next hz0
    have a1_1 := a1_0.next hz0
    have h0_1 := h0_0.below hz0
    have h1_1 := h1_0.below hz0
    have h2_1 := h2_0.below hz0
    have T_1 := T_0.below hz0
    clear a0_0 a1_0 h0_0 h1_0 h2_0 T_0
    go_wp2_with fail
    go_ret
    exact ⟨rfl, B_1.out⟩
end Go.Proofs.YtdafdffmkjhhcaaDoor

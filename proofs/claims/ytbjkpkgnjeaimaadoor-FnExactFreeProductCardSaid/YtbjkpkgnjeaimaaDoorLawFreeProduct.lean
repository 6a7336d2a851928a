/-
  The walk of FnExactFreeProduct, over contracts of both sides.
-/
import Derived.Test.YtbjkpkgnjeaimaaDoorProd2
import Derived.Test.YtbjkpkgnjeaimaaDoorAlphB
import Derived.Deep.CutRange
import Derived.Deep.RegionWith
namespace Go.Proofs.YtbjkpkgnjeaimaaDoor
open Go.RowKit
set_option linter.unusedVariables false
set_option maxRecDepth 100000
set_option maxHeartbeats 25600000 in
theorem lawFreeProduct (L0 : Int) (A0 : Option Addr) (n0 c0 : Nat) (xs0 : List Int) (L1 : Int) (A1 : Option Addr) (n1 c1 : Nat) (xs1 : List Int) (w : World) (hL01 : -9223372036854775808 ≤ L0) (hL02 : L0 ≤ 9223372036854775807) (h0 : Rd w A0 n0 xs0) (hwf0 : Wf xs0) (hl0 : n0 ≤ maxLen) (hL11 : -9223372036854775808 ≤ L1) (hL12 : L1 ≤ 9223372036854775807) (h1 : Rd w A1 n1 xs1) (hwf1 : Wf xs1) (hl1 : n1 ≤ maxLen) (hT : Tab w) (VL : Int) (VN : Nat) (VX : List Int) (C : Int) (hVN : VN ≤ 1048576)
    (hspec : ∀ (B0 : Option Addr) (d0 : Nat) (B1 : Option Addr) (d1 : Nat) (w' : World), n0 ≤ 1048576 → Rd w' B0 n0 xs0 → n1 ≤ 1048576 → Rd w' B1 n1 xs1 → Calls Tryd.prog 40 #[.agg #[.int .i64 L0, .slice B0 n0 d0], .agg #[.int .i64 L1, .slice B1 n1 d1]] w' (AlPost w' VL VN VX C))
    (himpl : ∀ (B0 : Option Addr) (d0 : Nat) (B1 : Option Addr) (d1 : Nat) (w' : World), n0 ≤ 1048576 → Rd w' B0 n0 xs0 → n1 ≤ 1048576 → Rd w' B1 n1 xs1 → Tab w' → Calls Tryd.prog 41 #[.agg #[.int .i64 L0, .slice B0 n0 d0], .agg #[.int .i64 L1, .slice B1 n1 d1]] w' (AlPost w' VL VN VX C)) :
    Calls Tryd.prog 11 #[.agg #[.int .i64 L0, .slice A0 n0 c0], .agg #[.int .i64 L1, .slice A1 n1 c1]] w fun e w' => e = .returned (.bool true) ∧ Below w.heap.size w w' := by
  unfold maxLen at hl0
  have hm0 : n0 ≤ 9223372036854775807 := by omega
  unfold maxLen at hl1
  have hm1 : n1 ≤ 9223372036854775807 := by omega
  obtain ⟨w0, hw0⟩ : ∃ w0 : World, w0 = ((w.alloc (.cells #[.int .i64 L0, .slice A0 n0 c0] 24)).alloc (.cells #[.int .i64 L1, .slice A1 n1 c1] 24)) := ⟨_, rfl⟩
  have B_0 := Lib.hid (show Below w.heap.size w w0 by rw [hw0]; exact below2 w _ _)
  have S0_ : Hid (w0.heap.size = w.heap.size + 2) := Lib.hid (by rw [hw0]; simp)
  have a0_0 : Box 24 w0 (w.heap.size) L0 A0 n0 c0 := by rw [hw0]; exact (box_new 24 w L0 A0 n0 c0).next (below1 _ _)
  have a1_0 : Box 24 w0 (w.heap.size + 1) L1 A1 n1 c1 := by rw [hw0]; have h9 := box_new 24 (w.alloc (.cells #[.int .i64 L0, .slice A0 n0 c0] 24)) L1 A1 n1 c1; simpa using h9
  have h0_0 := h0.below B_0.out
  have h1_0 := h1.below B_0.out
  have T_0 := hT.below B_0.out
  by_cases hs0 : n0 ≤ 1048576
  · by_cases hs1 : n1 ≤ 1048576 - n0
    · have hn0 : n0 ≤ 1048576 := by omega
      have hn1 : n1 ≤ 1048576 := by omega
      go_enter Tryd.func11, Tryd.ntmps11
      go_wp2_with fail
      rw [← hw0]
      refine (sz_law L0 A0 n0 c0 _ hs0).mono ?_
      rintro e w1 ⟨rfl, hz0⟩
      have B_1 := Lib.hid (B_0.out.trans (hz0.mono B_0.out.size))
      have S_0 := Lib.hid hz0.size
      have a0_1 := a0_0.next hz0
      have a1_1 := a1_0.next hz0
      have h0_1 := h0_0.below hz0
      have h1_1 := h1_0.below hz0
      have T_1 := T_0.below hz0
      clear a0_0 a1_0 h0_0 h1_0 T_0
      have f1 := a0_1.c0
      have f2 := a0_1.c1
      have f3 := a1_1.c0
      have f4 := a1_1.c1
      go_wp2_with fail
      refine (sz_any L1 A1 n1 c1 (1048576 - n0) _ hs1 (by omega)).mono ?_
      rintro e w2 ⟨rfl, hz1⟩
      clear f1 f2 f3 f4
      have B_2 := Lib.hid (B_1.out.trans (hz1.mono B_1.out.size))
      have S_1 := Lib.hid hz1.size
      have a0_2 := a0_1.next hz1
      have a1_2 := a1_1.next hz1
      have h0_2 := h0_1.below hz1
      have h1_2 := h1_1.below hz1
      have T_2 := T_1.below hz1
      clear a0_1 a1_1 h0_1 h1_1 T_1
      have f5 := a0_2.c0
      have f6 := a0_2.c1
      have f7 := a1_2.c0
      have f8 := a1_2.c1
      go_upto_region 8 with fail
      go_cut [6, 7] from 27 to 34 (fun p q wx => ∃ (g : Nat) (oA : Option Addr) (oc : Nat), p = .pointer (some ⟨g, 0, none⟩) ∧ q = .int .i64 C ∧ Box 27 wx g VL oA VN oc ∧ Own 2 wx w2.heap.size oA VN oc VX ∧ Below w2.heap.size w2 wx ∧ w2.heap.size ≤ g ∧ g < wx.heap.size)
      case first =>
        have Z0 : ∀ (ww : World), Below w2.heap.size w2 ww → Calls Tryd.prog 17 #[.agg #[.int .i64 L0, .slice A0 n0 c0]] ww fun e w' => ∃ g c', e = .returned (.agg #[.int .i64 L0, .slice (some ⟨g, 0, none⟩) n0 c']) ∧ Own 2 w' ww.heap.size (some ⟨g, 0, none⟩) n0 c' xs0 ∧ Below ww.heap.size ww w' := fun ww hww => (toAl_any L0 _ n0 _ xs0 _ (h0_2.below hww) hn0).mono fun e w' ⟨g, c', he, _, ho, hb⟩ => ⟨g, c', he, ho, hb⟩
        have Z1 : ∀ (ww : World), Below w2.heap.size w2 ww → Calls Tryd.prog 17 #[.agg #[.int .i64 L1, .slice A1 n1 c1]] ww fun e w' => ∃ g c', e = .returned (.agg #[.int .i64 L1, .slice (some ⟨g, 0, none⟩) n1 c']) ∧ Own 2 w' ww.heap.size (some ⟨g, 0, none⟩) n1 c' xs1 ∧ Below ww.heap.size ww w' := fun ww hww => (toAl_any L1 _ n1 _ xs1 _ (h1_2.below hww) hn1).mono fun e w' ⟨g, c', he, _, ho, hb⟩ => ⟨g, c', he, ho, hb⟩
        have hdr : Below w2.heap.size w2 w2.drew := (Below.refl _ _).drew
        have hdrA : Below w2.heap.size w2 ((w2.alloc (.cells #[.int .i64 0, .slice none 0 0] 27)).drew) := (below1 w2 (.cells #[.int .i64 0, .slice none 0 0] 27)).drew
        have hG0 : w2.drew.heap.size = w2.heap.size := rfl
        have t0c0 := (a0_2.next hdr).c0
        have tA0c0 := (a0_2.next hdrA).c0
        have t0c1 := (a0_2.next hdr).c1
        have tA0c1 := (a0_2.next hdrA).c1
        have t1c0 := (a1_2.next hdr).c0
        have tA1c0 := (a1_2.next hdrA).c0
        have t1c1 := (a1_2.next hdr).c1
        have tA1c1 := (a1_2.next hdrA).c1
        go_region_with (first | (go_at_call 17; (with_reducible refine (Z0 _ hdr).mono ?_); rintro e wz ⟨ga, ca, rfl, hoa, hba⟩; have hA1 := hdr.trans (hba.mono hdr.size); have hA1A := hA1.trans ((below1 wz (.cells #[.int .i64 0, .slice none 0 0] 27)).mono hA1.size); have b0 := (a1_2.next hA1).c0; have b1 := (a1_2.next hA1).c1; have bA0 := (a1_2.next hA1A).c0; have bA1 := (a1_2.next hA1A).c1) | (go_at_call 17; (with_reducible refine (Z0 _ hdrA).mono ?_); rintro e wz ⟨ga, ca, rfl, hoa, hba⟩; have hA1 := hdrA.trans (hba.mono hdrA.size); have hbx0 : Box 27 ((w2.alloc (.cells #[.int .i64 0, .slice none 0 0] 27)).drew) w2.heap.size 0 none 0 0 := box_new 27 w2 0 none 0 0; have hbx1 := hbx0.next hba; have hG1 : w2.heap.size ≤ w2.heap.size := Nat.le_refl _; have hA1A := hA1.trans ((below1 wz (.cells #[.int .i64 0, .slice none 0 0] 27)).mono hA1.size); have b0 := (a1_2.next hA1).c0; have b1 := (a1_2.next hA1).c1; have bA0 := (a1_2.next hA1A).c0; have bA1 := (a1_2.next hA1A).c1) | (go_at_call 17; (with_reducible refine (Z1 _ hA1).mono ?_); rintro e wy ⟨gb, cb, rfl, hob, hbb⟩; have hB1 := hA1.trans (hbb.mono hA1.size); have hoa2 := hoa.below hbb; (try (have hbx2 := hbx1.next hbb; have hG2 := hG1)); have hB1A := hB1.trans ((below1 wy (.cells #[.int .i64 0, .slice none 0 0] 27)).mono hB1.size)) | (go_at_call 17; (with_reducible refine (Z1 _ hA1A).mono ?_); rintro e wy ⟨gb, cb, rfl, hob, hbb⟩; have hB1 := hA1A.trans (hbb.mono hA1A.size); have hoa2 := (hoa.below (below1 wz (.cells #[.int .i64 0, .slice none 0 0] 27))).below hbb; have hbx2 := (box_new 27 wz 0 none 0 0).next hbb; have hG2 : w2.heap.size ≤ wz.heap.size := hA1.size; have hB1A := hB1.trans ((below1 wy (.cells #[.int .i64 0, .slice none 0 0] 27)).mono hB1.size)) | (go_at_call 40; (with_reducible refine (hspec _ _ _ _ wy hn0 hoa2.rd hn1 hob.rd).mono ?_); rintro e wx ⟨oA, oc, rfl, oho, ohb⟩; have ohb2 := hB1.trans (ohb.mono hB1.size); have own3 := oho.mono hB1.size; (try (have hbx3 := hbx2.next ohb; have hG3 := hG2; have hne3 := hbx2.lt; have v0 := hbx3.c0; have v1 := hbx3.c1; have vf0 := hbx3.fr 0; have vf1 := hbx3.fr 1))) | (go_at_call 40; refine (hspec _ _ _ _ (wy.alloc (.cells #[.int .i64 0, .slice none 0 0] 27)) hn0 (hoa2.below (below1 wy (.cells #[.int .i64 0, .slice none 0 0] 27))).rd hn1 (hob.below (below1 wy (.cells #[.int .i64 0, .slice none 0 0] 27))).rd).mono ?_; rintro e wx ⟨oA, oc, rfl, oho, ohb⟩; have ohb2 := hB1A.trans (ohb.mono hB1A.size); have own3 := oho.mono hB1A.size; have hbx3 := (box_new 27 wy 0 none 0 0).next ohb; have hG3 : w2.heap.size ≤ wy.heap.size := hB1.size; have hne3 : wy.heap.size < (wy.alloc (.cells #[.int .i64 0, .slice none 0 0] 27)).heap.size := (by simp); have v0 := hbx3.c0; have v1 := hbx3.c1; have vf0 := hbx3.fr 0; have vf1 := hbx3.fr 1))
        all_goals
          go_wp2_with fail
          go_meet
          first
          | exact ⟨_, oA, oc, rfl, rfl, hbx3.set _ _ _ _, own_other (own_other own3 _ _ _ (fun q hq => by have := (oho.lt q hq).1; omega)) _ _ _ (fun q hq => by have := (oho.lt q hq).1; omega), (ohb2.setCell (p := ⟨_, 0, none⟩) hG3 _).setCell (p := ⟨_, 1, none⟩) hG3 _, hG3, (hbx3.set VL oA VN oc).lt⟩
          | exact ⟨_, oA, oc, rfl, rfl, box_new _ wx VL oA VN oc, own3.below (below1 _ _), ohb2.trans ((below1 _ _).mono ohb2.size), ohb2.size, by simp⟩
      case rest =>
        obtain ⟨oxg, oA, oc, rfl, rfl, obx, oho, ohb, ol1, ol2⟩ := hcut
        obtain ⟨w3, rfl⟩ : ∃ w9 : World, w9 = wc := ⟨_, rfl⟩
        clear f5 f6 f7 f8
        have LBox : Hid (w2.heap.size ≤ oxg ∧ oxg < w3.heap.size) := Lib.hid ⟨ol1, ol2⟩
        have LTo : Hid (∀ k, (oA : Option Addr).map (·.block) = some k → w2.heap.size ≤ k ∧ k < w3.heap.size) := Lib.hid (fun k hk => oho.lt k hk)
        have B_3 := Lib.hid (B_2.out.trans (ohb.mono B_2.out.size))
        have S_2 := Lib.hid ohb.size
        have a0_3 := a0_2.next ohb
        have a1_3 := a1_2.next ohb
        have h0_3 := h0_2.below ohb
        have h1_3 := h1_2.below ohb
        have T_3 := T_2.below ohb
        clear a0_2 a1_2 h0_2 h1_2 T_2
        have o_3 := oho
        have ox_3 := obx
        have f9 := a0_3.c0
        have f10 := a0_3.c1
        have f11 := a1_3.c0
        have f12 := a1_3.c1
        have f13 := ox_3.c0
        have f14 := ox_3.c1
        go_wp2_with fail
        refine (toAl_any L0 _ n0 _ xs0 _ h0_3 hn0).mono ?_
        rintro e w4 ⟨x0g, x0c, rfl, x0hg, x0ho, x0hb⟩
        clear f9 f10 f11 f12 f13 f14
        obtain ⟨x0A, x0e⟩ : ∃ x0A : Option Addr, x0A = (some ⟨x0g, 0, none⟩) := ⟨_, rfl⟩
        rw [← x0e] at x0ho ⊢
        clear x0e
        have LTx0 : Hid (∀ k, (x0A : Option Addr).map (·.block) = some k → w3.heap.size ≤ k ∧ k < w4.heap.size) := Lib.hid (fun k hk => x0ho.lt k hk)
        have B_4 := Lib.hid (B_3.out.trans (x0hb.mono B_3.out.size))
        have S_3 := Lib.hid x0hb.size
        have a0_4 := a0_3.next x0hb
        have a1_4 := a1_3.next x0hb
        have h0_4 := h0_3.below x0hb
        have h1_4 := h1_3.below x0hb
        have T_4 := T_3.below x0hb
        have o_4 := o_3.below x0hb
        have ox_4 := ox_3.next x0hb
        clear a0_3 a1_3 h0_3 h1_3 T_3 o_3 ox_3
        have x0_4 := x0ho
        have kp_4 := below1 w4 (.cells #[.int .i64 L0, .slice x0A n0 x0c] 27)
        have f15 := a0_4.c0
        have f16 := a0_4.c1
        have f17 := (a0_4.next kp_4).c0
        have f18 := (a0_4.next kp_4).c1
        have f19 := a1_4.c0
        have f20 := a1_4.c1
        have f21 := (a1_4.next kp_4).c0
        have f22 := (a1_4.next kp_4).c1
        have f23 := ox_4.c0
        have f24 := ox_4.c1
        have f25 := (ox_4.next kp_4).c0
        have f26 := (ox_4.next kp_4).c1
        go_wp2_with fail
        refine (toAl_any L1 _ n1 _ xs1 _ (h1_4.below kp_4) hn1).mono ?_
        rintro e w5 ⟨x1g, x1c, rfl, x1hg, x1ho, x1hb⟩
        clear f15 f16 f17 f18 f19 f20 f21 f22 f23 f24 f25 f26
        obtain ⟨x1A, x1e⟩ : ∃ x1A : Option Addr, x1A = (some ⟨x1g, 0, none⟩) := ⟨_, rfl⟩
        rw [← x1e] at x1ho ⊢
        clear x1e
        have LTx1 : Hid (∀ k, (x1A : Option Addr).map (·.block) = some k → w4.heap.size + 1 ≤ k ∧ k < w5.heap.size) := Lib.hid (fun k hk => by have h9 := x1ho.lt k hk; have e9 : (w4.alloc (.cells #[.int .i64 L0, .slice x0A n0 x0c] 27)).heap.size = w4.heap.size + 1 := (by simp); omega)
        have hbb_4 := kp_4.trans (x1hb.mono kp_4.size)
        have B_5 := Lib.hid (B_4.out.trans (hbb_4.mono B_4.out.size))
        have S_4 : Hid (w4.heap.size + 1 ≤ w5.heap.size) := Lib.hid (by have h9 := x1hb.size; have e9 : (w4.alloc (.cells #[.int .i64 L0, .slice x0A n0 x0c] 27)).heap.size = w4.heap.size + 1 := (by simp); omega)
        have a0_5 := a0_4.next hbb_4
        have a1_5 := a1_4.next hbb_4
        have h0_5 := h0_4.below hbb_4
        have h1_5 := h1_4.below hbb_4
        have T_5 := T_4.below hbb_4
        have o_5 := o_4.below hbb_4
        have ox_5 := ox_4.next hbb_4
        have x0_5 := x0_4.below hbb_4
        have x0x_5 := (box_new 27 w4 L0 x0A n0 x0c).next x1hb
        clear a0_4 a1_4 h0_4 h1_4 T_4 o_4 ox_4 x0_4
        have x1_5 := x1ho.mono kp_4.size
        have kp_5 := below1 w5 (.cells #[.int .i64 L1, .slice x1A n1 x1c] 27)
        have f27 := a0_5.c0
        have f28 := a0_5.c1
        have f29 := (a0_5.next kp_5).c0
        have f30 := (a0_5.next kp_5).c1
        have f31 := a1_5.c0
        have f32 := a1_5.c1
        have f33 := (a1_5.next kp_5).c0
        have f34 := (a1_5.next kp_5).c1
        have f35 := ox_5.c0
        have f36 := ox_5.c1
        have f37 := (ox_5.next kp_5).c0
        have f38 := (ox_5.next kp_5).c1
        have f39 := x0x_5.c0
        have f40 := x0x_5.c1
        have f41 := (x0x_5.next kp_5).c0
        have f42 := (x0x_5.next kp_5).c1
        go_wp2_with fail
        refine (himpl _ _ _ _ _ hn0 (x0_5.below kp_5).rd hn1 (x1_5.below kp_5).rd (T_5.below kp_5)).mono ?_
        rintro e w6 ⟨gA, gc, rfl, gho, ghb⟩
        clear f27 f28 f29 f30 f31 f32 f33 f34 f35 f36 f37 f38 f39 f40 f41 f42
        have LTg : Hid (∀ k, (gA : Option Addr).map (·.block) = some k → w5.heap.size + 1 ≤ k ∧ k < w6.heap.size) := Lib.hid (fun k hk => by have h9 := gho.lt k hk; have e9 : (w5.alloc (.cells #[.int .i64 L1, .slice x1A n1 x1c] 27)).heap.size = w5.heap.size + 1 := (by simp); omega)
        have hbb_5 := kp_5.trans (ghb.mono kp_5.size)
        have B_6 := Lib.hid (B_5.out.trans (hbb_5.mono B_5.out.size))
        have S_5 : Hid (w5.heap.size + 1 ≤ w6.heap.size) := Lib.hid (by have h9 := ghb.size; have e9 : (w5.alloc (.cells #[.int .i64 L1, .slice x1A n1 x1c] 27)).heap.size = w5.heap.size + 1 := (by simp); omega)
        have a0_6 := a0_5.next hbb_5
        have a1_6 := a1_5.next hbb_5
        have h0_6 := h0_5.below hbb_5
        have h1_6 := h1_5.below hbb_5
        have T_6 := T_5.below hbb_5
        have o_6 := o_5.below hbb_5
        have ox_6 := ox_5.next hbb_5
        have x0_6 := x0_5.below hbb_5
        have x0x_6 := x0x_5.next hbb_5
        have x1_6 := x1_5.below hbb_5
        have x1x_6 := (box_new 27 w5 L1 x1A n1 x1c).next ghb
        clear a0_5 a1_5 h0_5 h1_5 T_5 o_5 ox_5 x0_5 x0x_5 x1_5
        have g_6 := gho.mono kp_5.size
        have kp_6 := below1 w6 (.cells #[.int .i64 VL, .slice gA VN gc] 27)
        have f44 := a0_6.c0
        have f45 := a0_6.c1
        have f46 := (a0_6.next kp_6).c0
        have f47 := (a0_6.next kp_6).c1
        have f48 := a1_6.c0
        have f49 := a1_6.c1
        have f50 := (a1_6.next kp_6).c0
        have f51 := (a1_6.next kp_6).c1
        have f52 := ox_6.c0
        have f53 := ox_6.c1
        have f54 := (ox_6.next kp_6).c0
        have f55 := (ox_6.next kp_6).c1
        have f56 := x0x_6.c0
        have f57 := x0x_6.c1
        have f58 := (x0x_6.next kp_6).c0
        have f59 := (x0x_6.next kp_6).c1
        have f60 := x1x_6.c0
        have f61 := x1x_6.c1
        have f62 := (x1x_6.next kp_6).c0
        have f63 := (x1x_6.next kp_6).c1
        go_wp2_with fail
        refine (eqAl_true VL _ _ _ _ _ VX _ (g_6.below kp_6).rd (o_6.below kp_6).rd (by omega)).mono ?_
        rintro e w7 ⟨rfl, hb43⟩
        clear f44 f45 f46 f47 f48 f49 f50 f51 f52 f53 f54 f55 f56 f57 f58 f59 f60 f61 f62 f63
        have hbb_6 := kp_6.trans (hb43.mono kp_6.size)
        have B_7 := Lib.hid (B_6.out.trans (hbb_6.mono B_6.out.size))
        have S_6 : Hid (w6.heap.size + 1 ≤ w7.heap.size) := Lib.hid (by have h9 := hb43.size; have e9 : (w6.alloc (.cells #[.int .i64 VL, .slice gA VN gc] 27)).heap.size = w6.heap.size + 1 := (by simp); omega)
        have a0_7 := a0_6.next hbb_6
        have a1_7 := a1_6.next hbb_6
        have h0_7 := h0_6.below hbb_6
        have h1_7 := h1_6.below hbb_6
        have T_7 := T_6.below hbb_6
        have o_7 := o_6.below hbb_6
        have ox_7 := ox_6.next hbb_6
        have x0_7 := x0_6.below hbb_6
        have x0x_7 := x0x_6.next hbb_6
        have x1_7 := x1_6.below hbb_6
        have x1x_7 := x1x_6.next hbb_6
        have g_7 := g_6.below hbb_6
        have gx_7 := (box_new 27 w6 VL gA VN gc).next hb43
        clear a0_6 a1_6 h0_6 h1_6 T_6 o_6 ox_6 x0_6 x0x_6 x1_6 x1x_6 g_6
        have f64 := a0_7.c0
        have f65 := a0_7.c1
        have f66 := a1_7.c0
        have f67 := a1_7.c1
        have f68 := ox_7.c0
        have f69 := ox_7.c1
        have f70 := x0x_7.c0
        have f71 := x0x_7.c1
        have f72 := x1x_7.c0
        have f73 := x1x_7.c1
        have f74 := gx_7.c0
        have f75 := gx_7.c1
        go_upto_region 14 with fail
        go_cut [58] from 54 to 58 (fun v wx => v = .bool false ∧ Below w7.heap.size w7 wx)
        case first =>
          have Z0 : ∀ (ww : World), Below w7.heap.size w7 ww → Calls Tryd.prog 17 #[.agg #[.int .i64 L0, .slice A0 n0 c0]] ww fun e w' => ∃ g c', e = .returned (.agg #[.int .i64 L0, .slice (some ⟨g, 0, none⟩) n0 c']) ∧ Own 2 w' ww.heap.size (some ⟨g, 0, none⟩) n0 c' xs0 ∧ Below ww.heap.size ww w' := fun ww hww => (toAl_any L0 _ n0 _ xs0 _ (h0_7.below hww) hn0).mono fun e w' ⟨g, c', he, _, ho, hb⟩ => ⟨g, c', he, ho, hb⟩
          have hdr : Below w7.heap.size w7 w7.drew := (Below.refl _ _).drew
          have rc0 := (x0x_7.next hdr).c0
          have tc0 := (a0_7.next hdr).c0
          have rc1 := (x0x_7.next hdr).c1
          have tc1 := (a0_7.next hdr).c1
          go_region_with (first | (go_at_call 17; refine (Z0 _ hdr).mono ?_; rintro e wz ⟨gz, cz, rfl, hoz, hbz⟩; have hbz2 := hdr.trans (hbz.mono hdr.size); have q0 := (x0x_7.next hbz2).c0; have q1 := (x0x_7.next hbz2).c1) | (go_at_call 19; refine (eqAl_true L0 _ _ _ _ _ xs0 _ (x0_7.below hbz2).rd hoz.rd hm0).mono ?_; rintro e wy ⟨rfl, hby⟩; have hby2 := hbz2.trans (hby.mono hbz2.size)))
          all_goals (go_wp2_with fail; go_meet; exact ⟨rfl, hby2⟩)
        case rest =>
          obtain ⟨rfl, hcb⟩ := hcut
          obtain ⟨w8, rfl⟩ : ∃ w9 : World, w9 = wc := ⟨_, rfl⟩
          clear f64 f65 f66 f67 f68 f69 f70 f71 f72 f73 f74 f75
          have B_8 := Lib.hid (B_7.out.trans (hcb.mono B_7.out.size))
          have S_7 := Lib.hid hcb.size
          have a0_8 := a0_7.next hcb
          have a1_8 := a1_7.next hcb
          have h0_8 := h0_7.below hcb
          have h1_8 := h1_7.below hcb
          have T_8 := T_7.below hcb
          have o_8 := o_7.below hcb
          have ox_8 := ox_7.next hcb
          have x0_8 := x0_7.below hcb
          have x0x_8 := x0x_7.next hcb
          have x1_8 := x1_7.below hcb
          have x1x_8 := x1x_7.next hcb
          have g_8 := g_7.below hcb
          have gx_8 := gx_7.next hcb
          clear a0_7 a1_7 h0_7 h1_7 T_7 o_7 ox_7 x0_7 x0x_7 x1_7 x1x_7 g_7 gx_7
          have f76 := a0_8.c0
          have f77 := a0_8.c1
          have f78 := a1_8.c0
          have f79 := a1_8.c1
          have f80 := ox_8.c0
          have f81 := ox_8.c1
          have f82 := x0x_8.c0
          have f83 := x0x_8.c1
          have f84 := x1x_8.c0
          have f85 := x1x_8.c1
          have f86 := gx_8.c0
          have f87 := gx_8.c1
          go_upto_region 16 with fail
          go_cut [63] from 59 to 63 (fun v wx => v = .bool false ∧ Below w8.heap.size w8 wx)
          case first =>
            have Z1 : ∀ (ww : World), Below w8.heap.size w8 ww → Calls Tryd.prog 17 #[.agg #[.int .i64 L1, .slice A1 n1 c1]] ww fun e w' => ∃ g c', e = .returned (.agg #[.int .i64 L1, .slice (some ⟨g, 0, none⟩) n1 c']) ∧ Own 2 w' ww.heap.size (some ⟨g, 0, none⟩) n1 c' xs1 ∧ Below ww.heap.size ww w' := fun ww hww => (toAl_any L1 _ n1 _ xs1 _ (h1_8.below hww) hn1).mono fun e w' ⟨g, c', he, _, ho, hb⟩ => ⟨g, c', he, ho, hb⟩
            have hdr : Below w8.heap.size w8 w8.drew := (Below.refl _ _).drew
            have rc0 := (x1x_8.next hdr).c0
            have tc0 := (a1_8.next hdr).c0
            have rc1 := (x1x_8.next hdr).c1
            have tc1 := (a1_8.next hdr).c1
            go_region_with (first | (go_at_call 17; refine (Z1 _ hdr).mono ?_; rintro e wz ⟨gz, cz, rfl, hoz, hbz⟩; have hbz2 := hdr.trans (hbz.mono hdr.size); have q0 := (x1x_8.next hbz2).c0; have q1 := (x1x_8.next hbz2).c1) | (go_at_call 19; refine (eqAl_true L1 _ _ _ _ _ xs1 _ (x1_8.below hbz2).rd hoz.rd hm1).mono ?_; rintro e wy ⟨rfl, hby⟩; have hby2 := hbz2.trans (hby.mono hbz2.size)))
            all_goals (go_wp2_with fail; go_meet; exact ⟨rfl, hby2⟩)
          case rest =>
            obtain ⟨rfl, hcb⟩ := hcut
            obtain ⟨w9, rfl⟩ : ∃ w9 : World, w9 = wc := ⟨_, rfl⟩
            clear f76 f77 f78 f79 f80 f81 f82 f83 f84 f85 f86 f87
            have B_9 := Lib.hid (B_8.out.trans (hcb.mono B_8.out.size))
            have S_8 := Lib.hid hcb.size
            have a0_9 := a0_8.next hcb
            have a1_9 := a1_8.next hcb
            have h0_9 := h0_8.below hcb
            have h1_9 := h1_8.below hcb
            have T_9 := T_8.below hcb
            have o_9 := o_8.below hcb
            have ox_9 := ox_8.next hcb
            have x0_9 := x0_8.below hcb
            have x0x_9 := x0x_8.next hcb
            have x1_9 := x1_8.below hcb
            have x1x_9 := x1x_8.next hcb
            have g_9 := g_8.below hcb
            have gx_9 := gx_8.next hcb
            clear a0_8 a1_8 h0_8 h1_8 T_8 o_8 ox_8 x0_8 x0x_8 x1_8 x1x_8 g_8 gx_8
            have f88 := a0_9.c0
            have f89 := a0_9.c1
            have f90 := a1_9.c0
            have f91 := a1_9.c1
            have f92 := ox_9.c0
            have f93 := ox_9.c1
            have f94 := x0x_9.c0
            have f95 := x0x_9.c1
            have f96 := x1x_9.c0
            have f97 := x1x_9.c1
            have f98 := gx_9.c0
            have f99 := gx_9.c1
            go_wp2_with fail
            refine (markAl_any _ _ L0 _ _ _ (1) _ _ x0_9 hn0 (by omega)).mono ?_
            rintro e w10 ⟨rfl, mx0, mg0⟩
            clear f88 f89 f90 f91 f92 f93 f94 f95 f96 f97 f98 f99
            have S_9 := Lib.hid mg0.size
            have B_10 := Lib.hid (B_9.out.grown mg0 B_9.out.size (fun k hk => by have := (LTx0.out k hk).1; have := S_0.out; have := S_1.out; have := S_2.out; have := S_3.out; have := S_4.out; have := S_5.out; have := S_6.out; have := S_7.out; have := S_8.out; have := S0_.out; omega))
            have a0_10 := a0_9.apart mg0 (fun e => by have := LTx0.out _ e; have := S_0.out; have := S_1.out; have := S_2.out; have := S_3.out; have := S_4.out; have := S_5.out; have := S_6.out; have := S_7.out; have := S_8.out; have := S0_.out; omega)
            have a1_10 := a1_9.apart mg0 (fun e => by have := LTx0.out _ e; have := S_0.out; have := S_1.out; have := S_2.out; have := S_3.out; have := S_4.out; have := S_5.out; have := S_6.out; have := S_7.out; have := S_8.out; have := S0_.out; omega)
            have h0_10 := h0.below B_10.out
            have h1_10 := h1.below B_10.out
            have T_10 := hT.below B_10.out
            have o_10 := o_9.apart mg0 (fun k hk e => by have := LTo.out k hk; have := LTx0.out k e; have := S_0.out; have := S_1.out; have := S_2.out; have := S_3.out; have := S_4.out; have := S_5.out; have := S_6.out; have := S_7.out; have := S_8.out; omega)
            have ox_10 := ox_9.apart mg0 (fun e => by have := LTx0.out _ e; have := LBox.out; have := S_0.out; have := S_1.out; have := S_2.out; have := S_3.out; have := S_4.out; have := S_5.out; have := S_6.out; have := S_7.out; have := S_8.out; have := S0_.out; omega)
            have x0x_10 := x0x_9.apart mg0 (fun e => by have := LTx0.out _ e; have := S_0.out; have := S_1.out; have := S_2.out; have := S_3.out; have := S_4.out; have := S_5.out; have := S_6.out; have := S_7.out; have := S_8.out; have := S0_.out; omega)
            have x1_10 := x1_9.apart mg0 (fun k hk e => by have := LTx1.out k hk; have := LTx0.out k e; have := S_0.out; have := S_1.out; have := S_2.out; have := S_3.out; have := S_4.out; have := S_5.out; have := S_6.out; have := S_7.out; have := S_8.out; omega)
            have x1x_10 := x1x_9.apart mg0 (fun e => by have := LTx0.out _ e; have := S_0.out; have := S_1.out; have := S_2.out; have := S_3.out; have := S_4.out; have := S_5.out; have := S_6.out; have := S_7.out; have := S_8.out; have := S0_.out; omega)
            have g_10 := g_9.apart mg0 (fun k hk e => by have := LTg.out k hk; have := LTx0.out k e; have := S_0.out; have := S_1.out; have := S_2.out; have := S_3.out; have := S_4.out; have := S_5.out; have := S_6.out; have := S_7.out; have := S_8.out; omega)
            have gx_10 := gx_9.apart mg0 (fun e => by have := LTx0.out _ e; have := S_0.out; have := S_1.out; have := S_2.out; have := S_3.out; have := S_4.out; have := S_5.out; have := S_6.out; have := S_7.out; have := S_8.out; have := S0_.out; omega)
            clear a0_9 a1_9 h0_9 h1_9 T_9 o_9 ox_9 x0x_9 x1_9 x1x_9 g_9 gx_9
            have x0_10 := mx0
            have f100 := a0_10.c0
            have f101 := a0_10.c1
            have f102 := a1_10.c0
            have f103 := a1_10.c1
            have f104 := ox_10.c0
            have f105 := ox_10.c1
            have f106 := x0x_10.c0
            have f107 := x0x_10.c1
            have f108 := x1x_10.c0
            have f109 := x1x_10.c1
            have f110 := gx_10.c0
            have f111 := gx_10.c1
            go_wp2_with fail
            refine (markAl_any _ _ L1 _ _ _ (1 + n0) _ _ x1_10 hn1 (by omega)).mono ?_
            rintro e w11 ⟨rfl, mx1, mg1⟩
            clear f100 f101 f102 f103 f104 f105 f106 f107 f108 f109 f110 f111
            have S_10 := Lib.hid mg1.size
            have B_11 := Lib.hid (B_10.out.grown mg1 B_10.out.size (fun k hk => by have := (LTx1.out k hk).1; have := S_0.out; have := S_1.out; have := S_2.out; have := S_3.out; have := S_4.out; have := S_5.out; have := S_6.out; have := S_7.out; have := S_8.out; have := S_9.out; have := S0_.out; omega))
            have a0_11 := a0_10.apart mg1 (fun e => by have := LTx1.out _ e; have := S_0.out; have := S_1.out; have := S_2.out; have := S_3.out; have := S_4.out; have := S_5.out; have := S_6.out; have := S_7.out; have := S_8.out; have := S_9.out; have := S0_.out; omega)
            have a1_11 := a1_10.apart mg1 (fun e => by have := LTx1.out _ e; have := S_0.out; have := S_1.out; have := S_2.out; have := S_3.out; have := S_4.out; have := S_5.out; have := S_6.out; have := S_7.out; have := S_8.out; have := S_9.out; have := S0_.out; omega)
            have h0_11 := h0.below B_11.out
            have h1_11 := h1.below B_11.out
            have T_11 := hT.below B_11.out
            have o_11 := o_10.apart mg1 (fun k hk e => by have := LTo.out k hk; have := LTx1.out k e; have := S_0.out; have := S_1.out; have := S_2.out; have := S_3.out; have := S_4.out; have := S_5.out; have := S_6.out; have := S_7.out; have := S_8.out; have := S_9.out; omega)
            have ox_11 := ox_10.apart mg1 (fun e => by have := LTx1.out _ e; have := LBox.out; have := S_0.out; have := S_1.out; have := S_2.out; have := S_3.out; have := S_4.out; have := S_5.out; have := S_6.out; have := S_7.out; have := S_8.out; have := S_9.out; have := S0_.out; omega)
            have x0_11 := x0_10.apart mg1 (fun k hk e => by have := LTx0.out k hk; have := LTx1.out k e; have := S_0.out; have := S_1.out; have := S_2.out; have := S_3.out; have := S_4.out; have := S_5.out; have := S_6.out; have := S_7.out; have := S_8.out; have := S_9.out; omega)
            have x0x_11 := x0x_10.apart mg1 (fun e => by have := LTx1.out _ e; have := S_0.out; have := S_1.out; have := S_2.out; have := S_3.out; have := S_4.out; have := S_5.out; have := S_6.out; have := S_7.out; have := S_8.out; have := S_9.out; have := S0_.out; omega)
            have x1x_11 := x1x_10.apart mg1 (fun e => by have := LTx1.out _ e; have := S_0.out; have := S_1.out; have := S_2.out; have := S_3.out; have := S_4.out; have := S_5.out; have := S_6.out; have := S_7.out; have := S_8.out; have := S_9.out; have := S0_.out; omega)
            have g_11 := g_10.apart mg1 (fun k hk e => by have := LTg.out k hk; have := LTx1.out k e; have := S_0.out; have := S_1.out; have := S_2.out; have := S_3.out; have := S_4.out; have := S_5.out; have := S_6.out; have := S_7.out; have := S_8.out; have := S_9.out; omega)
            have gx_11 := gx_10.apart mg1 (fun e => by have := LTx1.out _ e; have := S_0.out; have := S_1.out; have := S_2.out; have := S_3.out; have := S_4.out; have := S_5.out; have := S_6.out; have := S_7.out; have := S_8.out; have := S_9.out; have := S0_.out; omega)
            clear a0_10 a1_10 h0_10 h1_10 T_10 o_10 ox_10 x0_10 x0x_10 x1x_10 g_10 gx_10
            have x1_11 := mx1
            clear x0_11
            clear x1_11
            have f113 := a0_11.c0
            have f114 := a0_11.c1
            have f115 := a1_11.c0
            have f116 := a1_11.c1
            have f117 := ox_11.c0
            have f118 := ox_11.c1
            have f119 := x0x_11.c0
            have f120 := x0x_11.c1
            have f121 := x1x_11.c0
            have f122 := x1x_11.c1
            have f123 := gx_11.c0
            have f124 := gx_11.c1
            go_wp2_with fail
            refine (eqAl_true VL _ _ _ _ _ VX _ g_11.rd o_11.rd (by omega)).mono ?_
            rintro e w12 ⟨rfl, hb112⟩
            clear f113 f114 f115 f116 f117 f118 f119 f120 f121 f122 f123 f124
            have B_12 := Lib.hid (B_11.out.trans (hb112.mono B_11.out.size))
            have S_11 := Lib.hid hb112.size
            have a0_12 := a0_11.next hb112
            have a1_12 := a1_11.next hb112
            have h0_12 := h0_11.below hb112
            have h1_12 := h1_11.below hb112
            have T_12 := T_11.below hb112
            have o_12 := o_11.below hb112
            have ox_12 := ox_11.next hb112
            have x0x_12 := x0x_11.next hb112
            have x1x_12 := x1x_11.next hb112
            have g_12 := g_11.below hb112
            have gx_12 := gx_11.next hb112
            clear a0_11 a1_11 h0_11 h1_11 T_11 o_11 ox_11 x0x_11 x1x_11 g_11 gx_11
            have f125 := a0_12.c0
            have f126 := a0_12.c1
            have f127 := a1_12.c0
            have f128 := a1_12.c1
            have f129 := ox_12.c0
            have f130 := ox_12.c1
            have f131 := x0x_12.c0
            have f132 := x0x_12.c1
            have f133 := x1x_12.c0
            have f134 := x1x_12.c1
            have f135 := gx_12.c0
            have f136 := gx_12.c1
            go_wp2_with fail
            refine (markAl_any _ _ VL _ _ _ 1 _ _ g_12 hVN (by omega)).mono ?_
            rintro e w13 ⟨rfl, mxg, mgg⟩
            clear f125 f126 f127 f128 f129 f130 f131 f132 f133 f134 f135 f136
            have S_12 := Lib.hid mgg.size
            have B_13 := Lib.hid (B_12.out.grown mgg B_12.out.size (fun k hk => by have := (LTg.out k hk).1; have := S_0.out; have := S_1.out; have := S_2.out; have := S_3.out; have := S_4.out; have := S_5.out; have := S_6.out; have := S_7.out; have := S_8.out; have := S_9.out; have := S_10.out; have := S_11.out; have := S0_.out; omega))
            have a0_13 := a0_12.apart mgg (fun e => by have := LTg.out _ e; have := S_0.out; have := S_1.out; have := S_2.out; have := S_3.out; have := S_4.out; have := S_5.out; have := S_6.out; have := S_7.out; have := S_8.out; have := S_9.out; have := S_10.out; have := S_11.out; have := S0_.out; omega)
            have a1_13 := a1_12.apart mgg (fun e => by have := LTg.out _ e; have := S_0.out; have := S_1.out; have := S_2.out; have := S_3.out; have := S_4.out; have := S_5.out; have := S_6.out; have := S_7.out; have := S_8.out; have := S_9.out; have := S_10.out; have := S_11.out; have := S0_.out; omega)
            have h0_13 := h0.below B_13.out
            have h1_13 := h1.below B_13.out
            have T_13 := hT.below B_13.out
            have o_13 := o_12.apart mgg (fun k hk e => by have := LTo.out k hk; have := LTg.out k e; have := S_0.out; have := S_1.out; have := S_2.out; have := S_3.out; have := S_4.out; have := S_5.out; have := S_6.out; have := S_7.out; have := S_8.out; have := S_9.out; have := S_10.out; have := S_11.out; omega)
            have ox_13 := ox_12.apart mgg (fun e => by have := LTg.out _ e; have := LBox.out; have := S_0.out; have := S_1.out; have := S_2.out; have := S_3.out; have := S_4.out; have := S_5.out; have := S_6.out; have := S_7.out; have := S_8.out; have := S_9.out; have := S_10.out; have := S_11.out; have := S0_.out; omega)
            have x0x_13 := x0x_12.apart mgg (fun e => by have := LTg.out _ e; have := S_0.out; have := S_1.out; have := S_2.out; have := S_3.out; have := S_4.out; have := S_5.out; have := S_6.out; have := S_7.out; have := S_8.out; have := S_9.out; have := S_10.out; have := S_11.out; have := S0_.out; omega)
            have x1x_13 := x1x_12.apart mgg (fun e => by have := LTg.out _ e; have := S_0.out; have := S_1.out; have := S_2.out; have := S_3.out; have := S_4.out; have := S_5.out; have := S_6.out; have := S_7.out; have := S_8.out; have := S_9.out; have := S_10.out; have := S_11.out; have := S0_.out; omega)
            have gx_13 := gx_12.apart mgg (fun e => by have := LTg.out _ e; have := S_0.out; have := S_1.out; have := S_2.out; have := S_3.out; have := S_4.out; have := S_5.out; have := S_6.out; have := S_7.out; have := S_8.out; have := S_9.out; have := S_10.out; have := S_11.out; have := S0_.out; omega)
            clear a0_12 a1_12 h0_12 h1_12 T_12 o_12 ox_12 x0x_12 x1x_12 gx_12
            clear g_12
            have g_13 := mxg
            have f138 := a0_13.c0
            have f139 := a0_13.c1
            have f140 := a1_13.c0
            have f141 := a1_13.c1
            have f142 := ox_13.c0
            have f143 := ox_13.c1
            have f144 := x0x_13.c0
            have f145 := x0x_13.c1
            have f146 := x1x_13.c0
            have f147 := x1x_13.c1
            have f148 := gx_13.c0
            have f149 := gx_13.c1
            go_wp2_with fail
            refine (heldAl_any VL _ _ _ 1 _ g_13.rd hVN (by omega)).mono ?_
            rintro e w14 ⟨rfl, hh137⟩
            clear f138 f139 f140 f141 f142 f143 f144 f145 f146 f147 f148 f149
            have B_14 := Lib.hid (B_13.out.trans (hh137.mono B_13.out.size))
            have S_13 := Lib.hid hh137.size
            have a0_14 := a0_13.next hh137
            have a1_14 := a1_13.next hh137
            have h0_14 := h0_13.below hh137
            have h1_14 := h1_13.below hh137
            have T_14 := T_13.below hh137
            have o_14 := o_13.below hh137
            have ox_14 := ox_13.next hh137
            have x0x_14 := x0x_13.next hh137
            have x1x_14 := x1x_13.next hh137
            have g_14 := g_13.below hh137
            have gx_14 := gx_13.next hh137
            clear a0_13 a1_13 h0_13 h1_13 T_13 o_13 ox_13 x0x_13 x1x_13 g_13 gx_13
            have f150 := a0_14.c0
            have f151 := a0_14.c1
            have f152 := a1_14.c0
            have f153 := a1_14.c1
            have f154 := ox_14.c0
            have f155 := ox_14.c1
            have f156 := x0x_14.c0
            have f157 := x0x_14.c1
            have f158 := x1x_14.c0
            have f159 := x1x_14.c1
            have f160 := gx_14.c0
            have f161 := gx_14.c1
            go_upto_region 31 with fail
            go_cut [15, 16] from 94 to 101 (fun p q wx => ∃ (g : Nat) (oA : Option Addr) (oc : Nat), p = .pointer (some ⟨g, 0, none⟩) ∧ q = .int .i64 C ∧ Box 27 wx g VL oA VN oc ∧ Own 2 wx w14.heap.size oA VN oc VX ∧ Below w14.heap.size w14 wx ∧ w14.heap.size ≤ g ∧ g < wx.heap.size)
            case first =>
              have Z0 : ∀ (ww : World), Below w14.heap.size w14 ww → Calls Tryd.prog 17 #[.agg #[.int .i64 L0, .slice A0 n0 c0]] ww fun e w' => ∃ g c', e = .returned (.agg #[.int .i64 L0, .slice (some ⟨g, 0, none⟩) n0 c']) ∧ Own 2 w' ww.heap.size (some ⟨g, 0, none⟩) n0 c' xs0 ∧ Below ww.heap.size ww w' := fun ww hww => (toAl_any L0 _ n0 _ xs0 _ (h0_14.below hww) hn0).mono fun e w' ⟨g, c', he, _, ho, hb⟩ => ⟨g, c', he, ho, hb⟩
              have Z1 : ∀ (ww : World), Below w14.heap.size w14 ww → Calls Tryd.prog 17 #[.agg #[.int .i64 L1, .slice A1 n1 c1]] ww fun e w' => ∃ g c', e = .returned (.agg #[.int .i64 L1, .slice (some ⟨g, 0, none⟩) n1 c']) ∧ Own 2 w' ww.heap.size (some ⟨g, 0, none⟩) n1 c' xs1 ∧ Below ww.heap.size ww w' := fun ww hww => (toAl_any L1 _ n1 _ xs1 _ (h1_14.below hww) hn1).mono fun e w' ⟨g, c', he, _, ho, hb⟩ => ⟨g, c', he, ho, hb⟩
              have hdr : Below w14.heap.size w14 w14.drew := (Below.refl _ _).drew
              have hdrA : Below w14.heap.size w14 ((w14.alloc (.cells #[.int .i64 0, .slice none 0 0] 27)).drew) := (below1 w14 (.cells #[.int .i64 0, .slice none 0 0] 27)).drew
              have hG0 : w14.drew.heap.size = w14.heap.size := rfl
              have t0c0 := (a0_14.next hdr).c0
              have tA0c0 := (a0_14.next hdrA).c0
              have t0c1 := (a0_14.next hdr).c1
              have tA0c1 := (a0_14.next hdrA).c1
              have t1c0 := (a1_14.next hdr).c0
              have tA1c0 := (a1_14.next hdrA).c0
              have t1c1 := (a1_14.next hdr).c1
              have tA1c1 := (a1_14.next hdrA).c1
              go_region_with (first | (go_at_call 17; (with_reducible refine (Z0 _ hdr).mono ?_); rintro e wz ⟨ga, ca, rfl, hoa, hba⟩; have hA1 := hdr.trans (hba.mono hdr.size); have hA1A := hA1.trans ((below1 wz (.cells #[.int .i64 0, .slice none 0 0] 27)).mono hA1.size); have b0 := (a1_14.next hA1).c0; have b1 := (a1_14.next hA1).c1; have bA0 := (a1_14.next hA1A).c0; have bA1 := (a1_14.next hA1A).c1) | (go_at_call 17; (with_reducible refine (Z0 _ hdrA).mono ?_); rintro e wz ⟨ga, ca, rfl, hoa, hba⟩; have hA1 := hdrA.trans (hba.mono hdrA.size); have hbx0 : Box 27 ((w14.alloc (.cells #[.int .i64 0, .slice none 0 0] 27)).drew) w14.heap.size 0 none 0 0 := box_new 27 w14 0 none 0 0; have hbx1 := hbx0.next hba; have hG1 : w14.heap.size ≤ w14.heap.size := Nat.le_refl _; have hA1A := hA1.trans ((below1 wz (.cells #[.int .i64 0, .slice none 0 0] 27)).mono hA1.size); have b0 := (a1_14.next hA1).c0; have b1 := (a1_14.next hA1).c1; have bA0 := (a1_14.next hA1A).c0; have bA1 := (a1_14.next hA1A).c1) | (go_at_call 17; (with_reducible refine (Z1 _ hA1).mono ?_); rintro e wy ⟨gb, cb, rfl, hob, hbb⟩; have hB1 := hA1.trans (hbb.mono hA1.size); have hoa2 := hoa.below hbb; (try (have hbx2 := hbx1.next hbb; have hG2 := hG1)); have hB1A := hB1.trans ((below1 wy (.cells #[.int .i64 0, .slice none 0 0] 27)).mono hB1.size)) | (go_at_call 17; (with_reducible refine (Z1 _ hA1A).mono ?_); rintro e wy ⟨gb, cb, rfl, hob, hbb⟩; have hB1 := hA1A.trans (hbb.mono hA1A.size); have hoa2 := (hoa.below (below1 wz (.cells #[.int .i64 0, .slice none 0 0] 27))).below hbb; have hbx2 := (box_new 27 wz 0 none 0 0).next hbb; have hG2 : w14.heap.size ≤ wz.heap.size := hA1.size; have hB1A := hB1.trans ((below1 wy (.cells #[.int .i64 0, .slice none 0 0] 27)).mono hB1.size)) | (go_at_call 41; (with_reducible refine (himpl _ _ _ _ wy hn0 hoa2.rd hn1 hob.rd (T_14.below hB1)).mono ?_); rintro e wx ⟨oA, oc, rfl, oho, ohb⟩; have ohb2 := hB1.trans (ohb.mono hB1.size); have own3 := oho.mono hB1.size; (try (have hbx3 := hbx2.next ohb; have hG3 := hG2; have hne3 := hbx2.lt; have v0 := hbx3.c0; have v1 := hbx3.c1; have vf0 := hbx3.fr 0; have vf1 := hbx3.fr 1))) | (go_at_call 41; refine (himpl _ _ _ _ (wy.alloc (.cells #[.int .i64 0, .slice none 0 0] 27)) hn0 (hoa2.below (below1 wy (.cells #[.int .i64 0, .slice none 0 0] 27))).rd hn1 (hob.below (below1 wy (.cells #[.int .i64 0, .slice none 0 0] 27))).rd (T_14.below hB1A)).mono ?_; rintro e wx ⟨oA, oc, rfl, oho, ohb⟩; have ohb2 := hB1A.trans (ohb.mono hB1A.size); have own3 := oho.mono hB1A.size; have hbx3 := (box_new 27 wy 0 none 0 0).next ohb; have hG3 : w14.heap.size ≤ wy.heap.size := hB1.size; have hne3 : wy.heap.size < (wy.alloc (.cells #[.int .i64 0, .slice none 0 0] 27)).heap.size := (by simp); have v0 := hbx3.c0; have v1 := hbx3.c1; have vf0 := hbx3.fr 0; have vf1 := hbx3.fr 1))
              all_goals
                go_wp2_with fail
                go_meet
                first
                | exact ⟨_, oA, oc, rfl, rfl, hbx3.set _ _ _ _, own_other (own_other own3 _ _ _ (fun q hq => by have := (oho.lt q hq).1; omega)) _ _ _ (fun q hq => by have := (oho.lt q hq).1; omega), (ohb2.setCell (p := ⟨_, 0, none⟩) hG3 _).setCell (p := ⟨_, 1, none⟩) hG3 _, hG3, (hbx3.set VL oA VN oc).lt⟩
                | exact ⟨_, oA, oc, rfl, rfl, box_new _ wx VL oA VN oc, own3.below (below1 _ _), ohb2.trans ((below1 _ _).mono ohb2.size), ohb2.size, by simp⟩
            case rest =>
              obtain ⟨qxg, qA, qc, rfl, rfl, qbx, qho, qhb, ql1, ql2⟩ := hcut
              obtain ⟨w15, rfl⟩ : ∃ w9 : World, w9 = wc := ⟨_, rfl⟩
              clear f150 f151 f152 f153 f154 f155 f156 f157 f158 f159 f160 f161
              have LBqx : Hid (w14.heap.size ≤ qxg ∧ qxg < w15.heap.size) := Lib.hid ⟨ql1, ql2⟩
              have LTq : Hid (∀ k, (qA : Option Addr).map (·.block) = some k → w14.heap.size ≤ k ∧ k < w15.heap.size) := Lib.hid (fun k hk => qho.lt k hk)
              have B_15 := Lib.hid (B_14.out.trans (qhb.mono B_14.out.size))
              have S_14 := Lib.hid qhb.size
              have a0_15 := a0_14.next qhb
              have a1_15 := a1_14.next qhb
              have h0_15 := h0_14.below qhb
              have h1_15 := h1_14.below qhb
              have T_15 := T_14.below qhb
              have o_15 := o_14.below qhb
              have ox_15 := ox_14.next qhb
              have x0x_15 := x0x_14.next qhb
              have x1x_15 := x1x_14.next qhb
              have g_15 := g_14.below qhb
              have gx_15 := gx_14.next qhb
              clear a0_14 a1_14 h0_14 h1_14 T_14 o_14 ox_14 x0x_14 x1x_14 g_14 gx_14
              have q_15 := qho
              have qx_15 := qbx
              have f163 := a0_15.c0
              have f164 := a0_15.c1
              have f165 := a1_15.c0
              have f166 := a1_15.c1
              have f167 := ox_15.c0
              have f168 := ox_15.c1
              have f169 := x0x_15.c0
              have f170 := x0x_15.c1
              have f171 := x1x_15.c0
              have f172 := x1x_15.c1
              have f173 := gx_15.c0
              have f174 := gx_15.c1
              have f175 := qx_15.c0
              have f176 := qx_15.c1
              go_wp2_with fail
              refine (eqAl_true VL _ _ _ _ _ VX _ q_15.rd o_15.rd (by omega)).mono ?_
              rintro e w16 ⟨rfl, hb162⟩
              clear f163 f164 f165 f166 f167 f168 f169 f170 f171 f172 f173 f174 f175 f176
              have B_16 := Lib.hid (B_15.out.trans (hb162.mono B_15.out.size))
              have S_15 := Lib.hid hb162.size
              have a0_16 := a0_15.next hb162
              have a1_16 := a1_15.next hb162
              have h0_16 := h0_15.below hb162
              have h1_16 := h1_15.below hb162
              have T_16 := T_15.below hb162
              have o_16 := o_15.below hb162
              have ox_16 := ox_15.next hb162
              have x0x_16 := x0x_15.next hb162
              have x1x_16 := x1x_15.next hb162
              have g_16 := g_15.below hb162
              have gx_16 := gx_15.next hb162
              have q_16 := q_15.below hb162
              have qx_16 := qx_15.next hb162
              clear a0_15 a1_15 h0_15 h1_15 T_15 o_15 ox_15 x0x_15 x1x_15 g_15 gx_15 q_15 qx_15
              have f178 := a0_16.c0
              have f179 := a0_16.c1
              have f180 := a1_16.c0
              have f181 := a1_16.c1
              have f182 := ox_16.c0
              have f183 := ox_16.c1
              have f184 := x0x_16.c0
              have f185 := x0x_16.c1
              have f186 := x1x_16.c0
              have f187 := x1x_16.c1
              have f188 := gx_16.c0
              have f189 := gx_16.c1
              have f190 := qx_16.c0
              have f191 := qx_16.c1
              go_wp2_with fail
              refine (heldAl_any VL _ _ _ 1 _ g_16.rd hVN (by omega)).mono ?_
              rintro e w17 ⟨rfl, hh177⟩
              clear f178 f179 f180 f181 f182 f183 f184 f185 f186 f187 f188 f189 f190 f191
              have B_17 := Lib.hid (B_16.out.trans (hh177.mono B_16.out.size))
              have S_16 := Lib.hid hh177.size
              have a0_17 := a0_16.next hh177
              have a1_17 := a1_16.next hh177
              have h0_17 := h0_16.below hh177
              have h1_17 := h1_16.below hh177
              have T_17 := T_16.below hh177
              have o_17 := o_16.below hh177
              have ox_17 := ox_16.next hh177
              have x0x_17 := x0x_16.next hh177
              have x1x_17 := x1x_16.next hh177
              have g_17 := g_16.below hh177
              have gx_17 := gx_16.next hh177
              have q_17 := q_16.below hh177
              have qx_17 := qx_16.next hh177
              clear a0_16 a1_16 h0_16 h1_16 T_16 o_16 ox_16 x0x_16 x1x_16 g_16 gx_16 q_16 qx_16
              have f192 := a0_17.c0
              have f193 := a0_17.c1
              have f194 := a1_17.c0
              have f195 := a1_17.c1
              have f196 := ox_17.c0
              have f197 := ox_17.c1
              have f198 := x0x_17.c0
              have f199 := x0x_17.c1
              have f200 := x1x_17.c0
              have f201 := x1x_17.c1
              have f202 := gx_17.c0
              have f203 := gx_17.c1
              have f204 := qx_17.c0
              have f205 := qx_17.c1
              go_wp2_with fail
              go_ret
              exact ⟨rfl, B_17.out⟩
    · go_enter Tryd.func11, Tryd.ntmps11
      go_wp2_with fail
      rw [← hw0]
      refine (sz_law L0 A0 n0 c0 _ hs0).mono ?_
      rintro e w1 ⟨rfl, hz0⟩
      have g0 := (a1_0.next hz0).c0
      have g1 := (a1_0.next hz0).c1
      go_wp2_with fail
      refine (szno_m L1 A1 n1 c1 (1048576 - n0) _ (by omega) (by omega) hm1).mono ?_
      rintro e w2 ⟨rfl, hz1⟩
      go_wp2_with fail
      go_ret
      exact ⟨rfl, (B_0.out.trans (hz0.mono B_0.out.size)).trans (hz1.mono (B_0.out.trans (hz0.mono B_0.out.size)).size)⟩
  · go_enter Tryd.func11, Tryd.ntmps11
    go_wp2_with fail
    rw [← hw0]
    refine (szno_any L0 A0 n0 c0 _ (by omega) hm0).mono ?_
    rintro e w1 ⟨rfl, hz0⟩
    go_wp2_with fail
    go_ret
    exact ⟨rfl, B_0.out.trans (hz0.mono B_0.out.size)⟩
end Go.Proofs.YtbjkpkgnjeaimaaDoor

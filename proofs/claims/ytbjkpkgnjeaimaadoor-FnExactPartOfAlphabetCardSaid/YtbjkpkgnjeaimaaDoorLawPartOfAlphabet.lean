/-
  The walk of FnExactPartOfAlphabet, over contracts of both sides.
-/
import Derived.Test.YtbjkpkgnjeaimaaDoorPart
import Derived.Deep.CutRange
import Derived.Deep.RegionWith
namespace Go.Proofs.YtbjkpkgnjeaimaaDoor
open Go.RowKit
set_option linter.unusedVariables false
set_option maxRecDepth 100000
set_option maxHeartbeats 3200000 in
theorem lawPartOfAlphabet (L0 : Int) (A0 : Option Addr) (n0 c0 : Nat) (xs0 : List Int) (a1 : Int) (w : World) (hL01 : -9223372036854775808 ≤ L0) (hL02 : L0 ≤ 9223372036854775807) (h0 : Rd w A0 n0 xs0) (hwf0 : Wf xs0) (hl0 : n0 ≤ maxLen) (ha11 : -9223372036854775808 ≤ a1) (ha12 : a1 ≤ 9223372036854775807) (hT : Tab w) (VL : Int) (VN : Nat) (VX : List Int) (C : Int) (hVN : VN ≤ 1048576)
    (hspec : ∀ (B0 : Option Addr) (d0 : Nat) (w' : World), n0 ≤ 1048576 → Rd w' B0 n0 xs0 → Calls Tryd.prog 36 #[.agg #[.int .i64 L0, .slice B0 n0 d0], .int .i64 a1] w' (AlPost w' VL VN VX C))
    (himpl : ∀ (B0 : Option Addr) (d0 : Nat) (w' : World), n0 ≤ 1048576 → Rd w' B0 n0 xs0 → Tab w' → Calls Tryd.prog 37 #[.agg #[.int .i64 L0, .slice B0 n0 d0], .int .i64 a1] w' (AlPost w' VL VN VX C)) :
    Calls Tryd.prog 9 #[.agg #[.int .i64 L0, .slice A0 n0 c0], .int .i64 a1] w fun e w' => e = .returned (.bool true) ∧ Below w.heap.size w w' := by
  unfold maxLen at hl0
  have hm0 : n0 ≤ 9223372036854775807 := by omega
  obtain ⟨w0, hw0⟩ : ∃ w0 : World, w0 = (w.alloc (.cells #[.int .i64 L0, .slice A0 n0 c0] 24)) := ⟨_, rfl⟩
  have B_0 := Lib.hid (show Below w.heap.size w w0 by rw [hw0]; exact below1 w _)
  have S0_ : Hid (w0.heap.size = w.heap.size + 1) := Lib.hid (by rw [hw0]; simp)
  have a0_0 : Box 24 w0 (w.heap.size) L0 A0 n0 c0 := by rw [hw0]; exact (box_new 24 w L0 A0 n0 c0)
  have h0_0 := h0.below B_0.out
  have T_0 := hT.below B_0.out
  by_cases hs0 : n0 ≤ 1048576
  · have hn0 : n0 ≤ 1048576 := by omega
    go_enter Tryd.func9, Tryd.ntmps9
    go_wp2_with fail
    rw [← hw0]
    refine (sz_law L0 A0 n0 c0 _ hs0).mono ?_
    rintro e w1 ⟨rfl, hz0⟩
    have B_1 := Lib.hid (B_0.out.trans (hz0.mono B_0.out.size))
    have S_0 := Lib.hid hz0.size
    have a0_1 := a0_0.next hz0
    have h0_1 := h0_0.below hz0
    have T_1 := T_0.below hz0
    clear a0_0 h0_0 T_0
    have f1 := a0_1.c0
    have f2 := a0_1.c1
    go_wp2_with fail
    refine (toAl_any L0 _ n0 _ xs0 _ h0_1 hn0).mono ?_
    rintro e w2 ⟨s0g, s0c, rfl, s0hg, s0ho, s0hb⟩
    clear f1 f2
    obtain ⟨s0A, s0e⟩ : ∃ s0A : Option Addr, s0A = (some ⟨s0g, 0, none⟩) := ⟨_, rfl⟩
    rw [← s0e] at s0ho ⊢
    clear s0e
    have LTs0 : Hid (∀ k, (s0A : Option Addr).map (·.block) = some k → w1.heap.size ≤ k ∧ k < w2.heap.size) := Lib.hid (fun k hk => s0ho.lt k hk)
    have B_2 := Lib.hid (B_1.out.trans (s0hb.mono B_1.out.size))
    have S_1 := Lib.hid s0hb.size
    have a0_2 := a0_1.next s0hb
    have h0_2 := h0_1.below s0hb
    have T_2 := T_1.below s0hb
    clear a0_1 h0_1 T_1
    have s0_2 := s0ho
    have f3 := a0_2.c0
    have f4 := a0_2.c1
    go_wp2_with fail
    refine (hspec _ _ _ hn0 s0_2.rd).mono ?_
    rintro e w3 ⟨oA, oc, rfl, oho, ohb⟩
    clear f3 f4
    have LTo : Hid (∀ k, (oA : Option Addr).map (·.block) = some k → w2.heap.size ≤ k ∧ k < w3.heap.size) := Lib.hid (fun k hk => oho.lt k hk)
    have B_3 := Lib.hid (B_2.out.trans (ohb.mono B_2.out.size))
    have S_2 := Lib.hid ohb.size
    have a0_3 := a0_2.next ohb
    have h0_3 := h0_2.below ohb
    have T_3 := T_2.below ohb
    have s0_3 := s0_2.below ohb
    clear a0_2 h0_2 T_2 s0_2
    have o_3 := oho
    have kp_3 := below1 w3 (.cells #[.int .i64 VL, .slice oA VN oc] 27)
    clear s0_3
    have f5 := a0_3.c0
    have f6 := a0_3.c1
    have f7 := (a0_3.next kp_3).c0
    have f8 := (a0_3.next kp_3).c1
    go_wp2_with fail
    refine (toAl_any L0 _ n0 _ xs0 _ (h0_3.below kp_3) hn0).mono ?_
    rintro e w4 ⟨x0g, x0c, rfl, x0hg, x0ho, x0hb⟩
    clear f5 f6 f7 f8
    obtain ⟨x0A, x0e⟩ : ∃ x0A : Option Addr, x0A = (some ⟨x0g, 0, none⟩) := ⟨_, rfl⟩
    rw [← x0e] at x0ho ⊢
    clear x0e
    have LTx0 : Hid (∀ k, (x0A : Option Addr).map (·.block) = some k → w3.heap.size + 1 ≤ k ∧ k < w4.heap.size) := Lib.hid (fun k hk => by have h9 := x0ho.lt k hk; have e9 : (w3.alloc (.cells #[.int .i64 VL, .slice oA VN oc] 27)).heap.size = w3.heap.size + 1 := (by simp); omega)
    have hbb_3 := kp_3.trans (x0hb.mono kp_3.size)
    have B_4 := Lib.hid (B_3.out.trans (hbb_3.mono B_3.out.size))
    have S_3 : Hid (w3.heap.size + 1 ≤ w4.heap.size) := Lib.hid (by have h9 := x0hb.size; have e9 : (w3.alloc (.cells #[.int .i64 VL, .slice oA VN oc] 27)).heap.size = w3.heap.size + 1 := (by simp); omega)
    have a0_4 := a0_3.next hbb_3
    have h0_4 := h0_3.below hbb_3
    have T_4 := T_3.below hbb_3
    have o_4 := o_3.below hbb_3
    have ox_4 := (box_new 27 w3 VL oA VN oc).next x0hb
    clear a0_3 h0_3 T_3 o_3
    have x0_4 := x0ho.mono kp_3.size
    have kp_4 := below1 w4 (.cells #[.int .i64 L0, .slice x0A n0 x0c] 27)
    have f9 := a0_4.c0
    have f10 := a0_4.c1
    have f11 := (a0_4.next kp_4).c0
    have f12 := (a0_4.next kp_4).c1
    have f13 := ox_4.c0
    have f14 := ox_4.c1
    have f15 := (ox_4.next kp_4).c0
    have f16 := (ox_4.next kp_4).c1
    go_wp2_with fail
    refine (himpl _ _ _ hn0 (x0_4.below kp_4).rd (T_4.below kp_4)).mono ?_
    rintro e w5 ⟨gA, gc, rfl, gho, ghb⟩
    clear f9 f10 f11 f12 f13 f14 f15 f16
    have LTg : Hid (∀ k, (gA : Option Addr).map (·.block) = some k → w4.heap.size + 1 ≤ k ∧ k < w5.heap.size) := Lib.hid (fun k hk => by have h9 := gho.lt k hk; have e9 : (w4.alloc (.cells #[.int .i64 L0, .slice x0A n0 x0c] 27)).heap.size = w4.heap.size + 1 := (by simp); omega)
    have hbb_4 := kp_4.trans (ghb.mono kp_4.size)
    have B_5 := Lib.hid (B_4.out.trans (hbb_4.mono B_4.out.size))
    have S_4 : Hid (w4.heap.size + 1 ≤ w5.heap.size) := Lib.hid (by have h9 := ghb.size; have e9 : (w4.alloc (.cells #[.int .i64 L0, .slice x0A n0 x0c] 27)).heap.size = w4.heap.size + 1 := (by simp); omega)
    have a0_5 := a0_4.next hbb_4
    have h0_5 := h0_4.below hbb_4
    have T_5 := T_4.below hbb_4
    have o_5 := o_4.below hbb_4
    have ox_5 := ox_4.next hbb_4
    have x0_5 := x0_4.below hbb_4
    have x0x_5 := (box_new 27 w4 L0 x0A n0 x0c).next ghb
    clear a0_4 h0_4 T_4 o_4 ox_4 x0_4
    have g_5 := gho.mono kp_4.size
    have kp_5 := below1 w5 (.cells #[.int .i64 VL, .slice gA VN gc] 27)
    have f18 := a0_5.c0
    have f19 := a0_5.c1
    have f20 := (a0_5.next kp_5).c0
    have f21 := (a0_5.next kp_5).c1
    have f22 := ox_5.c0
    have f23 := ox_5.c1
    have f24 := (ox_5.next kp_5).c0
    have f25 := (ox_5.next kp_5).c1
    have f26 := x0x_5.c0
    have f27 := x0x_5.c1
    have f28 := (x0x_5.next kp_5).c0
    have f29 := (x0x_5.next kp_5).c1
    go_wp2_with fail
    refine (eqAl_true VL _ _ _ _ _ VX _ (g_5.below kp_5).rd (o_5.below kp_5).rd (by omega)).mono ?_
    rintro e w6 ⟨rfl, hb17⟩
    clear f18 f19 f20 f21 f22 f23 f24 f25 f26 f27 f28 f29
    have hbb_5 := kp_5.trans (hb17.mono kp_5.size)
    have B_6 := Lib.hid (B_5.out.trans (hbb_5.mono B_5.out.size))
    have S_5 : Hid (w5.heap.size + 1 ≤ w6.heap.size) := Lib.hid (by have h9 := hb17.size; have e9 : (w5.alloc (.cells #[.int .i64 VL, .slice gA VN gc] 27)).heap.size = w5.heap.size + 1 := (by simp); omega)
    have a0_6 := a0_5.next hbb_5
    have h0_6 := h0_5.below hbb_5
    have T_6 := T_5.below hbb_5
    have o_6 := o_5.below hbb_5
    have ox_6 := ox_5.next hbb_5
    have x0_6 := x0_5.below hbb_5
    have x0x_6 := x0x_5.next hbb_5
    have g_6 := g_5.below hbb_5
    have gx_6 := (box_new 27 w5 VL gA VN gc).next hb17
    clear a0_5 h0_5 T_5 o_5 ox_5 x0_5 x0x_5 g_5
    have f30 := a0_6.c0
    have f31 := a0_6.c1
    have f32 := ox_6.c0
    have f33 := ox_6.c1
    have f34 := x0x_6.c0
    have f35 := x0x_6.c1
    have f36 := gx_6.c0
    have f37 := gx_6.c1
    go_upto_region 10 with fail
    go_cut [49] from 45 to 49 (fun v wx => v = .bool false ∧ Below w6.heap.size w6 wx)
    case first =>
      have Z0 : ∀ (ww : World), Below w6.heap.size w6 ww → Calls Tryd.prog 17 #[.agg #[.int .i64 L0, .slice A0 n0 c0]] ww fun e w' => ∃ g c', e = .returned (.agg #[.int .i64 L0, .slice (some ⟨g, 0, none⟩) n0 c']) ∧ Own 2 w' ww.heap.size (some ⟨g, 0, none⟩) n0 c' xs0 ∧ Below ww.heap.size ww w' := fun ww hww => (toAl_any L0 _ n0 _ xs0 _ (h0_6.below hww) hn0).mono fun e w' ⟨g, c', he, _, ho, hb⟩ => ⟨g, c', he, ho, hb⟩
      have hdr : Below w6.heap.size w6 w6.drew := (Below.refl _ _).drew
      have rc0 := (x0x_6.next hdr).c0
      have tc0 := (a0_6.next hdr).c0
      have rc1 := (x0x_6.next hdr).c1
      have tc1 := (a0_6.next hdr).c1
      go_region_with (first | (go_at_call 17; refine (Z0 _ hdr).mono ?_; rintro e wz ⟨gz, cz, rfl, hoz, hbz⟩; have hbz2 := hdr.trans (hbz.mono hdr.size); have q0 := (x0x_6.next hbz2).c0; have q1 := (x0x_6.next hbz2).c1) | (go_at_call 19; refine (eqAl_true L0 _ _ _ _ _ xs0 _ (x0_6.below hbz2).rd hoz.rd hm0).mono ?_; rintro e wy ⟨rfl, hby⟩; have hby2 := hbz2.trans (hby.mono hbz2.size)))
      all_goals (go_wp2_with fail; go_meet; exact ⟨rfl, hby2⟩)
    case rest =>
      obtain ⟨rfl, hcb⟩ := hcut
      obtain ⟨w7, rfl⟩ : ∃ w9 : World, w9 = wc := ⟨_, rfl⟩
      clear f30 f31 f32 f33 f34 f35 f36 f37
      have B_7 := Lib.hid (B_6.out.trans (hcb.mono B_6.out.size))
      have S_6 := Lib.hid hcb.size
      have a0_7 := a0_6.next hcb
      have h0_7 := h0_6.below hcb
      have T_7 := T_6.below hcb
      have o_7 := o_6.below hcb
      have ox_7 := ox_6.next hcb
      have x0_7 := x0_6.below hcb
      have x0x_7 := x0x_6.next hcb
      have g_7 := g_6.below hcb
      have gx_7 := gx_6.next hcb
      clear a0_6 h0_6 T_6 o_6 ox_6 x0_6 x0x_6 g_6 gx_6
      have f38 := a0_7.c0
      have f39 := a0_7.c1
      have f40 := ox_7.c0
      have f41 := ox_7.c1
      have f42 := x0x_7.c0
      have f43 := x0x_7.c1
      have f44 := gx_7.c0
      have f45 := gx_7.c1
      go_wp2_with fail
      refine (markAl_any _ _ L0 _ _ _ (1) _ _ x0_7 hn0 (by omega)).mono ?_
      rintro e w8 ⟨rfl, mx0, mg0⟩
      clear f38 f39 f40 f41 f42 f43 f44 f45
      have S_7 := Lib.hid mg0.size
      have B_8 := Lib.hid (B_7.out.grown mg0 B_7.out.size (fun k hk => by have := (LTx0.out k hk).1; have := S_0.out; have := S_1.out; have := S_2.out; have := S_3.out; have := S_4.out; have := S_5.out; have := S_6.out; have := S0_.out; omega))
      have a0_8 := a0_7.apart mg0 (fun e => by have := LTx0.out _ e; have := S_0.out; have := S_1.out; have := S_2.out; have := S_3.out; have := S_4.out; have := S_5.out; have := S_6.out; have := S0_.out; omega)
      have h0_8 := h0.below B_8.out
      have T_8 := hT.below B_8.out
      have o_8 := o_7.apart mg0 (fun k hk e => by have := LTo.out k hk; have := LTx0.out k e; have := S_0.out; have := S_1.out; have := S_2.out; have := S_3.out; have := S_4.out; have := S_5.out; have := S_6.out; omega)
      have ox_8 := ox_7.apart mg0 (fun e => by have := LTx0.out _ e; have := S_0.out; have := S_1.out; have := S_2.out; have := S_3.out; have := S_4.out; have := S_5.out; have := S_6.out; have := S0_.out; omega)
      have x0x_8 := x0x_7.apart mg0 (fun e => by have := LTx0.out _ e; have := S_0.out; have := S_1.out; have := S_2.out; have := S_3.out; have := S_4.out; have := S_5.out; have := S_6.out; have := S0_.out; omega)
      have g_8 := g_7.apart mg0 (fun k hk e => by have := LTg.out k hk; have := LTx0.out k e; have := S_0.out; have := S_1.out; have := S_2.out; have := S_3.out; have := S_4.out; have := S_5.out; have := S_6.out; omega)
      have gx_8 := gx_7.apart mg0 (fun e => by have := LTx0.out _ e; have := S_0.out; have := S_1.out; have := S_2.out; have := S_3.out; have := S_4.out; have := S_5.out; have := S_6.out; have := S0_.out; omega)
      clear a0_7 h0_7 T_7 o_7 ox_7 x0x_7 g_7 gx_7
      have x0_8 := mx0
      clear x0_8
      have f47 := a0_8.c0
      have f48 := a0_8.c1
      have f49 := ox_8.c0
      have f50 := ox_8.c1
      have f51 := x0x_8.c0
      have f52 := x0x_8.c1
      have f53 := gx_8.c0
      have f54 := gx_8.c1
      go_wp2_with fail
      refine (eqAl_true VL _ _ _ _ _ VX _ g_8.rd o_8.rd (by omega)).mono ?_
      rintro e w9 ⟨rfl, hb46⟩
      clear f47 f48 f49 f50 f51 f52 f53 f54
      have B_9 := Lib.hid (B_8.out.trans (hb46.mono B_8.out.size))
      have S_8 := Lib.hid hb46.size
      have a0_9 := a0_8.next hb46
      have h0_9 := h0_8.below hb46
      have T_9 := T_8.below hb46
      have o_9 := o_8.below hb46
      have ox_9 := ox_8.next hb46
      have x0x_9 := x0x_8.next hb46
      have g_9 := g_8.below hb46
      have gx_9 := gx_8.next hb46
      clear a0_8 h0_8 T_8 o_8 ox_8 x0x_8 g_8 gx_8
      have f55 := a0_9.c0
      have f56 := a0_9.c1
      have f57 := ox_9.c0
      have f58 := ox_9.c1
      have f59 := x0x_9.c0
      have f60 := x0x_9.c1
      have f61 := gx_9.c0
      have f62 := gx_9.c1
      go_wp2_with fail
      refine (markAl_any _ _ VL _ _ _ 1 _ _ g_9 hVN (by omega)).mono ?_
      rintro e w10 ⟨rfl, mxg, mgg⟩
      clear f55 f56 f57 f58 f59 f60 f61 f62
      have S_9 := Lib.hid mgg.size
      have B_10 := Lib.hid (B_9.out.grown mgg B_9.out.size (fun k hk => by have := (LTg.out k hk).1; have := S_0.out; have := S_1.out; have := S_2.out; have := S_3.out; have := S_4.out; have := S_5.out; have := S_6.out; have := S_7.out; have := S_8.out; have := S0_.out; omega))
      have a0_10 := a0_9.apart mgg (fun e => by have := LTg.out _ e; have := S_0.out; have := S_1.out; have := S_2.out; have := S_3.out; have := S_4.out; have := S_5.out; have := S_6.out; have := S_7.out; have := S_8.out; have := S0_.out; omega)
      have h0_10 := h0.below B_10.out
      have T_10 := hT.below B_10.out
      have o_10 := o_9.apart mgg (fun k hk e => by have := LTo.out k hk; have := LTg.out k e; have := S_0.out; have := S_1.out; have := S_2.out; have := S_3.out; have := S_4.out; have := S_5.out; have := S_6.out; have := S_7.out; have := S_8.out; omega)
      have ox_10 := ox_9.apart mgg (fun e => by have := LTg.out _ e; have := S_0.out; have := S_1.out; have := S_2.out; have := S_3.out; have := S_4.out; have := S_5.out; have := S_6.out; have := S_7.out; have := S_8.out; have := S0_.out; omega)
      have x0x_10 := x0x_9.apart mgg (fun e => by have := LTg.out _ e; have := S_0.out; have := S_1.out; have := S_2.out; have := S_3.out; have := S_4.out; have := S_5.out; have := S_6.out; have := S_7.out; have := S_8.out; have := S0_.out; omega)
      have gx_10 := gx_9.apart mgg (fun e => by have := LTg.out _ e; have := S_0.out; have := S_1.out; have := S_2.out; have := S_3.out; have := S_4.out; have := S_5.out; have := S_6.out; have := S_7.out; have := S_8.out; have := S0_.out; omega)
      clear a0_9 h0_9 T_9 o_9 ox_9 x0x_9 gx_9
      clear g_9
      have g_10 := mxg
      have f64 := a0_10.c0
      have f65 := a0_10.c1
      have f66 := ox_10.c0
      have f67 := ox_10.c1
      have f68 := x0x_10.c0
      have f69 := x0x_10.c1
      have f70 := gx_10.c0
      have f71 := gx_10.c1
      go_wp2_with fail
      refine (heldAl_any VL _ _ _ 1 _ g_10.rd hVN (by omega)).mono ?_
      rintro e w11 ⟨rfl, hh63⟩
      clear f64 f65 f66 f67 f68 f69 f70 f71
      have B_11 := Lib.hid (B_10.out.trans (hh63.mono B_10.out.size))
      have S_10 := Lib.hid hh63.size
      have a0_11 := a0_10.next hh63
      have h0_11 := h0_10.below hh63
      have T_11 := T_10.below hh63
      have o_11 := o_10.below hh63
      have ox_11 := ox_10.next hh63
      have x0x_11 := x0x_10.next hh63
      have g_11 := g_10.below hh63
      have gx_11 := gx_10.next hh63
      clear a0_10 h0_10 T_10 o_10 ox_10 x0x_10 g_10 gx_10
      have f72 := a0_11.c0
      have f73 := a0_11.c1
      have f74 := ox_11.c0
      have f75 := ox_11.c1
      have f76 := x0x_11.c0
      have f77 := x0x_11.c1
      have f78 := gx_11.c0
      have f79 := gx_11.c1
      go_wp2_with fail
      refine (toAl_any L0 _ n0 _ xs0 _ h0_11 hn0).mono ?_
      rintro e w12 ⟨z0g, z0c, rfl, z0hg, z0ho, z0hb⟩
      clear f72 f73 f74 f75 f76 f77 f78 f79
      obtain ⟨z0A, z0e⟩ : ∃ z0A : Option Addr, z0A = (some ⟨z0g, 0, none⟩) := ⟨_, rfl⟩
      rw [← z0e] at z0ho ⊢
      clear z0e
      have LTz0 : Hid (∀ k, (z0A : Option Addr).map (·.block) = some k → w11.heap.size ≤ k ∧ k < w12.heap.size) := Lib.hid (fun k hk => z0ho.lt k hk)
      have B_12 := Lib.hid (B_11.out.trans (z0hb.mono B_11.out.size))
      have S_11 := Lib.hid z0hb.size
      have a0_12 := a0_11.next z0hb
      have h0_12 := h0_11.below z0hb
      have T_12 := T_11.below z0hb
      have o_12 := o_11.below z0hb
      have ox_12 := ox_11.next z0hb
      have x0x_12 := x0x_11.next z0hb
      have g_12 := g_11.below z0hb
      have gx_12 := gx_11.next z0hb
      clear a0_11 h0_11 T_11 o_11 ox_11 x0x_11 g_11 gx_11
      have z0_12 := z0ho
      have f80 := a0_12.c0
      have f81 := a0_12.c1
      have f82 := ox_12.c0
      have f83 := ox_12.c1
      have f84 := x0x_12.c0
      have f85 := x0x_12.c1
      have f86 := gx_12.c0
      have f87 := gx_12.c1
      go_wp2_with fail
      refine (himpl _ _ _ hn0 z0_12.rd T_12).mono ?_
      rintro e w13 ⟨qA, qc, rfl, qho, qhb⟩
      clear f80 f81 f82 f83 f84 f85 f86 f87
      have LTq : Hid (∀ k, (qA : Option Addr).map (·.block) = some k → w12.heap.size ≤ k ∧ k < w13.heap.size) := Lib.hid (fun k hk => qho.lt k hk)
      have B_13 := Lib.hid (B_12.out.trans (qhb.mono B_12.out.size))
      have S_12 := Lib.hid qhb.size
      have a0_13 := a0_12.next qhb
      have h0_13 := h0_12.below qhb
      have T_13 := T_12.below qhb
      have o_13 := o_12.below qhb
      have ox_13 := ox_12.next qhb
      have x0x_13 := x0x_12.next qhb
      have g_13 := g_12.below qhb
      have gx_13 := gx_12.next qhb
      have z0_13 := z0_12.below qhb
      clear a0_12 h0_12 T_12 o_12 ox_12 x0x_12 g_12 gx_12 z0_12
      have q_13 := qho
      have kp_13 := below1 w13 (.cells #[.int .i64 VL, .slice qA VN qc] 27)
      clear z0_13
      have f89 := a0_13.c0
      have f90 := a0_13.c1
      have f91 := (a0_13.next kp_13).c0
      have f92 := (a0_13.next kp_13).c1
      have f93 := ox_13.c0
      have f94 := ox_13.c1
      have f95 := (ox_13.next kp_13).c0
      have f96 := (ox_13.next kp_13).c1
      have f97 := x0x_13.c0
      have f98 := x0x_13.c1
      have f99 := (x0x_13.next kp_13).c0
      have f100 := (x0x_13.next kp_13).c1
      have f101 := gx_13.c0
      have f102 := gx_13.c1
      have f103 := (gx_13.next kp_13).c0
      have f104 := (gx_13.next kp_13).c1
      go_wp2_with fail
      refine (eqAl_true VL _ _ _ _ _ VX _ (q_13.below kp_13).rd (o_13.below kp_13).rd (by omega)).mono ?_
      rintro e w14 ⟨rfl, hb88⟩
      clear f89 f90 f91 f92 f93 f94 f95 f96 f97 f98 f99 f100 f101 f102 f103 f104
      have hbb_13 := kp_13.trans (hb88.mono kp_13.size)
      have B_14 := Lib.hid (B_13.out.trans (hbb_13.mono B_13.out.size))
      have S_13 : Hid (w13.heap.size + 1 ≤ w14.heap.size) := Lib.hid (by have h9 := hb88.size; have e9 : (w13.alloc (.cells #[.int .i64 VL, .slice qA VN qc] 27)).heap.size = w13.heap.size + 1 := (by simp); omega)
      have a0_14 := a0_13.next hbb_13
      have h0_14 := h0_13.below hbb_13
      have T_14 := T_13.below hbb_13
      have o_14 := o_13.below hbb_13
      have ox_14 := ox_13.next hbb_13
      have x0x_14 := x0x_13.next hbb_13
      have g_14 := g_13.below hbb_13
      have gx_14 := gx_13.next hbb_13
      have q_14 := q_13.below hbb_13
      have qx_14 := (box_new 27 w13 VL qA VN qc).next hb88
      clear a0_13 h0_13 T_13 o_13 ox_13 x0x_13 g_13 gx_13 q_13
      have f106 := a0_14.c0
      have f107 := a0_14.c1
      have f108 := ox_14.c0
      have f109 := ox_14.c1
      have f110 := x0x_14.c0
      have f111 := x0x_14.c1
      have f112 := gx_14.c0
      have f113 := gx_14.c1
      have f114 := qx_14.c0
      have f115 := qx_14.c1
      go_wp2_with fail
      refine (heldAl_any VL _ _ _ 1 _ g_14.rd hVN (by omega)).mono ?_
      rintro e w15 ⟨rfl, hh105⟩
      clear f106 f107 f108 f109 f110 f111 f112 f113 f114 f115
      have B_15 := Lib.hid (B_14.out.trans (hh105.mono B_14.out.size))
      have S_14 := Lib.hid hh105.size
      have a0_15 := a0_14.next hh105
      have h0_15 := h0_14.below hh105
      have T_15 := T_14.below hh105
      have o_15 := o_14.below hh105
      have ox_15 := ox_14.next hh105
      have x0x_15 := x0x_14.next hh105
      have g_15 := g_14.below hh105
      have gx_15 := gx_14.next hh105
      have q_15 := q_14.below hh105
      have qx_15 := qx_14.next hh105
      clear a0_14 h0_14 T_14 o_14 ox_14 x0x_14 g_14 gx_14 q_14 qx_14
      have f116 := a0_15.c0
      have f117 := a0_15.c1
      have f118 := ox_15.c0
      have f119 := ox_15.c1
      have f120 := x0x_15.c0
      have f121 := x0x_15.c1
      have f122 := gx_15.c0
      have f123 := gx_15.c1
      have f124 := qx_15.c0
      have f125 := qx_15.c1
      go_wp2_with fail
      go_ret
      exact ⟨rfl, B_15.out⟩
  · go_enter Tryd.func9, Tryd.ntmps9
    go_wp2_with fail
    rw [← hw0]
    refine (szno_any L0 A0 n0 c0 _ (by omega) hm0).mono ?_
    rintro e w1 ⟨rfl, hz0⟩
    go_wp2_with fail
    go_ret
    exact ⟨rfl, B_0.out.trans (hz0.mono B_0.out.size)⟩
end Go.Proofs.YtbjkpkgnjeaimaaDoor

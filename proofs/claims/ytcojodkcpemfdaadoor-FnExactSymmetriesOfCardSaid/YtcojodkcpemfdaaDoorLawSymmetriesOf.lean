/-
  The walk of FnExactSymmetriesOf, over contracts of both sides.
-/
import Derived.Test.YtcojodkcpemfdaaDoorMr
import Derived.Deep.CutRange
import Derived.Deep.RegionWith
namespace Go.Proofs.YtcojodkcpemfdaaDoor
open Go.RowKit
set_option linter.unusedVariables false
set_option maxRecDepth 100000
set_option maxHeartbeats 3200000 in
theorem lawSymmetriesOf (L0 : Int) (A0 : Option Addr) (n0 c0 : Nat) (xs0 : List Int) (w : World) (hL01 : -9223372036854775808 ≤ L0) (hL02 : L0 ≤ 9223372036854775807) (h0 : Rd w A0 n0 xs0) (hwf0 : Wf xs0) (hl0 : n0 ≤ maxLen) (hT : Tab w) (VN : Nat) (VX : List (List Int)) (C : Int) (SV : Nat) (hVN : VN ≤ 1048576) (hSV : sumL VX = SV) (hVS : SV ≤ 1048576)
    (hspec : ∀ (B0 : Option Addr) (d0 : Nat) (w' : World), n0 ≤ 1048576 → Rd w' B0 n0 xs0 → Calls Tryd.prog 38 #[.agg #[.int .i64 L0, .slice B0 n0 d0]] w' (LssPost w' VN VX C))
    (himpl : ∀ (B0 : Option Addr) (d0 : Nat) (w' : World), n0 ≤ 1048576 → Rd w' B0 n0 xs0 → Tab w' → Calls Tryd.prog 39 #[.agg #[.int .i64 L0, .slice B0 n0 d0]] w' (LssPost w' VN VX C)) :
    Calls Tryd.prog 8 #[.agg #[.int .i64 L0, .slice A0 n0 c0]] w fun e w' => e = .returned (.bool true) ∧ Below w.heap.size w w' := by
  have HSM := Lib.hid (small_of hSV hVS)
  have HSM2 := Lib.hid (small_marks hSV hVS)
  have HSV := Lib.hid hSV
  clear hSV
  unfold maxLen at hl0
  have hm0 : n0 ≤ 9223372036854775807 := by omega
  obtain ⟨w0, hw0⟩ : ∃ w0 : World, w0 = (w.alloc (.cells #[.int .i64 L0, .slice A0 n0 c0] 24)) := ⟨_, rfl⟩
  have B_0 := Lib.hid (show Below w.heap.size w w0 by rw [hw0]; exact below1 w _)
  have S0_ : Hid (w0.heap.size = w.heap.size + 1) := Lib.hid (by rw [hw0]; simp)
  have a0_0 : Box 24 w0 (w.heap.size) L0 A0 n0 c0 := by rw [hw0]; exact (box_new 24 w L0 A0 n0 c0)
  have h0_0 := h0.below B_0.out
  have T_0 := hT.below B_0.out
  by_cases hs0 : n0 ≤ 1048576
  · have hn0 : n0 ≤ 1048576 := by omega
    go_enter Tryd.func8, Tryd.ntmps8
    go_wp2_with fail
    rw [← hw0]
    refine (sz_law L0 A0 n0 c0 _ hs0).mono ?_
    rintro e w1 ⟨rfl, hz0⟩
    have B_1 := Lib.hid (B_0.out.trans (hz0.mono B_0.out.size))
    have S_0 := Lib.hid hz0.size
    have a0_1 := a0_0.next hz0
    have h0_1 := h0_0.below hz0
    have T_1 := T_0.below hz0
    clear a0_0 h0_0 T_0
    have f1 := a0_1.c0
    have f2 := a0_1.c1
    go_wp2_with fail
    refine (toAl_any L0 _ n0 _ xs0 _ h0_1 hn0).mono ?_
    rintro e w2 ⟨s0g, s0c, rfl, s0hg, s0ho, s0hb⟩
    clear f1 f2
    obtain ⟨s0A, s0e⟩ : ∃ s0A : Option Addr, s0A = (some ⟨s0g, 0, none⟩) := ⟨_, rfl⟩
    rw [← s0e] at s0ho ⊢
    clear s0e
    have LTs0 : Hid (∀ k, (s0A : Option Addr).map (·.block) = some k → w1.heap.size ≤ k ∧ k < w2.heap.size) := Lib.hid (fun k hk => s0ho.lt k hk)
    have B_2 := Lib.hid (B_1.out.trans (s0hb.mono B_1.out.size))
    have S_1 := Lib.hid s0hb.size
    have a0_2 := a0_1.next s0hb
    have h0_2 := h0_1.below s0hb
    have T_2 := T_1.below s0hb
    clear a0_1 h0_1 T_1
    have s0_2 := s0ho
    have f3 := a0_2.c0
    have f4 := a0_2.c1
    go_wp2_with fail
    refine (hspec _ _ _ hn0 s0_2.rd).mono ?_
    rintro e w3 ⟨oA, oc, rfl, oho, ohb⟩
    clear f3 f4
    obtain ⟨olo, oe1⟩ : ∃ q : Nat, q = w2.heap.size := ⟨_, rfl⟩
    obtain ⟨ohi, oe2⟩ : ∃ q : Nat, q = w3.heap.size := ⟨_, rfl⟩
    have oh2 : OwnSS w3 olo ohi oA VN oc VX := by rw [oe1, oe2]; exact oho
    have LTo : Hid (w2.heap.size ≤ olo ∧ ohi = w3.heap.size) := Lib.hid ⟨by rw [oe1]; exact Nat.le_refl _, oe2⟩
    clear oho oe1 oe2
    have B_3 := Lib.hid (B_2.out.trans (ohb.mono B_2.out.size))
    have S_2 := Lib.hid ohb.size
    have a0_3 := a0_2.next ohb
    have h0_3 := h0_2.below ohb
    have T_3 := T_2.below ohb
    have s0_3 := s0_2.below ohb
    clear a0_2 h0_2 T_2 s0_2
    have o_3 := oh2
    clear s0_3
    have f5 := a0_3.c0
    have f6 := a0_3.c1
    go_wp2_with fail
    refine (toAl_any L0 _ n0 _ xs0 _ h0_3 hn0).mono ?_
    rintro e w4 ⟨x0g, x0c, rfl, x0hg, x0ho, x0hb⟩
    clear f5 f6
    obtain ⟨x0A, x0e⟩ : ∃ x0A : Option Addr, x0A = (some ⟨x0g, 0, none⟩) := ⟨_, rfl⟩
    rw [← x0e] at x0ho ⊢
    clear x0e
    have LTx0 : Hid (∀ k, (x0A : Option Addr).map (·.block) = some k → w3.heap.size ≤ k ∧ k < w4.heap.size) := Lib.hid (fun k hk => x0ho.lt k hk)
    have B_4 := Lib.hid (B_3.out.trans (x0hb.mono B_3.out.size))
    have S_3 := Lib.hid x0hb.size
    have a0_4 := a0_3.next x0hb
    have h0_4 := h0_3.below x0hb
    have T_4 := T_3.below x0hb
    have o_4 := o_3.below x0hb
    clear a0_3 h0_3 T_3 o_3
    have x0_4 := x0ho
    have kp_4 := below1 w4 (.cells #[.int .i64 L0, .slice x0A n0 x0c] 29)
    have f7 := a0_4.c0
    have f8 := a0_4.c1
    have f9 := (a0_4.next kp_4).c0
    have f10 := (a0_4.next kp_4).c1
    go_wp2_with fail
    refine (himpl _ _ _ hn0 (x0_4.below kp_4).rd (T_4.below kp_4)).mono ?_
    rintro e w5 ⟨gA, gc, rfl, gho, ghb⟩
    clear f7 f8 f9 f10
    obtain ⟨glo, ge1⟩ : ∃ q : Nat, q = (w4.alloc (.cells #[.int .i64 L0, .slice x0A n0 x0c] 29)).heap.size := ⟨_, rfl⟩
    obtain ⟨ghi, ge2⟩ : ∃ q : Nat, q = w5.heap.size := ⟨_, rfl⟩
    have gh2 : OwnSS w5 glo ghi gA VN gc VX := by rw [ge1, ge2]; exact gho
    have LTg : Hid (w4.heap.size + 1 ≤ glo ∧ ghi = w5.heap.size) := Lib.hid ⟨by rw [ge1]; simp, ge2⟩
    clear gho ge1 ge2
    have hbb_4 := kp_4.trans (ghb.mono kp_4.size)
    have B_5 := Lib.hid (B_4.out.trans (hbb_4.mono B_4.out.size))
    have S_4 : Hid (w4.heap.size + 1 ≤ w5.heap.size) := Lib.hid (by have h9 := ghb.size; have e9 : (w4.alloc (.cells #[.int .i64 L0, .slice x0A n0 x0c] 29)).heap.size = w4.heap.size + 1 := (by simp); omega)
    have a0_5 := a0_4.next hbb_4
    have h0_5 := h0_4.below hbb_4
    have T_5 := T_4.below hbb_4
    have o_5 := o_4.below hbb_4
    have x0_5 := x0_4.below hbb_4
    have x0x_5 := (box_new 29 w4 L0 x0A n0 x0c).next ghb
    clear a0_4 h0_4 T_4 o_4 x0_4
    have g_5 := gh2
    have f12 := a0_5.c0
    have f13 := a0_5.c1
    have f14 := x0x_5.c0
    have f15 := x0x_5.c1
    go_wp2_with fail
    refine (eqSS_true _ _ _ _ _ VX _ (g_5.rd HSM.out) (o_5.rd HSM.out) (by omega)).mono ?_
    rintro e w6 ⟨rfl, hb11⟩
    clear f12 f13 f14 f15
    have B_6 := Lib.hid (B_5.out.trans (hb11.mono B_5.out.size))
    have S_5 := Lib.hid hb11.size
    have a0_6 := a0_5.next hb11
    have h0_6 := h0_5.below hb11
    have T_6 := T_5.below hb11
    have o_6 := o_5.below hb11
    have x0_6 := x0_5.below hb11
    have x0x_6 := x0x_5.next hb11
    have g_6 := g_5.below hb11
    clear a0_5 h0_5 T_5 o_5 x0_5 x0x_5 g_5
    have f16 := a0_6.c0
    have f17 := a0_6.c1
    have f18 := x0x_6.c0
    have f19 := x0x_6.c1
    go_upto_region 10 with fail
    go_cut [45] from 41 to 45 (fun v wx => v = .bool false ∧ Below w6.heap.size w6 wx)
    case first =>
      have Z0 : ∀ (ww : World), Below w6.heap.size w6 ww → Calls Tryd.prog 18 #[.agg #[.int .i64 L0, .slice A0 n0 c0]] ww fun e w' => ∃ g c', e = .returned (.agg #[.int .i64 L0, .slice (some ⟨g, 0, none⟩) n0 c']) ∧ Own 2 w' ww.heap.size (some ⟨g, 0, none⟩) n0 c' xs0 ∧ Below ww.heap.size ww w' := fun ww hww => (toAl_any L0 _ n0 _ xs0 _ (h0_6.below hww) hn0).mono fun e w' ⟨g, c', he, _, ho, hb⟩ => ⟨g, c', he, ho, hb⟩
      have hdr : Below w6.heap.size w6 w6.drew := (Below.refl _ _).drew
      have rc0 := (x0x_6.next hdr).c0
      have tc0 := (a0_6.next hdr).c0
      have rc1 := (x0x_6.next hdr).c1
      have tc1 := (a0_6.next hdr).c1
      go_region_with (first | (go_at_call 18; refine (Z0 _ hdr).mono ?_; rintro e wz ⟨gz, cz, rfl, hoz, hbz⟩; have hbz2 := hdr.trans (hbz.mono hdr.size); have q0 := (x0x_6.next hbz2).c0; have q1 := (x0x_6.next hbz2).c1) | (go_at_call 21; refine (eqAl_true L0 _ _ _ _ _ xs0 _ (x0_6.below hbz2).rd hoz.rd hm0).mono ?_; rintro e wy ⟨rfl, hby⟩; have hby2 := hbz2.trans (hby.mono hbz2.size)))
      all_goals (go_wp2_with fail; go_meet; exact ⟨rfl, hby2⟩)
    case rest =>
      obtain ⟨rfl, hcb⟩ := hcut
      obtain ⟨w7, rfl⟩ : ∃ w9 : World, w9 = wc := ⟨_, rfl⟩
      clear f16 f17 f18 f19
      have B_7 := Lib.hid (B_6.out.trans (hcb.mono B_6.out.size))
      have S_6 := Lib.hid hcb.size
      have a0_7 := a0_6.next hcb
      have h0_7 := h0_6.below hcb
      have T_7 := T_6.below hcb
      have o_7 := o_6.below hcb
      have x0_7 := x0_6.below hcb
      have x0x_7 := x0x_6.next hcb
      have g_7 := g_6.below hcb
      clear a0_6 h0_6 T_6 o_6 x0_6 x0x_6 g_6
      have f20 := a0_7.c0
      have f21 := a0_7.c1
      have f22 := x0x_7.c0
      have f23 := x0x_7.c1
      go_wp2_with fail
      refine (markAl_any _ _ L0 _ _ _ (1) _ _ x0_7 hn0 (by omega)).mono ?_
      rintro e w8 ⟨rfl, mx0, mg0⟩
      clear f20 f21 f22 f23
      have S_7 := Lib.hid mg0.size
      have B_8 := Lib.hid (B_7.out.grown mg0 B_7.out.size (fun k hk => by have := (LTx0.out k hk).1; have := S_0.out; have := S_1.out; have := S_2.out; have := S_3.out; have := S_4.out; have := S_5.out; have := S_6.out; have := S0_.out; omega))
      have a0_8 := a0_7.apart mg0 (fun e => by have := LTx0.out _ e; have := S_0.out; have := S_1.out; have := S_2.out; have := S_3.out; have := S_4.out; have := S_5.out; have := S_6.out; have := S0_.out; omega)
      have h0_8 := h0.below B_8.out
      have T_8 := hT.below B_8.out
      have o_8 := o_7.apart mg0 (fun r hr => by have := LTo.out; have := LTx0.out r hr; have := S_0.out; have := S_1.out; have := S_2.out; have := S_3.out; have := S_4.out; have := S_5.out; have := S_6.out; omega)
      have x0x_8 := x0x_7.apart mg0 (fun e => by have := LTx0.out _ e; have := S_0.out; have := S_1.out; have := S_2.out; have := S_3.out; have := S_4.out; have := S_5.out; have := S_6.out; have := S0_.out; omega)
      have g_8 := g_7.apart mg0 (fun r hr => by have := LTg.out; have := LTx0.out r hr; have := S_0.out; have := S_1.out; have := S_2.out; have := S_3.out; have := S_4.out; have := S_5.out; have := S_6.out; omega)
      clear a0_7 h0_7 T_7 o_7 x0x_7 g_7
      have x0_8 := mx0
      clear x0_8
      have f25 := a0_8.c0
      have f26 := a0_8.c1
      have f27 := x0x_8.c0
      have f28 := x0x_8.c1
      go_wp2_with fail
      refine (eqSS_true _ _ _ _ _ VX _ (g_8.rd HSM.out) (o_8.rd HSM.out) (by omega)).mono ?_
      rintro e w9 ⟨rfl, hb24⟩
      clear f25 f26 f27 f28
      have B_9 := Lib.hid (B_8.out.trans (hb24.mono B_8.out.size))
      have S_8 := Lib.hid hb24.size
      have a0_9 := a0_8.next hb24
      have h0_9 := h0_8.below hb24
      have T_9 := T_8.below hb24
      have o_9 := o_8.below hb24
      have x0x_9 := x0x_8.next hb24
      have g_9 := g_8.below hb24
      clear a0_8 h0_8 T_8 o_8 x0x_8 g_8
      have f29 := a0_9.c0
      have f30 := a0_9.c1
      have f31 := x0x_9.c0
      have f32 := x0x_9.c1
      go_wp2_with fail
      refine (markSS_one _ _ _ _ _ _ _ g_9 HSV.out hVS hVN).mono ?_
      rintro e w10 ⟨rfl, mxg, mgg⟩
      clear f29 f30 f31 f32
      have S_9 := Lib.hid mgg.size
      have B_10 := Lib.hid (mgg.under B_9.out (by have := LTg.out; have := S_0.out; have := S_1.out; have := S_2.out; have := S_3.out; have := S_4.out; have := S_5.out; have := S_6.out; have := S_7.out; have := S_8.out; have := S0_.out; omega))
      have a0_10 := a0_9.touched mgg (by have := LTg.out; have := S_0.out; have := S_1.out; have := S_2.out; have := S_3.out; have := S_4.out; have := S_5.out; have := S_6.out; have := S_7.out; have := S_8.out; have := S0_.out; omega)
      have h0_10 := h0.below B_10.out
      have T_10 := hT.below B_10.out
      have o_10 := o_9.touched mgg (by have := LTo.out; have := LTg.out; have := S_0.out; have := S_1.out; have := S_2.out; have := S_3.out; have := S_4.out; have := S_5.out; have := S_6.out; have := S_7.out; have := S_8.out; omega)
      have x0x_10 := x0x_9.touched mgg (by have := LTg.out; have := S_0.out; have := S_1.out; have := S_2.out; have := S_3.out; have := S_4.out; have := S_5.out; have := S_6.out; have := S_7.out; have := S_8.out; have := S0_.out; omega)
      clear a0_9 h0_9 T_9 o_9 x0x_9
      clear g_9
      have g_10 := mxg
      have f33 := a0_10.c0
      have f34 := a0_10.c1
      have f35 := x0x_10.c0
      have f36 := x0x_10.c1
      go_wp2_with fail
      refine (heldSS_one _ _ _ VX _ (g_10.rd HSM2.out) HSV.out hVS hVN).mono ?_
      rintro e w' ⟨rfl, rfl⟩
      clear f33 f34 f35 f36
      have f37 := a0_10.c0
      have f38 := a0_10.c1
      have f39 := x0x_10.c0
      have f40 := x0x_10.c1
      go_wp2_with fail
      refine (toAl_any L0 _ n0 _ xs0 _ h0_10 hn0).mono ?_
      rintro e w11 ⟨z0g, z0c, rfl, z0hg, z0ho, z0hb⟩
      clear f37 f38 f39 f40
      obtain ⟨z0A, z0e⟩ : ∃ z0A : Option Addr, z0A = (some ⟨z0g, 0, none⟩) := ⟨_, rfl⟩
      rw [← z0e] at z0ho ⊢
      clear z0e
      have LTz0 : Hid (∀ k, (z0A : Option Addr).map (·.block) = some k → w10.heap.size ≤ k ∧ k < w11.heap.size) := Lib.hid (fun k hk => z0ho.lt k hk)
      have B_11 := Lib.hid (B_10.out.trans (z0hb.mono B_10.out.size))
      have S_10 := Lib.hid z0hb.size
      have a0_11 := a0_10.next z0hb
      have h0_11 := h0_10.below z0hb
      have T_11 := T_10.below z0hb
      have o_11 := o_10.below z0hb
      have x0x_11 := x0x_10.next z0hb
      have g_11 := g_10.below z0hb
      clear a0_10 h0_10 T_10 o_10 x0x_10 g_10
      have z0_11 := z0ho
      have f41 := a0_11.c0
      have f42 := a0_11.c1
      have f43 := x0x_11.c0
      have f44 := x0x_11.c1
      go_wp2_with fail
      refine (himpl _ _ _ hn0 z0_11.rd T_11).mono ?_
      rintro e w12 ⟨qA, qc, rfl, qho, qhb⟩
      clear f41 f42 f43 f44
      obtain ⟨qlo, qe1⟩ : ∃ q : Nat, q = w11.heap.size := ⟨_, rfl⟩
      obtain ⟨qhi, qe2⟩ : ∃ q : Nat, q = w12.heap.size := ⟨_, rfl⟩
      have qh2 : OwnSS w12 qlo qhi qA VN qc VX := by rw [qe1, qe2]; exact qho
      have LTq : Hid (w11.heap.size ≤ qlo ∧ qhi = w12.heap.size) := Lib.hid ⟨by rw [qe1]; exact Nat.le_refl _, qe2⟩
      clear qho qe1 qe2
      have B_12 := Lib.hid (B_11.out.trans (qhb.mono B_11.out.size))
      have S_11 := Lib.hid qhb.size
      have a0_12 := a0_11.next qhb
      have h0_12 := h0_11.below qhb
      have T_12 := T_11.below qhb
      have o_12 := o_11.below qhb
      have x0x_12 := x0x_11.next qhb
      have g_12 := g_11.below qhb
      have z0_12 := z0_11.below qhb
      clear a0_11 h0_11 T_11 o_11 x0x_11 g_11 z0_11
      have q_12 := qh2
      clear z0_12
      have f46 := a0_12.c0
      have f47 := a0_12.c1
      have f48 := x0x_12.c0
      have f49 := x0x_12.c1
      go_wp2_with fail
      refine (eqSS_true _ _ _ _ _ VX _ (q_12.rd HSM.out) (o_12.rd HSM.out) (by omega)).mono ?_
      rintro e w13 ⟨rfl, hb45⟩
      clear f46 f47 f48 f49
      have B_13 := Lib.hid (B_12.out.trans (hb45.mono B_12.out.size))
      have S_12 := Lib.hid hb45.size
      have a0_13 := a0_12.next hb45
      have h0_13 := h0_12.below hb45
      have T_13 := T_12.below hb45
      have o_13 := o_12.below hb45
      have x0x_13 := x0x_12.next hb45
      have g_13 := g_12.below hb45
      have q_13 := q_12.below hb45
      clear a0_12 h0_12 T_12 o_12 x0x_12 g_12 q_12
      have f50 := a0_13.c0
      have f51 := a0_13.c1
      have f52 := x0x_13.c0
      have f53 := x0x_13.c1
      go_wp2_with fail
      refine (heldSS_one _ _ _ VX _ (g_13.rd HSM2.out) HSV.out hVS hVN).mono ?_
      rintro e w' ⟨rfl, rfl⟩
      clear f50 f51 f52 f53
      have f54 := a0_13.c0
      have f55 := a0_13.c1
      have f56 := x0x_13.c0
      have f57 := x0x_13.c1
      go_wp2_with fail
      go_ret
      exact ⟨rfl, B_13.out⟩
  · go_enter Tryd.func8, Tryd.ntmps8
    go_wp2_with fail
    rw [← hw0]
    refine (szno_any L0 A0 n0 c0 _ (by omega) hm0).mono ?_
    rintro e w1 ⟨rfl, hz0⟩
    go_wp2_with fail
    go_ret
    exact ⟨rfl, B_0.out.trans (hz0.mono B_0.out.size)⟩
end Go.Proofs.YtcojodkcpemfdaaDoor

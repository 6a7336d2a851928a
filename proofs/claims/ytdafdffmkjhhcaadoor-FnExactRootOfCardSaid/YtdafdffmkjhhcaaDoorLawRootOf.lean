/-
  The walk of FnExactRootOf, over contracts of both sides.
-/
import Derived.Test.YtdafdffmkjhhcaaDoorRtA
import Derived.Deep.CutRange
import Derived.Deep.RegionWith
namespace Go.Proofs.YtdafdffmkjhhcaaDoor
open Go.RowKit
set_option linter.unusedVariables false
set_option maxRecDepth 100000
set_option maxHeartbeats 3200000 in
theorem lawRootOf (L0 : Int) (A0 : Option Addr) (n0 c0 : Nat) (xs0 : List Int) (A1 : Option Addr) (n1 c1 : Nat) (xs1 : List Int) (w : World) (hL01 : -9223372036854775808 ≤ L0) (hL02 : L0 ≤ 9223372036854775807) (h0 : Rd w A0 n0 xs0) (hwf0 : Wf xs0) (hl0 : n0 ≤ maxLen) (h1 : Rd w A1 n1 xs1) (hwf1 : Wf xs1) (hl1 : n1 ≤ maxLen) (hT : Tab w) (VN : Nat) (VX : List Int) (K : Int) (C : Int) (hVN : VN ≤ 1048576)
    (hspec : ∀ (B0 : Option Addr) (d0 : Nat) (B1 : Option Addr) (d1 : Nat) (w' : World), n0 ≤ 1048576 → Rd w' B0 n0 xs0 → n1 ≤ 1048576 → Rd w' B1 n1 xs1 → Calls Tryd.prog 40 #[.agg #[.int .i64 L0, .slice B0 n0 d0], .slice B1 n1 d1] w' (LsiPost w' VN VX K C))
    (himpl : ∀ (B0 : Option Addr) (d0 : Nat) (B1 : Option Addr) (d1 : Nat) (w' : World), n0 ≤ 1048576 → Rd w' B0 n0 xs0 → n1 ≤ 1048576 → Rd w' B1 n1 xs1 → Tab w' → Calls Tryd.prog 41 #[.agg #[.int .i64 L0, .slice B0 n0 d0], .slice B1 n1 d1] w' (LsiPost w' VN VX K C)) :
    Calls Tryd.prog 10 #[.agg #[.int .i64 L0, .slice A0 n0 c0], .slice A1 n1 c1] w fun e w' => e = .returned (.bool true) ∧ Below w.heap.size w w' := by
  unfold maxLen at hl0
  have hm0 : n0 ≤ 9223372036854775807 := by omega
  unfold maxLen at hl1
  have hm1 : n1 ≤ 9223372036854775807 := by omega
  obtain ⟨w0, hw0⟩ : ∃ w0 : World, w0 = (w.alloc (.cells #[.int .i64 L0, .slice A0 n0 c0] 24)) := ⟨_, rfl⟩
  have B_0 := Lib.hid (show Below w.heap.size w w0 by rw [hw0]; exact below1 w _)
  have S0_ : Hid (w0.heap.size = w.heap.size + 1) := Lib.hid (by rw [hw0]; simp)
  have a0_0 : Box 24 w0 (w.heap.size) L0 A0 n0 c0 := by rw [hw0]; have h9 := box_new 24 w L0 A0 n0 c0; have h8 : Box 24 (w.alloc (.cells #[.int .i64 L0, .slice A0 n0 c0] 24)) (w.heap.size) L0 A0 n0 c0 := (by simpa using h9); exact h8
  have h0_0 := h0.below B_0.out
  have h1_0 := h1.below B_0.out
  have T_0 := hT.below B_0.out
  by_cases hs1 : n1 ≤ 1048576
  · by_cases hs0 : n0 ≤ 1048576
    · have hn0 : n0 ≤ 1048576 := by omega
      have hn1 : n1 ≤ 1048576 := by omega
      go_enter Tryd.func10, Tryd.ntmps10
      go_wp2_with fail
      rw [← hw0]
      refine (sz_law L0 A0 n0 c0 _ hs0).mono ?_
      rintro e w1 ⟨rfl, hz0⟩
      have B_1 := Lib.hid (B_0.out.trans (hz0.mono B_0.out.size))
      have S_0 := Lib.hid hz0.size
      have a0_1 := a0_0.next hz0
      have h0_1 := h0_0.below hz0
      have h1_1 := h1_0.below hz0
      have T_1 := T_0.below hz0
      clear a0_0 h0_0 h1_0 T_0
      have f1 := a0_1.c0
      have f2 := a0_1.c1
      go_wp2_with fail
      refine (toAl_any L0 _ n0 _ xs0 _ h0_1 hn0).mono ?_
      rintro e w2 ⟨s0g, s0c, rfl, s0hg, s0ho, s0hb⟩
      clear f1 f2
      obtain ⟨s0A, s0e⟩ : ∃ s0A : Option Addr, s0A = (some ⟨s0g, 0, none⟩) := ⟨_, rfl⟩
      rw [← s0e] at s0ho ⊢
      clear s0e
      have LTs0 : Hid (∀ k, (s0A : Option Addr).map (·.block) = some k → w1.heap.size ≤ k ∧ k < w2.heap.size) := Lib.hid (fun k hk => s0ho.lt k hk)
      have B_2 := Lib.hid (B_1.out.trans (s0hb.mono B_1.out.size))
      have S_1 := Lib.hid s0hb.size
      have a0_2 := a0_1.next s0hb
      have h0_2 := h0_1.below s0hb
      have h1_2 := h1_1.below s0hb
      have T_2 := T_1.below s0hb
      clear a0_1 h0_1 h1_1 T_1
      have s0_2 := s0ho
      have f3 := a0_2.c0
      have f4 := a0_2.c1
      go_wp2_with fail
      refine (toInt_any _ _ _ xs1 _ h1_2 hn1).mono ?_
      rintro e w3 ⟨s1c, rfl, s1ho, s1hb⟩
      clear f3 f4
      obtain ⟨s1A, s1e⟩ : ∃ s1A : Option Addr, s1A = (some ⟨w2.heap.size, 0, none⟩) := ⟨_, rfl⟩
      rw [← s1e] at s1ho ⊢
      clear s1e
      have LTs1 : Hid (∀ k, (s1A : Option Addr).map (·.block) = some k → w2.heap.size ≤ k ∧ k < w3.heap.size) := Lib.hid (fun k hk => s1ho.lt k hk)
      have B_3 := Lib.hid (B_2.out.trans (s1hb.mono B_2.out.size))
      have S_2 := Lib.hid s1hb.size
      have a0_3 := a0_2.next s1hb
      have h0_3 := h0_2.below s1hb
      have h1_3 := h1_2.below s1hb
      have T_3 := T_2.below s1hb
      have s0_3 := s0_2.below s1hb
      clear a0_2 h0_2 h1_2 T_2 s0_2
      have s1_3 := s1ho
      have f5 := a0_3.c0
      have f6 := a0_3.c1
      go_wp2_with fail
      refine (hspec _ _ _ _ _ hn0 s0_3.rd hn1 s1_3.rd).mono ?_
      rintro e w4 ⟨oA, oc, rfl, oho, ohb⟩
      clear f5 f6
      have LTo : Hid (∀ k, (oA : Option Addr).map (·.block) = some k → w3.heap.size ≤ k ∧ k < w4.heap.size) := Lib.hid (fun k hk => oho.lt k hk)
      have B_4 := Lib.hid (B_3.out.trans (ohb.mono B_3.out.size))
      have S_3 := Lib.hid ohb.size
      have a0_4 := a0_3.next ohb
      have h0_4 := h0_3.below ohb
      have h1_4 := h1_3.below ohb
      have T_4 := T_3.below ohb
      have s0_4 := s0_3.below ohb
      have s1_4 := s1_3.below ohb
      clear a0_3 h0_3 h1_3 T_3 s0_3 s1_3
      have o_4 := oho
      clear s0_4
      clear s1_4
      have f7 := a0_4.c0
      have f8 := a0_4.c1
      go_wp2_with fail
      refine (toAl_any L0 _ n0 _ xs0 _ h0_4 hn0).mono ?_
      rintro e w5 ⟨x0g, x0c, rfl, x0hg, x0ho, x0hb⟩
      clear f7 f8
      obtain ⟨x0A, x0e⟩ : ∃ x0A : Option Addr, x0A = (some ⟨x0g, 0, none⟩) := ⟨_, rfl⟩
      rw [← x0e] at x0ho ⊢
      clear x0e
      have LTx0 : Hid (∀ k, (x0A : Option Addr).map (·.block) = some k → w4.heap.size ≤ k ∧ k < w5.heap.size) := Lib.hid (fun k hk => x0ho.lt k hk)
      have B_5 := Lib.hid (B_4.out.trans (x0hb.mono B_4.out.size))
      have S_4 := Lib.hid x0hb.size
      have a0_5 := a0_4.next x0hb
      have h0_5 := h0_4.below x0hb
      have h1_5 := h1_4.below x0hb
      have T_5 := T_4.below x0hb
      have o_5 := o_4.below x0hb
      clear a0_4 h0_4 h1_4 T_4 o_4
      have x0_5 := x0ho
      have kp_5 := below1 w5 (.cells #[.int .i64 L0, .slice x0A n0 x0c] 29)
      have f9 := a0_5.c0
      have f10 := a0_5.c1
      have f11 := (a0_5.next kp_5).c0
      have f12 := (a0_5.next kp_5).c1
      go_wp2_with fail
      refine (toInt_any _ _ _ xs1 _ (h1_5.below kp_5) hn1).mono ?_
      rintro e w6 ⟨x1c, rfl, x1ho, x1hb⟩
      clear f9 f10 f11 f12
      obtain ⟨x1A, x1e⟩ : ∃ x1A : Option Addr, x1A = (some ⟨(w5.alloc (.cells #[.int .i64 L0, .slice x0A n0 x0c] 29)).heap.size, 0, none⟩) := ⟨_, rfl⟩
      rw [← x1e] at x1ho ⊢
      clear x1e
      have LTx1 : Hid (∀ k, (x1A : Option Addr).map (·.block) = some k → w5.heap.size + 1 ≤ k ∧ k < w6.heap.size) := Lib.hid (fun k hk => by have h9 := x1ho.lt k hk; have e9 : (w5.alloc (.cells #[.int .i64 L0, .slice x0A n0 x0c] 29)).heap.size = w5.heap.size + 1 := (by simp); omega)
      have hbb_5 := kp_5.trans (x1hb.mono kp_5.size)
      have B_6 := Lib.hid (B_5.out.trans (hbb_5.mono B_5.out.size))
      have S_5 : Hid (w5.heap.size + 1 ≤ w6.heap.size) := Lib.hid (by have h9 := x1hb.size; have e9 : (w5.alloc (.cells #[.int .i64 L0, .slice x0A n0 x0c] 29)).heap.size = w5.heap.size + 1 := (by simp); omega)
      have a0_6 := a0_5.next hbb_5
      have h0_6 := h0_5.below hbb_5
      have h1_6 := h1_5.below hbb_5
      have T_6 := T_5.below hbb_5
      have o_6 := o_5.below hbb_5
      have x0_6 := x0_5.below hbb_5
      have x0x_6 := (box_new 29 w5 L0 x0A n0 x0c).next x1hb
      clear a0_5 h0_5 h1_5 T_5 o_5 x0_5
      have x1_6 := x1ho.mono kp_5.size
      have f13 := a0_6.c0
      have f14 := a0_6.c1
      have f15 := x0x_6.c0
      have f16 := x0x_6.c1
      go_wp2_with fail
      refine (himpl _ _ _ _ _ hn0 x0_6.rd hn1 x1_6.rd T_6).mono ?_
      rintro e w7 ⟨gA, gc, rfl, gho, ghb⟩
      clear f13 f14 f15 f16
      have LTg : Hid (∀ k, (gA : Option Addr).map (·.block) = some k → w6.heap.size ≤ k ∧ k < w7.heap.size) := Lib.hid (fun k hk => gho.lt k hk)
      have B_7 := Lib.hid (B_6.out.trans (ghb.mono B_6.out.size))
      have S_6 := Lib.hid ghb.size
      have a0_7 := a0_6.next ghb
      have h0_7 := h0_6.below ghb
      have h1_7 := h1_6.below ghb
      have T_7 := T_6.below ghb
      have o_7 := o_6.below ghb
      have x0_7 := x0_6.below ghb
      have x0x_7 := x0x_6.next ghb
      have x1_7 := x1_6.below ghb
      clear a0_6 h0_6 h1_6 T_6 o_6 x0_6 x0x_6 x1_6
      have g_7 := gho
      have f18 := a0_7.c0
      have f19 := a0_7.c1
      have f20 := x0x_7.c0
      have f21 := x0x_7.c1
      go_wp2_with fail
      refine (eq_true _ _ _ _ _ VX _ g_7.rd o_7.rd (by omega)).mono ?_
      rintro e w8 ⟨rfl, hb17⟩
      clear f18 f19 f20 f21
      have B_8 := Lib.hid (B_7.out.trans (hb17.mono B_7.out.size))
      have S_7 := Lib.hid hb17.size
      have a0_8 := a0_7.next hb17
      have h0_8 := h0_7.below hb17
      have h1_8 := h1_7.below hb17
      have T_8 := T_7.below hb17
      have o_8 := o_7.below hb17
      have x0_8 := x0_7.below hb17
      have x0x_8 := x0x_7.next hb17
      have x1_8 := x1_7.below hb17
      have g_8 := g_7.below hb17
      clear a0_7 h0_7 h1_7 T_7 o_7 x0_7 x0x_7 x1_7 g_7
      have f22 := a0_8.c0
      have f23 := a0_8.c1
      have f24 := x0x_8.c0
      have f25 := x0x_8.c1
      go_upto_region 13 with fail
      go_cut [66] from 62 to 66 (fun v wx => v = .bool false ∧ Below w8.heap.size w8 wx)
      case first =>
        have Z0 : ∀ (ww : World), Below w8.heap.size w8 ww → Calls Tryd.prog 16 #[.agg #[.int .i64 L0, .slice A0 n0 c0]] ww fun e w' => ∃ g c', e = .returned (.agg #[.int .i64 L0, .slice (some ⟨g, 0, none⟩) n0 c']) ∧ Own 2 w' ww.heap.size (some ⟨g, 0, none⟩) n0 c' xs0 ∧ Below ww.heap.size ww w' := fun ww hww => (toAl_any L0 _ n0 _ xs0 _ (h0_8.below hww) hn0).mono fun e w' ⟨g, c', he, _, ho, hb⟩ => ⟨g, c', he, ho, hb⟩
        have hdr : Below w8.heap.size w8 w8.drew := (Below.refl _ _).drew
        have rc0 := (x0x_8.next hdr).c0
        have tc0 := (a0_8.next hdr).c0
        have rc1 := (x0x_8.next hdr).c1
        have tc1 := (a0_8.next hdr).c1
        go_region_with (first | (go_at_call 16; refine (Z0 _ hdr).mono ?_; rintro e wz ⟨gz, cz, rfl, hoz, hbz⟩; have hbz2 := hdr.trans (hbz.mono hdr.size); have q0 := (x0x_8.next hbz2).c0; have q1 := (x0x_8.next hbz2).c1) | (go_at_call 19; refine (eqAl_true L0 _ _ _ _ _ xs0 _ (x0_8.below hbz2).rd hoz.rd hm0).mono ?_; rintro e wy ⟨rfl, hby⟩; have hby2 := hbz2.trans (hby.mono hbz2.size)))
        all_goals (go_wp2_with fail; go_meet; exact ⟨rfl, hby2⟩)
      case rest =>
        obtain ⟨rfl, hcb⟩ := hcut
        obtain ⟨w9, rfl⟩ : ∃ w9 : World, w9 = wc := ⟨_, rfl⟩
        clear f22 f23 f24 f25
        have B_9 := Lib.hid (B_8.out.trans (hcb.mono B_8.out.size))
        have S_8 := Lib.hid hcb.size
        have a0_9 := a0_8.next hcb
        have h0_9 := h0_8.below hcb
        have h1_9 := h1_8.below hcb
        have T_9 := T_8.below hcb
        have o_9 := o_8.below hcb
        have x0_9 := x0_8.below hcb
        have x0x_9 := x0x_8.next hcb
        have x1_9 := x1_8.below hcb
        have g_9 := g_8.below hcb
        clear a0_8 h0_8 h1_8 T_8 o_8 x0_8 x0x_8 x1_8 g_8
        have f26 := a0_9.c0
        have f27 := a0_9.c1
        have f28 := x0x_9.c0
        have f29 := x0x_9.c1
        go_wp2_with fail
        refine (toInt_any _ _ _ xs1 _ h1_9 hn1).mono ?_
        rintro e w10 ⟨y1c, rfl, y1ho, y1hb⟩
        clear f26 f27 f28 f29
        obtain ⟨y1A, y1e⟩ : ∃ y1A : Option Addr, y1A = (some ⟨w9.heap.size, 0, none⟩) := ⟨_, rfl⟩
        rw [← y1e] at y1ho ⊢
        clear y1e
        have LTy1 : Hid (∀ k, (y1A : Option Addr).map (·.block) = some k → w9.heap.size ≤ k ∧ k < w10.heap.size) := Lib.hid (fun k hk => y1ho.lt k hk)
        have B_10 := Lib.hid (B_9.out.trans (y1hb.mono B_9.out.size))
        have S_9 := Lib.hid y1hb.size
        have a0_10 := a0_9.next y1hb
        have h0_10 := h0_9.below y1hb
        have h1_10 := h1_9.below y1hb
        have T_10 := T_9.below y1hb
        have o_10 := o_9.below y1hb
        have x0_10 := x0_9.below y1hb
        have x0x_10 := x0x_9.next y1hb
        have x1_10 := x1_9.below y1hb
        have g_10 := g_9.below y1hb
        clear a0_9 h0_9 h1_9 T_9 o_9 x0_9 x0x_9 x1_9 g_9
        have y1_10 := y1ho
        have f31 := a0_10.c0
        have f32 := a0_10.c1
        have f33 := x0x_10.c0
        have f34 := x0x_10.c1
        go_wp2_with fail
        refine (eq_true _ _ _ _ _ xs1 _ x1_10.rd y1_10.rd (by omega)).mono ?_
        rintro e w11 ⟨rfl, hb30⟩
        clear f31 f32 f33 f34
        have B_11 := Lib.hid (B_10.out.trans (hb30.mono B_10.out.size))
        have S_10 := Lib.hid hb30.size
        have a0_11 := a0_10.next hb30
        have h0_11 := h0_10.below hb30
        have h1_11 := h1_10.below hb30
        have T_11 := T_10.below hb30
        have o_11 := o_10.below hb30
        have x0_11 := x0_10.below hb30
        have x0x_11 := x0x_10.next hb30
        have x1_11 := x1_10.below hb30
        have g_11 := g_10.below hb30
        have y1_11 := y1_10.below hb30
        clear a0_10 h0_10 h1_10 T_10 o_10 x0_10 x0x_10 x1_10 g_10 y1_10
        clear y1_11
        have f35 := a0_11.c0
        have f36 := a0_11.c1
        have f37 := x0x_11.c0
        have f38 := x0x_11.c1
        go_wp2_with fail
        refine (markAl_any _ _ L0 _ _ _ (1) _ _ x0_11 hn0 (by omega)).mono ?_
        rintro e w12 ⟨rfl, mx0, mg0⟩
        clear f35 f36 f37 f38
        have S_11 := Lib.hid mg0.size
        have B_12 := Lib.hid (B_11.out.grown mg0 B_11.out.size (fun k hk => by have := (LTx0.out k hk).1; have := S_0.out; have := S_1.out; have := S_2.out; have := S_3.out; have := S_4.out; have := S_5.out; have := S_6.out; have := S_7.out; have := S_8.out; have := S_9.out; have := S_10.out; have := S0_.out; omega))
        have a0_12 := a0_11.apart mg0 (fun e => by have := LTx0.out _ e; have := S_0.out; have := S_1.out; have := S_2.out; have := S_3.out; have := S_4.out; have := S_5.out; have := S_6.out; have := S_7.out; have := S_8.out; have := S_9.out; have := S_10.out; have := S0_.out; omega)
        have h0_12 := h0.below B_12.out
        have h1_12 := h1.below B_12.out
        have T_12 := hT.below B_12.out
        have o_12 := o_11.apart mg0 (fun k hk e => by have := LTo.out k hk; have := LTx0.out k e; have := S_0.out; have := S_1.out; have := S_2.out; have := S_3.out; have := S_4.out; have := S_5.out; have := S_6.out; have := S_7.out; have := S_8.out; have := S_9.out; have := S_10.out; omega)
        have x0x_12 := x0x_11.apart mg0 (fun e => by have := LTx0.out _ e; have := S_0.out; have := S_1.out; have := S_2.out; have := S_3.out; have := S_4.out; have := S_5.out; have := S_6.out; have := S_7.out; have := S_8.out; have := S_9.out; have := S_10.out; have := S0_.out; omega)
        have x1_12 := x1_11.apart mg0 (fun k hk e => by have := LTx1.out k hk; have := LTx0.out k e; have := S_0.out; have := S_1.out; have := S_2.out; have := S_3.out; have := S_4.out; have := S_5.out; have := S_6.out; have := S_7.out; have := S_8.out; have := S_9.out; have := S_10.out; omega)
        have g_12 := g_11.apart mg0 (fun k hk e => by have := LTg.out k hk; have := LTx0.out k e; have := S_0.out; have := S_1.out; have := S_2.out; have := S_3.out; have := S_4.out; have := S_5.out; have := S_6.out; have := S_7.out; have := S_8.out; have := S_9.out; have := S_10.out; omega)
        clear a0_11 h0_11 h1_11 T_11 o_11 x0x_11 x1_11 g_11
        have x0_12 := mx0
        have f39 := a0_12.c0
        have f40 := a0_12.c1
        have f41 := x0x_12.c0
        have f42 := x0x_12.c1
        go_wp2_with fail
        refine (mark_any _ _ _ _ _ (1 + n0) _ _ x1_12 hn1 (by omega)).mono ?_
        rintro e w13 ⟨rfl, mx1, mg1⟩
        clear f39 f40 f41 f42
        have S_12 := Lib.hid mg1.size
        have B_13 := Lib.hid (B_12.out.grown mg1 B_12.out.size (fun k hk => by have := (LTx1.out k hk).1; have := S_0.out; have := S_1.out; have := S_2.out; have := S_3.out; have := S_4.out; have := S_5.out; have := S_6.out; have := S_7.out; have := S_8.out; have := S_9.out; have := S_10.out; have := S_11.out; have := S0_.out; omega))
        have a0_13 := a0_12.apart mg1 (fun e => by have := LTx1.out _ e; have := S_0.out; have := S_1.out; have := S_2.out; have := S_3.out; have := S_4.out; have := S_5.out; have := S_6.out; have := S_7.out; have := S_8.out; have := S_9.out; have := S_10.out; have := S_11.out; have := S0_.out; omega)
        have h0_13 := h0.below B_13.out
        have h1_13 := h1.below B_13.out
        have T_13 := hT.below B_13.out
        have o_13 := o_12.apart mg1 (fun k hk e => by have := LTo.out k hk; have := LTx1.out k e; have := S_0.out; have := S_1.out; have := S_2.out; have := S_3.out; have := S_4.out; have := S_5.out; have := S_6.out; have := S_7.out; have := S_8.out; have := S_9.out; have := S_10.out; have := S_11.out; omega)
        have x0_13 := x0_12.apart mg1 (fun k hk e => by have := LTx0.out k hk; have := LTx1.out k e; have := S_0.out; have := S_1.out; have := S_2.out; have := S_3.out; have := S_4.out; have := S_5.out; have := S_6.out; have := S_7.out; have := S_8.out; have := S_9.out; have := S_10.out; have := S_11.out; omega)
        have x0x_13 := x0x_12.apart mg1 (fun e => by have := LTx1.out _ e; have := S_0.out; have := S_1.out; have := S_2.out; have := S_3.out; have := S_4.out; have := S_5.out; have := S_6.out; have := S_7.out; have := S_8.out; have := S_9.out; have := S_10.out; have := S_11.out; have := S0_.out; omega)
        have g_13 := g_12.apart mg1 (fun k hk e => by have := LTg.out k hk; have := LTx1.out k e; have := S_0.out; have := S_1.out; have := S_2.out; have := S_3.out; have := S_4.out; have := S_5.out; have := S_6.out; have := S_7.out; have := S_8.out; have := S_9.out; have := S_10.out; have := S_11.out; omega)
        clear a0_12 h0_12 h1_12 T_12 o_12 x0_12 x0x_12 g_12
        have x1_13 := mx1
        clear x0_13
        clear x1_13
        have f44 := a0_13.c0
        have f45 := a0_13.c1
        have f46 := x0x_13.c0
        have f47 := x0x_13.c1
        go_wp2_with fail
        refine (eq_true _ _ _ _ _ VX _ g_13.rd o_13.rd (by omega)).mono ?_
        rintro e w14 ⟨rfl, hb43⟩
        clear f44 f45 f46 f47
        have B_14 := Lib.hid (B_13.out.trans (hb43.mono B_13.out.size))
        have S_13 := Lib.hid hb43.size
        have a0_14 := a0_13.next hb43
        have h0_14 := h0_13.below hb43
        have h1_14 := h1_13.below hb43
        have T_14 := T_13.below hb43
        have o_14 := o_13.below hb43
        have x0x_14 := x0x_13.next hb43
        have g_14 := g_13.below hb43
        clear a0_13 h0_13 h1_13 T_13 o_13 x0x_13 g_13
        have f48 := a0_14.c0
        have f49 := a0_14.c1
        have f50 := x0x_14.c0
        have f51 := x0x_14.c1
        go_wp2_with fail
        refine (mark_any _ _ _ _ _ 1 _ _ g_14 hVN (by omega)).mono ?_
        rintro e w15 ⟨rfl, mxg, mgg⟩
        clear f48 f49 f50 f51
        have S_14 := Lib.hid mgg.size
        have B_15 := Lib.hid (B_14.out.grown mgg B_14.out.size (fun k hk => by have := (LTg.out k hk).1; have := S_0.out; have := S_1.out; have := S_2.out; have := S_3.out; have := S_4.out; have := S_5.out; have := S_6.out; have := S_7.out; have := S_8.out; have := S_9.out; have := S_10.out; have := S_11.out; have := S_12.out; have := S_13.out; have := S0_.out; omega))
        have a0_15 := a0_14.apart mgg (fun e => by have := LTg.out _ e; have := S_0.out; have := S_1.out; have := S_2.out; have := S_3.out; have := S_4.out; have := S_5.out; have := S_6.out; have := S_7.out; have := S_8.out; have := S_9.out; have := S_10.out; have := S_11.out; have := S_12.out; have := S_13.out; have := S0_.out; omega)
        have h0_15 := h0.below B_15.out
        have h1_15 := h1.below B_15.out
        have T_15 := hT.below B_15.out
        have o_15 := o_14.apart mgg (fun k hk e => by have := LTo.out k hk; have := LTg.out k e; have := S_0.out; have := S_1.out; have := S_2.out; have := S_3.out; have := S_4.out; have := S_5.out; have := S_6.out; have := S_7.out; have := S_8.out; have := S_9.out; have := S_10.out; have := S_11.out; have := S_12.out; have := S_13.out; omega)
        have x0x_15 := x0x_14.apart mgg (fun e => by have := LTg.out _ e; have := S_0.out; have := S_1.out; have := S_2.out; have := S_3.out; have := S_4.out; have := S_5.out; have := S_6.out; have := S_7.out; have := S_8.out; have := S_9.out; have := S_10.out; have := S_11.out; have := S_12.out; have := S_13.out; have := S0_.out; omega)
        clear a0_14 h0_14 h1_14 T_14 o_14 x0x_14
        clear g_14
        have g_15 := mxg
        have f52 := a0_15.c0
        have f53 := a0_15.c1
        have f54 := x0x_15.c0
        have f55 := x0x_15.c1
        go_wp2_with fail
        refine (held_any _ _ _ 1 _ g_15.rd hVN (by omega)).mono ?_
        rintro e w' ⟨rfl, rfl⟩
        clear f52 f53 f54 f55
        have f56 := a0_15.c0
        have f57 := a0_15.c1
        have f58 := x0x_15.c0
        have f59 := x0x_15.c1
        go_wp2_with fail
        refine (toAl_any L0 _ n0 _ xs0 _ h0_15 hn0).mono ?_
        rintro e w16 ⟨z0g, z0c, rfl, z0hg, z0ho, z0hb⟩
        clear f56 f57 f58 f59
        obtain ⟨z0A, z0e⟩ : ∃ z0A : Option Addr, z0A = (some ⟨z0g, 0, none⟩) := ⟨_, rfl⟩
        rw [← z0e] at z0ho ⊢
        clear z0e
        have LTz0 : Hid (∀ k, (z0A : Option Addr).map (·.block) = some k → w15.heap.size ≤ k ∧ k < w16.heap.size) := Lib.hid (fun k hk => z0ho.lt k hk)
        have B_16 := Lib.hid (B_15.out.trans (z0hb.mono B_15.out.size))
        have S_15 := Lib.hid z0hb.size
        have a0_16 := a0_15.next z0hb
        have h0_16 := h0_15.below z0hb
        have h1_16 := h1_15.below z0hb
        have T_16 := T_15.below z0hb
        have o_16 := o_15.below z0hb
        have x0x_16 := x0x_15.next z0hb
        have g_16 := g_15.below z0hb
        clear a0_15 h0_15 h1_15 T_15 o_15 x0x_15 g_15
        have z0_16 := z0ho
        have f60 := a0_16.c0
        have f61 := a0_16.c1
        have f62 := x0x_16.c0
        have f63 := x0x_16.c1
        go_wp2_with fail
        refine (toInt_any _ _ _ xs1 _ h1_16 hn1).mono ?_
        rintro e w17 ⟨z1c, rfl, z1ho, z1hb⟩
        clear f60 f61 f62 f63
        obtain ⟨z1A, z1e⟩ : ∃ z1A : Option Addr, z1A = (some ⟨w16.heap.size, 0, none⟩) := ⟨_, rfl⟩
        rw [← z1e] at z1ho ⊢
        clear z1e
        have LTz1 : Hid (∀ k, (z1A : Option Addr).map (·.block) = some k → w16.heap.size ≤ k ∧ k < w17.heap.size) := Lib.hid (fun k hk => z1ho.lt k hk)
        have B_17 := Lib.hid (B_16.out.trans (z1hb.mono B_16.out.size))
        have S_16 := Lib.hid z1hb.size
        have a0_17 := a0_16.next z1hb
        have h0_17 := h0_16.below z1hb
        have h1_17 := h1_16.below z1hb
        have T_17 := T_16.below z1hb
        have o_17 := o_16.below z1hb
        have x0x_17 := x0x_16.next z1hb
        have g_17 := g_16.below z1hb
        have z0_17 := z0_16.below z1hb
        clear a0_16 h0_16 h1_16 T_16 o_16 x0x_16 g_16 z0_16
        have z1_17 := z1ho
        have f64 := a0_17.c0
        have f65 := a0_17.c1
        have f66 := x0x_17.c0
        have f67 := x0x_17.c1
        go_wp2_with fail
        refine (himpl _ _ _ _ _ hn0 z0_17.rd hn1 z1_17.rd T_17).mono ?_
        rintro e w18 ⟨qA, qc, rfl, qho, qhb⟩
        clear f64 f65 f66 f67
        have LTq : Hid (∀ k, (qA : Option Addr).map (·.block) = some k → w17.heap.size ≤ k ∧ k < w18.heap.size) := Lib.hid (fun k hk => qho.lt k hk)
        have B_18 := Lib.hid (B_17.out.trans (qhb.mono B_17.out.size))
        have S_17 := Lib.hid qhb.size
        have a0_18 := a0_17.next qhb
        have h0_18 := h0_17.below qhb
        have h1_18 := h1_17.below qhb
        have T_18 := T_17.below qhb
        have o_18 := o_17.below qhb
        have x0x_18 := x0x_17.next qhb
        have g_18 := g_17.below qhb
        have z0_18 := z0_17.below qhb
        have z1_18 := z1_17.below qhb
        clear a0_17 h0_17 h1_17 T_17 o_17 x0x_17 g_17 z0_17 z1_17
        have q_18 := qho
        clear z0_18
        clear z1_18
        have f69 := a0_18.c0
        have f70 := a0_18.c1
        have f71 := x0x_18.c0
        have f72 := x0x_18.c1
        go_wp2_with fail
        refine (eq_true _ _ _ _ _ VX _ q_18.rd o_18.rd (by omega)).mono ?_
        rintro e w19 ⟨rfl, hb68⟩
        clear f69 f70 f71 f72
        have B_19 := Lib.hid (B_18.out.trans (hb68.mono B_18.out.size))
        have S_18 := Lib.hid hb68.size
        have a0_19 := a0_18.next hb68
        have h0_19 := h0_18.below hb68
        have h1_19 := h1_18.below hb68
        have T_19 := T_18.below hb68
        have o_19 := o_18.below hb68
        have x0x_19 := x0x_18.next hb68
        have g_19 := g_18.below hb68
        have q_19 := q_18.below hb68
        clear a0_18 h0_18 h1_18 T_18 o_18 x0x_18 g_18 q_18
        have f73 := a0_19.c0
        have f74 := a0_19.c1
        have f75 := x0x_19.c0
        have f76 := x0x_19.c1
        go_wp2_with fail
        refine (held_any _ _ _ 1 _ g_19.rd hVN (by omega)).mono ?_
        rintro e w' ⟨rfl, rfl⟩
        clear f73 f74 f75 f76
        have f77 := a0_19.c0
        have f78 := a0_19.c1
        have f79 := x0x_19.c0
        have f80 := x0x_19.c1
        go_wp2_with fail
        go_ret
        exact ⟨rfl, B_19.out⟩
    · go_enter Tryd.func10, Tryd.ntmps10
      go_wp2_with fail
      rw [← hw0]
      refine (szno_any L0 A0 n0 c0 _ (by omega) hm0).mono ?_
      rintro e w1 ⟨rfl, hz0⟩
      have B_1 := Lib.hid (B_0.out.trans (hz0.mono B_0.out.size))
      have S_0 := Lib.hid hz0.size
      have a0_1 := a0_0.next hz0
      have h0_1 := h0_0.below hz0
      have h1_1 := h1_0.below hz0
      have T_1 := T_0.below hz0
      clear a0_0 h0_0 h1_0 T_0
      go_wp2_with fail
      go_ret
      exact ⟨rfl, B_1.out⟩
  · go_enter Tryd.func10, Tryd.ntmps10
    go_wp2_with fail
    go_ret
    exact ⟨rfl, below1 _ _⟩
end Go.Proofs.YtdafdffmkjhhcaaDoor

/-
  The walk of FnExactCyclicReduction, over contracts of both sides.
-/
import Derived.Test.YtdafdffmkjhhcaaDoorGrCy
import Derived.Deep.CutRange
import Derived.Deep.RegionWith
namespace Go.Proofs.YtdafdffmkjhhcaaDoor
open Go.RowKit
set_option linter.unusedVariables false
set_option maxRecDepth 100000
set_option maxHeartbeats 3200000 in
theorem lawCyclicReduction (L0 : Int) (A0 : Option Addr) (n0 c0 : Nat) (xs0 : List Int) (A1 : Option Addr) (n1 c1 : Nat) (xs1 : List Int) (w : World) (hL01 : -9223372036854775808 ≤ L0) (hL02 : L0 ≤ 9223372036854775807) (h0 : Rd w A0 n0 xs0) (hwf0 : Wf xs0) (hl0 : n0 ≤ maxLen) (h1 : Rd w A1 n1 xs1) (hwf1 : Wf xs1) (hl1 : n1 ≤ maxLen) (hT : Tab w) (VN : Nat) (VX : List Int) (UN : Nat) (UX : List Int) (C : Int) (hVN : VN ≤ 1048576) (hUN : UN ≤ 1048576)
    (hspec : ∀ (B0 : Option Addr) (d0 : Nat) (B1 : Option Addr) (d1 : Nat) (w' : World), n0 ≤ 1048576 → Rd w' B0 n0 xs0 → n1 ≤ 1048576 → Rd w' B1 n1 xs1 → Calls Tryd.prog 36 #[.agg #[.int .i64 L0, .slice B0 n0 d0], .slice B1 n1 d1] w' (LiiPost w' VN VX UN UX C))
    (himpl : ∀ (B0 : Option Addr) (d0 : Nat) (B1 : Option Addr) (d1 : Nat) (w' : World), n0 ≤ 1048576 → Rd w' B0 n0 xs0 → n1 ≤ 1048576 → Rd w' B1 n1 xs1 → Tab w' → Calls Tryd.prog 37 #[.agg #[.int .i64 L0, .slice B0 n0 d0], .slice B1 n1 d1] w' (LiiPost w' VN VX UN UX C)) :
    Calls Tryd.prog 8 #[.agg #[.int .i64 L0, .slice A0 n0 c0], .slice A1 n1 c1] w fun e w' => e = .returned (.bool true) ∧ Below w.heap.size w w' := by
  unfold maxLen at hl0
  have hm0 : n0 ≤ 9223372036854775807 := by omega
  unfold maxLen at hl1
  have hm1 : n1 ≤ 9223372036854775807 := by omega
  obtain ⟨w0, hw0⟩ : ∃ w0 : World, w0 = (w.alloc (.cells #[.int .i64 L0, .slice A0 n0 c0] 24)) := ⟨_, rfl⟩
  have B_0 := Lib.hid (show Below w.heap.size w w0 by rw [hw0]; exact below1 w _)
  have S0_ : Hid (w0.heap.size = w.heap.size + 1) := Lib.hid (by rw [hw0]; simp)
  have a0_0 : Box 24 w0 (w.heap.size) L0 A0 n0 c0 := by rw [hw0]; have h9 := box_new 24 w L0 A0 n0 c0; have h8 : Box 24 (w.alloc (.cells #[.int .i64 L0, .slice A0 n0 c0] 24)) (w.heap.size) L0 A0 n0 c0 := (by simpa using h9); exact h8
  have h0_0 := h0.below B_0.out
  have h1_0 := h1.below B_0.out
  have T_0 := hT.below B_0.out
  by_cases hs1 : n1 ≤ 1048576
  · by_cases hs0 : n0 ≤ 1048576
    · have hn0 : n0 ≤ 1048576 := by omega
      have hn1 : n1 ≤ 1048576 := by omega
      go_enter Tryd.func8, Tryd.ntmps8
      go_wp2_with fail
      rw [← hw0]
      refine (sz_law L0 A0 n0 c0 _ hs0).mono ?_
      rintro e w1 ⟨rfl, hz0⟩
      have B_1 := Lib.hid (B_0.out.trans (hz0.mono B_0.out.size))
      have S_0 := Lib.hid hz0.size
      have a0_1 := a0_0.next hz0
      have h0_1 := h0_0.below hz0
      have h1_1 := h1_0.below hz0
      have T_1 := T_0.below hz0
      clear a0_0 h0_0 h1_0 T_0
      have f1 := a0_1.c0
      have f2 := a0_1.c1
      go_wp2_with fail
      refine (toAl_any L0 _ n0 _ xs0 _ h0_1 hn0).mono ?_
      rintro e w2 ⟨s0g, s0c, rfl, s0hg, s0ho, s0hb⟩
      clear f1 f2
      obtain ⟨s0A, s0e⟩ : ∃ s0A : Option Addr, s0A = (some ⟨s0g, 0, none⟩) := ⟨_, rfl⟩
      rw [← s0e] at s0ho ⊢
      clear s0e
      have LTs0 : Hid (∀ k, (s0A : Option Addr).map (·.block) = some k → w1.heap.size ≤ k ∧ k < w2.heap.size) := Lib.hid (fun k hk => s0ho.lt k hk)
      have B_2 := Lib.hid (B_1.out.trans (s0hb.mono B_1.out.size))
      have S_1 := Lib.hid s0hb.size
      have a0_2 := a0_1.next s0hb
      have h0_2 := h0_1.below s0hb
      have h1_2 := h1_1.below s0hb
      have T_2 := T_1.below s0hb
      clear a0_1 h0_1 h1_1 T_1
      have s0_2 := s0ho
      have f3 := a0_2.c0
      have f4 := a0_2.c1
      go_wp2_with fail
      refine (toInt_any _ _ _ xs1 _ h1_2 hn1).mono ?_
      rintro e w3 ⟨s1c, rfl, s1ho, s1hb⟩
      clear f3 f4
      obtain ⟨s1A, s1e⟩ : ∃ s1A : Option Addr, s1A = (some ⟨w2.heap.size, 0, none⟩) := ⟨_, rfl⟩
      rw [← s1e] at s1ho ⊢
      clear s1e
      have LTs1 : Hid (∀ k, (s1A : Option Addr).map (·.block) = some k → w2.heap.size ≤ k ∧ k < w3.heap.size) := Lib.hid (fun k hk => s1ho.lt k hk)
      have B_3 := Lib.hid (B_2.out.trans (s1hb.mono B_2.out.size))
      have S_2 := Lib.hid s1hb.size
      have a0_3 := a0_2.next s1hb
      have h0_3 := h0_2.below s1hb
      have h1_3 := h1_2.below s1hb
      have T_3 := T_2.below s1hb
      have s0_3 := s0_2.below s1hb
      clear a0_2 h0_2 h1_2 T_2 s0_2
      have s1_3 := s1ho
      have f5 := a0_3.c0
      have f6 := a0_3.c1
      go_wp2_with fail
      refine (hspec _ _ _ _ _ hn0 s0_3.rd hn1 s1_3.rd).mono ?_
      rintro e w4 ⟨oA, oc, o2A, o2c, rfl, oho, o2ho, oap, ohb⟩
      clear f5 f6
      have LTo : Hid (∀ k, (oA : Option Addr).map (·.block) = some k → w3.heap.size ≤ k ∧ k < w4.heap.size) := Lib.hid (fun k hk => oho.lt k hk)
      have LTo2 : Hid (∀ k, (o2A : Option Addr).map (·.block) = some k → w3.heap.size ≤ k ∧ k < w4.heap.size) := Lib.hid (fun k hk => o2ho.lt k hk)
      have APo := Lib.hid oap
      clear oap
      have B_4 := Lib.hid (B_3.out.trans (ohb.mono B_3.out.size))
      have S_3 := Lib.hid ohb.size
      have a0_4 := a0_3.next ohb
      have h0_4 := h0_3.below ohb
      have h1_4 := h1_3.below ohb
      have T_4 := T_3.below ohb
      have s0_4 := s0_3.below ohb
      have s1_4 := s1_3.below ohb
      clear a0_3 h0_3 h1_3 T_3 s0_3 s1_3
      have o_4 := oho
      have o2_4 := o2ho
      clear s0_4
      clear s1_4
      have f7 := a0_4.c0
      have f8 := a0_4.c1
      go_wp2_with fail
      refine (toAl_any L0 _ n0 _ xs0 _ h0_4 hn0).mono ?_
      rintro e w5 ⟨x0g, x0c, rfl, x0hg, x0ho, x0hb⟩
      clear f7 f8
      obtain ⟨x0A, x0e⟩ : ∃ x0A : Option Addr, x0A = (some ⟨x0g, 0, none⟩) := ⟨_, rfl⟩
      rw [← x0e] at x0ho ⊢
      clear x0e
      have LTx0 : Hid (∀ k, (x0A : Option Addr).map (·.block) = some k → w4.heap.size ≤ k ∧ k < w5.heap.size) := Lib.hid (fun k hk => x0ho.lt k hk)
      have B_5 := Lib.hid (B_4.out.trans (x0hb.mono B_4.out.size))
      have S_4 := Lib.hid x0hb.size
      have a0_5 := a0_4.next x0hb
      have h0_5 := h0_4.below x0hb
      have h1_5 := h1_4.below x0hb
      have T_5 := T_4.below x0hb
      have o_5 := o_4.below x0hb
      have o2_5 := o2_4.below x0hb
      clear a0_4 h0_4 h1_4 T_4 o_4 o2_4
      have x0_5 := x0ho
      have kp_5 := below1 w5 (.cells #[.int .i64 L0, .slice x0A n0 x0c] 29)
      have f9 := a0_5.c0
      have f10 := a0_5.c1
      have f11 := (a0_5.next kp_5).c0
      have f12 := (a0_5.next kp_5).c1
      go_wp2_with fail
      refine (toInt_any _ _ _ xs1 _ (h1_5.below kp_5) hn1).mono ?_
      rintro e w6 ⟨x1c, rfl, x1ho, x1hb⟩
      clear f9 f10 f11 f12
      obtain ⟨x1A, x1e⟩ : ∃ x1A : Option Addr, x1A = (some ⟨(w5.alloc (.cells #[.int .i64 L0, .slice x0A n0 x0c] 29)).heap.size, 0, none⟩) := ⟨_, rfl⟩
      rw [← x1e] at x1ho ⊢
      clear x1e
      have LTx1 : Hid (∀ k, (x1A : Option Addr).map (·.block) = some k → w5.heap.size + 1 ≤ k ∧ k < w6.heap.size) := Lib.hid (fun k hk => by have h9 := x1ho.lt k hk; have e9 : (w5.alloc (.cells #[.int .i64 L0, .slice x0A n0 x0c] 29)).heap.size = w5.heap.size + 1 := (by simp); omega)
      have hbb_5 := kp_5.trans (x1hb.mono kp_5.size)
      have B_6 := Lib.hid (B_5.out.trans (hbb_5.mono B_5.out.size))
      have S_5 : Hid (w5.heap.size + 1 ≤ w6.heap.size) := Lib.hid (by have h9 := x1hb.size; have e9 : (w5.alloc (.cells #[.int .i64 L0, .slice x0A n0 x0c] 29)).heap.size = w5.heap.size + 1 := (by simp); omega)
      have a0_6 := a0_5.next hbb_5
      have h0_6 := h0_5.below hbb_5
      have h1_6 := h1_5.below hbb_5
      have T_6 := T_5.below hbb_5
      have o_6 := o_5.below hbb_5
      have o2_6 := o2_5.below hbb_5
      have x0_6 := x0_5.below hbb_5
      have x0x_6 := (box_new 29 w5 L0 x0A n0 x0c).next x1hb
      clear a0_5 h0_5 h1_5 T_5 o_5 o2_5 x0_5
      have x1_6 := x1ho.mono kp_5.size
      have f13 := a0_6.c0
      have f14 := a0_6.c1
      have f15 := x0x_6.c0
      have f16 := x0x_6.c1
      go_wp2_with fail
      refine (himpl _ _ _ _ _ hn0 x0_6.rd hn1 x1_6.rd T_6).mono ?_
      rintro e w7 ⟨gA, gc, g2A, g2c, rfl, gho, g2ho, gap, ghb⟩
      clear f13 f14 f15 f16
      have LTg : Hid (∀ k, (gA : Option Addr).map (·.block) = some k → w6.heap.size ≤ k ∧ k < w7.heap.size) := Lib.hid (fun k hk => gho.lt k hk)
      have LTg2 : Hid (∀ k, (g2A : Option Addr).map (·.block) = some k → w6.heap.size ≤ k ∧ k < w7.heap.size) := Lib.hid (fun k hk => g2ho.lt k hk)
      have APg := Lib.hid gap
      clear gap
      have B_7 := Lib.hid (B_6.out.trans (ghb.mono B_6.out.size))
      have S_6 := Lib.hid ghb.size
      have a0_7 := a0_6.next ghb
      have h0_7 := h0_6.below ghb
      have h1_7 := h1_6.below ghb
      have T_7 := T_6.below ghb
      have o_7 := o_6.below ghb
      have o2_7 := o2_6.below ghb
      have x0_7 := x0_6.below ghb
      have x0x_7 := x0x_6.next ghb
      have x1_7 := x1_6.below ghb
      clear a0_6 h0_6 h1_6 T_6 o_6 o2_6 x0_6 x0x_6 x1_6
      have g_7 := gho
      have g2_7 := g2ho
      have f18 := a0_7.c0
      have f19 := a0_7.c1
      have f20 := x0x_7.c0
      have f21 := x0x_7.c1
      go_wp2_with fail
      refine (eq_true _ _ _ _ _ VX _ g_7.rd o_7.rd (by omega)).mono ?_
      rintro e w8 ⟨rfl, hb17⟩
      clear f18 f19 f20 f21
      have B_8 := Lib.hid (B_7.out.trans (hb17.mono B_7.out.size))
      have S_7 := Lib.hid hb17.size
      have a0_8 := a0_7.next hb17
      have h0_8 := h0_7.below hb17
      have h1_8 := h1_7.below hb17
      have T_8 := T_7.below hb17
      have o_8 := o_7.below hb17
      have o2_8 := o2_7.below hb17
      have x0_8 := x0_7.below hb17
      have x0x_8 := x0x_7.next hb17
      have x1_8 := x1_7.below hb17
      have g_8 := g_7.below hb17
      have g2_8 := g2_7.below hb17
      clear a0_7 h0_7 h1_7 T_7 o_7 o2_7 x0_7 x0x_7 x1_7 g_7 g2_7
      have f23 := a0_8.c0
      have f24 := a0_8.c1
      have f25 := x0x_8.c0
      have f26 := x0x_8.c1
      go_wp2_with fail
      refine (eq_true _ _ _ _ _ UX _ g2_8.rd o2_8.rd (by omega)).mono ?_
      rintro e w9 ⟨rfl, hb22⟩
      clear f23 f24 f25 f26
      have B_9 := Lib.hid (B_8.out.trans (hb22.mono B_8.out.size))
      have S_8 := Lib.hid hb22.size
      have a0_9 := a0_8.next hb22
      have h0_9 := h0_8.below hb22
      have h1_9 := h1_8.below hb22
      have T_9 := T_8.below hb22
      have o_9 := o_8.below hb22
      have o2_9 := o2_8.below hb22
      have x0_9 := x0_8.below hb22
      have x0x_9 := x0x_8.next hb22
      have x1_9 := x1_8.below hb22
      have g_9 := g_8.below hb22
      have g2_9 := g2_8.below hb22
      clear a0_8 h0_8 h1_8 T_8 o_8 o2_8 x0_8 x0x_8 x1_8 g_8 g2_8
      have f27 := a0_9.c0
      have f28 := a0_9.c1
      have f29 := x0x_9.c0
      have f30 := x0x_9.c1
      go_upto_region 13 with fail
      go_cut [67] from 63 to 67 (fun v wx => v = .bool false ∧ Below w9.heap.size w9 wx)
      case first =>
        have Z0 : ∀ (ww : World), Below w9.heap.size w9 ww → Calls Tryd.prog 16 #[.agg #[.int .i64 L0, .slice A0 n0 c0]] ww fun e w' => ∃ g c', e = .returned (.agg #[.int .i64 L0, .slice (some ⟨g, 0, none⟩) n0 c']) ∧ Own 2 w' ww.heap.size (some ⟨g, 0, none⟩) n0 c' xs0 ∧ Below ww.heap.size ww w' := fun ww hww => (toAl_any L0 _ n0 _ xs0 _ (h0_9.below hww) hn0).mono fun e w' ⟨g, c', he, _, ho, hb⟩ => ⟨g, c', he, ho, hb⟩
        have hdr : Below w9.heap.size w9 w9.drew := (Below.refl _ _).drew
        have rc0 := (x0x_9.next hdr).c0
        have tc0 := (a0_9.next hdr).c0
        have rc1 := (x0x_9.next hdr).c1
        have tc1 := (a0_9.next hdr).c1
        go_region_with (first | (go_at_call 16; refine (Z0 _ hdr).mono ?_; rintro e wz ⟨gz, cz, rfl, hoz, hbz⟩; have hbz2 := hdr.trans (hbz.mono hdr.size); have q0 := (x0x_9.next hbz2).c0; have q1 := (x0x_9.next hbz2).c1) | (go_at_call 19; refine (eqAl_true L0 _ _ _ _ _ xs0 _ (x0_9.below hbz2).rd hoz.rd hm0).mono ?_; rintro e wy ⟨rfl, hby⟩; have hby2 := hbz2.trans (hby.mono hbz2.size)))
        all_goals (go_wp2_with fail; go_meet; exact ⟨rfl, hby2⟩)
      case rest =>
        obtain ⟨rfl, hcb⟩ := hcut
        obtain ⟨w10, rfl⟩ : ∃ w9 : World, w9 = wc := ⟨_, rfl⟩
        clear f27 f28 f29 f30
        have B_10 := Lib.hid (B_9.out.trans (hcb.mono B_9.out.size))
        have S_9 := Lib.hid hcb.size
        have a0_10 := a0_9.next hcb
        have h0_10 := h0_9.below hcb
        have h1_10 := h1_9.below hcb
        have T_10 := T_9.below hcb
        have o_10 := o_9.below hcb
        have o2_10 := o2_9.below hcb
        have x0_10 := x0_9.below hcb
        have x0x_10 := x0x_9.next hcb
        have x1_10 := x1_9.below hcb
        have g_10 := g_9.below hcb
        have g2_10 := g2_9.below hcb
        clear a0_9 h0_9 h1_9 T_9 o_9 o2_9 x0_9 x0x_9 x1_9 g_9 g2_9
        have f31 := a0_10.c0
        have f32 := a0_10.c1
        have f33 := x0x_10.c0
        have f34 := x0x_10.c1
        go_wp2_with fail
        refine (toInt_any _ _ _ xs1 _ h1_10 hn1).mono ?_
        rintro e w11 ⟨y1c, rfl, y1ho, y1hb⟩
        clear f31 f32 f33 f34
        obtain ⟨y1A, y1e⟩ : ∃ y1A : Option Addr, y1A = (some ⟨w10.heap.size, 0, none⟩) := ⟨_, rfl⟩
        rw [← y1e] at y1ho ⊢
        clear y1e
        have LTy1 : Hid (∀ k, (y1A : Option Addr).map (·.block) = some k → w10.heap.size ≤ k ∧ k < w11.heap.size) := Lib.hid (fun k hk => y1ho.lt k hk)
        have B_11 := Lib.hid (B_10.out.trans (y1hb.mono B_10.out.size))
        have S_10 := Lib.hid y1hb.size
        have a0_11 := a0_10.next y1hb
        have h0_11 := h0_10.below y1hb
        have h1_11 := h1_10.below y1hb
        have T_11 := T_10.below y1hb
        have o_11 := o_10.below y1hb
        have o2_11 := o2_10.below y1hb
        have x0_11 := x0_10.below y1hb
        have x0x_11 := x0x_10.next y1hb
        have x1_11 := x1_10.below y1hb
        have g_11 := g_10.below y1hb
        have g2_11 := g2_10.below y1hb
        clear a0_10 h0_10 h1_10 T_10 o_10 o2_10 x0_10 x0x_10 x1_10 g_10 g2_10
        have y1_11 := y1ho
        have f36 := a0_11.c0
        have f37 := a0_11.c1
        have f38 := x0x_11.c0
        have f39 := x0x_11.c1
        go_wp2_with fail
        refine (eq_true _ _ _ _ _ xs1 _ x1_11.rd y1_11.rd (by omega)).mono ?_
        rintro e w12 ⟨rfl, hb35⟩
        clear f36 f37 f38 f39
        have B_12 := Lib.hid (B_11.out.trans (hb35.mono B_11.out.size))
        have S_11 := Lib.hid hb35.size
        have a0_12 := a0_11.next hb35
        have h0_12 := h0_11.below hb35
        have h1_12 := h1_11.below hb35
        have T_12 := T_11.below hb35
        have o_12 := o_11.below hb35
        have o2_12 := o2_11.below hb35
        have x0_12 := x0_11.below hb35
        have x0x_12 := x0x_11.next hb35
        have x1_12 := x1_11.below hb35
        have g_12 := g_11.below hb35
        have g2_12 := g2_11.below hb35
        have y1_12 := y1_11.below hb35
        clear a0_11 h0_11 h1_11 T_11 o_11 o2_11 x0_11 x0x_11 x1_11 g_11 g2_11 y1_11
        clear y1_12
        have f40 := a0_12.c0
        have f41 := a0_12.c1
        have f42 := x0x_12.c0
        have f43 := x0x_12.c1
        go_wp2_with fail
        refine (markAl_any _ _ L0 _ _ _ (1) _ _ x0_12 hn0 (by omega)).mono ?_
        rintro e w13 ⟨rfl, mx0, mg0⟩
        clear f40 f41 f42 f43
        have S_12 := Lib.hid mg0.size
        have B_13 := Lib.hid (B_12.out.grown mg0 B_12.out.size (fun k hk => by have := (LTx0.out k hk).1; have := S_0.out; have := S_1.out; have := S_2.out; have := S_3.out; have := S_4.out; have := S_5.out; have := S_6.out; have := S_7.out; have := S_8.out; have := S_9.out; have := S_10.out; have := S_11.out; have := S0_.out; omega))
        have a0_13 := a0_12.apart mg0 (fun e => by have := LTx0.out _ e; have := S_0.out; have := S_1.out; have := S_2.out; have := S_3.out; have := S_4.out; have := S_5.out; have := S_6.out; have := S_7.out; have := S_8.out; have := S_9.out; have := S_10.out; have := S_11.out; have := S0_.out; omega)
        have h0_13 := h0.below B_13.out
        have h1_13 := h1.below B_13.out
        have T_13 := hT.below B_13.out
        have o_13 := o_12.apart mg0 (fun k hk e => by have := LTo.out k hk; have := LTx0.out k e; have := S_0.out; have := S_1.out; have := S_2.out; have := S_3.out; have := S_4.out; have := S_5.out; have := S_6.out; have := S_7.out; have := S_8.out; have := S_9.out; have := S_10.out; have := S_11.out; omega)
        have o2_13 := o2_12.apart mg0 (fun k hk e => by have := LTo2.out k hk; have := LTx0.out k e; have := S_0.out; have := S_1.out; have := S_2.out; have := S_3.out; have := S_4.out; have := S_5.out; have := S_6.out; have := S_7.out; have := S_8.out; have := S_9.out; have := S_10.out; have := S_11.out; omega)
        have x0x_13 := x0x_12.apart mg0 (fun e => by have := LTx0.out _ e; have := S_0.out; have := S_1.out; have := S_2.out; have := S_3.out; have := S_4.out; have := S_5.out; have := S_6.out; have := S_7.out; have := S_8.out; have := S_9.out; have := S_10.out; have := S_11.out; have := S0_.out; omega)
        have x1_13 := x1_12.apart mg0 (fun k hk e => by have := LTx1.out k hk; have := LTx0.out k e; have := S_0.out; have := S_1.out; have := S_2.out; have := S_3.out; have := S_4.out; have := S_5.out; have := S_6.out; have := S_7.out; have := S_8.out; have := S_9.out; have := S_10.out; have := S_11.out; omega)
        have g_13 := g_12.apart mg0 (fun k hk e => by have := LTg.out k hk; have := LTx0.out k e; have := S_0.out; have := S_1.out; have := S_2.out; have := S_3.out; have := S_4.out; have := S_5.out; have := S_6.out; have := S_7.out; have := S_8.out; have := S_9.out; have := S_10.out; have := S_11.out; omega)
        have g2_13 := g2_12.apart mg0 (fun k hk e => by have := LTg2.out k hk; have := LTx0.out k e; have := S_0.out; have := S_1.out; have := S_2.out; have := S_3.out; have := S_4.out; have := S_5.out; have := S_6.out; have := S_7.out; have := S_8.out; have := S_9.out; have := S_10.out; have := S_11.out; omega)
        clear a0_12 h0_12 h1_12 T_12 o_12 o2_12 x0x_12 x1_12 g_12 g2_12
        have x0_13 := mx0
        have f44 := a0_13.c0
        have f45 := a0_13.c1
        have f46 := x0x_13.c0
        have f47 := x0x_13.c1
        go_wp2_with fail
        refine (mark_any _ _ _ _ _ (1 + n0) _ _ x1_13 hn1 (by omega)).mono ?_
        rintro e w14 ⟨rfl, mx1, mg1⟩
        clear f44 f45 f46 f47
        have S_13 := Lib.hid mg1.size
        have B_14 := Lib.hid (B_13.out.grown mg1 B_13.out.size (fun k hk => by have := (LTx1.out k hk).1; have := S_0.out; have := S_1.out; have := S_2.out; have := S_3.out; have := S_4.out; have := S_5.out; have := S_6.out; have := S_7.out; have := S_8.out; have := S_9.out; have := S_10.out; have := S_11.out; have := S_12.out; have := S0_.out; omega))
        have a0_14 := a0_13.apart mg1 (fun e => by have := LTx1.out _ e; have := S_0.out; have := S_1.out; have := S_2.out; have := S_3.out; have := S_4.out; have := S_5.out; have := S_6.out; have := S_7.out; have := S_8.out; have := S_9.out; have := S_10.out; have := S_11.out; have := S_12.out; have := S0_.out; omega)
        have h0_14 := h0.below B_14.out
        have h1_14 := h1.below B_14.out
        have T_14 := hT.below B_14.out
        have o_14 := o_13.apart mg1 (fun k hk e => by have := LTo.out k hk; have := LTx1.out k e; have := S_0.out; have := S_1.out; have := S_2.out; have := S_3.out; have := S_4.out; have := S_5.out; have := S_6.out; have := S_7.out; have := S_8.out; have := S_9.out; have := S_10.out; have := S_11.out; have := S_12.out; omega)
        have o2_14 := o2_13.apart mg1 (fun k hk e => by have := LTo2.out k hk; have := LTx1.out k e; have := S_0.out; have := S_1.out; have := S_2.out; have := S_3.out; have := S_4.out; have := S_5.out; have := S_6.out; have := S_7.out; have := S_8.out; have := S_9.out; have := S_10.out; have := S_11.out; have := S_12.out; omega)
        have x0_14 := x0_13.apart mg1 (fun k hk e => by have := LTx0.out k hk; have := LTx1.out k e; have := S_0.out; have := S_1.out; have := S_2.out; have := S_3.out; have := S_4.out; have := S_5.out; have := S_6.out; have := S_7.out; have := S_8.out; have := S_9.out; have := S_10.out; have := S_11.out; have := S_12.out; omega)
        have x0x_14 := x0x_13.apart mg1 (fun e => by have := LTx1.out _ e; have := S_0.out; have := S_1.out; have := S_2.out; have := S_3.out; have := S_4.out; have := S_5.out; have := S_6.out; have := S_7.out; have := S_8.out; have := S_9.out; have := S_10.out; have := S_11.out; have := S_12.out; have := S0_.out; omega)
        have g_14 := g_13.apart mg1 (fun k hk e => by have := LTg.out k hk; have := LTx1.out k e; have := S_0.out; have := S_1.out; have := S_2.out; have := S_3.out; have := S_4.out; have := S_5.out; have := S_6.out; have := S_7.out; have := S_8.out; have := S_9.out; have := S_10.out; have := S_11.out; have := S_12.out; omega)
        have g2_14 := g2_13.apart mg1 (fun k hk e => by have := LTg2.out k hk; have := LTx1.out k e; have := S_0.out; have := S_1.out; have := S_2.out; have := S_3.out; have := S_4.out; have := S_5.out; have := S_6.out; have := S_7.out; have := S_8.out; have := S_9.out; have := S_10.out; have := S_11.out; have := S_12.out; omega)
        clear a0_13 h0_13 h1_13 T_13 o_13 o2_13 x0_13 x0x_13 g_13 g2_13
        have x1_14 := mx1
        clear x0_14
        clear x1_14
        have f49 := a0_14.c0
        have f50 := a0_14.c1
        have f51 := x0x_14.c0
        have f52 := x0x_14.c1
        go_wp2_with fail
        refine (eq_true _ _ _ _ _ VX _ g_14.rd o_14.rd (by omega)).mono ?_
        rintro e w15 ⟨rfl, hb48⟩
        clear f49 f50 f51 f52
        have B_15 := Lib.hid (B_14.out.trans (hb48.mono B_14.out.size))
        have S_14 := Lib.hid hb48.size
        have a0_15 := a0_14.next hb48
        have h0_15 := h0_14.below hb48
        have h1_15 := h1_14.below hb48
        have T_15 := T_14.below hb48
        have o_15 := o_14.below hb48
        have o2_15 := o2_14.below hb48
        have x0x_15 := x0x_14.next hb48
        have g_15 := g_14.below hb48
        have g2_15 := g2_14.below hb48
        clear a0_14 h0_14 h1_14 T_14 o_14 o2_14 x0x_14 g_14 g2_14
        have f54 := a0_15.c0
        have f55 := a0_15.c1
        have f56 := x0x_15.c0
        have f57 := x0x_15.c1
        go_wp2_with fail
        refine (eq_true _ _ _ _ _ UX _ g2_15.rd o2_15.rd (by omega)).mono ?_
        rintro e w16 ⟨rfl, hb53⟩
        clear f54 f55 f56 f57
        have B_16 := Lib.hid (B_15.out.trans (hb53.mono B_15.out.size))
        have S_15 := Lib.hid hb53.size
        have a0_16 := a0_15.next hb53
        have h0_16 := h0_15.below hb53
        have h1_16 := h1_15.below hb53
        have T_16 := T_15.below hb53
        have o_16 := o_15.below hb53
        have o2_16 := o2_15.below hb53
        have x0x_16 := x0x_15.next hb53
        have g_16 := g_15.below hb53
        have g2_16 := g2_15.below hb53
        clear a0_15 h0_15 h1_15 T_15 o_15 o2_15 x0x_15 g_15 g2_15
        have f58 := a0_16.c0
        have f59 := a0_16.c1
        have f60 := x0x_16.c0
        have f61 := x0x_16.c1
        go_wp2_with fail
        refine (mark_any _ _ _ _ _ 1 _ _ g_16 hVN (by omega)).mono ?_
        rintro e w17 ⟨rfl, mxg, mgg⟩
        clear f58 f59 f60 f61
        have S_16 := Lib.hid mgg.size
        have B_17 := Lib.hid (B_16.out.grown mgg B_16.out.size (fun k hk => by have := (LTg.out k hk).1; have := S_0.out; have := S_1.out; have := S_2.out; have := S_3.out; have := S_4.out; have := S_5.out; have := S_6.out; have := S_7.out; have := S_8.out; have := S_9.out; have := S_10.out; have := S_11.out; have := S_12.out; have := S_13.out; have := S_14.out; have := S_15.out; have := S0_.out; omega))
        have a0_17 := a0_16.apart mgg (fun e => by have := LTg.out _ e; have := S_0.out; have := S_1.out; have := S_2.out; have := S_3.out; have := S_4.out; have := S_5.out; have := S_6.out; have := S_7.out; have := S_8.out; have := S_9.out; have := S_10.out; have := S_11.out; have := S_12.out; have := S_13.out; have := S_14.out; have := S_15.out; have := S0_.out; omega)
        have h0_17 := h0.below B_17.out
        have h1_17 := h1.below B_17.out
        have T_17 := hT.below B_17.out
        have o_17 := o_16.apart mgg (fun k hk e => by have := LTo.out k hk; have := LTg.out k e; have := S_0.out; have := S_1.out; have := S_2.out; have := S_3.out; have := S_4.out; have := S_5.out; have := S_6.out; have := S_7.out; have := S_8.out; have := S_9.out; have := S_10.out; have := S_11.out; have := S_12.out; have := S_13.out; have := S_14.out; have := S_15.out; omega)
        have o2_17 := o2_16.apart mgg (fun k hk e => by have := LTo2.out k hk; have := LTg.out k e; have := S_0.out; have := S_1.out; have := S_2.out; have := S_3.out; have := S_4.out; have := S_5.out; have := S_6.out; have := S_7.out; have := S_8.out; have := S_9.out; have := S_10.out; have := S_11.out; have := S_12.out; have := S_13.out; have := S_14.out; have := S_15.out; omega)
        have x0x_17 := x0x_16.apart mgg (fun e => by have := LTg.out _ e; have := S_0.out; have := S_1.out; have := S_2.out; have := S_3.out; have := S_4.out; have := S_5.out; have := S_6.out; have := S_7.out; have := S_8.out; have := S_9.out; have := S_10.out; have := S_11.out; have := S_12.out; have := S_13.out; have := S_14.out; have := S_15.out; have := S0_.out; omega)
        have g2_17 := g2_16.apart mgg (fun k hk e => APg.out k e hk)
        clear a0_16 h0_16 h1_16 T_16 o_16 o2_16 x0x_16 g2_16
        clear g_16
        have g_17 := mxg
        have f62 := a0_17.c0
        have f63 := a0_17.c1
        have f64 := x0x_17.c0
        have f65 := x0x_17.c1
        go_wp2_with fail
        refine (mark_any _ _ _ _ _ (1 + VN) _ _ g2_17 hUN (by omega)).mono ?_
        rintro e w18 ⟨rfl, mxg2, mgg2⟩
        clear f62 f63 f64 f65
        have S_17 := Lib.hid mgg2.size
        have B_18 := Lib.hid (B_17.out.grown mgg2 B_17.out.size (fun k hk => by have := (LTg2.out k hk).1; have := S_0.out; have := S_1.out; have := S_2.out; have := S_3.out; have := S_4.out; have := S_5.out; have := S_6.out; have := S_7.out; have := S_8.out; have := S_9.out; have := S_10.out; have := S_11.out; have := S_12.out; have := S_13.out; have := S_14.out; have := S_15.out; have := S_16.out; have := S0_.out; omega))
        have a0_18 := a0_17.apart mgg2 (fun e => by have := LTg2.out _ e; have := S_0.out; have := S_1.out; have := S_2.out; have := S_3.out; have := S_4.out; have := S_5.out; have := S_6.out; have := S_7.out; have := S_8.out; have := S_9.out; have := S_10.out; have := S_11.out; have := S_12.out; have := S_13.out; have := S_14.out; have := S_15.out; have := S_16.out; have := S0_.out; omega)
        have h0_18 := h0.below B_18.out
        have h1_18 := h1.below B_18.out
        have T_18 := hT.below B_18.out
        have o_18 := o_17.apart mgg2 (fun k hk e => by have := LTo.out k hk; have := LTg2.out k e; have := S_0.out; have := S_1.out; have := S_2.out; have := S_3.out; have := S_4.out; have := S_5.out; have := S_6.out; have := S_7.out; have := S_8.out; have := S_9.out; have := S_10.out; have := S_11.out; have := S_12.out; have := S_13.out; have := S_14.out; have := S_15.out; have := S_16.out; omega)
        have o2_18 := o2_17.apart mgg2 (fun k hk e => by have := LTo2.out k hk; have := LTg2.out k e; have := S_0.out; have := S_1.out; have := S_2.out; have := S_3.out; have := S_4.out; have := S_5.out; have := S_6.out; have := S_7.out; have := S_8.out; have := S_9.out; have := S_10.out; have := S_11.out; have := S_12.out; have := S_13.out; have := S_14.out; have := S_15.out; have := S_16.out; omega)
        have x0x_18 := x0x_17.apart mgg2 (fun e => by have := LTg2.out _ e; have := S_0.out; have := S_1.out; have := S_2.out; have := S_3.out; have := S_4.out; have := S_5.out; have := S_6.out; have := S_7.out; have := S_8.out; have := S_9.out; have := S_10.out; have := S_11.out; have := S_12.out; have := S_13.out; have := S_14.out; have := S_15.out; have := S_16.out; have := S0_.out; omega)
        have g_18 := g_17.apart mgg2 (fun k hk e => APg.out k hk e)
        clear a0_17 h0_17 h1_17 T_17 o_17 o2_17 x0x_17 g_17
        clear g2_17
        have g2_18 := mxg2
        have f66 := a0_18.c0
        have f67 := a0_18.c1
        have f68 := x0x_18.c0
        have f69 := x0x_18.c1
        go_wp2_with fail
        refine (held_any _ _ _ 1 _ g_18.rd hVN (by omega)).mono ?_
        rintro e w' ⟨rfl, rfl⟩
        clear f66 f67 f68 f69
        have f70 := a0_18.c0
        have f71 := a0_18.c1
        have f72 := x0x_18.c0
        have f73 := x0x_18.c1
        go_wp2_with fail
        refine (held_any _ _ _ (1 + VN) _ g2_18.rd hUN (by omega)).mono ?_
        rintro e w' ⟨rfl, rfl⟩
        clear f70 f71 f72 f73
        have f74 := a0_18.c0
        have f75 := a0_18.c1
        have f76 := x0x_18.c0
        have f77 := x0x_18.c1
        go_wp2_with fail
        refine (toAl_any L0 _ n0 _ xs0 _ h0_18 hn0).mono ?_
        rintro e w19 ⟨z0g, z0c, rfl, z0hg, z0ho, z0hb⟩
        clear f74 f75 f76 f77
        obtain ⟨z0A, z0e⟩ : ∃ z0A : Option Addr, z0A = (some ⟨z0g, 0, none⟩) := ⟨_, rfl⟩
        rw [← z0e] at z0ho ⊢
        clear z0e
        have LTz0 : Hid (∀ k, (z0A : Option Addr).map (·.block) = some k → w18.heap.size ≤ k ∧ k < w19.heap.size) := Lib.hid (fun k hk => z0ho.lt k hk)
        have B_19 := Lib.hid (B_18.out.trans (z0hb.mono B_18.out.size))
        have S_18 := Lib.hid z0hb.size
        have a0_19 := a0_18.next z0hb
        have h0_19 := h0_18.below z0hb
        have h1_19 := h1_18.below z0hb
        have T_19 := T_18.below z0hb
        have o_19 := o_18.below z0hb
        have o2_19 := o2_18.below z0hb
        have x0x_19 := x0x_18.next z0hb
        have g_19 := g_18.below z0hb
        have g2_19 := g2_18.below z0hb
        clear a0_18 h0_18 h1_18 T_18 o_18 o2_18 x0x_18 g_18 g2_18
        have z0_19 := z0ho
        have f78 := a0_19.c0
        have f79 := a0_19.c1
        have f80 := x0x_19.c0
        have f81 := x0x_19.c1
        go_wp2_with fail
        refine (toInt_any _ _ _ xs1 _ h1_19 hn1).mono ?_
        rintro e w20 ⟨z1c, rfl, z1ho, z1hb⟩
        clear f78 f79 f80 f81
        obtain ⟨z1A, z1e⟩ : ∃ z1A : Option Addr, z1A = (some ⟨w19.heap.size, 0, none⟩) := ⟨_, rfl⟩
        rw [← z1e] at z1ho ⊢
        clear z1e
        have LTz1 : Hid (∀ k, (z1A : Option Addr).map (·.block) = some k → w19.heap.size ≤ k ∧ k < w20.heap.size) := Lib.hid (fun k hk => z1ho.lt k hk)
        have B_20 := Lib.hid (B_19.out.trans (z1hb.mono B_19.out.size))
        have S_19 := Lib.hid z1hb.size
        have a0_20 := a0_19.next z1hb
        have h0_20 := h0_19.below z1hb
        have h1_20 := h1_19.below z1hb
        have T_20 := T_19.below z1hb
        have o_20 := o_19.below z1hb
        have o2_20 := o2_19.below z1hb
        have x0x_20 := x0x_19.next z1hb
        have g_20 := g_19.below z1hb
        have g2_20 := g2_19.below z1hb
        have z0_20 := z0_19.below z1hb
        clear a0_19 h0_19 h1_19 T_19 o_19 o2_19 x0x_19 g_19 g2_19 z0_19
        have z1_20 := z1ho
        have f82 := a0_20.c0
        have f83 := a0_20.c1
        have f84 := x0x_20.c0
        have f85 := x0x_20.c1
        go_wp2_with fail
        refine (himpl _ _ _ _ _ hn0 z0_20.rd hn1 z1_20.rd T_20).mono ?_
        rintro e w21 ⟨qA, qc, q2A, q2c, rfl, qho, q2ho, qap, qhb⟩
        clear f82 f83 f84 f85
        have LTq : Hid (∀ k, (qA : Option Addr).map (·.block) = some k → w20.heap.size ≤ k ∧ k < w21.heap.size) := Lib.hid (fun k hk => qho.lt k hk)
        have LTq2 : Hid (∀ k, (q2A : Option Addr).map (·.block) = some k → w20.heap.size ≤ k ∧ k < w21.heap.size) := Lib.hid (fun k hk => q2ho.lt k hk)
        have APq := Lib.hid qap
        clear qap
        have B_21 := Lib.hid (B_20.out.trans (qhb.mono B_20.out.size))
        have S_20 := Lib.hid qhb.size
        have a0_21 := a0_20.next qhb
        have h0_21 := h0_20.below qhb
        have h1_21 := h1_20.below qhb
        have T_21 := T_20.below qhb
        have o_21 := o_20.below qhb
        have o2_21 := o2_20.below qhb
        have x0x_21 := x0x_20.next qhb
        have g_21 := g_20.below qhb
        have g2_21 := g2_20.below qhb
        have z0_21 := z0_20.below qhb
        have z1_21 := z1_20.below qhb
        clear a0_20 h0_20 h1_20 T_20 o_20 o2_20 x0x_20 g_20 g2_20 z0_20 z1_20
        have q_21 := qho
        have q2_21 := q2ho
        clear z0_21
        clear z1_21
        have f87 := a0_21.c0
        have f88 := a0_21.c1
        have f89 := x0x_21.c0
        have f90 := x0x_21.c1
        go_wp2_with fail
        refine (eq_true _ _ _ _ _ VX _ q_21.rd o_21.rd (by omega)).mono ?_
        rintro e w22 ⟨rfl, hb86⟩
        clear f87 f88 f89 f90
        have B_22 := Lib.hid (B_21.out.trans (hb86.mono B_21.out.size))
        have S_21 := Lib.hid hb86.size
        have a0_22 := a0_21.next hb86
        have h0_22 := h0_21.below hb86
        have h1_22 := h1_21.below hb86
        have T_22 := T_21.below hb86
        have o_22 := o_21.below hb86
        have o2_22 := o2_21.below hb86
        have x0x_22 := x0x_21.next hb86
        have g_22 := g_21.below hb86
        have g2_22 := g2_21.below hb86
        have q_22 := q_21.below hb86
        have q2_22 := q2_21.below hb86
        clear a0_21 h0_21 h1_21 T_21 o_21 o2_21 x0x_21 g_21 g2_21 q_21 q2_21
        have f92 := a0_22.c0
        have f93 := a0_22.c1
        have f94 := x0x_22.c0
        have f95 := x0x_22.c1
        go_wp2_with fail
        refine (eq_true _ _ _ _ _ UX _ q2_22.rd o2_22.rd (by omega)).mono ?_
        rintro e w23 ⟨rfl, hb91⟩
        clear f92 f93 f94 f95
        have B_23 := Lib.hid (B_22.out.trans (hb91.mono B_22.out.size))
        have S_22 := Lib.hid hb91.size
        have a0_23 := a0_22.next hb91
        have h0_23 := h0_22.below hb91
        have h1_23 := h1_22.below hb91
        have T_23 := T_22.below hb91
        have o_23 := o_22.below hb91
        have o2_23 := o2_22.below hb91
        have x0x_23 := x0x_22.next hb91
        have g_23 := g_22.below hb91
        have g2_23 := g2_22.below hb91
        have q_23 := q_22.below hb91
        have q2_23 := q2_22.below hb91
        clear a0_22 h0_22 h1_22 T_22 o_22 o2_22 x0x_22 g_22 g2_22 q_22 q2_22
        have f96 := a0_23.c0
        have f97 := a0_23.c1
        have f98 := x0x_23.c0
        have f99 := x0x_23.c1
        go_wp2_with fail
        refine (held_any _ _ _ 1 _ g_23.rd hVN (by omega)).mono ?_
        rintro e w' ⟨rfl, rfl⟩
        clear f96 f97 f98 f99
        have f100 := a0_23.c0
        have f101 := a0_23.c1
        have f102 := x0x_23.c0
        have f103 := x0x_23.c1
        go_wp2_with fail
        refine (held_any _ _ _ (1 + VN) _ g2_23.rd hUN (by omega)).mono ?_
        rintro e w' ⟨rfl, rfl⟩
        clear f100 f101 f102 f103
        have f104 := a0_23.c0
        have f105 := a0_23.c1
        have f106 := x0x_23.c0
        have f107 := x0x_23.c1
        go_wp2_with fail
        go_ret
        exact ⟨rfl, B_23.out⟩
    · go_enter Tryd.func8, Tryd.ntmps8
      go_wp2_with fail
      rw [← hw0]
      refine (szno_any L0 A0 n0 c0 _ (by omega) hm0).mono ?_
      rintro e w1 ⟨rfl, hz0⟩
      have B_1 := Lib.hid (B_0.out.trans (hz0.mono B_0.out.size))
      have S_0 := Lib.hid hz0.size
      have a0_1 := a0_0.next hz0
      have h0_1 := h0_0.below hz0
      have h1_1 := h1_0.below hz0
      have T_1 := T_0.below hz0
      clear a0_0 h0_0 h1_0 T_0
      go_wp2_with fail
      go_ret
      exact ⟨rfl, B_1.out⟩
  · go_enter Tryd.func8, Tryd.ntmps8
    go_wp2_with fail
    go_ret
    exact ⟨rfl, below1 _ _⟩
end Go.Proofs.YtdafdffmkjhhcaaDoor

/-
  The walk of FnExactGroupProduct, over contracts of both sides.
-/
import Derived.Test.YtbleimcajpelhaaDoorGrH
import Derived.Deep.CutRange
import Derived.Deep.RegionWith
namespace Go.Proofs.YtbleimcajpelhaaDoor
open Go.RowKit
set_option linter.unusedVariables false
set_option maxRecDepth 100000
set_option maxHeartbeats 3200000 in
theorem lawGroupProduct (L0 : Int) (A0 : Option Addr) (n0 c0 : Nat) (xs0 : List Int) (A1 : Option Addr) (n1 c1 : Nat) (xs1 : List Int) (A2 : Option Addr) (n2 c2 : Nat) (xs2 : List Int) (w : World) (hL01 : -9223372036854775808 ≤ L0) (hL02 : L0 ≤ 9223372036854775807) (h0 : Rd w A0 n0 xs0) (hwf0 : Wf xs0) (hl0 : n0 ≤ maxLen) (h1 : Rd w A1 n1 xs1) (hwf1 : Wf xs1) (hl1 : n1 ≤ maxLen) (h2 : Rd w A2 n2 xs2) (hwf2 : Wf xs2) (hl2 : n2 ≤ maxLen) (hT : Tab w) (VN : Nat) (VX : List Int) (C : Int) (hVN : VN ≤ 1048576)
    (hspec : ∀ (B0 : Option Addr) (d0 : Nat) (B1 : Option Addr) (d1 : Nat) (B2 : Option Addr) (d2 : Nat) (w' : World), n0 ≤ 1048576 → Rd w' B0 n0 xs0 → n1 ≤ 1048576 → Rd w' B1 n1 xs1 → n2 ≤ 1048576 → Rd w' B2 n2 xs2 → Calls Tryd.prog 30 #[.agg #[.int .i64 L0, .slice B0 n0 d0], .slice B1 n1 d1, .slice B2 n2 d2] w' (LsPost w' VN VX C))
    (himpl : ∀ (B0 : Option Addr) (d0 : Nat) (B1 : Option Addr) (d1 : Nat) (B2 : Option Addr) (d2 : Nat) (w' : World), n0 ≤ 1048576 → Rd w' B0 n0 xs0 → n1 ≤ 1048576 → Rd w' B1 n1 xs1 → n2 ≤ 1048576 → Rd w' B2 n2 xs2 → Tab w' → Calls Tryd.prog 31 #[.agg #[.int .i64 L0, .slice B0 n0 d0], .slice B1 n1 d1, .slice B2 n2 d2] w' (LsPost w' VN VX C)) :
    Calls Tryd.prog 7 #[.agg #[.int .i64 L0, .slice A0 n0 c0], .slice A1 n1 c1, .slice A2 n2 c2] w fun e w' => e = .returned (.bool true) ∧ Below w.heap.size w w' := by
  unfold maxLen at hl0
  have hm0 : n0 ≤ 9223372036854775807 := by omega
  unfold maxLen at hl1
  have hm1 : n1 ≤ 9223372036854775807 := by omega
  unfold maxLen at hl2
  have hm2 : n2 ≤ 9223372036854775807 := by omega
  obtain ⟨w0, hw0⟩ : ∃ w0 : World, w0 = (w.alloc (.cells #[.int .i64 L0, .slice A0 n0 c0] 24)) := ⟨_, rfl⟩
  have B_0 := Lib.hid (show Below w.heap.size w w0 by rw [hw0]; exact below1 w _)
  have S0_ : Hid (w0.heap.size = w.heap.size + 1) := Lib.hid (by rw [hw0]; simp)
  have a0_0 : Box 24 w0 (w.heap.size) L0 A0 n0 c0 := by rw [hw0]; exact (box_new 24 w L0 A0 n0 c0)
  have h0_0 := h0.below B_0.out
  have h1_0 := h1.below B_0.out
  have h2_0 := h2.below B_0.out
  have T_0 := hT.below B_0.out
  by_cases hs1 : n1 ≤ 1048576
  · by_cases hs2 : n2 ≤ 1048576
    · by_cases hs0 : n0 ≤ 1048576
      · have hn0 : n0 ≤ 1048576 := by omega
        have hn1 : n1 ≤ 1048576 := by omega
        have hn2 : n2 ≤ 1048576 := by omega
        go_enter Tryd.func7, Tryd.ntmps7
        go_wp2_with fail
        rw [← hw0]
        refine (sz_law L0 A0 n0 c0 _ hs0).mono ?_
        rintro e w1 ⟨rfl, hz0⟩
        have B_1 := Lib.hid (B_0.out.trans (hz0.mono B_0.out.size))
        have S_0 := Lib.hid hz0.size
        have a0_1 := a0_0.next hz0
        have h0_1 := h0_0.below hz0
        have h1_1 := h1_0.below hz0
        have h2_1 := h2_0.below hz0
        have T_1 := T_0.below hz0
        clear a0_0 h0_0 h1_0 h2_0 T_0
        have f1 := a0_1.c0
        have f2 := a0_1.c1
        go_wp2_with fail
        refine (toAl_any L0 _ n0 _ xs0 _ h0_1 hn0).mono ?_
        rintro e w2 ⟨s0g, s0c, rfl, s0hg, s0ho, s0hb⟩
        clear f1 f2
        obtain ⟨s0A, s0e⟩ : ∃ s0A : Option Addr, s0A = (some ⟨s0g, 0, none⟩) := ⟨_, rfl⟩
        rw [← s0e] at s0ho ⊢
        clear s0e
        have LTs0 : Hid (∀ k, (s0A : Option Addr).map (·.block) = some k → w1.heap.size ≤ k ∧ k < w2.heap.size) := Lib.hid (fun k hk => s0ho.lt k hk)
        have B_2 := Lib.hid (B_1.out.trans (s0hb.mono B_1.out.size))
        have S_1 := Lib.hid s0hb.size
        have a0_2 := a0_1.next s0hb
        have h0_2 := h0_1.below s0hb
        have h1_2 := h1_1.below s0hb
        have h2_2 := h2_1.below s0hb
        have T_2 := T_1.below s0hb
        clear a0_1 h0_1 h1_1 h2_1 T_1
        have s0_2 := s0ho
        have f3 := a0_2.c0
        have f4 := a0_2.c1
        go_wp2_with fail
        refine (toInt_any _ _ _ xs1 _ h1_2 hn1).mono ?_
        rintro e w3 ⟨s1c, rfl, s1ho, s1hb⟩
        clear f3 f4
        obtain ⟨s1A, s1e⟩ : ∃ s1A : Option Addr, s1A = (some ⟨w2.heap.size, 0, none⟩) := ⟨_, rfl⟩
        rw [← s1e] at s1ho ⊢
        clear s1e
        have LTs1 : Hid (∀ k, (s1A : Option Addr).map (·.block) = some k → w2.heap.size ≤ k ∧ k < w3.heap.size) := Lib.hid (fun k hk => s1ho.lt k hk)
        have B_3 := Lib.hid (B_2.out.trans (s1hb.mono B_2.out.size))
        have S_2 := Lib.hid s1hb.size
        have a0_3 := a0_2.next s1hb
        have h0_3 := h0_2.below s1hb
        have h1_3 := h1_2.below s1hb
        have h2_3 := h2_2.below s1hb
        have T_3 := T_2.below s1hb
        have s0_3 := s0_2.below s1hb
        clear a0_2 h0_2 h1_2 h2_2 T_2 s0_2
        have s1_3 := s1ho
        have f5 := a0_3.c0
        have f6 := a0_3.c1
        go_wp2_with fail
        refine (toInt_any _ _ _ xs2 _ h2_3 hn2).mono ?_
        rintro e w4 ⟨s2c, rfl, s2ho, s2hb⟩
        clear f5 f6
        obtain ⟨s2A, s2e⟩ : ∃ s2A : Option Addr, s2A = (some ⟨w3.heap.size, 0, none⟩) := ⟨_, rfl⟩
        rw [← s2e] at s2ho ⊢
        clear s2e
        have LTs2 : Hid (∀ k, (s2A : Option Addr).map (·.block) = some k → w3.heap.size ≤ k ∧ k < w4.heap.size) := Lib.hid (fun k hk => s2ho.lt k hk)
        have B_4 := Lib.hid (B_3.out.trans (s2hb.mono B_3.out.size))
        have S_3 := Lib.hid s2hb.size
        have a0_4 := a0_3.next s2hb
        have h0_4 := h0_3.below s2hb
        have h1_4 := h1_3.below s2hb
        have h2_4 := h2_3.below s2hb
        have T_4 := T_3.below s2hb
        have s0_4 := s0_3.below s2hb
        have s1_4 := s1_3.below s2hb
        clear a0_3 h0_3 h1_3 h2_3 T_3 s0_3 s1_3
        have s2_4 := s2ho
        have f7 := a0_4.c0
        have f8 := a0_4.c1
        go_wp2_with fail
        refine (hspec _ _ _ _ _ _ _ hn0 s0_4.rd hn1 s1_4.rd hn2 s2_4.rd).mono ?_
        rintro e w5 ⟨oA, oc, rfl, oho, ohb⟩
        clear f7 f8
        have LTo : Hid (∀ k, (oA : Option Addr).map (·.block) = some k → w4.heap.size ≤ k ∧ k < w5.heap.size) := Lib.hid (fun k hk => oho.lt k hk)
        have B_5 := Lib.hid (B_4.out.trans (ohb.mono B_4.out.size))
        have S_4 := Lib.hid ohb.size
        have a0_5 := a0_4.next ohb
        have h0_5 := h0_4.below ohb
        have h1_5 := h1_4.below ohb
        have h2_5 := h2_4.below ohb
        have T_5 := T_4.below ohb
        have s0_5 := s0_4.below ohb
        have s1_5 := s1_4.below ohb
        have s2_5 := s2_4.below ohb
        clear a0_4 h0_4 h1_4 h2_4 T_4 s0_4 s1_4 s2_4
        have o_5 := oho
        clear s0_5
        clear s1_5
        clear s2_5
        have f9 := a0_5.c0
        have f10 := a0_5.c1
        go_wp2_with fail
        refine (toAl_any L0 _ n0 _ xs0 _ h0_5 hn0).mono ?_
        rintro e w6 ⟨x0g, x0c, rfl, x0hg, x0ho, x0hb⟩
        clear f9 f10
        obtain ⟨x0A, x0e⟩ : ∃ x0A : Option Addr, x0A = (some ⟨x0g, 0, none⟩) := ⟨_, rfl⟩
        rw [← x0e] at x0ho ⊢
        clear x0e
        have LTx0 : Hid (∀ k, (x0A : Option Addr).map (·.block) = some k → w5.heap.size ≤ k ∧ k < w6.heap.size) := Lib.hid (fun k hk => x0ho.lt k hk)
        have B_6 := Lib.hid (B_5.out.trans (x0hb.mono B_5.out.size))
        have S_5 := Lib.hid x0hb.size
        have a0_6 := a0_5.next x0hb
        have h0_6 := h0_5.below x0hb
        have h1_6 := h1_5.below x0hb
        have h2_6 := h2_5.below x0hb
        have T_6 := T_5.below x0hb
        have o_6 := o_5.below x0hb
        clear a0_5 h0_5 h1_5 h2_5 T_5 o_5
        have x0_6 := x0ho
        have kp_6 := below1 w6 (.cells #[.int .i64 L0, .slice x0A n0 x0c] 27)
        have f11 := a0_6.c0
        have f12 := a0_6.c1
        have f13 := (a0_6.next kp_6).c0
        have f14 := (a0_6.next kp_6).c1
        go_wp2_with fail
        refine (toInt_any _ _ _ xs1 _ (h1_6.below kp_6) hn1).mono ?_
        rintro e w7 ⟨x1c, rfl, x1ho, x1hb⟩
        clear f11 f12 f13 f14
        obtain ⟨x1A, x1e⟩ : ∃ x1A : Option Addr, x1A = (some ⟨(w6.alloc (.cells #[.int .i64 L0, .slice x0A n0 x0c] 27)).heap.size, 0, none⟩) := ⟨_, rfl⟩
        rw [← x1e] at x1ho ⊢
        clear x1e
        have LTx1 : Hid (∀ k, (x1A : Option Addr).map (·.block) = some k → w6.heap.size + 1 ≤ k ∧ k < w7.heap.size) := Lib.hid (fun k hk => by have h9 := x1ho.lt k hk; have e9 : (w6.alloc (.cells #[.int .i64 L0, .slice x0A n0 x0c] 27)).heap.size = w6.heap.size + 1 := (by simp); omega)
        have hbb_6 := kp_6.trans (x1hb.mono kp_6.size)
        have B_7 := Lib.hid (B_6.out.trans (hbb_6.mono B_6.out.size))
        have S_6 : Hid (w6.heap.size + 1 ≤ w7.heap.size) := Lib.hid (by have h9 := x1hb.size; have e9 : (w6.alloc (.cells #[.int .i64 L0, .slice x0A n0 x0c] 27)).heap.size = w6.heap.size + 1 := (by simp); omega)
        have a0_7 := a0_6.next hbb_6
        have h0_7 := h0_6.below hbb_6
        have h1_7 := h1_6.below hbb_6
        have h2_7 := h2_6.below hbb_6
        have T_7 := T_6.below hbb_6
        have o_7 := o_6.below hbb_6
        have x0_7 := x0_6.below hbb_6
        have x0x_7 := (box_new 27 w6 L0 x0A n0 x0c).next x1hb
        clear a0_6 h0_6 h1_6 h2_6 T_6 o_6 x0_6
        have x1_7 := x1ho.mono kp_6.size
        have f15 := a0_7.c0
        have f16 := a0_7.c1
        have f17 := x0x_7.c0
        have f18 := x0x_7.c1
        go_wp2_with fail
        refine (toInt_any _ _ _ xs2 _ h2_7 hn2).mono ?_
        rintro e w8 ⟨x2c, rfl, x2ho, x2hb⟩
        clear f15 f16 f17 f18
        obtain ⟨x2A, x2e⟩ : ∃ x2A : Option Addr, x2A = (some ⟨w7.heap.size, 0, none⟩) := ⟨_, rfl⟩
        rw [← x2e] at x2ho ⊢
        clear x2e
        have LTx2 : Hid (∀ k, (x2A : Option Addr).map (·.block) = some k → w7.heap.size ≤ k ∧ k < w8.heap.size) := Lib.hid (fun k hk => x2ho.lt k hk)
        have B_8 := Lib.hid (B_7.out.trans (x2hb.mono B_7.out.size))
        have S_7 := Lib.hid x2hb.size
        have a0_8 := a0_7.next x2hb
        have h0_8 := h0_7.below x2hb
        have h1_8 := h1_7.below x2hb
        have h2_8 := h2_7.below x2hb
        have T_8 := T_7.below x2hb
        have o_8 := o_7.below x2hb
        have x0_8 := x0_7.below x2hb
        have x0x_8 := x0x_7.next x2hb
        have x1_8 := x1_7.below x2hb
        clear a0_7 h0_7 h1_7 h2_7 T_7 o_7 x0_7 x0x_7 x1_7
        have x2_8 := x2ho
        have f19 := a0_8.c0
        have f20 := a0_8.c1
        have f21 := x0x_8.c0
        have f22 := x0x_8.c1
        go_wp2_with fail
        refine (himpl _ _ _ _ _ _ _ hn0 x0_8.rd hn1 x1_8.rd hn2 x2_8.rd T_8).mono ?_
        rintro e w9 ⟨gA, gc, rfl, gho, ghb⟩
        clear f19 f20 f21 f22
        have LTg : Hid (∀ k, (gA : Option Addr).map (·.block) = some k → w8.heap.size ≤ k ∧ k < w9.heap.size) := Lib.hid (fun k hk => gho.lt k hk)
        have B_9 := Lib.hid (B_8.out.trans (ghb.mono B_8.out.size))
        have S_8 := Lib.hid ghb.size
        have a0_9 := a0_8.next ghb
        have h0_9 := h0_8.below ghb
        have h1_9 := h1_8.below ghb
        have h2_9 := h2_8.below ghb
        have T_9 := T_8.below ghb
        have o_9 := o_8.below ghb
        have x0_9 := x0_8.below ghb
        have x0x_9 := x0x_8.next ghb
        have x1_9 := x1_8.below ghb
        have x2_9 := x2_8.below ghb
        clear a0_8 h0_8 h1_8 h2_8 T_8 o_8 x0_8 x0x_8 x1_8 x2_8
        have g_9 := gho
        have f24 := a0_9.c0
        have f25 := a0_9.c1
        have f26 := x0x_9.c0
        have f27 := x0x_9.c1
        go_wp2_with fail
        refine (eq_true _ _ _ _ _ VX _ g_9.rd o_9.rd (by omega)).mono ?_
        rintro e w10 ⟨rfl, hb23⟩
        clear f24 f25 f26 f27
        have B_10 := Lib.hid (B_9.out.trans (hb23.mono B_9.out.size))
        have S_9 := Lib.hid hb23.size
        have a0_10 := a0_9.next hb23
        have h0_10 := h0_9.below hb23
        have h1_10 := h1_9.below hb23
        have h2_10 := h2_9.below hb23
        have T_10 := T_9.below hb23
        have o_10 := o_9.below hb23
        have x0_10 := x0_9.below hb23
        have x0x_10 := x0x_9.next hb23
        have x1_10 := x1_9.below hb23
        have x2_10 := x2_9.below hb23
        have g_10 := g_9.below hb23
        clear a0_9 h0_9 h1_9 h2_9 T_9 o_9 x0_9 x0x_9 x1_9 x2_9 g_9
        have f28 := a0_10.c0
        have f29 := a0_10.c1
        have f30 := x0x_10.c0
        have f31 := x0x_10.c1
        go_upto_region 16 with fail
        go_cut [67] from 63 to 67 (fun v wx => v = .bool false ∧ Below w10.heap.size w10 wx)
        case first =>
          have Z0 : ∀ (ww : World), Below w10.heap.size w10 ww → Calls Tryd.prog 16 #[.agg #[.int .i64 L0, .slice A0 n0 c0]] ww fun e w' => ∃ g c', e = .returned (.agg #[.int .i64 L0, .slice (some ⟨g, 0, none⟩) n0 c']) ∧ Own 2 w' ww.heap.size (some ⟨g, 0, none⟩) n0 c' xs0 ∧ Below ww.heap.size ww w' := fun ww hww => (toAl_any L0 _ n0 _ xs0 _ (h0_10.below hww) hn0).mono fun e w' ⟨g, c', he, _, ho, hb⟩ => ⟨g, c', he, ho, hb⟩
          have hdr : Below w10.heap.size w10 w10.drew := (Below.refl _ _).drew
          have rc0 := (x0x_10.next hdr).c0
          have tc0 := (a0_10.next hdr).c0
          have rc1 := (x0x_10.next hdr).c1
          have tc1 := (a0_10.next hdr).c1
          go_region_with (first | (go_at_call 16; refine (Z0 _ hdr).mono ?_; rintro e wz ⟨gz, cz, rfl, hoz, hbz⟩; have hbz2 := hdr.trans (hbz.mono hdr.size); have q0 := (x0x_10.next hbz2).c0; have q1 := (x0x_10.next hbz2).c1) | (go_at_call 19; refine (eqAl_true L0 _ _ _ _ _ xs0 _ (x0_10.below hbz2).rd hoz.rd hm0).mono ?_; rintro e wy ⟨rfl, hby⟩; have hby2 := hbz2.trans (hby.mono hbz2.size)))
          all_goals (go_wp2_with fail; go_meet; exact ⟨rfl, hby2⟩)
        case rest =>
          obtain ⟨rfl, hcb⟩ := hcut
          obtain ⟨w11, rfl⟩ : ∃ w9 : World, w9 = wc := ⟨_, rfl⟩
          clear f28 f29 f30 f31
          have B_11 := Lib.hid (B_10.out.trans (hcb.mono B_10.out.size))
          have S_10 := Lib.hid hcb.size
          have a0_11 := a0_10.next hcb
          have h0_11 := h0_10.below hcb
          have h1_11 := h1_10.below hcb
          have h2_11 := h2_10.below hcb
          have T_11 := T_10.below hcb
          have o_11 := o_10.below hcb
          have x0_11 := x0_10.below hcb
          have x0x_11 := x0x_10.next hcb
          have x1_11 := x1_10.below hcb
          have x2_11 := x2_10.below hcb
          have g_11 := g_10.below hcb
          clear a0_10 h0_10 h1_10 h2_10 T_10 o_10 x0_10 x0x_10 x1_10 x2_10 g_10
          have f32 := a0_11.c0
          have f33 := a0_11.c1
          have f34 := x0x_11.c0
          have f35 := x0x_11.c1
          go_wp2_with fail
          refine (toInt_any _ _ _ xs1 _ h1_11 hn1).mono ?_
          rintro e w12 ⟨y1c, rfl, y1ho, y1hb⟩
          clear f32 f33 f34 f35
          obtain ⟨y1A, y1e⟩ : ∃ y1A : Option Addr, y1A = (some ⟨w11.heap.size, 0, none⟩) := ⟨_, rfl⟩
          rw [← y1e] at y1ho ⊢
          clear y1e
          have LTy1 : Hid (∀ k, (y1A : Option Addr).map (·.block) = some k → w11.heap.size ≤ k ∧ k < w12.heap.size) := Lib.hid (fun k hk => y1ho.lt k hk)
          have B_12 := Lib.hid (B_11.out.trans (y1hb.mono B_11.out.size))
          have S_11 := Lib.hid y1hb.size
          have a0_12 := a0_11.next y1hb
          have h0_12 := h0_11.below y1hb
          have h1_12 := h1_11.below y1hb
          have h2_12 := h2_11.below y1hb
          have T_12 := T_11.below y1hb
          have o_12 := o_11.below y1hb
          have x0_12 := x0_11.below y1hb
          have x0x_12 := x0x_11.next y1hb
          have x1_12 := x1_11.below y1hb
          have x2_12 := x2_11.below y1hb
          have g_12 := g_11.below y1hb
          clear a0_11 h0_11 h1_11 h2_11 T_11 o_11 x0_11 x0x_11 x1_11 x2_11 g_11
          have y1_12 := y1ho
          have f37 := a0_12.c0
          have f38 := a0_12.c1
          have f39 := x0x_12.c0
          have f40 := x0x_12.c1
          go_wp2_with fail
          refine (eq_true _ _ _ _ _ xs1 _ x1_12.rd y1_12.rd (by omega)).mono ?_
          rintro e w13 ⟨rfl, hb36⟩
          clear f37 f38 f39 f40
          have B_13 := Lib.hid (B_12.out.trans (hb36.mono B_12.out.size))
          have S_12 := Lib.hid hb36.size
          have a0_13 := a0_12.next hb36
          have h0_13 := h0_12.below hb36
          have h1_13 := h1_12.below hb36
          have h2_13 := h2_12.below hb36
          have T_13 := T_12.below hb36
          have o_13 := o_12.below hb36
          have x0_13 := x0_12.below hb36
          have x0x_13 := x0x_12.next hb36
          have x1_13 := x1_12.below hb36
          have x2_13 := x2_12.below hb36
          have g_13 := g_12.below hb36
          have y1_13 := y1_12.below hb36
          clear a0_12 h0_12 h1_12 h2_12 T_12 o_12 x0_12 x0x_12 x1_12 x2_12 g_12 y1_12
          clear y1_13
          have f41 := a0_13.c0
          have f42 := a0_13.c1
          have f43 := x0x_13.c0
          have f44 := x0x_13.c1
          go_wp2_with fail
          refine (toInt_any _ _ _ xs2 _ h2_13 hn2).mono ?_
          rintro e w14 ⟨y2c, rfl, y2ho, y2hb⟩
          clear f41 f42 f43 f44
          obtain ⟨y2A, y2e⟩ : ∃ y2A : Option Addr, y2A = (some ⟨w13.heap.size, 0, none⟩) := ⟨_, rfl⟩
          rw [← y2e] at y2ho ⊢
          clear y2e
          have LTy2 : Hid (∀ k, (y2A : Option Addr).map (·.block) = some k → w13.heap.size ≤ k ∧ k < w14.heap.size) := Lib.hid (fun k hk => y2ho.lt k hk)
          have B_14 := Lib.hid (B_13.out.trans (y2hb.mono B_13.out.size))
          have S_13 := Lib.hid y2hb.size
          have a0_14 := a0_13.next y2hb
          have h0_14 := h0_13.below y2hb
          have h1_14 := h1_13.below y2hb
          have h2_14 := h2_13.below y2hb
          have T_14 := T_13.below y2hb
          have o_14 := o_13.below y2hb
          have x0_14 := x0_13.below y2hb
          have x0x_14 := x0x_13.next y2hb
          have x1_14 := x1_13.below y2hb
          have x2_14 := x2_13.below y2hb
          have g_14 := g_13.below y2hb
          clear a0_13 h0_13 h1_13 h2_13 T_13 o_13 x0_13 x0x_13 x1_13 x2_13 g_13
          have y2_14 := y2ho
          have f46 := a0_14.c0
          have f47 := a0_14.c1
          have f48 := x0x_14.c0
          have f49 := x0x_14.c1
          go_wp2_with fail
          refine (eq_true _ _ _ _ _ xs2 _ x2_14.rd y2_14.rd (by omega)).mono ?_
          rintro e w15 ⟨rfl, hb45⟩
          clear f46 f47 f48 f49
          have B_15 := Lib.hid (B_14.out.trans (hb45.mono B_14.out.size))
          have S_14 := Lib.hid hb45.size
          have a0_15 := a0_14.next hb45
          have h0_15 := h0_14.below hb45
          have h1_15 := h1_14.below hb45
          have h2_15 := h2_14.below hb45
          have T_15 := T_14.below hb45
          have o_15 := o_14.below hb45
          have x0_15 := x0_14.below hb45
          have x0x_15 := x0x_14.next hb45
          have x1_15 := x1_14.below hb45
          have x2_15 := x2_14.below hb45
          have g_15 := g_14.below hb45
          have y2_15 := y2_14.below hb45
          clear a0_14 h0_14 h1_14 h2_14 T_14 o_14 x0_14 x0x_14 x1_14 x2_14 g_14 y2_14
          clear y2_15
          have f50 := a0_15.c0
          have f51 := a0_15.c1
          have f52 := x0x_15.c0
          have f53 := x0x_15.c1
          go_wp2_with fail
          refine (markAl_any _ _ L0 _ _ _ (1) _ _ x0_15 hn0 (by omega)).mono ?_
          rintro e w16 ⟨rfl, mx0, mg0⟩
          clear f50 f51 f52 f53
          have S_15 := Lib.hid mg0.size
          have B_16 := Lib.hid (B_15.out.grown mg0 B_15.out.size (fun k hk => by have := (LTx0.out k hk).1; have := S_0.out; have := S_1.out; have := S_2.out; have := S_3.out; have := S_4.out; have := S_5.out; have := S_6.out; have := S_7.out; have := S_8.out; have := S_9.out; have := S_10.out; have := S_11.out; have := S_12.out; have := S_13.out; have := S_14.out; have := S0_.out; omega))
          have a0_16 := a0_15.apart mg0 (fun e => by have := LTx0.out _ e; have := S_0.out; have := S_1.out; have := S_2.out; have := S_3.out; have := S_4.out; have := S_5.out; have := S_6.out; have := S_7.out; have := S_8.out; have := S_9.out; have := S_10.out; have := S_11.out; have := S_12.out; have := S_13.out; have := S_14.out; have := S0_.out; omega)
          have h0_16 := h0.below B_16.out
          have h1_16 := h1.below B_16.out
          have h2_16 := h2.below B_16.out
          have T_16 := hT.below B_16.out
          have o_16 := o_15.apart mg0 (fun k hk e => by have := LTo.out k hk; have := LTx0.out k e; have := S_0.out; have := S_1.out; have := S_2.out; have := S_3.out; have := S_4.out; have := S_5.out; have := S_6.out; have := S_7.out; have := S_8.out; have := S_9.out; have := S_10.out; have := S_11.out; have := S_12.out; have := S_13.out; have := S_14.out; omega)
          have x0x_16 := x0x_15.apart mg0 (fun e => by have := LTx0.out _ e; have := S_0.out; have := S_1.out; have := S_2.out; have := S_3.out; have := S_4.out; have := S_5.out; have := S_6.out; have := S_7.out; have := S_8.out; have := S_9.out; have := S_10.out; have := S_11.out; have := S_12.out; have := S_13.out; have := S_14.out; have := S0_.out; omega)
          have x1_16 := x1_15.apart mg0 (fun k hk e => by have := LTx1.out k hk; have := LTx0.out k e; have := S_0.out; have := S_1.out; have := S_2.out; have := S_3.out; have := S_4.out; have := S_5.out; have := S_6.out; have := S_7.out; have := S_8.out; have := S_9.out; have := S_10.out; have := S_11.out; have := S_12.out; have := S_13.out; have := S_14.out; omega)
          have x2_16 := x2_15.apart mg0 (fun k hk e => by have := LTx2.out k hk; have := LTx0.out k e; have := S_0.out; have := S_1.out; have := S_2.out; have := S_3.out; have := S_4.out; have := S_5.out; have := S_6.out; have := S_7.out; have := S_8.out; have := S_9.out; have := S_10.out; have := S_11.out; have := S_12.out; have := S_13.out; have := S_14.out; omega)
          have g_16 := g_15.apart mg0 (fun k hk e => by have := LTg.out k hk; have := LTx0.out k e; have := S_0.out; have := S_1.out; have := S_2.out; have := S_3.out; have := S_4.out; have := S_5.out; have := S_6.out; have := S_7.out; have := S_8.out; have := S_9.out; have := S_10.out; have := S_11.out; have := S_12.out; have := S_13.out; have := S_14.out; omega)
          clear a0_15 h0_15 h1_15 h2_15 T_15 o_15 x0x_15 x1_15 x2_15 g_15
          have x0_16 := mx0
          have f54 := a0_16.c0
          have f55 := a0_16.c1
          have f56 := x0x_16.c0
          have f57 := x0x_16.c1
          go_wp2_with fail
          refine (mark_any _ _ _ _ _ (1 + n0) _ _ x1_16 hn1 (by omega)).mono ?_
          rintro e w17 ⟨rfl, mx1, mg1⟩
          clear f54 f55 f56 f57
          have S_16 := Lib.hid mg1.size
          have B_17 := Lib.hid (B_16.out.grown mg1 B_16.out.size (fun k hk => by have := (LTx1.out k hk).1; have := S_0.out; have := S_1.out; have := S_2.out; have := S_3.out; have := S_4.out; have := S_5.out; have := S_6.out; have := S_7.out; have := S_8.out; have := S_9.out; have := S_10.out; have := S_11.out; have := S_12.out; have := S_13.out; have := S_14.out; have := S_15.out; have := S0_.out; omega))
          have a0_17 := a0_16.apart mg1 (fun e => by have := LTx1.out _ e; have := S_0.out; have := S_1.out; have := S_2.out; have := S_3.out; have := S_4.out; have := S_5.out; have := S_6.out; have := S_7.out; have := S_8.out; have := S_9.out; have := S_10.out; have := S_11.out; have := S_12.out; have := S_13.out; have := S_14.out; have := S_15.out; have := S0_.out; omega)
          have h0_17 := h0.below B_17.out
          have h1_17 := h1.below B_17.out
          have h2_17 := h2.below B_17.out
          have T_17 := hT.below B_17.out
          have o_17 := o_16.apart mg1 (fun k hk e => by have := LTo.out k hk; have := LTx1.out k e; have := S_0.out; have := S_1.out; have := S_2.out; have := S_3.out; have := S_4.out; have := S_5.out; have := S_6.out; have := S_7.out; have := S_8.out; have := S_9.out; have := S_10.out; have := S_11.out; have := S_12.out; have := S_13.out; have := S_14.out; have := S_15.out; omega)
          have x0_17 := x0_16.apart mg1 (fun k hk e => by have := LTx0.out k hk; have := LTx1.out k e; have := S_0.out; have := S_1.out; have := S_2.out; have := S_3.out; have := S_4.out; have := S_5.out; have := S_6.out; have := S_7.out; have := S_8.out; have := S_9.out; have := S_10.out; have := S_11.out; have := S_12.out; have := S_13.out; have := S_14.out; have := S_15.out; omega)
          have x0x_17 := x0x_16.apart mg1 (fun e => by have := LTx1.out _ e; have := S_0.out; have := S_1.out; have := S_2.out; have := S_3.out; have := S_4.out; have := S_5.out; have := S_6.out; have := S_7.out; have := S_8.out; have := S_9.out; have := S_10.out; have := S_11.out; have := S_12.out; have := S_13.out; have := S_14.out; have := S_15.out; have := S0_.out; omega)
          have x2_17 := x2_16.apart mg1 (fun k hk e => by have := LTx2.out k hk; have := LTx1.out k e; have := S_0.out; have := S_1.out; have := S_2.out; have := S_3.out; have := S_4.out; have := S_5.out; have := S_6.out; have := S_7.out; have := S_8.out; have := S_9.out; have := S_10.out; have := S_11.out; have := S_12.out; have := S_13.out; have := S_14.out; have := S_15.out; omega)
          have g_17 := g_16.apart mg1 (fun k hk e => by have := LTg.out k hk; have := LTx1.out k e; have := S_0.out; have := S_1.out; have := S_2.out; have := S_3.out; have := S_4.out; have := S_5.out; have := S_6.out; have := S_7.out; have := S_8.out; have := S_9.out; have := S_10.out; have := S_11.out; have := S_12.out; have := S_13.out; have := S_14.out; have := S_15.out; omega)
          clear a0_16 h0_16 h1_16 h2_16 T_16 o_16 x0_16 x0x_16 x2_16 g_16
          have x1_17 := mx1
          have f58 := a0_17.c0
          have f59 := a0_17.c1
          have f60 := x0x_17.c0
          have f61 := x0x_17.c1
          go_wp2_with fail
          refine (mark_any _ _ _ _ _ (1 + n0 + n1) _ _ x2_17 hn2 (by omega)).mono ?_
          rintro e w18 ⟨rfl, mx2, mg2⟩
          clear f58 f59 f60 f61
          have S_17 := Lib.hid mg2.size
          have B_18 := Lib.hid (B_17.out.grown mg2 B_17.out.size (fun k hk => by have := (LTx2.out k hk).1; have := S_0.out; have := S_1.out; have := S_2.out; have := S_3.out; have := S_4.out; have := S_5.out; have := S_6.out; have := S_7.out; have := S_8.out; have := S_9.out; have := S_10.out; have := S_11.out; have := S_12.out; have := S_13.out; have := S_14.out; have := S_15.out; have := S_16.out; have := S0_.out; omega))
          have a0_18 := a0_17.apart mg2 (fun e => by have := LTx2.out _ e; have := S_0.out; have := S_1.out; have := S_2.out; have := S_3.out; have := S_4.out; have := S_5.out; have := S_6.out; have := S_7.out; have := S_8.out; have := S_9.out; have := S_10.out; have := S_11.out; have := S_12.out; have := S_13.out; have := S_14.out; have := S_15.out; have := S_16.out; have := S0_.out; omega)
          have h0_18 := h0.below B_18.out
          have h1_18 := h1.below B_18.out
          have h2_18 := h2.below B_18.out
          have T_18 := hT.below B_18.out
          have o_18 := o_17.apart mg2 (fun k hk e => by have := LTo.out k hk; have := LTx2.out k e; have := S_0.out; have := S_1.out; have := S_2.out; have := S_3.out; have := S_4.out; have := S_5.out; have := S_6.out; have := S_7.out; have := S_8.out; have := S_9.out; have := S_10.out; have := S_11.out; have := S_12.out; have := S_13.out; have := S_14.out; have := S_15.out; have := S_16.out; omega)
          have x0_18 := x0_17.apart mg2 (fun k hk e => by have := LTx0.out k hk; have := LTx2.out k e; have := S_0.out; have := S_1.out; have := S_2.out; have := S_3.out; have := S_4.out; have := S_5.out; have := S_6.out; have := S_7.out; have := S_8.out; have := S_9.out; have := S_10.out; have := S_11.out; have := S_12.out; have := S_13.out; have := S_14.out; have := S_15.out; have := S_16.out; omega)
          have x0x_18 := x0x_17.apart mg2 (fun e => by have := LTx2.out _ e; have := S_0.out; have := S_1.out; have := S_2.out; have := S_3.out; have := S_4.out; have := S_5.out; have := S_6.out; have := S_7.out; have := S_8.out; have := S_9.out; have := S_10.out; have := S_11.out; have := S_12.out; have := S_13.out; have := S_14.out; have := S_15.out; have := S_16.out; have := S0_.out; omega)
          have x1_18 := x1_17.apart mg2 (fun k hk e => by have := LTx1.out k hk; have := LTx2.out k e; have := S_0.out; have := S_1.out; have := S_2.out; have := S_3.out; have := S_4.out; have := S_5.out; have := S_6.out; have := S_7.out; have := S_8.out; have := S_9.out; have := S_10.out; have := S_11.out; have := S_12.out; have := S_13.out; have := S_14.out; have := S_15.out; have := S_16.out; omega)
          have g_18 := g_17.apart mg2 (fun k hk e => by have := LTg.out k hk; have := LTx2.out k e; have := S_0.out; have := S_1.out; have := S_2.out; have := S_3.out; have := S_4.out; have := S_5.out; have := S_6.out; have := S_7.out; have := S_8.out; have := S_9.out; have := S_10.out; have := S_11.out; have := S_12.out; have := S_13.out; have := S_14.out; have := S_15.out; have := S_16.out; omega)
          clear a0_17 h0_17 h1_17 h2_17 T_17 o_17 x0_17 x0x_17 x1_17 g_17
          have x2_18 := mx2
          clear x0_18
          clear x1_18
          clear x2_18
          have f63 := a0_18.c0
          have f64 := a0_18.c1
          have f65 := x0x_18.c0
          have f66 := x0x_18.c1
          go_wp2_with fail
          refine (eq_true _ _ _ _ _ VX _ g_18.rd o_18.rd (by omega)).mono ?_
          rintro e w19 ⟨rfl, hb62⟩
          clear f63 f64 f65 f66
          have B_19 := Lib.hid (B_18.out.trans (hb62.mono B_18.out.size))
          have S_18 := Lib.hid hb62.size
          have a0_19 := a0_18.next hb62
          have h0_19 := h0_18.below hb62
          have h1_19 := h1_18.below hb62
          have h2_19 := h2_18.below hb62
          have T_19 := T_18.below hb62
          have o_19 := o_18.below hb62
          have x0x_19 := x0x_18.next hb62
          have g_19 := g_18.below hb62
          clear a0_18 h0_18 h1_18 h2_18 T_18 o_18 x0x_18 g_18
          have f67 := a0_19.c0
          have f68 := a0_19.c1
          have f69 := x0x_19.c0
          have f70 := x0x_19.c1
          go_wp2_with fail
          refine (mark_any _ _ _ _ _ 1 _ _ g_19 hVN (by omega)).mono ?_
          rintro e w20 ⟨rfl, mxg, mgg⟩
          clear f67 f68 f69 f70
          have S_19 := Lib.hid mgg.size
          have B_20 := Lib.hid (B_19.out.grown mgg B_19.out.size (fun k hk => by have := (LTg.out k hk).1; have := S_0.out; have := S_1.out; have := S_2.out; have := S_3.out; have := S_4.out; have := S_5.out; have := S_6.out; have := S_7.out; have := S_8.out; have := S_9.out; have := S_10.out; have := S_11.out; have := S_12.out; have := S_13.out; have := S_14.out; have := S_15.out; have := S_16.out; have := S_17.out; have := S_18.out; have := S0_.out; omega))
          have a0_20 := a0_19.apart mgg (fun e => by have := LTg.out _ e; have := S_0.out; have := S_1.out; have := S_2.out; have := S_3.out; have := S_4.out; have := S_5.out; have := S_6.out; have := S_7.out; have := S_8.out; have := S_9.out; have := S_10.out; have := S_11.out; have := S_12.out; have := S_13.out; have := S_14.out; have := S_15.out; have := S_16.out; have := S_17.out; have := S_18.out; have := S0_.out; omega)
          have h0_20 := h0.below B_20.out
          have h1_20 := h1.below B_20.out
          have h2_20 := h2.below B_20.out
          have T_20 := hT.below B_20.out
          have o_20 := o_19.apart mgg (fun k hk e => by have := LTo.out k hk; have := LTg.out k e; have := S_0.out; have := S_1.out; have := S_2.out; have := S_3.out; have := S_4.out; have := S_5.out; have := S_6.out; have := S_7.out; have := S_8.out; have := S_9.out; have := S_10.out; have := S_11.out; have := S_12.out; have := S_13.out; have := S_14.out; have := S_15.out; have := S_16.out; have := S_17.out; have := S_18.out; omega)
          have x0x_20 := x0x_19.apart mgg (fun e => by have := LTg.out _ e; have := S_0.out; have := S_1.out; have := S_2.out; have := S_3.out; have := S_4.out; have := S_5.out; have := S_6.out; have := S_7.out; have := S_8.out; have := S_9.out; have := S_10.out; have := S_11.out; have := S_12.out; have := S_13.out; have := S_14.out; have := S_15.out; have := S_16.out; have := S_17.out; have := S_18.out; have := S0_.out; omega)
          clear a0_19 h0_19 h1_19 h2_19 T_19 o_19 x0x_19
          clear g_19
          have g_20 := mxg
          have f71 := a0_20.c0
          have f72 := a0_20.c1
          have f73 := x0x_20.c0
          have f74 := x0x_20.c1
          go_wp2_with fail
          refine (held_any _ _ _ 1 _ g_20.rd hVN (by omega)).mono ?_
          rintro e w' ⟨rfl, rfl⟩
          clear f71 f72 f73 f74
          have f75 := a0_20.c0
          have f76 := a0_20.c1
          have f77 := x0x_20.c0
          have f78 := x0x_20.c1
          go_wp2_with fail
          refine (toAl_any L0 _ n0 _ xs0 _ h0_20 hn0).mono ?_
          rintro e w21 ⟨z0g, z0c, rfl, z0hg, z0ho, z0hb⟩
          clear f75 f76 f77 f78
          obtain ⟨z0A, z0e⟩ : ∃ z0A : Option Addr, z0A = (some ⟨z0g, 0, none⟩) := ⟨_, rfl⟩
          rw [← z0e] at z0ho ⊢
          clear z0e
          have LTz0 : Hid (∀ k, (z0A : Option Addr).map (·.block) = some k → w20.heap.size ≤ k ∧ k < w21.heap.size) := Lib.hid (fun k hk => z0ho.lt k hk)
          have B_21 := Lib.hid (B_20.out.trans (z0hb.mono B_20.out.size))
          have S_20 := Lib.hid z0hb.size
          have a0_21 := a0_20.next z0hb
          have h0_21 := h0_20.below z0hb
          have h1_21 := h1_20.below z0hb
          have h2_21 := h2_20.below z0hb
          have T_21 := T_20.below z0hb
          have o_21 := o_20.below z0hb
          have x0x_21 := x0x_20.next z0hb
          have g_21 := g_20.below z0hb
          clear a0_20 h0_20 h1_20 h2_20 T_20 o_20 x0x_20 g_20
          have z0_21 := z0ho
          have f79 := a0_21.c0
          have f80 := a0_21.c1
          have f81 := x0x_21.c0
          have f82 := x0x_21.c1
          go_wp2_with fail
          refine (toInt_any _ _ _ xs1 _ h1_21 hn1).mono ?_
          rintro e w22 ⟨z1c, rfl, z1ho, z1hb⟩
          clear f79 f80 f81 f82
          obtain ⟨z1A, z1e⟩ : ∃ z1A : Option Addr, z1A = (some ⟨w21.heap.size, 0, none⟩) := ⟨_, rfl⟩
          rw [← z1e] at z1ho ⊢
          clear z1e
          have LTz1 : Hid (∀ k, (z1A : Option Addr).map (·.block) = some k → w21.heap.size ≤ k ∧ k < w22.heap.size) := Lib.hid (fun k hk => z1ho.lt k hk)
          have B_22 := Lib.hid (B_21.out.trans (z1hb.mono B_21.out.size))
          have S_21 := Lib.hid z1hb.size
          have a0_22 := a0_21.next z1hb
          have h0_22 := h0_21.below z1hb
          have h1_22 := h1_21.below z1hb
          have h2_22 := h2_21.below z1hb
          have T_22 := T_21.below z1hb
          have o_22 := o_21.below z1hb
          have x0x_22 := x0x_21.next z1hb
          have g_22 := g_21.below z1hb
          have z0_22 := z0_21.below z1hb
          clear a0_21 h0_21 h1_21 h2_21 T_21 o_21 x0x_21 g_21 z0_21
          have z1_22 := z1ho
          have f83 := a0_22.c0
          have f84 := a0_22.c1
          have f85 := x0x_22.c0
          have f86 := x0x_22.c1
          go_wp2_with fail
          refine (toInt_any _ _ _ xs2 _ h2_22 hn2).mono ?_
          rintro e w23 ⟨z2c, rfl, z2ho, z2hb⟩
          clear f83 f84 f85 f86
          obtain ⟨z2A, z2e⟩ : ∃ z2A : Option Addr, z2A = (some ⟨w22.heap.size, 0, none⟩) := ⟨_, rfl⟩
          rw [← z2e] at z2ho ⊢
          clear z2e
          have LTz2 : Hid (∀ k, (z2A : Option Addr).map (·.block) = some k → w22.heap.size ≤ k ∧ k < w23.heap.size) := Lib.hid (fun k hk => z2ho.lt k hk)
          have B_23 := Lib.hid (B_22.out.trans (z2hb.mono B_22.out.size))
          have S_22 := Lib.hid z2hb.size
          have a0_23 := a0_22.next z2hb
          have h0_23 := h0_22.below z2hb
          have h1_23 := h1_22.below z2hb
          have h2_23 := h2_22.below z2hb
          have T_23 := T_22.below z2hb
          have o_23 := o_22.below z2hb
          have x0x_23 := x0x_22.next z2hb
          have g_23 := g_22.below z2hb
          have z0_23 := z0_22.below z2hb
          have z1_23 := z1_22.below z2hb
          clear a0_22 h0_22 h1_22 h2_22 T_22 o_22 x0x_22 g_22 z0_22 z1_22
          have z2_23 := z2ho
          have f87 := a0_23.c0
          have f88 := a0_23.c1
          have f89 := x0x_23.c0
          have f90 := x0x_23.c1
          go_wp2_with fail
          refine (himpl _ _ _ _ _ _ _ hn0 z0_23.rd hn1 z1_23.rd hn2 z2_23.rd T_23).mono ?_
          rintro e w24 ⟨qA, qc, rfl, qho, qhb⟩
          clear f87 f88 f89 f90
          have LTq : Hid (∀ k, (qA : Option Addr).map (·.block) = some k → w23.heap.size ≤ k ∧ k < w24.heap.size) := Lib.hid (fun k hk => qho.lt k hk)
          have B_24 := Lib.hid (B_23.out.trans (qhb.mono B_23.out.size))
          have S_23 := Lib.hid qhb.size
          have a0_24 := a0_23.next qhb
          have h0_24 := h0_23.below qhb
          have h1_24 := h1_23.below qhb
          have h2_24 := h2_23.below qhb
          have T_24 := T_23.below qhb
          have o_24 := o_23.below qhb
          have x0x_24 := x0x_23.next qhb
          have g_24 := g_23.below qhb
          have z0_24 := z0_23.below qhb
          have z1_24 := z1_23.below qhb
          have z2_24 := z2_23.below qhb
          clear a0_23 h0_23 h1_23 h2_23 T_23 o_23 x0x_23 g_23 z0_23 z1_23 z2_23
          have q_24 := qho
          clear z0_24
          clear z1_24
          clear z2_24
          have f92 := a0_24.c0
          have f93 := a0_24.c1
          have f94 := x0x_24.c0
          have f95 := x0x_24.c1
          go_wp2_with fail
          refine (eq_true _ _ _ _ _ VX _ q_24.rd o_24.rd (by omega)).mono ?_
          rintro e w25 ⟨rfl, hb91⟩
          clear f92 f93 f94 f95
          have B_25 := Lib.hid (B_24.out.trans (hb91.mono B_24.out.size))
          have S_24 := Lib.hid hb91.size
          have a0_25 := a0_24.next hb91
          have h0_25 := h0_24.below hb91
          have h1_25 := h1_24.below hb91
          have h2_25 := h2_24.below hb91
          have T_25 := T_24.below hb91
          have o_25 := o_24.below hb91
          have x0x_25 := x0x_24.next hb91
          have g_25 := g_24.below hb91
          have q_25 := q_24.below hb91
          clear a0_24 h0_24 h1_24 h2_24 T_24 o_24 x0x_24 g_24 q_24
          have f96 := a0_25.c0
          have f97 := a0_25.c1
          have f98 := x0x_25.c0
          have f99 := x0x_25.c1
          go_wp2_with fail
          refine (held_any _ _ _ 1 _ g_25.rd hVN (by omega)).mono ?_
          rintro e w' ⟨rfl, rfl⟩
          clear f96 f97 f98 f99
          have f100 := a0_25.c0
          have f101 := a0_25.c1
          have f102 := x0x_25.c0
          have f103 := x0x_25.c1
          go_wp2_with fail
          go_ret
          exact ⟨rfl, B_25.out⟩
      · go_enter Tryd.func7, Tryd.ntmps7
        go_wp2_with fail
        rw [← hw0]
        refine (szno_any L0 A0 n0 c0 _ (by omega) hm0).mono ?_
        rintro e w1 ⟨rfl, hz0⟩
        go_wp2_with fail
        go_ret
        exact ⟨rfl, B_0.out.trans (hz0.mono B_0.out.size)⟩
    · go_enter Tryd.func7, Tryd.ntmps7
      go_wp2_with fail
      go_ret
      exact ⟨rfl, below1 _ _⟩
  · go_enter Tryd.func7, Tryd.ntmps7
    go_wp2_with fail
    go_ret
    exact ⟨rfl, below1 _ _⟩
end Go.Proofs.YtbleimcajpelhaaDoor

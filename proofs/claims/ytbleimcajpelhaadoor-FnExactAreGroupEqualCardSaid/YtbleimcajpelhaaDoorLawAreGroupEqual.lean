/-
  The walk of FnExactAreGroupEqual, over contracts of both sides.
-/
import Derived.Test.YtbleimcajpelhaaDoorGrH
import Derived.Deep.CutRange
import Derived.Deep.RegionWith
namespace Go.Proofs.YtbleimcajpelhaaDoor
open Go.RowKit
set_option linter.unusedVariables false
set_option maxRecDepth 100000
set_option maxHeartbeats 3200000 in
theorem lawAreGroupEqual (L0 : Int) (A0 : Option Addr) (n0 c0 : Nat) (xs0 : List Int) (A1 : Option Addr) (n1 c1 : Nat) (xs1 : List Int) (A2 : Option Addr) (n2 c2 : Nat) (xs2 : List Int) (w : World) (hL01 : -9223372036854775808 ≤ L0) (hL02 : L0 ≤ 9223372036854775807) (h0 : Rd w A0 n0 xs0) (hwf0 : Wf xs0) (hl0 : n0 ≤ maxLen) (h1 : Rd w A1 n1 xs1) (hwf1 : Wf xs1) (hl1 : n1 ≤ maxLen) (h2 : Rd w A2 n2 xs2) (hwf2 : Wf xs2) (hl2 : n2 ≤ maxLen) (hT : Tab w) (V : Bool) (C : Int)
    (hspec : ∀ (B0 : Option Addr) (d0 : Nat) (B1 : Option Addr) (d1 : Nat) (B2 : Option Addr) (d2 : Nat) (w' : World), n0 ≤ 1048576 → Rd w' B0 n0 xs0 → n1 ≤ 1048576 → Rd w' B1 n1 xs1 → n2 ≤ 1048576 → Rd w' B2 n2 xs2 → Calls Tryd.prog 28 #[.agg #[.int .i64 L0, .slice B0 n0 d0], .slice B1 n1 d1, .slice B2 n2 d2] w' (fun e w'' => e = .returned (.tuple #[.bool V, .int .i64 C]) ∧ Below w'.heap.size w' w''))
    (himpl : ∀ (B0 : Option Addr) (d0 : Nat) (B1 : Option Addr) (d1 : Nat) (B2 : Option Addr) (d2 : Nat) (w' : World), n0 ≤ 1048576 → Rd w' B0 n0 xs0 → n1 ≤ 1048576 → Rd w' B1 n1 xs1 → n2 ≤ 1048576 → Rd w' B2 n2 xs2 → Tab w' → Calls Tryd.prog 29 #[.agg #[.int .i64 L0, .slice B0 n0 d0], .slice B1 n1 d1, .slice B2 n2 d2] w' (fun e w'' => e = .returned (.tuple #[.bool V, .int .i64 C]) ∧ Below w'.heap.size w' w'')) :
    Calls Tryd.prog 6 #[.agg #[.int .i64 L0, .slice A0 n0 c0], .slice A1 n1 c1, .slice A2 n2 c2] w fun e w' => e = .returned (.bool true) ∧ Below w.heap.size w w' := by
  unfold maxLen at hl0
  have hm0 : n0 ≤ 9223372036854775807 := by omega
  unfold maxLen at hl1
  have hm1 : n1 ≤ 9223372036854775807 := by omega
  unfold maxLen at hl2
  have hm2 : n2 ≤ 9223372036854775807 := by omega
  obtain ⟨w0, hw0⟩ : ∃ w0 : World, w0 = (w.alloc (.cells #[.int .i64 L0, .slice A0 n0 c0] 24)) := ⟨_, rfl⟩
  have B_0 := Lib.hid (show Below w.heap.size w w0 by rw [hw0]; exact below1 w _)
  have S0_ : Hid (w0.heap.size = w.heap.size + 1) := Lib.hid (by rw [hw0]; simp)
  have a0_0 : Box 24 w0 (w.heap.size) L0 A0 n0 c0 := by rw [hw0]; exact (box_new 24 w L0 A0 n0 c0)
  have h0_0 := h0.below B_0.out
  have h1_0 := h1.below B_0.out
  have h2_0 := h2.below B_0.out
  have T_0 := hT.below B_0.out
  by_cases hs1 : n1 ≤ 1048576
  · by_cases hs2 : n2 ≤ 1048576
    · by_cases hs0 : n0 ≤ 1048576
      · have hn0 : n0 ≤ 1048576 := by omega
        have hn1 : n1 ≤ 1048576 := by omega
        have hn2 : n2 ≤ 1048576 := by omega
        go_enter Tryd.func6, Tryd.ntmps6
        go_wp2_with fail
        rw [← hw0]
        refine (sz_law L0 A0 n0 c0 _ hs0).mono ?_
        rintro e w1 ⟨rfl, hz0⟩
        have B_1 := Lib.hid (B_0.out.trans (hz0.mono B_0.out.size))
        have S_0 := Lib.hid hz0.size
        have a0_1 := a0_0.next hz0
        have h0_1 := h0_0.below hz0
        have h1_1 := h1_0.below hz0
        have h2_1 := h2_0.below hz0
        have T_1 := T_0.below hz0
        clear a0_0 h0_0 h1_0 h2_0 T_0
        have f1 := a0_1.c0
        have f2 := a0_1.c1
        go_wp2_with fail
        refine (toAl_any L0 _ n0 _ xs0 _ h0_1 hn0).mono ?_
        rintro e w2 ⟨s0g, s0c, rfl, s0hg, s0ho, s0hb⟩
        clear f1 f2
        obtain ⟨s0A, s0e⟩ : ∃ s0A : Option Addr, s0A = (some ⟨s0g, 0, none⟩) := ⟨_, rfl⟩
        rw [← s0e] at s0ho ⊢
        clear s0e
        have LTs0 : Hid (∀ k, (s0A : Option Addr).map (·.block) = some k → w1.heap.size ≤ k ∧ k < w2.heap.size) := Lib.hid (fun k hk => s0ho.lt k hk)
        have B_2 := Lib.hid (B_1.out.trans (s0hb.mono B_1.out.size))
        have S_1 := Lib.hid s0hb.size
        have a0_2 := a0_1.next s0hb
        have h0_2 := h0_1.below s0hb
        have h1_2 := h1_1.below s0hb
        have h2_2 := h2_1.below s0hb
        have T_2 := T_1.below s0hb
        clear a0_1 h0_1 h1_1 h2_1 T_1
        have s0_2 := s0ho
        have f3 := a0_2.c0
        have f4 := a0_2.c1
        go_wp2_with fail
        refine (toInt_any _ _ _ xs1 _ h1_2 hn1).mono ?_
        rintro e w3 ⟨s1c, rfl, s1ho, s1hb⟩
        clear f3 f4
        obtain ⟨s1A, s1e⟩ : ∃ s1A : Option Addr, s1A = (some ⟨w2.heap.size, 0, none⟩) := ⟨_, rfl⟩
        rw [← s1e] at s1ho ⊢
        clear s1e
        have LTs1 : Hid (∀ k, (s1A : Option Addr).map (·.block) = some k → w2.heap.size ≤ k ∧ k < w3.heap.size) := Lib.hid (fun k hk => s1ho.lt k hk)
        have B_3 := Lib.hid (B_2.out.trans (s1hb.mono B_2.out.size))
        have S_2 := Lib.hid s1hb.size
        have a0_3 := a0_2.next s1hb
        have h0_3 := h0_2.below s1hb
        have h1_3 := h1_2.below s1hb
        have h2_3 := h2_2.below s1hb
        have T_3 := T_2.below s1hb
        have s0_3 := s0_2.below s1hb
        clear a0_2 h0_2 h1_2 h2_2 T_2 s0_2
        have s1_3 := s1ho
        have f5 := a0_3.c0
        have f6 := a0_3.c1
        go_wp2_with fail
        refine (toInt_any _ _ _ xs2 _ h2_3 hn2).mono ?_
        rintro e w4 ⟨s2c, rfl, s2ho, s2hb⟩
        clear f5 f6
        obtain ⟨s2A, s2e⟩ : ∃ s2A : Option Addr, s2A = (some ⟨w3.heap.size, 0, none⟩) := ⟨_, rfl⟩
        rw [← s2e] at s2ho ⊢
        clear s2e
        have LTs2 : Hid (∀ k, (s2A : Option Addr).map (·.block) = some k → w3.heap.size ≤ k ∧ k < w4.heap.size) := Lib.hid (fun k hk => s2ho.lt k hk)
        have B_4 := Lib.hid (B_3.out.trans (s2hb.mono B_3.out.size))
        have S_3 := Lib.hid s2hb.size
        have a0_4 := a0_3.next s2hb
        have h0_4 := h0_3.below s2hb
        have h1_4 := h1_3.below s2hb
        have h2_4 := h2_3.below s2hb
        have T_4 := T_3.below s2hb
        have s0_4 := s0_3.below s2hb
        have s1_4 := s1_3.below s2hb
        clear a0_3 h0_3 h1_3 h2_3 T_3 s0_3 s1_3
        have s2_4 := s2ho
        have f7 := a0_4.c0
        have f8 := a0_4.c1
        go_wp2_with fail
        refine (hspec _ _ _ _ _ _ _ hn0 s0_4.rd hn1 s1_4.rd hn2 s2_4.rd).mono ?_
        rintro e w5 ⟨rfl, ohb⟩
        clear f7 f8
        have B_5 := Lib.hid (B_4.out.trans (ohb.mono B_4.out.size))
        have S_4 := Lib.hid ohb.size
        have a0_5 := a0_4.next ohb
        have h0_5 := h0_4.below ohb
        have h1_5 := h1_4.below ohb
        have h2_5 := h2_4.below ohb
        have T_5 := T_4.below ohb
        have s0_5 := s0_4.below ohb
        have s1_5 := s1_4.below ohb
        have s2_5 := s2_4.below ohb
        clear a0_4 h0_4 h1_4 h2_4 T_4 s0_4 s1_4 s2_4
        clear s0_5
        clear s1_5
        clear s2_5
        have f9 := a0_5.c0
        have f10 := a0_5.c1
        go_wp2_with fail
        refine (toAl_any L0 _ n0 _ xs0 _ h0_5 hn0).mono ?_
        rintro e w6 ⟨x0g, x0c, rfl, x0hg, x0ho, x0hb⟩
        clear f9 f10
        obtain ⟨x0A, x0e⟩ : ∃ x0A : Option Addr, x0A = (some ⟨x0g, 0, none⟩) := ⟨_, rfl⟩
        rw [← x0e] at x0ho ⊢
        clear x0e
        have LTx0 : Hid (∀ k, (x0A : Option Addr).map (·.block) = some k → w5.heap.size ≤ k ∧ k < w6.heap.size) := Lib.hid (fun k hk => x0ho.lt k hk)
        have B_6 := Lib.hid (B_5.out.trans (x0hb.mono B_5.out.size))
        have S_5 := Lib.hid x0hb.size
        have a0_6 := a0_5.next x0hb
        have h0_6 := h0_5.below x0hb
        have h1_6 := h1_5.below x0hb
        have h2_6 := h2_5.below x0hb
        have T_6 := T_5.below x0hb
        clear a0_5 h0_5 h1_5 h2_5 T_5
        have x0_6 := x0ho
        have kp_6 := below1 w6 (.cells #[.int .i64 L0, .slice x0A n0 x0c] 27)
        have f11 := a0_6.c0
        have f12 := a0_6.c1
        have f13 := (a0_6.next kp_6).c0
        have f14 := (a0_6.next kp_6).c1
        go_wp2_with fail
        refine (toInt_any _ _ _ xs1 _ (h1_6.below kp_6) hn1).mono ?_
        rintro e w7 ⟨x1c, rfl, x1ho, x1hb⟩
        clear f11 f12 f13 f14
        obtain ⟨x1A, x1e⟩ : ∃ x1A : Option Addr, x1A = (some ⟨(w6.alloc (.cells #[.int .i64 L0, .slice x0A n0 x0c] 27)).heap.size, 0, none⟩) := ⟨_, rfl⟩
        rw [← x1e] at x1ho ⊢
        clear x1e
        have LTx1 : Hid (∀ k, (x1A : Option Addr).map (·.block) = some k → w6.heap.size + 1 ≤ k ∧ k < w7.heap.size) := Lib.hid (fun k hk => by have h9 := x1ho.lt k hk; have e9 : (w6.alloc (.cells #[.int .i64 L0, .slice x0A n0 x0c] 27)).heap.size = w6.heap.size + 1 := (by simp); omega)
        have hbb_6 := kp_6.trans (x1hb.mono kp_6.size)
        have B_7 := Lib.hid (B_6.out.trans (hbb_6.mono B_6.out.size))
        have S_6 : Hid (w6.heap.size + 1 ≤ w7.heap.size) := Lib.hid (by have h9 := x1hb.size; have e9 : (w6.alloc (.cells #[.int .i64 L0, .slice x0A n0 x0c] 27)).heap.size = w6.heap.size + 1 := (by simp); omega)
        have a0_7 := a0_6.next hbb_6
        have h0_7 := h0_6.below hbb_6
        have h1_7 := h1_6.below hbb_6
        have h2_7 := h2_6.below hbb_6
        have T_7 := T_6.below hbb_6
        have x0_7 := x0_6.below hbb_6
        have x0x_7 := (box_new 27 w6 L0 x0A n0 x0c).next x1hb
        clear a0_6 h0_6 h1_6 h2_6 T_6 x0_6
        have x1_7 := x1ho.mono kp_6.size
        have f15 := a0_7.c0
        have f16 := a0_7.c1
        have f17 := x0x_7.c0
        have f18 := x0x_7.c1
        go_wp2_with fail
        refine (toInt_any _ _ _ xs2 _ h2_7 hn2).mono ?_
        rintro e w8 ⟨x2c, rfl, x2ho, x2hb⟩
        clear f15 f16 f17 f18
        obtain ⟨x2A, x2e⟩ : ∃ x2A : Option Addr, x2A = (some ⟨w7.heap.size, 0, none⟩) := ⟨_, rfl⟩
        rw [← x2e] at x2ho ⊢
        clear x2e
        have LTx2 : Hid (∀ k, (x2A : Option Addr).map (·.block) = some k → w7.heap.size ≤ k ∧ k < w8.heap.size) := Lib.hid (fun k hk => x2ho.lt k hk)
        have B_8 := Lib.hid (B_7.out.trans (x2hb.mono B_7.out.size))
        have S_7 := Lib.hid x2hb.size
        have a0_8 := a0_7.next x2hb
        have h0_8 := h0_7.below x2hb
        have h1_8 := h1_7.below x2hb
        have h2_8 := h2_7.below x2hb
        have T_8 := T_7.below x2hb
        have x0_8 := x0_7.below x2hb
        have x0x_8 := x0x_7.next x2hb
        have x1_8 := x1_7.below x2hb
        clear a0_7 h0_7 h1_7 h2_7 T_7 x0_7 x0x_7 x1_7
        have x2_8 := x2ho
        have f19 := a0_8.c0
        have f20 := a0_8.c1
        have f21 := x0x_8.c0
        have f22 := x0x_8.c1
        go_wp2_with fail
        refine (himpl _ _ _ _ _ _ _ hn0 x0_8.rd hn1 x1_8.rd hn2 x2_8.rd T_8).mono ?_
        rintro e w9 ⟨rfl, ghb⟩
        clear f19 f20 f21 f22
        have B_9 := Lib.hid (B_8.out.trans (ghb.mono B_8.out.size))
        have S_8 := Lib.hid ghb.size
        have a0_9 := a0_8.next ghb
        have h0_9 := h0_8.below ghb
        have h1_9 := h1_8.below ghb
        have h2_9 := h2_8.below ghb
        have T_9 := T_8.below ghb
        have x0_9 := x0_8.below ghb
        have x0x_9 := x0x_8.next ghb
        have x1_9 := x1_8.below ghb
        have x2_9 := x2_8.below ghb
        clear a0_8 h0_8 h1_8 h2_8 T_8 x0_8 x0x_8 x1_8 x2_8
        have hvv : (V == V) = true := by simp
        have f23 := a0_9.c0
        have f24 := a0_9.c1
        have f25 := x0x_9.c0
        have f26 := x0x_9.c1
        go_upto_region 16 with fail
        go_cut [61] from 57 to 61 (fun v wx => v = .bool false ∧ Below w9.heap.size w9 wx)
        case first =>
          have Z0 : ∀ (ww : World), Below w9.heap.size w9 ww → Calls Tryd.prog 16 #[.agg #[.int .i64 L0, .slice A0 n0 c0]] ww fun e w' => ∃ g c', e = .returned (.agg #[.int .i64 L0, .slice (some ⟨g, 0, none⟩) n0 c']) ∧ Own 2 w' ww.heap.size (some ⟨g, 0, none⟩) n0 c' xs0 ∧ Below ww.heap.size ww w' := fun ww hww => (toAl_any L0 _ n0 _ xs0 _ (h0_9.below hww) hn0).mono fun e w' ⟨g, c', he, _, ho, hb⟩ => ⟨g, c', he, ho, hb⟩
          have hdr : Below w9.heap.size w9 w9.drew := (Below.refl _ _).drew
          have rc0 := (x0x_9.next hdr).c0
          have tc0 := (a0_9.next hdr).c0
          have rc1 := (x0x_9.next hdr).c1
          have tc1 := (a0_9.next hdr).c1
          go_region_with (first | (go_at_call 16; refine (Z0 _ hdr).mono ?_; rintro e wz ⟨gz, cz, rfl, hoz, hbz⟩; have hbz2 := hdr.trans (hbz.mono hdr.size); have q0 := (x0x_9.next hbz2).c0; have q1 := (x0x_9.next hbz2).c1) | (go_at_call 19; refine (eqAl_true L0 _ _ _ _ _ xs0 _ (x0_9.below hbz2).rd hoz.rd hm0).mono ?_; rintro e wy ⟨rfl, hby⟩; have hby2 := hbz2.trans (hby.mono hbz2.size)))
          all_goals (go_wp2_with fail; go_meet; exact ⟨rfl, hby2⟩)
        case rest =>
          obtain ⟨rfl, hcb⟩ := hcut
          obtain ⟨w10, rfl⟩ : ∃ w9 : World, w9 = wc := ⟨_, rfl⟩
          clear f23 f24 f25 f26
          have B_10 := Lib.hid (B_9.out.trans (hcb.mono B_9.out.size))
          have S_9 := Lib.hid hcb.size
          have a0_10 := a0_9.next hcb
          have h0_10 := h0_9.below hcb
          have h1_10 := h1_9.below hcb
          have h2_10 := h2_9.below hcb
          have T_10 := T_9.below hcb
          have x0_10 := x0_9.below hcb
          have x0x_10 := x0x_9.next hcb
          have x1_10 := x1_9.below hcb
          have x2_10 := x2_9.below hcb
          clear a0_9 h0_9 h1_9 h2_9 T_9 x0_9 x0x_9 x1_9 x2_9
          have f27 := a0_10.c0
          have f28 := a0_10.c1
          have f29 := x0x_10.c0
          have f30 := x0x_10.c1
          go_wp2_with fail
          refine (toInt_any _ _ _ xs1 _ h1_10 hn1).mono ?_
          rintro e w11 ⟨y1c, rfl, y1ho, y1hb⟩
          clear f27 f28 f29 f30
          obtain ⟨y1A, y1e⟩ : ∃ y1A : Option Addr, y1A = (some ⟨w10.heap.size, 0, none⟩) := ⟨_, rfl⟩
          rw [← y1e] at y1ho ⊢
          clear y1e
          have LTy1 : Hid (∀ k, (y1A : Option Addr).map (·.block) = some k → w10.heap.size ≤ k ∧ k < w11.heap.size) := Lib.hid (fun k hk => y1ho.lt k hk)
          have B_11 := Lib.hid (B_10.out.trans (y1hb.mono B_10.out.size))
          have S_10 := Lib.hid y1hb.size
          have a0_11 := a0_10.next y1hb
          have h0_11 := h0_10.below y1hb
          have h1_11 := h1_10.below y1hb
          have h2_11 := h2_10.below y1hb
          have T_11 := T_10.below y1hb
          have x0_11 := x0_10.below y1hb
          have x0x_11 := x0x_10.next y1hb
          have x1_11 := x1_10.below y1hb
          have x2_11 := x2_10.below y1hb
          clear a0_10 h0_10 h1_10 h2_10 T_10 x0_10 x0x_10 x1_10 x2_10
          have y1_11 := y1ho
          have f32 := a0_11.c0
          have f33 := a0_11.c1
          have f34 := x0x_11.c0
          have f35 := x0x_11.c1
          go_wp2_with fail
          refine (eq_true _ _ _ _ _ xs1 _ x1_11.rd y1_11.rd (by omega)).mono ?_
          rintro e w12 ⟨rfl, hb31⟩
          clear f32 f33 f34 f35
          have B_12 := Lib.hid (B_11.out.trans (hb31.mono B_11.out.size))
          have S_11 := Lib.hid hb31.size
          have a0_12 := a0_11.next hb31
          have h0_12 := h0_11.below hb31
          have h1_12 := h1_11.below hb31
          have h2_12 := h2_11.below hb31
          have T_12 := T_11.below hb31
          have x0_12 := x0_11.below hb31
          have x0x_12 := x0x_11.next hb31
          have x1_12 := x1_11.below hb31
          have x2_12 := x2_11.below hb31
          have y1_12 := y1_11.below hb31
          clear a0_11 h0_11 h1_11 h2_11 T_11 x0_11 x0x_11 x1_11 x2_11 y1_11
          clear y1_12
          have f36 := a0_12.c0
          have f37 := a0_12.c1
          have f38 := x0x_12.c0
          have f39 := x0x_12.c1
          go_wp2_with fail
          refine (toInt_any _ _ _ xs2 _ h2_12 hn2).mono ?_
          rintro e w13 ⟨y2c, rfl, y2ho, y2hb⟩
          clear f36 f37 f38 f39
          obtain ⟨y2A, y2e⟩ : ∃ y2A : Option Addr, y2A = (some ⟨w12.heap.size, 0, none⟩) := ⟨_, rfl⟩
          rw [← y2e] at y2ho ⊢
          clear y2e
          have LTy2 : Hid (∀ k, (y2A : Option Addr).map (·.block) = some k → w12.heap.size ≤ k ∧ k < w13.heap.size) := Lib.hid (fun k hk => y2ho.lt k hk)
          have B_13 := Lib.hid (B_12.out.trans (y2hb.mono B_12.out.size))
          have S_12 := Lib.hid y2hb.size
          have a0_13 := a0_12.next y2hb
          have h0_13 := h0_12.below y2hb
          have h1_13 := h1_12.below y2hb
          have h2_13 := h2_12.below y2hb
          have T_13 := T_12.below y2hb
          have x0_13 := x0_12.below y2hb
          have x0x_13 := x0x_12.next y2hb
          have x1_13 := x1_12.below y2hb
          have x2_13 := x2_12.below y2hb
          clear a0_12 h0_12 h1_12 h2_12 T_12 x0_12 x0x_12 x1_12 x2_12
          have y2_13 := y2ho
          have f41 := a0_13.c0
          have f42 := a0_13.c1
          have f43 := x0x_13.c0
          have f44 := x0x_13.c1
          go_wp2_with fail
          refine (eq_true _ _ _ _ _ xs2 _ x2_13.rd y2_13.rd (by omega)).mono ?_
          rintro e w14 ⟨rfl, hb40⟩
          clear f41 f42 f43 f44
          have B_14 := Lib.hid (B_13.out.trans (hb40.mono B_13.out.size))
          have S_13 := Lib.hid hb40.size
          have a0_14 := a0_13.next hb40
          have h0_14 := h0_13.below hb40
          have h1_14 := h1_13.below hb40
          have h2_14 := h2_13.below hb40
          have T_14 := T_13.below hb40
          have x0_14 := x0_13.below hb40
          have x0x_14 := x0x_13.next hb40
          have x1_14 := x1_13.below hb40
          have x2_14 := x2_13.below hb40
          have y2_14 := y2_13.below hb40
          clear a0_13 h0_13 h1_13 h2_13 T_13 x0_13 x0x_13 x1_13 x2_13 y2_13
          clear y2_14
          have f45 := a0_14.c0
          have f46 := a0_14.c1
          have f47 := x0x_14.c0
          have f48 := x0x_14.c1
          go_wp2_with fail
          go_ret
          exact ⟨rfl, B_14.out⟩
      · go_enter Tryd.func6, Tryd.ntmps6
        go_wp2_with fail
        rw [← hw0]
        refine (szno_any L0 A0 n0 c0 _ (by omega) hm0).mono ?_
        rintro e w1 ⟨rfl, hz0⟩
        go_wp2_with fail
        go_ret
        exact ⟨rfl, B_0.out.trans (hz0.mono B_0.out.size)⟩
    · go_enter Tryd.func6, Tryd.ntmps6
      go_wp2_with fail
      go_ret
      exact ⟨rfl, below1 _ _⟩
  · go_enter Tryd.func6, Tryd.ntmps6
    go_wp2_with fail
    go_ret
    exact ⟨rfl, below1 _ _⟩
end Go.Proofs.YtbleimcajpelhaaDoor

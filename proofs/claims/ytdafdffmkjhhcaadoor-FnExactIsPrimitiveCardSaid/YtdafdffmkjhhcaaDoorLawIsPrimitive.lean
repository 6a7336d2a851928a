/-
  The walk of FnExactIsPrimitive, over contracts of both sides.
-/
import Derived.Test.YtdafdffmkjhhcaaDoorRtA
import Derived.Deep.CutRange
import Derived.Deep.RegionWith
namespace Go.Proofs.YtdafdffmkjhhcaaDoor
open Go.RowKit
set_option linter.unusedVariables false
set_option maxRecDepth 100000
set_option maxHeartbeats 3200000 in
theorem lawIsPrimitive (L0 : Int) (A0 : Option Addr) (n0 c0 : Nat) (xs0 : List Int) (A1 : Option Addr) (n1 c1 : Nat) (xs1 : List Int) (w : World) (hL01 : -9223372036854775808 ≤ L0) (hL02 : L0 ≤ 9223372036854775807) (h0 : Rd w A0 n0 xs0) (hwf0 : Wf xs0) (hl0 : n0 ≤ maxLen) (h1 : Rd w A1 n1 xs1) (hwf1 : Wf xs1) (hl1 : n1 ≤ maxLen) (hT : Tab w) (V : Bool) (C : Int)
    (hspec : ∀ (B0 : Option Addr) (d0 : Nat) (B1 : Option Addr) (d1 : Nat) (w' : World), n0 ≤ 1048576 → Rd w' B0 n0 xs0 → n1 ≤ 1048576 → Rd w' B1 n1 xs1 → Calls Tryd.prog 42 #[.agg #[.int .i64 L0, .slice B0 n0 d0], .slice B1 n1 d1] w' (fun e w'' => e = .returned (.tuple #[.bool V, .int .i64 C]) ∧ Below w'.heap.size w' w''))
    (himpl : ∀ (B0 : Option Addr) (d0 : Nat) (B1 : Option Addr) (d1 : Nat) (w' : World), n0 ≤ 1048576 → Rd w' B0 n0 xs0 → n1 ≤ 1048576 → Rd w' B1 n1 xs1 → Tab w' → Calls Tryd.prog 43 #[.agg #[.int .i64 L0, .slice B0 n0 d0], .slice B1 n1 d1] w' (fun e w'' => e = .returned (.tuple #[.bool V, .int .i64 C]) ∧ Below w'.heap.size w' w'')) :
    Calls Tryd.prog 11 #[.agg #[.int .i64 L0, .slice A0 n0 c0], .slice A1 n1 c1] w fun e w' => e = .returned (.bool true) ∧ Below w.heap.size w w' := by
  unfold maxLen at hl0
  have hm0 : n0 ≤ 9223372036854775807 := by omega
  unfold maxLen at hl1
  have hm1 : n1 ≤ 9223372036854775807 := by omega
  obtain ⟨w0, hw0⟩ : ∃ w0 : World, w0 = (w.alloc (.cells #[.int .i64 L0, .slice A0 n0 c0] 24)) := ⟨_, rfl⟩
  have B_0 := Lib.hid (show Below w.heap.size w w0 by rw [hw0]; exact below1 w _)
  have S0_ : Hid (w0.heap.size = w.heap.size + 1) := Lib.hid (by rw [hw0]; simp)
  have a0_0 : Box 24 w0 (w.heap.size) L0 A0 n0 c0 := by rw [hw0]; have h9 := box_new 24 w L0 A0 n0 c0; have h8 : Box 24 (w.alloc (.cells #[.int .i64 L0, .slice A0 n0 c0] 24)) (w.heap.size) L0 A0 n0 c0 := (by simpa using h9); exact h8
  have h0_0 := h0.below B_0.out
  have h1_0 := h1.below B_0.out
  have T_0 := hT.below B_0.out
  by_cases hs1 : n1 ≤ 1048576
  · by_cases hs0 : n0 ≤ 1048576
    · have hn0 : n0 ≤ 1048576 := by omega
      have hn1 : n1 ≤ 1048576 := by omega
      go_enter Tryd.func11, Tryd.ntmps11
      go_wp2_with fail
      rw [← hw0]
      refine (sz_law L0 A0 n0 c0 _ hs0).mono ?_
      rintro e w1 ⟨rfl, hz0⟩
      have B_1 := Lib.hid (B_0.out.trans (hz0.mono B_0.out.size))
      have S_0 := Lib.hid hz0.size
      have a0_1 := a0_0.next hz0
      have h0_1 := h0_0.below hz0
      have h1_1 := h1_0.below hz0
      have T_1 := T_0.below hz0
      clear a0_0 h0_0 h1_0 T_0
      have f1 := a0_1.c0
      have f2 := a0_1.c1
      go_wp2_with fail
      refine (toAl_any L0 _ n0 _ xs0 _ h0_1 hn0).mono ?_
      rintro e w2 ⟨s0g, s0c, rfl, s0hg, s0ho, s0hb⟩
      clear f1 f2
      obtain ⟨s0A, s0e⟩ : ∃ s0A : Option Addr, s0A = (some ⟨s0g, 0, none⟩) := ⟨_, rfl⟩
      rw [← s0e] at s0ho ⊢
      clear s0e
      have LTs0 : Hid (∀ k, (s0A : Option Addr).map (·.block) = some k → w1.heap.size ≤ k ∧ k < w2.heap.size) := Lib.hid (fun k hk => s0ho.lt k hk)
      have B_2 := Lib.hid (B_1.out.trans (s0hb.mono B_1.out.size))
      have S_1 := Lib.hid s0hb.size
      have a0_2 := a0_1.next s0hb
      have h0_2 := h0_1.below s0hb
      have h1_2 := h1_1.below s0hb
      have T_2 := T_1.below s0hb
      clear a0_1 h0_1 h1_1 T_1
      have s0_2 := s0ho
      have f3 := a0_2.c0
      have f4 := a0_2.c1
      go_wp2_with fail
      refine (toInt_any _ _ _ xs1 _ h1_2 hn1).mono ?_
      rintro e w3 ⟨s1c, rfl, s1ho, s1hb⟩
      clear f3 f4
      obtain ⟨s1A, s1e⟩ : ∃ s1A : Option Addr, s1A = (some ⟨w2.heap.size, 0, none⟩) := ⟨_, rfl⟩
      rw [← s1e] at s1ho ⊢
      clear s1e
      have LTs1 : Hid (∀ k, (s1A : Option Addr).map (·.block) = some k → w2.heap.size ≤ k ∧ k < w3.heap.size) := Lib.hid (fun k hk => s1ho.lt k hk)
      have B_3 := Lib.hid (B_2.out.trans (s1hb.mono B_2.out.size))
      have S_2 := Lib.hid s1hb.size
      have a0_3 := a0_2.next s1hb
      have h0_3 := h0_2.below s1hb
      have h1_3 := h1_2.below s1hb
      have T_3 := T_2.below s1hb
      have s0_3 := s0_2.below s1hb
      clear a0_2 h0_2 h1_2 T_2 s0_2
      have s1_3 := s1ho
      have f5 := a0_3.c0
      have f6 := a0_3.c1
      go_wp2_with fail
      refine (hspec _ _ _ _ _ hn0 s0_3.rd hn1 s1_3.rd).mono ?_
      rintro e w4 ⟨rfl, ohb⟩
      clear f5 f6
      have B_4 := Lib.hid (B_3.out.trans (ohb.mono B_3.out.size))
      have S_3 := Lib.hid ohb.size
      have a0_4 := a0_3.next ohb
      have h0_4 := h0_3.below ohb
      have h1_4 := h1_3.below ohb
      have T_4 := T_3.below ohb
      have s0_4 := s0_3.below ohb
      have s1_4 := s1_3.below ohb
      clear a0_3 h0_3 h1_3 T_3 s0_3 s1_3
      clear s0_4
      clear s1_4
      have f7 := a0_4.c0
      have f8 := a0_4.c1
      go_wp2_with fail
      refine (toAl_any L0 _ n0 _ xs0 _ h0_4 hn0).mono ?_
      rintro e w5 ⟨x0g, x0c, rfl, x0hg, x0ho, x0hb⟩
      clear f7 f8
      obtain ⟨x0A, x0e⟩ : ∃ x0A : Option Addr, x0A = (some ⟨x0g, 0, none⟩) := ⟨_, rfl⟩
      rw [← x0e] at x0ho ⊢
      clear x0e
      have LTx0 : Hid (∀ k, (x0A : Option Addr).map (·.block) = some k → w4.heap.size ≤ k ∧ k < w5.heap.size) := Lib.hid (fun k hk => x0ho.lt k hk)
      have B_5 := Lib.hid (B_4.out.trans (x0hb.mono B_4.out.size))
      have S_4 := Lib.hid x0hb.size
      have a0_5 := a0_4.next x0hb
      have h0_5 := h0_4.below x0hb
      have h1_5 := h1_4.below x0hb
      have T_5 := T_4.below x0hb
      clear a0_4 h0_4 h1_4 T_4
      have x0_5 := x0ho
      have kp_5 := below1 w5 (.cells #[.int .i64 L0, .slice x0A n0 x0c] 29)
      have f9 := a0_5.c0
      have f10 := a0_5.c1
      have f11 := (a0_5.next kp_5).c0
      have f12 := (a0_5.next kp_5).c1
      go_wp2_with fail
      refine (toInt_any _ _ _ xs1 _ (h1_5.below kp_5) hn1).mono ?_
      rintro e w6 ⟨x1c, rfl, x1ho, x1hb⟩
      clear f9 f10 f11 f12
      obtain ⟨x1A, x1e⟩ : ∃ x1A : Option Addr, x1A = (some ⟨(w5.alloc (.cells #[.int .i64 L0, .slice x0A n0 x0c] 29)).heap.size, 0, none⟩) := ⟨_, rfl⟩
      rw [← x1e] at x1ho ⊢
      clear x1e
      have LTx1 : Hid (∀ k, (x1A : Option Addr).map (·.block) = some k → w5.heap.size + 1 ≤ k ∧ k < w6.heap.size) := Lib.hid (fun k hk => by have h9 := x1ho.lt k hk; have e9 : (w5.alloc (.cells #[.int .i64 L0, .slice x0A n0 x0c] 29)).heap.size = w5.heap.size + 1 := (by simp); omega)
      have hbb_5 := kp_5.trans (x1hb.mono kp_5.size)
      have B_6 := Lib.hid (B_5.out.trans (hbb_5.mono B_5.out.size))
      have S_5 : Hid (w5.heap.size + 1 ≤ w6.heap.size) := Lib.hid (by have h9 := x1hb.size; have e9 : (w5.alloc (.cells #[.int .i64 L0, .slice x0A n0 x0c] 29)).heap.size = w5.heap.size + 1 := (by simp); omega)
      have a0_6 := a0_5.next hbb_5
      have h0_6 := h0_5.below hbb_5
      have h1_6 := h1_5.below hbb_5
      have T_6 := T_5.below hbb_5
      have x0_6 := x0_5.below hbb_5
      have x0x_6 := (box_new 29 w5 L0 x0A n0 x0c).next x1hb
      clear a0_5 h0_5 h1_5 T_5 x0_5
      have x1_6 := x1ho.mono kp_5.size
      have f13 := a0_6.c0
      have f14 := a0_6.c1
      have f15 := x0x_6.c0
      have f16 := x0x_6.c1
      go_wp2_with fail
      refine (himpl _ _ _ _ _ hn0 x0_6.rd hn1 x1_6.rd T_6).mono ?_
      rintro e w7 ⟨rfl, ghb⟩
      clear f13 f14 f15 f16
      have B_7 := Lib.hid (B_6.out.trans (ghb.mono B_6.out.size))
      have S_6 := Lib.hid ghb.size
      have a0_7 := a0_6.next ghb
      have h0_7 := h0_6.below ghb
      have h1_7 := h1_6.below ghb
      have T_7 := T_6.below ghb
      have x0_7 := x0_6.below ghb
      have x0x_7 := x0x_6.next ghb
      have x1_7 := x1_6.below ghb
      clear a0_6 h0_6 h1_6 T_6 x0_6 x0x_6 x1_6
      have hvv : (V == V) = true := by simp
      have f17 := a0_7.c0
      have f18 := a0_7.c1
      have f19 := x0x_7.c0
      have f20 := x0x_7.c1
      go_upto_region 13 with fail
      go_cut [50] from 46 to 50 (fun v wx => v = .bool false ∧ Below w7.heap.size w7 wx)
      case first =>
        have Z0 : ∀ (ww : World), Below w7.heap.size w7 ww → Calls Tryd.prog 16 #[.agg #[.int .i64 L0, .slice A0 n0 c0]] ww fun e w' => ∃ g c', e = .returned (.agg #[.int .i64 L0, .slice (some ⟨g, 0, none⟩) n0 c']) ∧ Own 2 w' ww.heap.size (some ⟨g, 0, none⟩) n0 c' xs0 ∧ Below ww.heap.size ww w' := fun ww hww => (toAl_any L0 _ n0 _ xs0 _ (h0_7.below hww) hn0).mono fun e w' ⟨g, c', he, _, ho, hb⟩ => ⟨g, c', he, ho, hb⟩
        have hdr : Below w7.heap.size w7 w7.drew := (Below.refl _ _).drew
        have rc0 := (x0x_7.next hdr).c0
        have tc0 := (a0_7.next hdr).c0
        have rc1 := (x0x_7.next hdr).c1
        have tc1 := (a0_7.next hdr).c1
        go_region_with (first | (go_at_call 16; refine (Z0 _ hdr).mono ?_; rintro e wz ⟨gz, cz, rfl, hoz, hbz⟩; have hbz2 := hdr.trans (hbz.mono hdr.size); have q0 := (x0x_7.next hbz2).c0; have q1 := (x0x_7.next hbz2).c1) | (go_at_call 19; refine (eqAl_true L0 _ _ _ _ _ xs0 _ (x0_7.below hbz2).rd hoz.rd hm0).mono ?_; rintro e wy ⟨rfl, hby⟩; have hby2 := hbz2.trans (hby.mono hbz2.size)))
        all_goals (go_wp2_with fail; go_meet; exact ⟨rfl, hby2⟩)
      case rest =>
        obtain ⟨rfl, hcb⟩ := hcut
        obtain ⟨w8, rfl⟩ : ∃ w9 : World, w9 = wc := ⟨_, rfl⟩
        clear f17 f18 f19 f20
        have B_8 := Lib.hid (B_7.out.trans (hcb.mono B_7.out.size))
        have S_7 := Lib.hid hcb.size
        have a0_8 := a0_7.next hcb
        have h0_8 := h0_7.below hcb
        have h1_8 := h1_7.below hcb
        have T_8 := T_7.below hcb
        have x0_8 := x0_7.below hcb
        have x0x_8 := x0x_7.next hcb
        have x1_8 := x1_7.below hcb
        clear a0_7 h0_7 h1_7 T_7 x0_7 x0x_7 x1_7
        have f21 := a0_8.c0
        have f22 := a0_8.c1
        have f23 := x0x_8.c0
        have f24 := x0x_8.c1
        go_wp2_with fail
        refine (toInt_any _ _ _ xs1 _ h1_8 hn1).mono ?_
        rintro e w9 ⟨y1c, rfl, y1ho, y1hb⟩
        clear f21 f22 f23 f24
        obtain ⟨y1A, y1e⟩ : ∃ y1A : Option Addr, y1A = (some ⟨w8.heap.size, 0, none⟩) := ⟨_, rfl⟩
        rw [← y1e] at y1ho ⊢
        clear y1e
        have LTy1 : Hid (∀ k, (y1A : Option Addr).map (·.block) = some k → w8.heap.size ≤ k ∧ k < w9.heap.size) := Lib.hid (fun k hk => y1ho.lt k hk)
        have B_9 := Lib.hid (B_8.out.trans (y1hb.mono B_8.out.size))
        have S_8 := Lib.hid y1hb.size
        have a0_9 := a0_8.next y1hb
        have h0_9 := h0_8.below y1hb
        have h1_9 := h1_8.below y1hb
        have T_9 := T_8.below y1hb
        have x0_9 := x0_8.below y1hb
        have x0x_9 := x0x_8.next y1hb
        have x1_9 := x1_8.below y1hb
        clear a0_8 h0_8 h1_8 T_8 x0_8 x0x_8 x1_8
        have y1_9 := y1ho
        have f26 := a0_9.c0
        have f27 := a0_9.c1
        have f28 := x0x_9.c0
        have f29 := x0x_9.c1
        go_wp2_with fail
        refine (eq_true _ _ _ _ _ xs1 _ x1_9.rd y1_9.rd (by omega)).mono ?_
        rintro e w10 ⟨rfl, hb25⟩
        clear f26 f27 f28 f29
        have B_10 := Lib.hid (B_9.out.trans (hb25.mono B_9.out.size))
        have S_9 := Lib.hid hb25.size
        have a0_10 := a0_9.next hb25
        have h0_10 := h0_9.below hb25
        have h1_10 := h1_9.below hb25
        have T_10 := T_9.below hb25
        have x0_10 := x0_9.below hb25
        have x0x_10 := x0x_9.next hb25
        have x1_10 := x1_9.below hb25
        have y1_10 := y1_9.below hb25
        clear a0_9 h0_9 h1_9 T_9 x0_9 x0x_9 x1_9 y1_9
        clear y1_10
        have f30 := a0_10.c0
        have f31 := a0_10.c1
        have f32 := x0x_10.c0
        have f33 := x0x_10.c1
        go_wp2_with fail
        go_ret
        exact ⟨rfl, B_10.out⟩
    · go_enter Tryd.func11, Tryd.ntmps11
      go_wp2_with fail
      rw [← hw0]
      refine (szno_any L0 A0 n0 c0 _ (by omega) hm0).mono ?_
      rintro e w1 ⟨rfl, hz0⟩
      have B_1 := Lib.hid (B_0.out.trans (hz0.mono B_0.out.size))
      have S_0 := Lib.hid hz0.size
      have a0_1 := a0_0.next hz0
      have h0_1 := h0_0.below hz0
      have h1_1 := h1_0.below hz0
      have T_1 := T_0.below hz0
      clear a0_0 h0_0 h1_0 T_0
      go_wp2_with fail
      go_ret
      exact ⟨rfl, B_1.out⟩
  · go_enter Tryd.func11, Tryd.ntmps11
    go_wp2_with fail
    go_ret
    exact ⟨rfl, below1 _ _⟩
end Go.Proofs.YtdafdffmkjhhcaaDoor

/-
  The walk of FnExactLeviOf, over contracts of both sides.
-/
import Derived.Test.YtkifadmoedackaaDoorLv2
import Derived.Deep.CutRange
import Derived.Deep.RegionWith
namespace Go.Proofs.YtkifadmoedackaaDoor
open Go.RowKit
set_option linter.unusedVariables false
set_option maxRecDepth 100000
set_option maxHeartbeats 3200000 in
theorem lawLeviOf (L0 : Int) (A0 : Option Addr) (n0 c0 : Nat) (xs0 : List Int) (A1 : Option Addr) (n1 c1 : Nat) (xs1 : List Int) (A2 : Option Addr) (n2 c2 : Nat) (xs2 : List Int) (A3 : Option Addr) (n3 c3 : Nat) (xs3 : List Int) (A4 : Option Addr) (n4 c4 : Nat) (xs4 : List Int) (w : World) (hL01 : -9223372036854775808 ≤ L0) (hL02 : L0 ≤ 9223372036854775807) (h0 : Rd w A0 n0 xs0) (hwf0 : Wf xs0) (hl0 : n0 ≤ maxLen) (h1 : Rd w A1 n1 xs1) (hwf1 : Wf xs1) (hl1 : n1 ≤ maxLen) (h2 : Rd w A2 n2 xs2) (hwf2 : Wf xs2) (hl2 : n2 ≤ maxLen) (h3 : Rd w A3 n3 xs3) (hwf3 : Wf xs3) (hl3 : n3 ≤ maxLen) (h4 : Rd w A4 n4 xs4) (hwf4 : Wf xs4) (hl4 : n4 ≤ maxLen) (hT : Tab w) (VN : Nat) (VX : List (List Int)) (C : Int) (SV : Nat) (hVN : VN ≤ 1048576) (hSV : sumL VX = SV) (hVS : SV ≤ 1048576)
    (hspec : ∀ (B0 : Option Addr) (d0 : Nat) (B1 : Option Addr) (d1 : Nat) (B2 : Option Addr) (d2 : Nat) (B3 : Option Addr) (d3 : Nat) (B4 : Option Addr) (d4 : Nat) (w' : World), n0 ≤ 1048576 → Rd w' B0 n0 xs0 → n1 ≤ 1048576 → Rd w' B1 n1 xs1 → n2 ≤ 1048576 → Rd w' B2 n2 xs2 → n3 ≤ 1048576 → Rd w' B3 n3 xs3 → n4 ≤ 1048576 → Rd w' B4 n4 xs4 → Calls Tryd.prog 29 #[.agg #[.int .i64 L0, .slice B0 n0 d0], .slice B1 n1 d1, .slice B2 n2 d2, .slice B3 n3 d3, .slice B4 n4 d4] w' (LssPost w' VN VX C))
    (himpl : ∀ (B0 : Option Addr) (d0 : Nat) (B1 : Option Addr) (d1 : Nat) (B2 : Option Addr) (d2 : Nat) (B3 : Option Addr) (d3 : Nat) (B4 : Option Addr) (d4 : Nat) (w' : World), n0 ≤ 1048576 → Rd w' B0 n0 xs0 → n1 ≤ 1048576 → Rd w' B1 n1 xs1 → n1 ≤ d1 → n2 ≤ 1048576 → Rd w' B2 n2 xs2 → n2 ≤ d2 → n3 ≤ 1048576 → Rd w' B3 n3 xs3 → n3 ≤ d3 → n4 ≤ 1048576 → Rd w' B4 n4 xs4 → n4 ≤ d4 → Tab w' → Calls Tryd.prog 30 #[.agg #[.int .i64 L0, .slice B0 n0 d0], .slice B1 n1 d1, .slice B2 n2 d2, .slice B3 n3 d3, .slice B4 n4 d4] w' (LssPost w' VN VX C)) :
    Calls Tryd.prog 7 #[.agg #[.int .i64 L0, .slice A0 n0 c0], .slice A1 n1 c1, .slice A2 n2 c2, .slice A3 n3 c3, .slice A4 n4 c4] w fun e w' => e = .returned (.bool true) ∧ Below w.heap.size w w' := by
  have HSM := Lib.hid (small_of hSV hVS)
  have HSM2 := Lib.hid (small_marks hSV hVS)
  have HSV := Lib.hid hSV
  clear hSV
  unfold maxLen at hl0
  have hm0 : n0 ≤ 9223372036854775807 := by omega
  unfold maxLen at hl1
  have hm1 : n1 ≤ 9223372036854775807 := by omega
  unfold maxLen at hl2
  have hm2 : n2 ≤ 9223372036854775807 := by omega
  unfold maxLen at hl3
  have hm3 : n3 ≤ 9223372036854775807 := by omega
  unfold maxLen at hl4
  have hm4 : n4 ≤ 9223372036854775807 := by omega
  obtain ⟨w0, hw0⟩ : ∃ w0 : World, w0 = (w.alloc (.cells #[.int .i64 L0, .slice A0 n0 c0] 24)) := ⟨_, rfl⟩
  have B_0 := Lib.hid (show Below w.heap.size w w0 by rw [hw0]; exact below1 w _)
  have S0_ : Hid (w0.heap.size = w.heap.size + 1) := Lib.hid (by rw [hw0]; simp)
  have a0_0 : Box 24 w0 (w.heap.size) L0 A0 n0 c0 := by rw [hw0]; exact (box_new 24 w L0 A0 n0 c0)
  have h0_0 := h0.below B_0.out
  have h1_0 := h1.below B_0.out
  have h2_0 := h2.below B_0.out
  have h3_0 := h3.below B_0.out
  have h4_0 := h4.below B_0.out
  have T_0 := hT.below B_0.out
  by_cases hs1 : n1 ≤ 1048576
  · by_cases hs2 : n2 ≤ 1048576
    · by_cases hs3 : n3 ≤ 1048576
      · by_cases hs4 : n4 ≤ 1048576
        · by_cases hs0 : n0 ≤ 1048576
          · have hn0 : n0 ≤ 1048576 := by omega
            have hn1 : n1 ≤ 1048576 := by omega
            have hn2 : n2 ≤ 1048576 := by omega
            have hn3 : n3 ≤ 1048576 := by omega
            have hn4 : n4 ≤ 1048576 := by omega
            go_enter Tryd.func7, Tryd.ntmps7
            go_wp2_with fail
            rw [← hw0]
            refine (sz_law L0 A0 n0 c0 _ hs0).mono ?_
            rintro e w1 ⟨rfl, hz0⟩
            have B_1 := Lib.hid (B_0.out.trans (hz0.mono B_0.out.size))
            have S_0 := Lib.hid hz0.size
            have a0_1 := a0_0.next hz0
            have h0_1 := h0_0.below hz0
            have h1_1 := h1_0.below hz0
            have h2_1 := h2_0.below hz0
            have h3_1 := h3_0.below hz0
            have h4_1 := h4_0.below hz0
            have T_1 := T_0.below hz0
            clear a0_0 h0_0 h1_0 h2_0 h3_0 h4_0 T_0
            have f1 := a0_1.c0
            have f2 := a0_1.c1
            go_wp2_with fail
            refine (toAl_any L0 _ n0 _ xs0 _ h0_1 hn0).mono ?_
            rintro e w2 ⟨s0g, s0c, rfl, s0hg, s0ho, s0hb⟩
            clear f1 f2
            obtain ⟨s0A, s0e⟩ : ∃ s0A : Option Addr, s0A = (some ⟨s0g, 0, none⟩) := ⟨_, rfl⟩
            rw [← s0e] at s0ho ⊢
            clear s0e
            have LTs0 : Hid (∀ k, (s0A : Option Addr).map (·.block) = some k → w1.heap.size ≤ k ∧ k < w2.heap.size) := Lib.hid (fun k hk => s0ho.lt k hk)
            have B_2 := Lib.hid (B_1.out.trans (s0hb.mono B_1.out.size))
            have S_1 := Lib.hid s0hb.size
            have a0_2 := a0_1.next s0hb
            have h0_2 := h0_1.below s0hb
            have h1_2 := h1_1.below s0hb
            have h2_2 := h2_1.below s0hb
            have h3_2 := h3_1.below s0hb
            have h4_2 := h4_1.below s0hb
            have T_2 := T_1.below s0hb
            clear a0_1 h0_1 h1_1 h2_1 h3_1 h4_1 T_1
            have s0_2 := s0ho
            have f3 := a0_2.c0
            have f4 := a0_2.c1
            go_wp2_with fail
            refine (toInt_any _ _ _ xs1 _ h1_2 hn1).mono ?_
            rintro e w3 ⟨s1c, rfl, s1ho, s1hb⟩
            clear f3 f4
            obtain ⟨s1A, s1e⟩ : ∃ s1A : Option Addr, s1A = (some ⟨w2.heap.size, 0, none⟩) := ⟨_, rfl⟩
            rw [← s1e] at s1ho ⊢
            clear s1e
            have LTs1 : Hid (∀ k, (s1A : Option Addr).map (·.block) = some k → w2.heap.size ≤ k ∧ k < w3.heap.size) := Lib.hid (fun k hk => s1ho.lt k hk)
            have B_3 := Lib.hid (B_2.out.trans (s1hb.mono B_2.out.size))
            have S_2 := Lib.hid s1hb.size
            have a0_3 := a0_2.next s1hb
            have h0_3 := h0_2.below s1hb
            have h1_3 := h1_2.below s1hb
            have h2_3 := h2_2.below s1hb
            have h3_3 := h3_2.below s1hb
            have h4_3 := h4_2.below s1hb
            have T_3 := T_2.below s1hb
            have s0_3 := s0_2.below s1hb
            clear a0_2 h0_2 h1_2 h2_2 h3_2 h4_2 T_2 s0_2
            have s1_3 := s1ho
            have f5 := a0_3.c0
            have f6 := a0_3.c1
            go_wp2_with fail
            refine (toInt_any _ _ _ xs2 _ h2_3 hn2).mono ?_
            rintro e w4 ⟨s2c, rfl, s2ho, s2hb⟩
            clear f5 f6
            obtain ⟨s2A, s2e⟩ : ∃ s2A : Option Addr, s2A = (some ⟨w3.heap.size, 0, none⟩) := ⟨_, rfl⟩
            rw [← s2e] at s2ho ⊢
            clear s2e
            have LTs2 : Hid (∀ k, (s2A : Option Addr).map (·.block) = some k → w3.heap.size ≤ k ∧ k < w4.heap.size) := Lib.hid (fun k hk => s2ho.lt k hk)
            have B_4 := Lib.hid (B_3.out.trans (s2hb.mono B_3.out.size))
            have S_3 := Lib.hid s2hb.size
            have a0_4 := a0_3.next s2hb
            have h0_4 := h0_3.below s2hb
            have h1_4 := h1_3.below s2hb
            have h2_4 := h2_3.below s2hb
            have h3_4 := h3_3.below s2hb
            have h4_4 := h4_3.below s2hb
            have T_4 := T_3.below s2hb
            have s0_4 := s0_3.below s2hb
            have s1_4 := s1_3.below s2hb
            clear a0_3 h0_3 h1_3 h2_3 h3_3 h4_3 T_3 s0_3 s1_3
            have s2_4 := s2ho
            have f7 := a0_4.c0
            have f8 := a0_4.c1
            go_wp2_with fail
            refine (toInt_any _ _ _ xs3 _ h3_4 hn3).mono ?_
            rintro e w5 ⟨s3c, rfl, s3ho, s3hb⟩
            clear f7 f8
            obtain ⟨s3A, s3e⟩ : ∃ s3A : Option Addr, s3A = (some ⟨w4.heap.size, 0, none⟩) := ⟨_, rfl⟩
            rw [← s3e] at s3ho ⊢
            clear s3e
            have LTs3 : Hid (∀ k, (s3A : Option Addr).map (·.block) = some k → w4.heap.size ≤ k ∧ k < w5.heap.size) := Lib.hid (fun k hk => s3ho.lt k hk)
            have B_5 := Lib.hid (B_4.out.trans (s3hb.mono B_4.out.size))
            have S_4 := Lib.hid s3hb.size
            have a0_5 := a0_4.next s3hb
            have h0_5 := h0_4.below s3hb
            have h1_5 := h1_4.below s3hb
            have h2_5 := h2_4.below s3hb
            have h3_5 := h3_4.below s3hb
            have h4_5 := h4_4.below s3hb
            have T_5 := T_4.below s3hb
            have s0_5 := s0_4.below s3hb
            have s1_5 := s1_4.below s3hb
            have s2_5 := s2_4.below s3hb
            clear a0_4 h0_4 h1_4 h2_4 h3_4 h4_4 T_4 s0_4 s1_4 s2_4
            have s3_5 := s3ho
            have f9 := a0_5.c0
            have f10 := a0_5.c1
            go_wp2_with fail
            refine (toInt_any _ _ _ xs4 _ h4_5 hn4).mono ?_
            rintro e w6 ⟨s4c, rfl, s4ho, s4hb⟩
            clear f9 f10
            obtain ⟨s4A, s4e⟩ : ∃ s4A : Option Addr, s4A = (some ⟨w5.heap.size, 0, none⟩) := ⟨_, rfl⟩
            rw [← s4e] at s4ho ⊢
            clear s4e
            have LTs4 : Hid (∀ k, (s4A : Option Addr).map (·.block) = some k → w5.heap.size ≤ k ∧ k < w6.heap.size) := Lib.hid (fun k hk => s4ho.lt k hk)
            have B_6 := Lib.hid (B_5.out.trans (s4hb.mono B_5.out.size))
            have S_5 := Lib.hid s4hb.size
            have a0_6 := a0_5.next s4hb
            have h0_6 := h0_5.below s4hb
            have h1_6 := h1_5.below s4hb
            have h2_6 := h2_5.below s4hb
            have h3_6 := h3_5.below s4hb
            have h4_6 := h4_5.below s4hb
            have T_6 := T_5.below s4hb
            have s0_6 := s0_5.below s4hb
            have s1_6 := s1_5.below s4hb
            have s2_6 := s2_5.below s4hb
            have s3_6 := s3_5.below s4hb
            clear a0_5 h0_5 h1_5 h2_5 h3_5 h4_5 T_5 s0_5 s1_5 s2_5 s3_5
            have s4_6 := s4ho
            have f11 := a0_6.c0
            have f12 := a0_6.c1
            go_wp2_with fail
            refine (hspec _ _ _ _ _ _ _ _ _ _ _ hn0 s0_6.rd hn1 s1_6.rd hn2 s2_6.rd hn3 s3_6.rd hn4 s4_6.rd).mono ?_
            rintro e w7 ⟨oA, oc, rfl, oho, ohb⟩
            clear f11 f12
            obtain ⟨olo, oe1⟩ : ∃ q : Nat, q = w6.heap.size := ⟨_, rfl⟩
            obtain ⟨ohi, oe2⟩ : ∃ q : Nat, q = w7.heap.size := ⟨_, rfl⟩
            have oh2 : OwnSS w7 olo ohi oA VN oc VX := by rw [oe1, oe2]; exact oho
            have LTo : Hid (w6.heap.size ≤ olo ∧ ohi = w7.heap.size) := Lib.hid ⟨by rw [oe1]; exact Nat.le_refl _, oe2⟩
            clear oho oe1 oe2
            have B_7 := Lib.hid (B_6.out.trans (ohb.mono B_6.out.size))
            have S_6 := Lib.hid ohb.size
            have a0_7 := a0_6.next ohb
            have h0_7 := h0_6.below ohb
            have h1_7 := h1_6.below ohb
            have h2_7 := h2_6.below ohb
            have h3_7 := h3_6.below ohb
            have h4_7 := h4_6.below ohb
            have T_7 := T_6.below ohb
            have s0_7 := s0_6.below ohb
            have s1_7 := s1_6.below ohb
            have s2_7 := s2_6.below ohb
            have s3_7 := s3_6.below ohb
            have s4_7 := s4_6.below ohb
            clear a0_6 h0_6 h1_6 h2_6 h3_6 h4_6 T_6 s0_6 s1_6 s2_6 s3_6 s4_6
            have o_7 := oh2
            clear s0_7
            clear s1_7
            clear s2_7
            clear s3_7
            clear s4_7
            have f13 := a0_7.c0
            have f14 := a0_7.c1
            go_wp2_with fail
            refine (toAl_any L0 _ n0 _ xs0 _ h0_7 hn0).mono ?_
            rintro e w8 ⟨x0g, x0c, rfl, x0hg, x0ho, x0hb⟩
            clear f13 f14
            obtain ⟨x0A, x0e⟩ : ∃ x0A : Option Addr, x0A = (some ⟨x0g, 0, none⟩) := ⟨_, rfl⟩
            rw [← x0e] at x0ho ⊢
            clear x0e
            have LTx0 : Hid (∀ k, (x0A : Option Addr).map (·.block) = some k → w7.heap.size ≤ k ∧ k < w8.heap.size) := Lib.hid (fun k hk => x0ho.lt k hk)
            have B_8 := Lib.hid (B_7.out.trans (x0hb.mono B_7.out.size))
            have S_7 := Lib.hid x0hb.size
            have a0_8 := a0_7.next x0hb
            have h0_8 := h0_7.below x0hb
            have h1_8 := h1_7.below x0hb
            have h2_8 := h2_7.below x0hb
            have h3_8 := h3_7.below x0hb
            have h4_8 := h4_7.below x0hb
            have T_8 := T_7.below x0hb
            have o_8 := o_7.below x0hb
            clear a0_7 h0_7 h1_7 h2_7 h3_7 h4_7 T_7 o_7
            have x0_8 := x0ho
            have kp_8 := below1 w8 (.cells #[.int .i64 L0, .slice x0A n0 x0c] 28)
            have f15 := a0_8.c0
            have f16 := a0_8.c1
            have f17 := (a0_8.next kp_8).c0
            have f18 := (a0_8.next kp_8).c1
            go_wp2_with fail
            refine (toInt_any _ _ _ xs1 _ (h1_8.below kp_8) hn1).mono ?_
            rintro e w9 ⟨x1c, rfl, x1ho, x1hb⟩
            clear f15 f16 f17 f18
            obtain ⟨x1A, x1e⟩ : ∃ x1A : Option Addr, x1A = (some ⟨(w8.alloc (.cells #[.int .i64 L0, .slice x0A n0 x0c] 28)).heap.size, 0, none⟩) := ⟨_, rfl⟩
            rw [← x1e] at x1ho ⊢
            clear x1e
            have LTx1 : Hid (∀ k, (x1A : Option Addr).map (·.block) = some k → w8.heap.size + 1 ≤ k ∧ k < w9.heap.size) := Lib.hid (fun k hk => by have h9 := x1ho.lt k hk; have e9 : (w8.alloc (.cells #[.int .i64 L0, .slice x0A n0 x0c] 28)).heap.size = w8.heap.size + 1 := (by simp); omega)
            have hbb_8 := kp_8.trans (x1hb.mono kp_8.size)
            have B_9 := Lib.hid (B_8.out.trans (hbb_8.mono B_8.out.size))
            have S_8 : Hid (w8.heap.size + 1 ≤ w9.heap.size) := Lib.hid (by have h9 := x1hb.size; have e9 : (w8.alloc (.cells #[.int .i64 L0, .slice x0A n0 x0c] 28)).heap.size = w8.heap.size + 1 := (by simp); omega)
            have a0_9 := a0_8.next hbb_8
            have h0_9 := h0_8.below hbb_8
            have h1_9 := h1_8.below hbb_8
            have h2_9 := h2_8.below hbb_8
            have h3_9 := h3_8.below hbb_8
            have h4_9 := h4_8.below hbb_8
            have T_9 := T_8.below hbb_8
            have o_9 := o_8.below hbb_8
            have x0_9 := x0_8.below hbb_8
            have x0x_9 := (box_new 28 w8 L0 x0A n0 x0c).next x1hb
            clear a0_8 h0_8 h1_8 h2_8 h3_8 h4_8 T_8 o_8 x0_8
            have x1_9 := x1ho.mono kp_8.size
            have f19 := a0_9.c0
            have f20 := a0_9.c1
            have f21 := x0x_9.c0
            have f22 := x0x_9.c1
            go_wp2_with fail
            refine (toInt_any _ _ _ xs2 _ h2_9 hn2).mono ?_
            rintro e w10 ⟨x2c, rfl, x2ho, x2hb⟩
            clear f19 f20 f21 f22
            obtain ⟨x2A, x2e⟩ : ∃ x2A : Option Addr, x2A = (some ⟨w9.heap.size, 0, none⟩) := ⟨_, rfl⟩
            rw [← x2e] at x2ho ⊢
            clear x2e
            have LTx2 : Hid (∀ k, (x2A : Option Addr).map (·.block) = some k → w9.heap.size ≤ k ∧ k < w10.heap.size) := Lib.hid (fun k hk => x2ho.lt k hk)
            have B_10 := Lib.hid (B_9.out.trans (x2hb.mono B_9.out.size))
            have S_9 := Lib.hid x2hb.size
            have a0_10 := a0_9.next x2hb
            have h0_10 := h0_9.below x2hb
            have h1_10 := h1_9.below x2hb
            have h2_10 := h2_9.below x2hb
            have h3_10 := h3_9.below x2hb
            have h4_10 := h4_9.below x2hb
            have T_10 := T_9.below x2hb
            have o_10 := o_9.below x2hb
            have x0_10 := x0_9.below x2hb
            have x0x_10 := x0x_9.next x2hb
            have x1_10 := x1_9.below x2hb
            clear a0_9 h0_9 h1_9 h2_9 h3_9 h4_9 T_9 o_9 x0_9 x0x_9 x1_9
            have x2_10 := x2ho
            have f23 := a0_10.c0
            have f24 := a0_10.c1
            have f25 := x0x_10.c0
            have f26 := x0x_10.c1
            go_wp2_with fail
            refine (toInt_any _ _ _ xs3 _ h3_10 hn3).mono ?_
            rintro e w11 ⟨x3c, rfl, x3ho, x3hb⟩
            clear f23 f24 f25 f26
            obtain ⟨x3A, x3e⟩ : ∃ x3A : Option Addr, x3A = (some ⟨w10.heap.size, 0, none⟩) := ⟨_, rfl⟩
            rw [← x3e] at x3ho ⊢
            clear x3e
            have LTx3 : Hid (∀ k, (x3A : Option Addr).map (·.block) = some k → w10.heap.size ≤ k ∧ k < w11.heap.size) := Lib.hid (fun k hk => x3ho.lt k hk)
            have B_11 := Lib.hid (B_10.out.trans (x3hb.mono B_10.out.size))
            have S_10 := Lib.hid x3hb.size
            have a0_11 := a0_10.next x3hb
            have h0_11 := h0_10.below x3hb
            have h1_11 := h1_10.below x3hb
            have h2_11 := h2_10.below x3hb
            have h3_11 := h3_10.below x3hb
            have h4_11 := h4_10.below x3hb
            have T_11 := T_10.below x3hb
            have o_11 := o_10.below x3hb
            have x0_11 := x0_10.below x3hb
            have x0x_11 := x0x_10.next x3hb
            have x1_11 := x1_10.below x3hb
            have x2_11 := x2_10.below x3hb
            clear a0_10 h0_10 h1_10 h2_10 h3_10 h4_10 T_10 o_10 x0_10 x0x_10 x1_10 x2_10
            have x3_11 := x3ho
            have f27 := a0_11.c0
            have f28 := a0_11.c1
            have f29 := x0x_11.c0
            have f30 := x0x_11.c1
            go_wp2_with fail
            refine (toInt_any _ _ _ xs4 _ h4_11 hn4).mono ?_
            rintro e w12 ⟨x4c, rfl, x4ho, x4hb⟩
            clear f27 f28 f29 f30
            obtain ⟨x4A, x4e⟩ : ∃ x4A : Option Addr, x4A = (some ⟨w11.heap.size, 0, none⟩) := ⟨_, rfl⟩
            rw [← x4e] at x4ho ⊢
            clear x4e
            have LTx4 : Hid (∀ k, (x4A : Option Addr).map (·.block) = some k → w11.heap.size ≤ k ∧ k < w12.heap.size) := Lib.hid (fun k hk => x4ho.lt k hk)
            have B_12 := Lib.hid (B_11.out.trans (x4hb.mono B_11.out.size))
            have S_11 := Lib.hid x4hb.size
            have a0_12 := a0_11.next x4hb
            have h0_12 := h0_11.below x4hb
            have h1_12 := h1_11.below x4hb
            have h2_12 := h2_11.below x4hb
            have h3_12 := h3_11.below x4hb
            have h4_12 := h4_11.below x4hb
            have T_12 := T_11.below x4hb
            have o_12 := o_11.below x4hb
            have x0_12 := x0_11.below x4hb
            have x0x_12 := x0x_11.next x4hb
            have x1_12 := x1_11.below x4hb
            have x2_12 := x2_11.below x4hb
            have x3_12 := x3_11.below x4hb
            clear a0_11 h0_11 h1_11 h2_11 h3_11 h4_11 T_11 o_11 x0_11 x0x_11 x1_11 x2_11 x3_11
            have x4_12 := x4ho
            have f31 := a0_12.c0
            have f32 := a0_12.c1
            have f33 := x0x_12.c0
            have f34 := x0x_12.c1
            go_wp2_with fail
            refine (himpl _ _ _ _ _ _ _ _ _ _ _ hn0 x0_12.rd hn1 x1_12.rd (own_cap x1_12) hn2 x2_12.rd (own_cap x2_12) hn3 x3_12.rd (own_cap x3_12) hn4 x4_12.rd (own_cap x4_12) T_12).mono ?_
            rintro e w13 ⟨gA, gc, rfl, gho, ghb⟩
            clear f31 f32 f33 f34
            obtain ⟨glo, ge1⟩ : ∃ q : Nat, q = w12.heap.size := ⟨_, rfl⟩
            obtain ⟨ghi, ge2⟩ : ∃ q : Nat, q = w13.heap.size := ⟨_, rfl⟩
            have gh2 : OwnSS w13 glo ghi gA VN gc VX := by rw [ge1, ge2]; exact gho
            have LTg : Hid (w12.heap.size ≤ glo ∧ ghi = w13.heap.size) := Lib.hid ⟨by rw [ge1]; exact Nat.le_refl _, ge2⟩
            clear gho ge1 ge2
            have B_13 := Lib.hid (B_12.out.trans (ghb.mono B_12.out.size))
            have S_12 := Lib.hid ghb.size
            have a0_13 := a0_12.next ghb
            have h0_13 := h0_12.below ghb
            have h1_13 := h1_12.below ghb
            have h2_13 := h2_12.below ghb
            have h3_13 := h3_12.below ghb
            have h4_13 := h4_12.below ghb
            have T_13 := T_12.below ghb
            have o_13 := o_12.below ghb
            have x0_13 := x0_12.below ghb
            have x0x_13 := x0x_12.next ghb
            have x1_13 := x1_12.below ghb
            have x2_13 := x2_12.below ghb
            have x3_13 := x3_12.below ghb
            have x4_13 := x4_12.below ghb
            clear a0_12 h0_12 h1_12 h2_12 h3_12 h4_12 T_12 o_12 x0_12 x0x_12 x1_12 x2_12 x3_12 x4_12
            have g_13 := gh2
            have f36 := a0_13.c0
            have f37 := a0_13.c1
            have f38 := x0x_13.c0
            have f39 := x0x_13.c1
            go_wp2_with fail
            refine (eqSS_true _ _ _ _ _ VX _ (g_13.rd HSM.out) (o_13.rd HSM.out) (by omega)).mono ?_
            rintro e w14 ⟨rfl, hb35⟩
            clear f36 f37 f38 f39
            have B_14 := Lib.hid (B_13.out.trans (hb35.mono B_13.out.size))
            have S_13 := Lib.hid hb35.size
            have a0_14 := a0_13.next hb35
            have h0_14 := h0_13.below hb35
            have h1_14 := h1_13.below hb35
            have h2_14 := h2_13.below hb35
            have h3_14 := h3_13.below hb35
            have h4_14 := h4_13.below hb35
            have T_14 := T_13.below hb35
            have o_14 := o_13.below hb35
            have x0_14 := x0_13.below hb35
            have x0x_14 := x0x_13.next hb35
            have x1_14 := x1_13.below hb35
            have x2_14 := x2_13.below hb35
            have x3_14 := x3_13.below hb35
            have x4_14 := x4_13.below hb35
            have g_14 := g_13.below hb35
            clear a0_13 h0_13 h1_13 h2_13 h3_13 h4_13 T_13 o_13 x0_13 x0x_13 x1_13 x2_13 x3_13 x4_13 g_13
            have f40 := a0_14.c0
            have f41 := a0_14.c1
            have f42 := x0x_14.c0
            have f43 := x0x_14.c1
            go_upto_region 22 with fail
            go_cut [89] from 85 to 89 (fun v wx => v = .bool false ∧ Below w14.heap.size w14 wx)
            case first =>
              have Z0 : ∀ (ww : World), Below w14.heap.size w14 ww → Calls Tryd.prog 15 #[.agg #[.int .i64 L0, .slice A0 n0 c0]] ww fun e w' => ∃ g c', e = .returned (.agg #[.int .i64 L0, .slice (some ⟨g, 0, none⟩) n0 c']) ∧ Own 2 w' ww.heap.size (some ⟨g, 0, none⟩) n0 c' xs0 ∧ Below ww.heap.size ww w' := fun ww hww => (toAl_any L0 _ n0 _ xs0 _ (h0_14.below hww) hn0).mono fun e w' ⟨g, c', he, _, ho, hb⟩ => ⟨g, c', he, ho, hb⟩
              have hdr : Below w14.heap.size w14 w14.drew := (Below.refl _ _).drew
              have rc0 := (x0x_14.next hdr).c0
              have tc0 := (a0_14.next hdr).c0
              have rc1 := (x0x_14.next hdr).c1
              have tc1 := (a0_14.next hdr).c1
              go_region_with (first | (go_at_call 15; refine (Z0 _ hdr).mono ?_; rintro e wz ⟨gz, cz, rfl, hoz, hbz⟩; have hbz2 := hdr.trans (hbz.mono hdr.size); have q0 := (x0x_14.next hbz2).c0; have q1 := (x0x_14.next hbz2).c1) | (go_at_call 18; refine (eqAl_true L0 _ _ _ _ _ xs0 _ (x0_14.below hbz2).rd hoz.rd hm0).mono ?_; rintro e wy ⟨rfl, hby⟩; have hby2 := hbz2.trans (hby.mono hbz2.size)))
              all_goals (go_wp2_with fail; go_meet; exact ⟨rfl, hby2⟩)
            case rest =>
              obtain ⟨rfl, hcb⟩ := hcut
              obtain ⟨w15, rfl⟩ : ∃ w9 : World, w9 = wc := ⟨_, rfl⟩
              clear f40 f41 f42 f43
              have B_15 := Lib.hid (B_14.out.trans (hcb.mono B_14.out.size))
              have S_14 := Lib.hid hcb.size
              have a0_15 := a0_14.next hcb
              have h0_15 := h0_14.below hcb
              have h1_15 := h1_14.below hcb
              have h2_15 := h2_14.below hcb
              have h3_15 := h3_14.below hcb
              have h4_15 := h4_14.below hcb
              have T_15 := T_14.below hcb
              have o_15 := o_14.below hcb
              have x0_15 := x0_14.below hcb
              have x0x_15 := x0x_14.next hcb
              have x1_15 := x1_14.below hcb
              have x2_15 := x2_14.below hcb
              have x3_15 := x3_14.below hcb
              have x4_15 := x4_14.below hcb
              have g_15 := g_14.below hcb
              clear a0_14 h0_14 h1_14 h2_14 h3_14 h4_14 T_14 o_14 x0_14 x0x_14 x1_14 x2_14 x3_14 x4_14 g_14
              have f44 := a0_15.c0
              have f45 := a0_15.c1
              have f46 := x0x_15.c0
              have f47 := x0x_15.c1
              go_wp2_with fail
              refine (toInt_any _ _ _ xs1 _ h1_15 hn1).mono ?_
              rintro e w16 ⟨y1c, rfl, y1ho, y1hb⟩
              clear f44 f45 f46 f47
              obtain ⟨y1A, y1e⟩ : ∃ y1A : Option Addr, y1A = (some ⟨w15.heap.size, 0, none⟩) := ⟨_, rfl⟩
              rw [← y1e] at y1ho ⊢
              clear y1e
              have LTy1 : Hid (∀ k, (y1A : Option Addr).map (·.block) = some k → w15.heap.size ≤ k ∧ k < w16.heap.size) := Lib.hid (fun k hk => y1ho.lt k hk)
              have B_16 := Lib.hid (B_15.out.trans (y1hb.mono B_15.out.size))
              have S_15 := Lib.hid y1hb.size
              have a0_16 := a0_15.next y1hb
              have h0_16 := h0_15.below y1hb
              have h1_16 := h1_15.below y1hb
              have h2_16 := h2_15.below y1hb
              have h3_16 := h3_15.below y1hb
              have h4_16 := h4_15.below y1hb
              have T_16 := T_15.below y1hb
              have o_16 := o_15.below y1hb
              have x0_16 := x0_15.below y1hb
              have x0x_16 := x0x_15.next y1hb
              have x1_16 := x1_15.below y1hb
              have x2_16 := x2_15.below y1hb
              have x3_16 := x3_15.below y1hb
              have x4_16 := x4_15.below y1hb
              have g_16 := g_15.below y1hb
              clear a0_15 h0_15 h1_15 h2_15 h3_15 h4_15 T_15 o_15 x0_15 x0x_15 x1_15 x2_15 x3_15 x4_15 g_15
              have y1_16 := y1ho
              have f49 := a0_16.c0
              have f50 := a0_16.c1
              have f51 := x0x_16.c0
              have f52 := x0x_16.c1
              go_wp2_with fail
              refine (eq_true _ _ _ _ _ xs1 _ x1_16.rd y1_16.rd (by omega)).mono ?_
              rintro e w17 ⟨rfl, hb48⟩
              clear f49 f50 f51 f52
              have B_17 := Lib.hid (B_16.out.trans (hb48.mono B_16.out.size))
              have S_16 := Lib.hid hb48.size
              have a0_17 := a0_16.next hb48
              have h0_17 := h0_16.below hb48
              have h1_17 := h1_16.below hb48
              have h2_17 := h2_16.below hb48
              have h3_17 := h3_16.below hb48
              have h4_17 := h4_16.below hb48
              have T_17 := T_16.below hb48
              have o_17 := o_16.below hb48
              have x0_17 := x0_16.below hb48
              have x0x_17 := x0x_16.next hb48
              have x1_17 := x1_16.below hb48
              have x2_17 := x2_16.below hb48
              have x3_17 := x3_16.below hb48
              have x4_17 := x4_16.below hb48
              have g_17 := g_16.below hb48
              have y1_17 := y1_16.below hb48
              clear a0_16 h0_16 h1_16 h2_16 h3_16 h4_16 T_16 o_16 x0_16 x0x_16 x1_16 x2_16 x3_16 x4_16 g_16 y1_16
              clear y1_17
              have f53 := a0_17.c0
              have f54 := a0_17.c1
              have f55 := x0x_17.c0
              have f56 := x0x_17.c1
              go_wp2_with fail
              refine (toInt_any _ _ _ xs2 _ h2_17 hn2).mono ?_
              rintro e w18 ⟨y2c, rfl, y2ho, y2hb⟩
              clear f53 f54 f55 f56
              obtain ⟨y2A, y2e⟩ : ∃ y2A : Option Addr, y2A = (some ⟨w17.heap.size, 0, none⟩) := ⟨_, rfl⟩
              rw [← y2e] at y2ho ⊢
              clear y2e
              have LTy2 : Hid (∀ k, (y2A : Option Addr).map (·.block) = some k → w17.heap.size ≤ k ∧ k < w18.heap.size) := Lib.hid (fun k hk => y2ho.lt k hk)
              have B_18 := Lib.hid (B_17.out.trans (y2hb.mono B_17.out.size))
              have S_17 := Lib.hid y2hb.size
              have a0_18 := a0_17.next y2hb
              have h0_18 := h0_17.below y2hb
              have h1_18 := h1_17.below y2hb
              have h2_18 := h2_17.below y2hb
              have h3_18 := h3_17.below y2hb
              have h4_18 := h4_17.below y2hb
              have T_18 := T_17.below y2hb
              have o_18 := o_17.below y2hb
              have x0_18 := x0_17.below y2hb
              have x0x_18 := x0x_17.next y2hb
              have x1_18 := x1_17.below y2hb
              have x2_18 := x2_17.below y2hb
              have x3_18 := x3_17.below y2hb
              have x4_18 := x4_17.below y2hb
              have g_18 := g_17.below y2hb
              clear a0_17 h0_17 h1_17 h2_17 h3_17 h4_17 T_17 o_17 x0_17 x0x_17 x1_17 x2_17 x3_17 x4_17 g_17
              have y2_18 := y2ho
              have f58 := a0_18.c0
              have f59 := a0_18.c1
              have f60 := x0x_18.c0
              have f61 := x0x_18.c1
              go_wp2_with fail
              refine (eq_true _ _ _ _ _ xs2 _ x2_18.rd y2_18.rd (by omega)).mono ?_
              rintro e w19 ⟨rfl, hb57⟩
              clear f58 f59 f60 f61
              have B_19 := Lib.hid (B_18.out.trans (hb57.mono B_18.out.size))
              have S_18 := Lib.hid hb57.size
              have a0_19 := a0_18.next hb57
              have h0_19 := h0_18.below hb57
              have h1_19 := h1_18.below hb57
              have h2_19 := h2_18.below hb57
              have h3_19 := h3_18.below hb57
              have h4_19 := h4_18.below hb57
              have T_19 := T_18.below hb57
              have o_19 := o_18.below hb57
              have x0_19 := x0_18.below hb57
              have x0x_19 := x0x_18.next hb57
              have x1_19 := x1_18.below hb57
              have x2_19 := x2_18.below hb57
              have x3_19 := x3_18.below hb57
              have x4_19 := x4_18.below hb57
              have g_19 := g_18.below hb57
              have y2_19 := y2_18.below hb57
              clear a0_18 h0_18 h1_18 h2_18 h3_18 h4_18 T_18 o_18 x0_18 x0x_18 x1_18 x2_18 x3_18 x4_18 g_18 y2_18
              clear y2_19
              have f62 := a0_19.c0
              have f63 := a0_19.c1
              have f64 := x0x_19.c0
              have f65 := x0x_19.c1
              go_wp2_with fail
              refine (toInt_any _ _ _ xs3 _ h3_19 hn3).mono ?_
              rintro e w20 ⟨y3c, rfl, y3ho, y3hb⟩
              clear f62 f63 f64 f65
              obtain ⟨y3A, y3e⟩ : ∃ y3A : Option Addr, y3A = (some ⟨w19.heap.size, 0, none⟩) := ⟨_, rfl⟩
              rw [← y3e] at y3ho ⊢
              clear y3e
              have LTy3 : Hid (∀ k, (y3A : Option Addr).map (·.block) = some k → w19.heap.size ≤ k ∧ k < w20.heap.size) := Lib.hid (fun k hk => y3ho.lt k hk)
              have B_20 := Lib.hid (B_19.out.trans (y3hb.mono B_19.out.size))
              have S_19 := Lib.hid y3hb.size
              have a0_20 := a0_19.next y3hb
              have h0_20 := h0_19.below y3hb
              have h1_20 := h1_19.below y3hb
              have h2_20 := h2_19.below y3hb
              have h3_20 := h3_19.below y3hb
              have h4_20 := h4_19.below y3hb
              have T_20 := T_19.below y3hb
              have o_20 := o_19.below y3hb
              have x0_20 := x0_19.below y3hb
              have x0x_20 := x0x_19.next y3hb
              have x1_20 := x1_19.below y3hb
              have x2_20 := x2_19.below y3hb
              have x3_20 := x3_19.below y3hb
              have x4_20 := x4_19.below y3hb
              have g_20 := g_19.below y3hb
              clear a0_19 h0_19 h1_19 h2_19 h3_19 h4_19 T_19 o_19 x0_19 x0x_19 x1_19 x2_19 x3_19 x4_19 g_19
              have y3_20 := y3ho
              have f67 := a0_20.c0
              have f68 := a0_20.c1
              have f69 := x0x_20.c0
              have f70 := x0x_20.c1
              go_wp2_with fail
              refine (eq_true _ _ _ _ _ xs3 _ x3_20.rd y3_20.rd (by omega)).mono ?_
              rintro e w21 ⟨rfl, hb66⟩
              clear f67 f68 f69 f70
              have B_21 := Lib.hid (B_20.out.trans (hb66.mono B_20.out.size))
              have S_20 := Lib.hid hb66.size
              have a0_21 := a0_20.next hb66
              have h0_21 := h0_20.below hb66
              have h1_21 := h1_20.below hb66
              have h2_21 := h2_20.below hb66
              have h3_21 := h3_20.below hb66
              have h4_21 := h4_20.below hb66
              have T_21 := T_20.below hb66
              have o_21 := o_20.below hb66
              have x0_21 := x0_20.below hb66
              have x0x_21 := x0x_20.next hb66
              have x1_21 := x1_20.below hb66
              have x2_21 := x2_20.below hb66
              have x3_21 := x3_20.below hb66
              have x4_21 := x4_20.below hb66
              have g_21 := g_20.below hb66
              have y3_21 := y3_20.below hb66
              clear a0_20 h0_20 h1_20 h2_20 h3_20 h4_20 T_20 o_20 x0_20 x0x_20 x1_20 x2_20 x3_20 x4_20 g_20 y3_20
              clear y3_21
              have f71 := a0_21.c0
              have f72 := a0_21.c1
              have f73 := x0x_21.c0
              have f74 := x0x_21.c1
              go_wp2_with fail
              refine (toInt_any _ _ _ xs4 _ h4_21 hn4).mono ?_
              rintro e w22 ⟨y4c, rfl, y4ho, y4hb⟩
              clear f71 f72 f73 f74
              obtain ⟨y4A, y4e⟩ : ∃ y4A : Option Addr, y4A = (some ⟨w21.heap.size, 0, none⟩) := ⟨_, rfl⟩
              rw [← y4e] at y4ho ⊢
              clear y4e
              have LTy4 : Hid (∀ k, (y4A : Option Addr).map (·.block) = some k → w21.heap.size ≤ k ∧ k < w22.heap.size) := Lib.hid (fun k hk => y4ho.lt k hk)
              have B_22 := Lib.hid (B_21.out.trans (y4hb.mono B_21.out.size))
              have S_21 := Lib.hid y4hb.size
              have a0_22 := a0_21.next y4hb
              have h0_22 := h0_21.below y4hb
              have h1_22 := h1_21.below y4hb
              have h2_22 := h2_21.below y4hb
              have h3_22 := h3_21.below y4hb
              have h4_22 := h4_21.below y4hb
              have T_22 := T_21.below y4hb
              have o_22 := o_21.below y4hb
              have x0_22 := x0_21.below y4hb
              have x0x_22 := x0x_21.next y4hb
              have x1_22 := x1_21.below y4hb
              have x2_22 := x2_21.below y4hb
              have x3_22 := x3_21.below y4hb
              have x4_22 := x4_21.below y4hb
              have g_22 := g_21.below y4hb
              clear a0_21 h0_21 h1_21 h2_21 h3_21 h4_21 T_21 o_21 x0_21 x0x_21 x1_21 x2_21 x3_21 x4_21 g_21
              have y4_22 := y4ho
              have f76 := a0_22.c0
              have f77 := a0_22.c1
              have f78 := x0x_22.c0
              have f79 := x0x_22.c1
              go_wp2_with fail
              refine (eq_true _ _ _ _ _ xs4 _ x4_22.rd y4_22.rd (by omega)).mono ?_
              rintro e w23 ⟨rfl, hb75⟩
              clear f76 f77 f78 f79
              have B_23 := Lib.hid (B_22.out.trans (hb75.mono B_22.out.size))
              have S_22 := Lib.hid hb75.size
              have a0_23 := a0_22.next hb75
              have h0_23 := h0_22.below hb75
              have h1_23 := h1_22.below hb75
              have h2_23 := h2_22.below hb75
              have h3_23 := h3_22.below hb75
              have h4_23 := h4_22.below hb75
              have T_23 := T_22.below hb75
              have o_23 := o_22.below hb75
              have x0_23 := x0_22.below hb75
              have x0x_23 := x0x_22.next hb75
              have x1_23 := x1_22.below hb75
              have x2_23 := x2_22.below hb75
              have x3_23 := x3_22.below hb75
              have x4_23 := x4_22.below hb75
              have g_23 := g_22.below hb75
              have y4_23 := y4_22.below hb75
              clear a0_22 h0_22 h1_22 h2_22 h3_22 h4_22 T_22 o_22 x0_22 x0x_22 x1_22 x2_22 x3_22 x4_22 g_22 y4_22
              clear y4_23
              have f80 := a0_23.c0
              have f81 := a0_23.c1
              have f82 := x0x_23.c0
              have f83 := x0x_23.c1
              go_wp2_with fail
              refine (markAl_any _ _ L0 _ _ _ (1) _ _ x0_23 hn0 (by omega)).mono ?_
              rintro e w24 ⟨rfl, mx0, mg0⟩
              clear f80 f81 f82 f83
              have S_23 := Lib.hid mg0.size
              have B_24 := Lib.hid (B_23.out.grown mg0 B_23.out.size (fun k hk => by have := (LTx0.out k hk).1; have := S_0.out; have := S_1.out; have := S_2.out; have := S_3.out; have := S_4.out; have := S_5.out; have := S_6.out; have := S_7.out; have := S_8.out; have := S_9.out; have := S_10.out; have := S_11.out; have := S_12.out; have := S_13.out; have := S_14.out; have := S_15.out; have := S_16.out; have := S_17.out; have := S_18.out; have := S_19.out; have := S_20.out; have := S_21.out; have := S_22.out; have := S0_.out; omega))
              have a0_24 := a0_23.apart mg0 (fun e => by have := LTx0.out _ e; have := S_0.out; have := S_1.out; have := S_2.out; have := S_3.out; have := S_4.out; have := S_5.out; have := S_6.out; have := S_7.out; have := S_8.out; have := S_9.out; have := S_10.out; have := S_11.out; have := S_12.out; have := S_13.out; have := S_14.out; have := S_15.out; have := S_16.out; have := S_17.out; have := S_18.out; have := S_19.out; have := S_20.out; have := S_21.out; have := S_22.out; have := S0_.out; omega)
              have h0_24 := h0.below B_24.out
              have h1_24 := h1.below B_24.out
              have h2_24 := h2.below B_24.out
              have h3_24 := h3.below B_24.out
              have h4_24 := h4.below B_24.out
              have T_24 := hT.below B_24.out
              have o_24 := o_23.apart mg0 (fun r hr => by have := LTo.out; have := LTx0.out r hr; have := S_0.out; have := S_1.out; have := S_2.out; have := S_3.out; have := S_4.out; have := S_5.out; have := S_6.out; have := S_7.out; have := S_8.out; have := S_9.out; have := S_10.out; have := S_11.out; have := S_12.out; have := S_13.out; have := S_14.out; have := S_15.out; have := S_16.out; have := S_17.out; have := S_18.out; have := S_19.out; have := S_20.out; have := S_21.out; have := S_22.out; omega)
              have x0x_24 := x0x_23.apart mg0 (fun e => by have := LTx0.out _ e; have := S_0.out; have := S_1.out; have := S_2.out; have := S_3.out; have := S_4.out; have := S_5.out; have := S_6.out; have := S_7.out; have := S_8.out; have := S_9.out; have := S_10.out; have := S_11.out; have := S_12.out; have := S_13.out; have := S_14.out; have := S_15.out; have := S_16.out; have := S_17.out; have := S_18.out; have := S_19.out; have := S_20.out; have := S_21.out; have := S_22.out; have := S0_.out; omega)
              have x1_24 := x1_23.apart mg0 (fun k hk e => by have := LTx1.out k hk; have := LTx0.out k e; have := S_0.out; have := S_1.out; have := S_2.out; have := S_3.out; have := S_4.out; have := S_5.out; have := S_6.out; have := S_7.out; have := S_8.out; have := S_9.out; have := S_10.out; have := S_11.out; have := S_12.out; have := S_13.out; have := S_14.out; have := S_15.out; have := S_16.out; have := S_17.out; have := S_18.out; have := S_19.out; have := S_20.out; have := S_21.out; have := S_22.out; omega)
              have x2_24 := x2_23.apart mg0 (fun k hk e => by have := LTx2.out k hk; have := LTx0.out k e; have := S_0.out; have := S_1.out; have := S_2.out; have := S_3.out; have := S_4.out; have := S_5.out; have := S_6.out; have := S_7.out; have := S_8.out; have := S_9.out; have := S_10.out; have := S_11.out; have := S_12.out; have := S_13.out; have := S_14.out; have := S_15.out; have := S_16.out; have := S_17.out; have := S_18.out; have := S_19.out; have := S_20.out; have := S_21.out; have := S_22.out; omega)
              have x3_24 := x3_23.apart mg0 (fun k hk e => by have := LTx3.out k hk; have := LTx0.out k e; have := S_0.out; have := S_1.out; have := S_2.out; have := S_3.out; have := S_4.out; have := S_5.out; have := S_6.out; have := S_7.out; have := S_8.out; have := S_9.out; have := S_10.out; have := S_11.out; have := S_12.out; have := S_13.out; have := S_14.out; have := S_15.out; have := S_16.out; have := S_17.out; have := S_18.out; have := S_19.out; have := S_20.out; have := S_21.out; have := S_22.out; omega)
              have x4_24 := x4_23.apart mg0 (fun k hk e => by have := LTx4.out k hk; have := LTx0.out k e; have := S_0.out; have := S_1.out; have := S_2.out; have := S_3.out; have := S_4.out; have := S_5.out; have := S_6.out; have := S_7.out; have := S_8.out; have := S_9.out; have := S_10.out; have := S_11.out; have := S_12.out; have := S_13.out; have := S_14.out; have := S_15.out; have := S_16.out; have := S_17.out; have := S_18.out; have := S_19.out; have := S_20.out; have := S_21.out; have := S_22.out; omega)
              have g_24 := g_23.apart mg0 (fun r hr => by have := LTg.out; have := LTx0.out r hr; have := S_0.out; have := S_1.out; have := S_2.out; have := S_3.out; have := S_4.out; have := S_5.out; have := S_6.out; have := S_7.out; have := S_8.out; have := S_9.out; have := S_10.out; have := S_11.out; have := S_12.out; have := S_13.out; have := S_14.out; have := S_15.out; have := S_16.out; have := S_17.out; have := S_18.out; have := S_19.out; have := S_20.out; have := S_21.out; have := S_22.out; omega)
              clear a0_23 h0_23 h1_23 h2_23 h3_23 h4_23 T_23 o_23 x0x_23 x1_23 x2_23 x3_23 x4_23 g_23
              have x0_24 := mx0
              have f84 := a0_24.c0
              have f85 := a0_24.c1
              have f86 := x0x_24.c0
              have f87 := x0x_24.c1
              go_wp2_with fail
              refine (mark_any _ _ _ _ _ (1 + n0) _ _ x1_24 hn1 (by omega)).mono ?_
              rintro e w25 ⟨rfl, mx1, mg1⟩
              clear f84 f85 f86 f87
              have S_24 := Lib.hid mg1.size
              have B_25 := Lib.hid (B_24.out.grown mg1 B_24.out.size (fun k hk => by have := (LTx1.out k hk).1; have := S_0.out; have := S_1.out; have := S_2.out; have := S_3.out; have := S_4.out; have := S_5.out; have := S_6.out; have := S_7.out; have := S_8.out; have := S_9.out; have := S_10.out; have := S_11.out; have := S_12.out; have := S_13.out; have := S_14.out; have := S_15.out; have := S_16.out; have := S_17.out; have := S_18.out; have := S_19.out; have := S_20.out; have := S_21.out; have := S_22.out; have := S_23.out; have := S0_.out; omega))
              have a0_25 := a0_24.apart mg1 (fun e => by have := LTx1.out _ e; have := S_0.out; have := S_1.out; have := S_2.out; have := S_3.out; have := S_4.out; have := S_5.out; have := S_6.out; have := S_7.out; have := S_8.out; have := S_9.out; have := S_10.out; have := S_11.out; have := S_12.out; have := S_13.out; have := S_14.out; have := S_15.out; have := S_16.out; have := S_17.out; have := S_18.out; have := S_19.out; have := S_20.out; have := S_21.out; have := S_22.out; have := S_23.out; have := S0_.out; omega)
              have h0_25 := h0.below B_25.out
              have h1_25 := h1.below B_25.out
              have h2_25 := h2.below B_25.out
              have h3_25 := h3.below B_25.out
              have h4_25 := h4.below B_25.out
              have T_25 := hT.below B_25.out
              have o_25 := o_24.apart mg1 (fun r hr => by have := LTo.out; have := LTx1.out r hr; have := S_0.out; have := S_1.out; have := S_2.out; have := S_3.out; have := S_4.out; have := S_5.out; have := S_6.out; have := S_7.out; have := S_8.out; have := S_9.out; have := S_10.out; have := S_11.out; have := S_12.out; have := S_13.out; have := S_14.out; have := S_15.out; have := S_16.out; have := S_17.out; have := S_18.out; have := S_19.out; have := S_20.out; have := S_21.out; have := S_22.out; have := S_23.out; omega)
              have x0_25 := x0_24.apart mg1 (fun k hk e => by have := LTx0.out k hk; have := LTx1.out k e; have := S_0.out; have := S_1.out; have := S_2.out; have := S_3.out; have := S_4.out; have := S_5.out; have := S_6.out; have := S_7.out; have := S_8.out; have := S_9.out; have := S_10.out; have := S_11.out; have := S_12.out; have := S_13.out; have := S_14.out; have := S_15.out; have := S_16.out; have := S_17.out; have := S_18.out; have := S_19.out; have := S_20.out; have := S_21.out; have := S_22.out; have := S_23.out; omega)
              have x0x_25 := x0x_24.apart mg1 (fun e => by have := LTx1.out _ e; have := S_0.out; have := S_1.out; have := S_2.out; have := S_3.out; have := S_4.out; have := S_5.out; have := S_6.out; have := S_7.out; have := S_8.out; have := S_9.out; have := S_10.out; have := S_11.out; have := S_12.out; have := S_13.out; have := S_14.out; have := S_15.out; have := S_16.out; have := S_17.out; have := S_18.out; have := S_19.out; have := S_20.out; have := S_21.out; have := S_22.out; have := S_23.out; have := S0_.out; omega)
              have x2_25 := x2_24.apart mg1 (fun k hk e => by have := LTx2.out k hk; have := LTx1.out k e; have := S_0.out; have := S_1.out; have := S_2.out; have := S_3.out; have := S_4.out; have := S_5.out; have := S_6.out; have := S_7.out; have := S_8.out; have := S_9.out; have := S_10.out; have := S_11.out; have := S_12.out; have := S_13.out; have := S_14.out; have := S_15.out; have := S_16.out; have := S_17.out; have := S_18.out; have := S_19.out; have := S_20.out; have := S_21.out; have := S_22.out; have := S_23.out; omega)
              have x3_25 := x3_24.apart mg1 (fun k hk e => by have := LTx3.out k hk; have := LTx1.out k e; have := S_0.out; have := S_1.out; have := S_2.out; have := S_3.out; have := S_4.out; have := S_5.out; have := S_6.out; have := S_7.out; have := S_8.out; have := S_9.out; have := S_10.out; have := S_11.out; have := S_12.out; have := S_13.out; have := S_14.out; have := S_15.out; have := S_16.out; have := S_17.out; have := S_18.out; have := S_19.out; have := S_20.out; have := S_21.out; have := S_22.out; have := S_23.out; omega)
              have x4_25 := x4_24.apart mg1 (fun k hk e => by have := LTx4.out k hk; have := LTx1.out k e; have := S_0.out; have := S_1.out; have := S_2.out; have := S_3.out; have := S_4.out; have := S_5.out; have := S_6.out; have := S_7.out; have := S_8.out; have := S_9.out; have := S_10.out; have := S_11.out; have := S_12.out; have := S_13.out; have := S_14.out; have := S_15.out; have := S_16.out; have := S_17.out; have := S_18.out; have := S_19.out; have := S_20.out; have := S_21.out; have := S_22.out; have := S_23.out; omega)
              have g_25 := g_24.apart mg1 (fun r hr => by have := LTg.out; have := LTx1.out r hr; have := S_0.out; have := S_1.out; have := S_2.out; have := S_3.out; have := S_4.out; have := S_5.out; have := S_6.out; have := S_7.out; have := S_8.out; have := S_9.out; have := S_10.out; have := S_11.out; have := S_12.out; have := S_13.out; have := S_14.out; have := S_15.out; have := S_16.out; have := S_17.out; have := S_18.out; have := S_19.out; have := S_20.out; have := S_21.out; have := S_22.out; have := S_23.out; omega)
              clear a0_24 h0_24 h1_24 h2_24 h3_24 h4_24 T_24 o_24 x0_24 x0x_24 x2_24 x3_24 x4_24 g_24
              have x1_25 := mx1
              have f88 := a0_25.c0
              have f89 := a0_25.c1
              have f90 := x0x_25.c0
              have f91 := x0x_25.c1
              go_wp2_with fail
              refine (mark_any _ _ _ _ _ (1 + n0 + n1) _ _ x2_25 hn2 (by omega)).mono ?_
              rintro e w26 ⟨rfl, mx2, mg2⟩
              clear f88 f89 f90 f91
              have S_25 := Lib.hid mg2.size
              have B_26 := Lib.hid (B_25.out.grown mg2 B_25.out.size (fun k hk => by have := (LTx2.out k hk).1; have := S_0.out; have := S_1.out; have := S_2.out; have := S_3.out; have := S_4.out; have := S_5.out; have := S_6.out; have := S_7.out; have := S_8.out; have := S_9.out; have := S_10.out; have := S_11.out; have := S_12.out; have := S_13.out; have := S_14.out; have := S_15.out; have := S_16.out; have := S_17.out; have := S_18.out; have := S_19.out; have := S_20.out; have := S_21.out; have := S_22.out; have := S_23.out; have := S_24.out; have := S0_.out; omega))
              have a0_26 := a0_25.apart mg2 (fun e => by have := LTx2.out _ e; have := S_0.out; have := S_1.out; have := S_2.out; have := S_3.out; have := S_4.out; have := S_5.out; have := S_6.out; have := S_7.out; have := S_8.out; have := S_9.out; have := S_10.out; have := S_11.out; have := S_12.out; have := S_13.out; have := S_14.out; have := S_15.out; have := S_16.out; have := S_17.out; have := S_18.out; have := S_19.out; have := S_20.out; have := S_21.out; have := S_22.out; have := S_23.out; have := S_24.out; have := S0_.out; omega)
              have h0_26 := h0.below B_26.out
              have h1_26 := h1.below B_26.out
              have h2_26 := h2.below B_26.out
              have h3_26 := h3.below B_26.out
              have h4_26 := h4.below B_26.out
              have T_26 := hT.below B_26.out
              have o_26 := o_25.apart mg2 (fun r hr => by have := LTo.out; have := LTx2.out r hr; have := S_0.out; have := S_1.out; have := S_2.out; have := S_3.out; have := S_4.out; have := S_5.out; have := S_6.out; have := S_7.out; have := S_8.out; have := S_9.out; have := S_10.out; have := S_11.out; have := S_12.out; have := S_13.out; have := S_14.out; have := S_15.out; have := S_16.out; have := S_17.out; have := S_18.out; have := S_19.out; have := S_20.out; have := S_21.out; have := S_22.out; have := S_23.out; have := S_24.out; omega)
              have x0_26 := x0_25.apart mg2 (fun k hk e => by have := LTx0.out k hk; have := LTx2.out k e; have := S_0.out; have := S_1.out; have := S_2.out; have := S_3.out; have := S_4.out; have := S_5.out; have := S_6.out; have := S_7.out; have := S_8.out; have := S_9.out; have := S_10.out; have := S_11.out; have := S_12.out; have := S_13.out; have := S_14.out; have := S_15.out; have := S_16.out; have := S_17.out; have := S_18.out; have := S_19.out; have := S_20.out; have := S_21.out; have := S_22.out; have := S_23.out; have := S_24.out; omega)
              have x0x_26 := x0x_25.apart mg2 (fun e => by have := LTx2.out _ e; have := S_0.out; have := S_1.out; have := S_2.out; have := S_3.out; have := S_4.out; have := S_5.out; have := S_6.out; have := S_7.out; have := S_8.out; have := S_9.out; have := S_10.out; have := S_11.out; have := S_12.out; have := S_13.out; have := S_14.out; have := S_15.out; have := S_16.out; have := S_17.out; have := S_18.out; have := S_19.out; have := S_20.out; have := S_21.out; have := S_22.out; have := S_23.out; have := S_24.out; have := S0_.out; omega)
              have x1_26 := x1_25.apart mg2 (fun k hk e => by have := LTx1.out k hk; have := LTx2.out k e; have := S_0.out; have := S_1.out; have := S_2.out; have := S_3.out; have := S_4.out; have := S_5.out; have := S_6.out; have := S_7.out; have := S_8.out; have := S_9.out; have := S_10.out; have := S_11.out; have := S_12.out; have := S_13.out; have := S_14.out; have := S_15.out; have := S_16.out; have := S_17.out; have := S_18.out; have := S_19.out; have := S_20.out; have := S_21.out; have := S_22.out; have := S_23.out; have := S_24.out; omega)
              have x3_26 := x3_25.apart mg2 (fun k hk e => by have := LTx3.out k hk; have := LTx2.out k e; have := S_0.out; have := S_1.out; have := S_2.out; have := S_3.out; have := S_4.out; have := S_5.out; have := S_6.out; have := S_7.out; have := S_8.out; have := S_9.out; have := S_10.out; have := S_11.out; have := S_12.out; have := S_13.out; have := S_14.out; have := S_15.out; have := S_16.out; have := S_17.out; have := S_18.out; have := S_19.out; have := S_20.out; have := S_21.out; have := S_22.out; have := S_23.out; have := S_24.out; omega)
              have x4_26 := x4_25.apart mg2 (fun k hk e => by have := LTx4.out k hk; have := LTx2.out k e; have := S_0.out; have := S_1.out; have := S_2.out; have := S_3.out; have := S_4.out; have := S_5.out; have := S_6.out; have := S_7.out; have := S_8.out; have := S_9.out; have := S_10.out; have := S_11.out; have := S_12.out; have := S_13.out; have := S_14.out; have := S_15.out; have := S_16.out; have := S_17.out; have := S_18.out; have := S_19.out; have := S_20.out; have := S_21.out; have := S_22.out; have := S_23.out; have := S_24.out; omega)
              have g_26 := g_25.apart mg2 (fun r hr => by have := LTg.out; have := LTx2.out r hr; have := S_0.out; have := S_1.out; have := S_2.out; have := S_3.out; have := S_4.out; have := S_5.out; have := S_6.out; have := S_7.out; have := S_8.out; have := S_9.out; have := S_10.out; have := S_11.out; have := S_12.out; have := S_13.out; have := S_14.out; have := S_15.out; have := S_16.out; have := S_17.out; have := S_18.out; have := S_19.out; have := S_20.out; have := S_21.out; have := S_22.out; have := S_23.out; have := S_24.out; omega)
              clear a0_25 h0_25 h1_25 h2_25 h3_25 h4_25 T_25 o_25 x0_25 x0x_25 x1_25 x3_25 x4_25 g_25
              have x2_26 := mx2
              have f92 := a0_26.c0
              have f93 := a0_26.c1
              have f94 := x0x_26.c0
              have f95 := x0x_26.c1
              go_wp2_with fail
              refine (mark_any _ _ _ _ _ (1 + n0 + n1 + n2) _ _ x3_26 hn3 (by omega)).mono ?_
              rintro e w27 ⟨rfl, mx3, mg3⟩
              clear f92 f93 f94 f95
              have S_26 := Lib.hid mg3.size
              have B_27 := Lib.hid (B_26.out.grown mg3 B_26.out.size (fun k hk => by have := (LTx3.out k hk).1; have := S_0.out; have := S_1.out; have := S_2.out; have := S_3.out; have := S_4.out; have := S_5.out; have := S_6.out; have := S_7.out; have := S_8.out; have := S_9.out; have := S_10.out; have := S_11.out; have := S_12.out; have := S_13.out; have := S_14.out; have := S_15.out; have := S_16.out; have := S_17.out; have := S_18.out; have := S_19.out; have := S_20.out; have := S_21.out; have := S_22.out; have := S_23.out; have := S_24.out; have := S_25.out; have := S0_.out; omega))
              have a0_27 := a0_26.apart mg3 (fun e => by have := LTx3.out _ e; have := S_0.out; have := S_1.out; have := S_2.out; have := S_3.out; have := S_4.out; have := S_5.out; have := S_6.out; have := S_7.out; have := S_8.out; have := S_9.out; have := S_10.out; have := S_11.out; have := S_12.out; have := S_13.out; have := S_14.out; have := S_15.out; have := S_16.out; have := S_17.out; have := S_18.out; have := S_19.out; have := S_20.out; have := S_21.out; have := S_22.out; have := S_23.out; have := S_24.out; have := S_25.out; have := S0_.out; omega)
              have h0_27 := h0.below B_27.out
              have h1_27 := h1.below B_27.out
              have h2_27 := h2.below B_27.out
              have h3_27 := h3.below B_27.out
              have h4_27 := h4.below B_27.out
              have T_27 := hT.below B_27.out
              have o_27 := o_26.apart mg3 (fun r hr => by have := LTo.out; have := LTx3.out r hr; have := S_0.out; have := S_1.out; have := S_2.out; have := S_3.out; have := S_4.out; have := S_5.out; have := S_6.out; have := S_7.out; have := S_8.out; have := S_9.out; have := S_10.out; have := S_11.out; have := S_12.out; have := S_13.out; have := S_14.out; have := S_15.out; have := S_16.out; have := S_17.out; have := S_18.out; have := S_19.out; have := S_20.out; have := S_21.out; have := S_22.out; have := S_23.out; have := S_24.out; have := S_25.out; omega)
              have x0_27 := x0_26.apart mg3 (fun k hk e => by have := LTx0.out k hk; have := LTx3.out k e; have := S_0.out; have := S_1.out; have := S_2.out; have := S_3.out; have := S_4.out; have := S_5.out; have := S_6.out; have := S_7.out; have := S_8.out; have := S_9.out; have := S_10.out; have := S_11.out; have := S_12.out; have := S_13.out; have := S_14.out; have := S_15.out; have := S_16.out; have := S_17.out; have := S_18.out; have := S_19.out; have := S_20.out; have := S_21.out; have := S_22.out; have := S_23.out; have := S_24.out; have := S_25.out; omega)
              have x0x_27 := x0x_26.apart mg3 (fun e => by have := LTx3.out _ e; have := S_0.out; have := S_1.out; have := S_2.out; have := S_3.out; have := S_4.out; have := S_5.out; have := S_6.out; have := S_7.out; have := S_8.out; have := S_9.out; have := S_10.out; have := S_11.out; have := S_12.out; have := S_13.out; have := S_14.out; have := S_15.out; have := S_16.out; have := S_17.out; have := S_18.out; have := S_19.out; have := S_20.out; have := S_21.out; have := S_22.out; have := S_23.out; have := S_24.out; have := S_25.out; have := S0_.out; omega)
              have x1_27 := x1_26.apart mg3 (fun k hk e => by have := LTx1.out k hk; have := LTx3.out k e; have := S_0.out; have := S_1.out; have := S_2.out; have := S_3.out; have := S_4.out; have := S_5.out; have := S_6.out; have := S_7.out; have := S_8.out; have := S_9.out; have := S_10.out; have := S_11.out; have := S_12.out; have := S_13.out; have := S_14.out; have := S_15.out; have := S_16.out; have := S_17.out; have := S_18.out; have := S_19.out; have := S_20.out; have := S_21.out; have := S_22.out; have := S_23.out; have := S_24.out; have := S_25.out; omega)
              have x2_27 := x2_26.apart mg3 (fun k hk e => by have := LTx2.out k hk; have := LTx3.out k e; have := S_0.out; have := S_1.out; have := S_2.out; have := S_3.out; have := S_4.out; have := S_5.out; have := S_6.out; have := S_7.out; have := S_8.out; have := S_9.out; have := S_10.out; have := S_11.out; have := S_12.out; have := S_13.out; have := S_14.out; have := S_15.out; have := S_16.out; have := S_17.out; have := S_18.out; have := S_19.out; have := S_20.out; have := S_21.out; have := S_22.out; have := S_23.out; have := S_24.out; have := S_25.out; omega)
              have x4_27 := x4_26.apart mg3 (fun k hk e => by have := LTx4.out k hk; have := LTx3.out k e; have := S_0.out; have := S_1.out; have := S_2.out; have := S_3.out; have := S_4.out; have := S_5.out; have := S_6.out; have := S_7.out; have := S_8.out; have := S_9.out; have := S_10.out; have := S_11.out; have := S_12.out; have := S_13.out; have := S_14.out; have := S_15.out; have := S_16.out; have := S_17.out; have := S_18.out; have := S_19.out; have := S_20.out; have := S_21.out; have := S_22.out; have := S_23.out; have := S_24.out; have := S_25.out; omega)
              have g_27 := g_26.apart mg3 (fun r hr => by have := LTg.out; have := LTx3.out r hr; have := S_0.out; have := S_1.out; have := S_2.out; have := S_3.out; have := S_4.out; have := S_5.out; have := S_6.out; have := S_7.out; have := S_8.out; have := S_9.out; have := S_10.out; have := S_11.out; have := S_12.out; have := S_13.out; have := S_14.out; have := S_15.out; have := S_16.out; have := S_17.out; have := S_18.out; have := S_19.out; have := S_20.out; have := S_21.out; have := S_22.out; have := S_23.out; have := S_24.out; have := S_25.out; omega)
              clear a0_26 h0_26 h1_26 h2_26 h3_26 h4_26 T_26 o_26 x0_26 x0x_26 x1_26 x2_26 x4_26 g_26
              have x3_27 := mx3
              have f96 := a0_27.c0
              have f97 := a0_27.c1
              have f98 := x0x_27.c0
              have f99 := x0x_27.c1
              go_wp2_with fail
              refine (mark_any _ _ _ _ _ (1 + n0 + n1 + n2 + n3) _ _ x4_27 hn4 (by omega)).mono ?_
              rintro e w28 ⟨rfl, mx4, mg4⟩
              clear f96 f97 f98 f99
              have S_27 := Lib.hid mg4.size
              have B_28 := Lib.hid (B_27.out.grown mg4 B_27.out.size (fun k hk => by have := (LTx4.out k hk).1; have := S_0.out; have := S_1.out; have := S_2.out; have := S_3.out; have := S_4.out; have := S_5.out; have := S_6.out; have := S_7.out; have := S_8.out; have := S_9.out; have := S_10.out; have := S_11.out; have := S_12.out; have := S_13.out; have := S_14.out; have := S_15.out; have := S_16.out; have := S_17.out; have := S_18.out; have := S_19.out; have := S_20.out; have := S_21.out; have := S_22.out; have := S_23.out; have := S_24.out; have := S_25.out; have := S_26.out; have := S0_.out; omega))
              have a0_28 := a0_27.apart mg4 (fun e => by have := LTx4.out _ e; have := S_0.out; have := S_1.out; have := S_2.out; have := S_3.out; have := S_4.out; have := S_5.out; have := S_6.out; have := S_7.out; have := S_8.out; have := S_9.out; have := S_10.out; have := S_11.out; have := S_12.out; have := S_13.out; have := S_14.out; have := S_15.out; have := S_16.out; have := S_17.out; have := S_18.out; have := S_19.out; have := S_20.out; have := S_21.out; have := S_22.out; have := S_23.out; have := S_24.out; have := S_25.out; have := S_26.out; have := S0_.out; omega)
              have h0_28 := h0.below B_28.out
              have h1_28 := h1.below B_28.out
              have h2_28 := h2.below B_28.out
              have h3_28 := h3.below B_28.out
              have h4_28 := h4.below B_28.out
              have T_28 := hT.below B_28.out
              have o_28 := o_27.apart mg4 (fun r hr => by have := LTo.out; have := LTx4.out r hr; have := S_0.out; have := S_1.out; have := S_2.out; have := S_3.out; have := S_4.out; have := S_5.out; have := S_6.out; have := S_7.out; have := S_8.out; have := S_9.out; have := S_10.out; have := S_11.out; have := S_12.out; have := S_13.out; have := S_14.out; have := S_15.out; have := S_16.out; have := S_17.out; have := S_18.out; have := S_19.out; have := S_20.out; have := S_21.out; have := S_22.out; have := S_23.out; have := S_24.out; have := S_25.out; have := S_26.out; omega)
              have x0_28 := x0_27.apart mg4 (fun k hk e => by have := LTx0.out k hk; have := LTx4.out k e; have := S_0.out; have := S_1.out; have := S_2.out; have := S_3.out; have := S_4.out; have := S_5.out; have := S_6.out; have := S_7.out; have := S_8.out; have := S_9.out; have := S_10.out; have := S_11.out; have := S_12.out; have := S_13.out; have := S_14.out; have := S_15.out; have := S_16.out; have := S_17.out; have := S_18.out; have := S_19.out; have := S_20.out; have := S_21.out; have := S_22.out; have := S_23.out; have := S_24.out; have := S_25.out; have := S_26.out; omega)
              have x0x_28 := x0x_27.apart mg4 (fun e => by have := LTx4.out _ e; have := S_0.out; have := S_1.out; have := S_2.out; have := S_3.out; have := S_4.out; have := S_5.out; have := S_6.out; have := S_7.out; have := S_8.out; have := S_9.out; have := S_10.out; have := S_11.out; have := S_12.out; have := S_13.out; have := S_14.out; have := S_15.out; have := S_16.out; have := S_17.out; have := S_18.out; have := S_19.out; have := S_20.out; have := S_21.out; have := S_22.out; have := S_23.out; have := S_24.out; have := S_25.out; have := S_26.out; have := S0_.out; omega)
              have x1_28 := x1_27.apart mg4 (fun k hk e => by have := LTx1.out k hk; have := LTx4.out k e; have := S_0.out; have := S_1.out; have := S_2.out; have := S_3.out; have := S_4.out; have := S_5.out; have := S_6.out; have := S_7.out; have := S_8.out; have := S_9.out; have := S_10.out; have := S_11.out; have := S_12.out; have := S_13.out; have := S_14.out; have := S_15.out; have := S_16.out; have := S_17.out; have := S_18.out; have := S_19.out; have := S_20.out; have := S_21.out; have := S_22.out; have := S_23.out; have := S_24.out; have := S_25.out; have := S_26.out; omega)
              have x2_28 := x2_27.apart mg4 (fun k hk e => by have := LTx2.out k hk; have := LTx4.out k e; have := S_0.out; have := S_1.out; have := S_2.out; have := S_3.out; have := S_4.out; have := S_5.out; have := S_6.out; have := S_7.out; have := S_8.out; have := S_9.out; have := S_10.out; have := S_11.out; have := S_12.out; have := S_13.out; have := S_14.out; have := S_15.out; have := S_16.out; have := S_17.out; have := S_18.out; have := S_19.out; have := S_20.out; have := S_21.out; have := S_22.out; have := S_23.out; have := S_24.out; have := S_25.out; have := S_26.out; omega)
              have x3_28 := x3_27.apart mg4 (fun k hk e => by have := LTx3.out k hk; have := LTx4.out k e; have := S_0.out; have := S_1.out; have := S_2.out; have := S_3.out; have := S_4.out; have := S_5.out; have := S_6.out; have := S_7.out; have := S_8.out; have := S_9.out; have := S_10.out; have := S_11.out; have := S_12.out; have := S_13.out; have := S_14.out; have := S_15.out; have := S_16.out; have := S_17.out; have := S_18.out; have := S_19.out; have := S_20.out; have := S_21.out; have := S_22.out; have := S_23.out; have := S_24.out; have := S_25.out; have := S_26.out; omega)
              have g_28 := g_27.apart mg4 (fun r hr => by have := LTg.out; have := LTx4.out r hr; have := S_0.out; have := S_1.out; have := S_2.out; have := S_3.out; have := S_4.out; have := S_5.out; have := S_6.out; have := S_7.out; have := S_8.out; have := S_9.out; have := S_10.out; have := S_11.out; have := S_12.out; have := S_13.out; have := S_14.out; have := S_15.out; have := S_16.out; have := S_17.out; have := S_18.out; have := S_19.out; have := S_20.out; have := S_21.out; have := S_22.out; have := S_23.out; have := S_24.out; have := S_25.out; have := S_26.out; omega)
              clear a0_27 h0_27 h1_27 h2_27 h3_27 h4_27 T_27 o_27 x0_27 x0x_27 x1_27 x2_27 x3_27 g_27
              have x4_28 := mx4
              clear x0_28
              clear x1_28
              clear x2_28
              clear x3_28
              clear x4_28
              have f101 := a0_28.c0
              have f102 := a0_28.c1
              have f103 := x0x_28.c0
              have f104 := x0x_28.c1
              go_wp2_with fail
              refine (eqSS_true _ _ _ _ _ VX _ (g_28.rd HSM.out) (o_28.rd HSM.out) (by omega)).mono ?_
              rintro e w29 ⟨rfl, hb100⟩
              clear f101 f102 f103 f104
              have B_29 := Lib.hid (B_28.out.trans (hb100.mono B_28.out.size))
              have S_28 := Lib.hid hb100.size
              have a0_29 := a0_28.next hb100
              have h0_29 := h0_28.below hb100
              have h1_29 := h1_28.below hb100
              have h2_29 := h2_28.below hb100
              have h3_29 := h3_28.below hb100
              have h4_29 := h4_28.below hb100
              have T_29 := T_28.below hb100
              have o_29 := o_28.below hb100
              have x0x_29 := x0x_28.next hb100
              have g_29 := g_28.below hb100
              clear a0_28 h0_28 h1_28 h2_28 h3_28 h4_28 T_28 o_28 x0x_28 g_28
              have f105 := a0_29.c0
              have f106 := a0_29.c1
              have f107 := x0x_29.c0
              have f108 := x0x_29.c1
              go_wp2_with fail
              refine (markSS_one _ _ _ _ _ _ _ g_29 HSV.out hVS hVN).mono ?_
              rintro e w30 ⟨rfl, mxg, mgg⟩
              clear f105 f106 f107 f108
              have S_29 := Lib.hid mgg.size
              have B_30 := Lib.hid (mgg.under B_29.out (by have := LTg.out; have := S_0.out; have := S_1.out; have := S_2.out; have := S_3.out; have := S_4.out; have := S_5.out; have := S_6.out; have := S_7.out; have := S_8.out; have := S_9.out; have := S_10.out; have := S_11.out; have := S_12.out; have := S_13.out; have := S_14.out; have := S_15.out; have := S_16.out; have := S_17.out; have := S_18.out; have := S_19.out; have := S_20.out; have := S_21.out; have := S_22.out; have := S_23.out; have := S_24.out; have := S_25.out; have := S_26.out; have := S_27.out; have := S_28.out; have := S0_.out; omega))
              have a0_30 := a0_29.touched mgg (by have := LTg.out; have := S_0.out; have := S_1.out; have := S_2.out; have := S_3.out; have := S_4.out; have := S_5.out; have := S_6.out; have := S_7.out; have := S_8.out; have := S_9.out; have := S_10.out; have := S_11.out; have := S_12.out; have := S_13.out; have := S_14.out; have := S_15.out; have := S_16.out; have := S_17.out; have := S_18.out; have := S_19.out; have := S_20.out; have := S_21.out; have := S_22.out; have := S_23.out; have := S_24.out; have := S_25.out; have := S_26.out; have := S_27.out; have := S_28.out; have := S0_.out; omega)
              have h0_30 := h0.below B_30.out
              have h1_30 := h1.below B_30.out
              have h2_30 := h2.below B_30.out
              have h3_30 := h3.below B_30.out
              have h4_30 := h4.below B_30.out
              have T_30 := hT.below B_30.out
              have o_30 := o_29.touched mgg (by have := LTo.out; have := LTg.out; have := S_0.out; have := S_1.out; have := S_2.out; have := S_3.out; have := S_4.out; have := S_5.out; have := S_6.out; have := S_7.out; have := S_8.out; have := S_9.out; have := S_10.out; have := S_11.out; have := S_12.out; have := S_13.out; have := S_14.out; have := S_15.out; have := S_16.out; have := S_17.out; have := S_18.out; have := S_19.out; have := S_20.out; have := S_21.out; have := S_22.out; have := S_23.out; have := S_24.out; have := S_25.out; have := S_26.out; have := S_27.out; have := S_28.out; omega)
              have x0x_30 := x0x_29.touched mgg (by have := LTg.out; have := S_0.out; have := S_1.out; have := S_2.out; have := S_3.out; have := S_4.out; have := S_5.out; have := S_6.out; have := S_7.out; have := S_8.out; have := S_9.out; have := S_10.out; have := S_11.out; have := S_12.out; have := S_13.out; have := S_14.out; have := S_15.out; have := S_16.out; have := S_17.out; have := S_18.out; have := S_19.out; have := S_20.out; have := S_21.out; have := S_22.out; have := S_23.out; have := S_24.out; have := S_25.out; have := S_26.out; have := S_27.out; have := S_28.out; have := S0_.out; omega)
              clear a0_29 h0_29 h1_29 h2_29 h3_29 h4_29 T_29 o_29 x0x_29
              clear g_29
              have g_30 := mxg
              have f109 := a0_30.c0
              have f110 := a0_30.c1
              have f111 := x0x_30.c0
              have f112 := x0x_30.c1
              go_wp2_with fail
              refine (heldSS_one _ _ _ VX _ (g_30.rd HSM2.out) HSV.out hVS hVN).mono ?_
              rintro e w' ⟨rfl, rfl⟩
              clear f109 f110 f111 f112
              have f113 := a0_30.c0
              have f114 := a0_30.c1
              have f115 := x0x_30.c0
              have f116 := x0x_30.c1
              go_wp2_with fail
              refine (toAl_any L0 _ n0 _ xs0 _ h0_30 hn0).mono ?_
              rintro e w31 ⟨z0g, z0c, rfl, z0hg, z0ho, z0hb⟩
              clear f113 f114 f115 f116
              obtain ⟨z0A, z0e⟩ : ∃ z0A : Option Addr, z0A = (some ⟨z0g, 0, none⟩) := ⟨_, rfl⟩
              rw [← z0e] at z0ho ⊢
              clear z0e
              have LTz0 : Hid (∀ k, (z0A : Option Addr).map (·.block) = some k → w30.heap.size ≤ k ∧ k < w31.heap.size) := Lib.hid (fun k hk => z0ho.lt k hk)
              have B_31 := Lib.hid (B_30.out.trans (z0hb.mono B_30.out.size))
              have S_30 := Lib.hid z0hb.size
              have a0_31 := a0_30.next z0hb
              have h0_31 := h0_30.below z0hb
              have h1_31 := h1_30.below z0hb
              have h2_31 := h2_30.below z0hb
              have h3_31 := h3_30.below z0hb
              have h4_31 := h4_30.below z0hb
              have T_31 := T_30.below z0hb
              have o_31 := o_30.below z0hb
              have x0x_31 := x0x_30.next z0hb
              have g_31 := g_30.below z0hb
              clear a0_30 h0_30 h1_30 h2_30 h3_30 h4_30 T_30 o_30 x0x_30 g_30
              have z0_31 := z0ho
              have f117 := a0_31.c0
              have f118 := a0_31.c1
              have f119 := x0x_31.c0
              have f120 := x0x_31.c1
              go_wp2_with fail
              refine (toInt_any _ _ _ xs1 _ h1_31 hn1).mono ?_
              rintro e w32 ⟨z1c, rfl, z1ho, z1hb⟩
              clear f117 f118 f119 f120
              obtain ⟨z1A, z1e⟩ : ∃ z1A : Option Addr, z1A = (some ⟨w31.heap.size, 0, none⟩) := ⟨_, rfl⟩
              rw [← z1e] at z1ho ⊢
              clear z1e
              have LTz1 : Hid (∀ k, (z1A : Option Addr).map (·.block) = some k → w31.heap.size ≤ k ∧ k < w32.heap.size) := Lib.hid (fun k hk => z1ho.lt k hk)
              have B_32 := Lib.hid (B_31.out.trans (z1hb.mono B_31.out.size))
              have S_31 := Lib.hid z1hb.size
              have a0_32 := a0_31.next z1hb
              have h0_32 := h0_31.below z1hb
              have h1_32 := h1_31.below z1hb
              have h2_32 := h2_31.below z1hb
              have h3_32 := h3_31.below z1hb
              have h4_32 := h4_31.below z1hb
              have T_32 := T_31.below z1hb
              have o_32 := o_31.below z1hb
              have x0x_32 := x0x_31.next z1hb
              have g_32 := g_31.below z1hb
              have z0_32 := z0_31.below z1hb
              clear a0_31 h0_31 h1_31 h2_31 h3_31 h4_31 T_31 o_31 x0x_31 g_31 z0_31
              have z1_32 := z1ho
              have f121 := a0_32.c0
              have f122 := a0_32.c1
              have f123 := x0x_32.c0
              have f124 := x0x_32.c1
              go_wp2_with fail
              refine (toInt_any _ _ _ xs2 _ h2_32 hn2).mono ?_
              rintro e w33 ⟨z2c, rfl, z2ho, z2hb⟩
              clear f121 f122 f123 f124
              obtain ⟨z2A, z2e⟩ : ∃ z2A : Option Addr, z2A = (some ⟨w32.heap.size, 0, none⟩) := ⟨_, rfl⟩
              rw [← z2e] at z2ho ⊢
              clear z2e
              have LTz2 : Hid (∀ k, (z2A : Option Addr).map (·.block) = some k → w32.heap.size ≤ k ∧ k < w33.heap.size) := Lib.hid (fun k hk => z2ho.lt k hk)
              have B_33 := Lib.hid (B_32.out.trans (z2hb.mono B_32.out.size))
              have S_32 := Lib.hid z2hb.size
              have a0_33 := a0_32.next z2hb
              have h0_33 := h0_32.below z2hb
              have h1_33 := h1_32.below z2hb
              have h2_33 := h2_32.below z2hb
              have h3_33 := h3_32.below z2hb
              have h4_33 := h4_32.below z2hb
              have T_33 := T_32.below z2hb
              have o_33 := o_32.below z2hb
              have x0x_33 := x0x_32.next z2hb
              have g_33 := g_32.below z2hb
              have z0_33 := z0_32.below z2hb
              have z1_33 := z1_32.below z2hb
              clear a0_32 h0_32 h1_32 h2_32 h3_32 h4_32 T_32 o_32 x0x_32 g_32 z0_32 z1_32
              have z2_33 := z2ho
              have f125 := a0_33.c0
              have f126 := a0_33.c1
              have f127 := x0x_33.c0
              have f128 := x0x_33.c1
              go_wp2_with fail
              refine (toInt_any _ _ _ xs3 _ h3_33 hn3).mono ?_
              rintro e w34 ⟨z3c, rfl, z3ho, z3hb⟩
              clear f125 f126 f127 f128
              obtain ⟨z3A, z3e⟩ : ∃ z3A : Option Addr, z3A = (some ⟨w33.heap.size, 0, none⟩) := ⟨_, rfl⟩
              rw [← z3e] at z3ho ⊢
              clear z3e
              have LTz3 : Hid (∀ k, (z3A : Option Addr).map (·.block) = some k → w33.heap.size ≤ k ∧ k < w34.heap.size) := Lib.hid (fun k hk => z3ho.lt k hk)
              have B_34 := Lib.hid (B_33.out.trans (z3hb.mono B_33.out.size))
              have S_33 := Lib.hid z3hb.size
              have a0_34 := a0_33.next z3hb
              have h0_34 := h0_33.below z3hb
              have h1_34 := h1_33.below z3hb
              have h2_34 := h2_33.below z3hb
              have h3_34 := h3_33.below z3hb
              have h4_34 := h4_33.below z3hb
              have T_34 := T_33.below z3hb
              have o_34 := o_33.below z3hb
              have x0x_34 := x0x_33.next z3hb
              have g_34 := g_33.below z3hb
              have z0_34 := z0_33.below z3hb
              have z1_34 := z1_33.below z3hb
              have z2_34 := z2_33.below z3hb
              clear a0_33 h0_33 h1_33 h2_33 h3_33 h4_33 T_33 o_33 x0x_33 g_33 z0_33 z1_33 z2_33
              have z3_34 := z3ho
              have f129 := a0_34.c0
              have f130 := a0_34.c1
              have f131 := x0x_34.c0
              have f132 := x0x_34.c1
              go_wp2_with fail
              refine (toInt_any _ _ _ xs4 _ h4_34 hn4).mono ?_
              rintro e w35 ⟨z4c, rfl, z4ho, z4hb⟩
              clear f129 f130 f131 f132
              obtain ⟨z4A, z4e⟩ : ∃ z4A : Option Addr, z4A = (some ⟨w34.heap.size, 0, none⟩) := ⟨_, rfl⟩
              rw [← z4e] at z4ho ⊢
              clear z4e
              have LTz4 : Hid (∀ k, (z4A : Option Addr).map (·.block) = some k → w34.heap.size ≤ k ∧ k < w35.heap.size) := Lib.hid (fun k hk => z4ho.lt k hk)
              have B_35 := Lib.hid (B_34.out.trans (z4hb.mono B_34.out.size))
              have S_34 := Lib.hid z4hb.size
              have a0_35 := a0_34.next z4hb
              have h0_35 := h0_34.below z4hb
              have h1_35 := h1_34.below z4hb
              have h2_35 := h2_34.below z4hb
              have h3_35 := h3_34.below z4hb
              have h4_35 := h4_34.below z4hb
              have T_35 := T_34.below z4hb
              have o_35 := o_34.below z4hb
              have x0x_35 := x0x_34.next z4hb
              have g_35 := g_34.below z4hb
              have z0_35 := z0_34.below z4hb
              have z1_35 := z1_34.below z4hb
              have z2_35 := z2_34.below z4hb
              have z3_35 := z3_34.below z4hb
              clear a0_34 h0_34 h1_34 h2_34 h3_34 h4_34 T_34 o_34 x0x_34 g_34 z0_34 z1_34 z2_34 z3_34
              have z4_35 := z4ho
              have f133 := a0_35.c0
              have f134 := a0_35.c1
              have f135 := x0x_35.c0
              have f136 := x0x_35.c1
              go_wp2_with fail
              refine (himpl _ _ _ _ _ _ _ _ _ _ _ hn0 z0_35.rd hn1 z1_35.rd (own_cap z1_35) hn2 z2_35.rd (own_cap z2_35) hn3 z3_35.rd (own_cap z3_35) hn4 z4_35.rd (own_cap z4_35) T_35).mono ?_
              rintro e w36 ⟨qA, qc, rfl, qho, qhb⟩
              clear f133 f134 f135 f136
              obtain ⟨qlo, qe1⟩ : ∃ q : Nat, q = w35.heap.size := ⟨_, rfl⟩
              obtain ⟨qhi, qe2⟩ : ∃ q : Nat, q = w36.heap.size := ⟨_, rfl⟩
              have qh2 : OwnSS w36 qlo qhi qA VN qc VX := by rw [qe1, qe2]; exact qho
              have LTq : Hid (w35.heap.size ≤ qlo ∧ qhi = w36.heap.size) := Lib.hid ⟨by rw [qe1]; exact Nat.le_refl _, qe2⟩
              clear qho qe1 qe2
              have B_36 := Lib.hid (B_35.out.trans (qhb.mono B_35.out.size))
              have S_35 := Lib.hid qhb.size
              have a0_36 := a0_35.next qhb
              have h0_36 := h0_35.below qhb
              have h1_36 := h1_35.below qhb
              have h2_36 := h2_35.below qhb
              have h3_36 := h3_35.below qhb
              have h4_36 := h4_35.below qhb
              have T_36 := T_35.below qhb
              have o_36 := o_35.below qhb
              have x0x_36 := x0x_35.next qhb
              have g_36 := g_35.below qhb
              have z0_36 := z0_35.below qhb
              have z1_36 := z1_35.below qhb
              have z2_36 := z2_35.below qhb
              have z3_36 := z3_35.below qhb
              have z4_36 := z4_35.below qhb
              clear a0_35 h0_35 h1_35 h2_35 h3_35 h4_35 T_35 o_35 x0x_35 g_35 z0_35 z1_35 z2_35 z3_35 z4_35
              have q_36 := qh2
              clear z0_36
              clear z1_36
              clear z2_36
              clear z3_36
              clear z4_36
              have f138 := a0_36.c0
              have f139 := a0_36.c1
              have f140 := x0x_36.c0
              have f141 := x0x_36.c1
              go_wp2_with fail
              refine (eqSS_true _ _ _ _ _ VX _ (q_36.rd HSM.out) (o_36.rd HSM.out) (by omega)).mono ?_
              rintro e w37 ⟨rfl, hb137⟩
              clear f138 f139 f140 f141
              have B_37 := Lib.hid (B_36.out.trans (hb137.mono B_36.out.size))
              have S_36 := Lib.hid hb137.size
              have a0_37 := a0_36.next hb137
              have h0_37 := h0_36.below hb137
              have h1_37 := h1_36.below hb137
              have h2_37 := h2_36.below hb137
              have h3_37 := h3_36.below hb137
              have h4_37 := h4_36.below hb137
              have T_37 := T_36.below hb137
              have o_37 := o_36.below hb137
              have x0x_37 := x0x_36.next hb137
              have g_37 := g_36.below hb137
              have q_37 := q_36.below hb137
              clear a0_36 h0_36 h1_36 h2_36 h3_36 h4_36 T_36 o_36 x0x_36 g_36 q_36
              have f142 := a0_37.c0
              have f143 := a0_37.c1
              have f144 := x0x_37.c0
              have f145 := x0x_37.c1
              go_wp2_with fail
              refine (heldSS_one _ _ _ VX _ (g_37.rd HSM2.out) HSV.out hVS hVN).mono ?_
              rintro e w' ⟨rfl, rfl⟩
              clear f142 f143 f144 f145
              have f146 := a0_37.c0
              have f147 := a0_37.c1
              have f148 := x0x_37.c0
              have f149 := x0x_37.c1
              go_wp2_with fail
              go_ret
              exact ⟨rfl, B_37.out⟩
          · go_enter Tryd.func7, Tryd.ntmps7
            go_wp2_with fail
            rw [← hw0]
            refine (szno_any L0 A0 n0 c0 _ (by omega) hm0).mono ?_
            rintro e w1 ⟨rfl, hz0⟩
            go_wp2_with fail
            go_ret
            exact ⟨rfl, B_0.out.trans (hz0.mono B_0.out.size)⟩
        · go_enter Tryd.func7, Tryd.ntmps7
          go_wp2_with fail
          go_ret
          exact ⟨rfl, below1 _ _⟩
      · go_enter Tryd.func7, Tryd.ntmps7
        go_wp2_with fail
        go_ret
        exact ⟨rfl, below1 _ _⟩
    · go_enter Tryd.func7, Tryd.ntmps7
      go_wp2_with fail
      go_ret
      exact ⟨rfl, below1 _ _⟩
  · go_enter Tryd.func7, Tryd.ntmps7
    go_wp2_with fail
    go_ret
    exact ⟨rfl, below1 _ _⟩
end Go.Proofs.YtkifadmoedackaaDoor

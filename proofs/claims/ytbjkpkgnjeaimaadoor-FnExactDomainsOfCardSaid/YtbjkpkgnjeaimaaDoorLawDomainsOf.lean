/-
  The walk of FnExactDomainsOf, over contracts of both sides.
-/
import Derived.Test.YtbjkpkgnjeaimaaDoorDom
import Derived.Deep.CutRange
import Derived.Deep.RegionWith
namespace Go.Proofs.YtbjkpkgnjeaimaaDoor
open Go.RowKit
set_option linter.unusedVariables false
set_option maxRecDepth 100000
set_option maxHeartbeats 3200000 in
theorem lawDomainsOf (a0 : Int) (A1 : Option Addr) (n1 c1 : Nat) (xs1 : List Int) (w : World) (ha01 : -9223372036854775808 ≤ a0) (ha02 : a0 ≤ 9223372036854775807) (h1 : Rd w A1 n1 xs1) (hwf1 : Wf xs1) (hl1 : n1 ≤ maxLen) (hT : Tab w) (VN : Nat) (VX : List Int) (C : Int) (hVN : VN ≤ 1048576)
    (hspec : ∀ (B1 : Option Addr) (d1 : Nat) (w' : World), n1 ≤ 1048576 → Rd w' B1 n1 xs1 → Calls Tryd.prog 29 #[.int .i64 a0, .slice B1 n1 d1] w' (LsPost w' VN VX C))
    (himpl : ∀ (B1 : Option Addr) (d1 : Nat) (w' : World), n1 ≤ 1048576 → Rd w' B1 n1 xs1 → Tab w' → Calls Tryd.prog 30 #[.int .i64 a0, .slice B1 n1 d1] w' (LsPost w' VN VX C)) :
    Calls Tryd.prog 6 #[.int .i64 a0, .slice A1 n1 c1] w fun e w' => e = .returned (.bool true) ∧ Below w.heap.size w w' := by
  unfold maxLen at hl1
  have hm1 : n1 ≤ 9223372036854775807 := by omega
  obtain ⟨w0, hw0⟩ : ∃ w0 : World, w0 = w := ⟨_, rfl⟩
  have B_0 := Lib.hid (show Below w.heap.size w w0 by rw [hw0]; exact Below.refl _ _)
  have S0_ : Hid (w0.heap.size = w.heap.size + 0) := Lib.hid (by rw [hw0]; simp)
  have h1_0 := h1.below B_0.out
  have T_0 := hT.below B_0.out
  by_cases hs1 : n1 ≤ 1048576
  · have hn1 : n1 ≤ 1048576 := by omega
    go_enter Tryd.func6, Tryd.ntmps6
    subst hw0
    go_wp2_with fail
    refine (toInt_any _ _ _ xs1 _ h1_0 hn1).mono ?_
    rintro e w1 ⟨s1c, rfl, s1ho, s1hb⟩
    obtain ⟨s1A, s1e⟩ : ∃ s1A : Option Addr, s1A = (some ⟨w0.heap.size, 0, none⟩) := ⟨_, rfl⟩
    rw [← s1e] at s1ho ⊢
    clear s1e
    have LTs1 : Hid (∀ k, (s1A : Option Addr).map (·.block) = some k → w0.heap.size ≤ k ∧ k < w1.heap.size) := Lib.hid (fun k hk => s1ho.lt k hk)
    have B_1 := Lib.hid (B_0.out.trans (s1hb.mono B_0.out.size))
    have S_0 := Lib.hid s1hb.size
    have h1_1 := h1_0.below s1hb
    have T_1 := T_0.below s1hb
    clear h1_0 T_0
    have s1_1 := s1ho
    go_wp2_with fail
    refine (hspec _ _ _ hn1 s1_1.rd).mono ?_
    rintro e w2 ⟨oA, oc, rfl, oho, ohb⟩
    have LTo : Hid (∀ k, (oA : Option Addr).map (·.block) = some k → w1.heap.size ≤ k ∧ k < w2.heap.size) := Lib.hid (fun k hk => oho.lt k hk)
    have B_2 := Lib.hid (B_1.out.trans (ohb.mono B_1.out.size))
    have S_1 := Lib.hid ohb.size
    have h1_2 := h1_1.below ohb
    have T_2 := T_1.below ohb
    have s1_2 := s1_1.below ohb
    clear h1_1 T_1 s1_1
    have o_2 := oho
    clear s1_2
    go_wp2_with fail
    refine (toInt_any _ _ _ xs1 _ h1_2 hn1).mono ?_
    rintro e w3 ⟨x1c, rfl, x1ho, x1hb⟩
    obtain ⟨x1A, x1e⟩ : ∃ x1A : Option Addr, x1A = (some ⟨w2.heap.size, 0, none⟩) := ⟨_, rfl⟩
    rw [← x1e] at x1ho ⊢
    clear x1e
    have LTx1 : Hid (∀ k, (x1A : Option Addr).map (·.block) = some k → w2.heap.size ≤ k ∧ k < w3.heap.size) := Lib.hid (fun k hk => x1ho.lt k hk)
    have B_3 := Lib.hid (B_2.out.trans (x1hb.mono B_2.out.size))
    have S_2 := Lib.hid x1hb.size
    have h1_3 := h1_2.below x1hb
    have T_3 := T_2.below x1hb
    have o_3 := o_2.below x1hb
    clear h1_2 T_2 o_2
    have x1_3 := x1ho
    go_wp2_with fail
    refine (himpl _ _ _ hn1 x1_3.rd T_3).mono ?_
    rintro e w4 ⟨gA, gc, rfl, gho, ghb⟩
    have LTg : Hid (∀ k, (gA : Option Addr).map (·.block) = some k → w3.heap.size ≤ k ∧ k < w4.heap.size) := Lib.hid (fun k hk => gho.lt k hk)
    have B_4 := Lib.hid (B_3.out.trans (ghb.mono B_3.out.size))
    have S_3 := Lib.hid ghb.size
    have h1_4 := h1_3.below ghb
    have T_4 := T_3.below ghb
    have o_4 := o_3.below ghb
    have x1_4 := x1_3.below ghb
    clear h1_3 T_3 o_3 x1_3
    have g_4 := gho
    go_wp2_with fail
    refine (eq_true _ _ _ _ _ VX _ g_4.rd o_4.rd (by omega)).mono ?_
    rintro e w5 ⟨rfl, hb1⟩
    have B_5 := Lib.hid (B_4.out.trans (hb1.mono B_4.out.size))
    have S_4 := Lib.hid hb1.size
    have h1_5 := h1_4.below hb1
    have T_5 := T_4.below hb1
    have o_5 := o_4.below hb1
    have x1_5 := x1_4.below hb1
    have g_5 := g_4.below hb1
    clear h1_4 T_4 o_4 x1_4 g_4
    go_wp2_with fail
    refine (toInt_any _ _ _ xs1 _ h1_5 hn1).mono ?_
    rintro e w6 ⟨y1c, rfl, y1ho, y1hb⟩
    obtain ⟨y1A, y1e⟩ : ∃ y1A : Option Addr, y1A = (some ⟨w5.heap.size, 0, none⟩) := ⟨_, rfl⟩
    rw [← y1e] at y1ho ⊢
    clear y1e
    have LTy1 : Hid (∀ k, (y1A : Option Addr).map (·.block) = some k → w5.heap.size ≤ k ∧ k < w6.heap.size) := Lib.hid (fun k hk => y1ho.lt k hk)
    have B_6 := Lib.hid (B_5.out.trans (y1hb.mono B_5.out.size))
    have S_5 := Lib.hid y1hb.size
    have h1_6 := h1_5.below y1hb
    have T_6 := T_5.below y1hb
    have o_6 := o_5.below y1hb
    have x1_6 := x1_5.below y1hb
    have g_6 := g_5.below y1hb
    clear h1_5 T_5 o_5 x1_5 g_5
    have y1_6 := y1ho
    go_wp2_with fail
    refine (eq_true _ _ _ _ _ xs1 _ x1_6.rd y1_6.rd (by omega)).mono ?_
    rintro e w7 ⟨rfl, hb2⟩
    have B_7 := Lib.hid (B_6.out.trans (hb2.mono B_6.out.size))
    have S_6 := Lib.hid hb2.size
    have h1_7 := h1_6.below hb2
    have T_7 := T_6.below hb2
    have o_7 := o_6.below hb2
    have x1_7 := x1_6.below hb2
    have g_7 := g_6.below hb2
    have y1_7 := y1_6.below hb2
    clear h1_6 T_6 o_6 x1_6 g_6 y1_6
    clear y1_7
    go_wp2_with fail
    refine (mark_any _ _ _ _ _ (1) _ _ x1_7 hn1 (by omega)).mono ?_
    rintro e w8 ⟨rfl, mx1, mg1⟩
    have S_7 := Lib.hid mg1.size
    have B_8 := Lib.hid (B_7.out.grown mg1 B_7.out.size (fun k hk => by have := (LTx1.out k hk).1; have := S_0.out; have := S_1.out; have := S_2.out; have := S_3.out; have := S_4.out; have := S_5.out; have := S_6.out; have := S0_.out; omega))
    have h1_8 := h1.below B_8.out
    have T_8 := hT.below B_8.out
    have o_8 := o_7.apart mg1 (fun k hk e => by have := LTo.out k hk; have := LTx1.out k e; have := S_0.out; have := S_1.out; have := S_2.out; have := S_3.out; have := S_4.out; have := S_5.out; have := S_6.out; omega)
    have g_8 := g_7.apart mg1 (fun k hk e => by have := LTg.out k hk; have := LTx1.out k e; have := S_0.out; have := S_1.out; have := S_2.out; have := S_3.out; have := S_4.out; have := S_5.out; have := S_6.out; omega)
    clear h1_7 T_7 o_7 g_7
    have x1_8 := mx1
    clear x1_8
    go_wp2_with fail
    refine (eq_true _ _ _ _ _ VX _ g_8.rd o_8.rd (by omega)).mono ?_
    rintro e w9 ⟨rfl, hb3⟩
    have B_9 := Lib.hid (B_8.out.trans (hb3.mono B_8.out.size))
    have S_8 := Lib.hid hb3.size
    have h1_9 := h1_8.below hb3
    have T_9 := T_8.below hb3
    have o_9 := o_8.below hb3
    have g_9 := g_8.below hb3
    clear h1_8 T_8 o_8 g_8
    go_wp2_with fail
    refine (mark_any _ _ _ _ _ 1 _ _ g_9 hVN (by omega)).mono ?_
    rintro e w10 ⟨rfl, mxg, mgg⟩
    have S_9 := Lib.hid mgg.size
    have B_10 := Lib.hid (B_9.out.grown mgg B_9.out.size (fun k hk => by have := (LTg.out k hk).1; have := S_0.out; have := S_1.out; have := S_2.out; have := S_3.out; have := S_4.out; have := S_5.out; have := S_6.out; have := S_7.out; have := S_8.out; have := S0_.out; omega))
    have h1_10 := h1.below B_10.out
    have T_10 := hT.below B_10.out
    have o_10 := o_9.apart mgg (fun k hk e => by have := LTo.out k hk; have := LTg.out k e; have := S_0.out; have := S_1.out; have := S_2.out; have := S_3.out; have := S_4.out; have := S_5.out; have := S_6.out; have := S_7.out; have := S_8.out; omega)
    clear h1_9 T_9 o_9
    clear g_9
    have g_10 := mxg
    go_wp2_with fail
    refine (held_any _ _ _ 1 _ g_10.rd hVN (by omega)).mono ?_
    rintro e w' ⟨rfl, rfl⟩
    go_wp2_with fail
    refine (toInt_any _ _ _ xs1 _ h1_10 hn1).mono ?_
    rintro e w11 ⟨z1c, rfl, z1ho, z1hb⟩
    obtain ⟨z1A, z1e⟩ : ∃ z1A : Option Addr, z1A = (some ⟨w10.heap.size, 0, none⟩) := ⟨_, rfl⟩
    rw [← z1e] at z1ho ⊢
    clear z1e
    have LTz1 : Hid (∀ k, (z1A : Option Addr).map (·.block) = some k → w10.heap.size ≤ k ∧ k < w11.heap.size) := Lib.hid (fun k hk => z1ho.lt k hk)
    have B_11 := Lib.hid (B_10.out.trans (z1hb.mono B_10.out.size))
    have S_10 := Lib.hid z1hb.size
    have h1_11 := h1_10.below z1hb
    have T_11 := T_10.below z1hb
    have o_11 := o_10.below z1hb
    have g_11 := g_10.below z1hb
    clear h1_10 T_10 o_10 g_10
    have z1_11 := z1ho
    go_wp2_with fail
    refine (himpl _ _ _ hn1 z1_11.rd T_11).mono ?_
    rintro e w12 ⟨qA, qc, rfl, qho, qhb⟩
    have LTq : Hid (∀ k, (qA : Option Addr).map (·.block) = some k → w11.heap.size ≤ k ∧ k < w12.heap.size) := Lib.hid (fun k hk => qho.lt k hk)
    have B_12 := Lib.hid (B_11.out.trans (qhb.mono B_11.out.size))
    have S_11 := Lib.hid qhb.size
    have h1_12 := h1_11.below qhb
    have T_12 := T_11.below qhb
    have o_12 := o_11.below qhb
    have g_12 := g_11.below qhb
    have z1_12 := z1_11.below qhb
    clear h1_11 T_11 o_11 g_11 z1_11
    have q_12 := qho
    clear z1_12
    go_wp2_with fail
    refine (eq_true _ _ _ _ _ VX _ q_12.rd o_12.rd (by omega)).mono ?_
    rintro e w13 ⟨rfl, hb4⟩
    have B_13 := Lib.hid (B_12.out.trans (hb4.mono B_12.out.size))
    have S_12 := Lib.hid hb4.size
    have h1_13 := h1_12.below hb4
    have T_13 := T_12.below hb4
    have o_13 := o_12.below hb4
    have g_13 := g_12.below hb4
    have q_13 := q_12.below hb4
    clear h1_12 T_12 o_12 g_12 q_12
    go_wp2_with fail
    refine (held_any _ _ _ 1 _ g_13.rd hVN (by omega)).mono ?_
    rintro e w' ⟨rfl, rfl⟩
    go_wp2_with fail
    go_ret
    exact ⟨rfl, B_13.out⟩
  · go_enter Tryd.func6, Tryd.ntmps6
    go_wp2
    go_ret
    exact ⟨rfl, Below.refl _ _⟩
end Go.Proofs.YtbjkpkgnjeaimaaDoor

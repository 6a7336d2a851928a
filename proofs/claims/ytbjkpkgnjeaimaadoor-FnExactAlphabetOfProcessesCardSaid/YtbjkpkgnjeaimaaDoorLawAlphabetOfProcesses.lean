/-
  The walk of FnExactAlphabetOfProcesses, over contracts of both sides.
-/
import Derived.Test.YtbjkpkgnjeaimaaDoorAlOf
import Derived.Deep.CutRange
import Derived.Deep.RegionWith
namespace Go.Proofs.YtbjkpkgnjeaimaaDoor
open Go.RowKit
set_option linter.unusedVariables false
set_option maxRecDepth 100000
set_option maxHeartbeats 3200000 in
theorem lawAlphabetOfProcesses (a0 : Int) (A1 : Option Addr) (n1 c1 : Nat) (xs1 : List Int) (w : World) (ha01 : -9223372036854775808 ≤ a0) (ha02 : a0 ≤ 9223372036854775807) (h1 : Rd w A1 n1 xs1) (hwf1 : Wf xs1) (hl1 : n1 ≤ maxLen) (hT : Tab w) (VL : Int) (VN : Nat) (VX : List Int) (C : Int) (hVN : VN ≤ 1048576)
    (hspec : ∀ (B1 : Option Addr) (d1 : Nat) (w' : World), n1 ≤ 1048576 → Rd w' B1 n1 xs1 → Calls Tryd.prog 22 #[.int .i64 a0, .slice B1 n1 d1] w' (AlPost w' VL VN VX C))
    (himpl : ∀ (B1 : Option Addr) (d1 : Nat) (w' : World), n1 ≤ 1048576 → Rd w' B1 n1 xs1 → Tab w' → Calls Tryd.prog 24 #[.int .i64 a0, .slice B1 n1 d1] w' (AlPost w' VL VN VX C)) :
    Calls Tryd.prog 5 #[.int .i64 a0, .slice A1 n1 c1] w fun e w' => e = .returned (.bool true) ∧ Below w.heap.size w w' := by
  unfold maxLen at hl1
  have hm1 : n1 ≤ 9223372036854775807 := by omega
  obtain ⟨w0, hw0⟩ : ∃ w0 : World, w0 = w := ⟨_, rfl⟩
  have B_0 := Lib.hid (show Below w.heap.size w w0 by rw [hw0]; exact Below.refl _ _)
  have S0_ : Hid (w0.heap.size = w.heap.size + 0) := Lib.hid (by rw [hw0]; simp)
  have h1_0 := h1.below B_0.out
  have T_0 := hT.below B_0.out
  by_cases hs1 : n1 ≤ 1048576
  · have hn1 : n1 ≤ 1048576 := by omega
    go_enter Tryd.func5, Tryd.ntmps5
    subst hw0
    go_wp2_with fail
    refine (toInt_any _ _ _ xs1 _ h1_0 hn1).mono ?_
    rintro e w1 ⟨s1c, rfl, s1ho, s1hb⟩
    obtain ⟨s1A, s1e⟩ : ∃ s1A : Option Addr, s1A = (some ⟨w0.heap.size, 0, none⟩) := ⟨_, rfl⟩
    rw [← s1e] at s1ho ⊢
    clear s1e
    have LTs1 : Hid (∀ k, (s1A : Option Addr).map (·.block) = some k → w0.heap.size ≤ k ∧ k < w1.heap.size) := Lib.hid (fun k hk => s1ho.lt k hk)
    have B_1 := Lib.hid (B_0.out.trans (s1hb.mono B_0.out.size))
    have S_0 := Lib.hid s1hb.size
    have h1_1 := h1_0.below s1hb
    have T_1 := T_0.below s1hb
    clear h1_0 T_0
    have s1_1 := s1ho
    go_wp2_with fail
    refine (hspec _ _ _ hn1 s1_1.rd).mono ?_
    rintro e w2 ⟨oA, oc, rfl, oho, ohb⟩
    have LTo : Hid (∀ k, (oA : Option Addr).map (·.block) = some k → w1.heap.size ≤ k ∧ k < w2.heap.size) := Lib.hid (fun k hk => oho.lt k hk)
    have B_2 := Lib.hid (B_1.out.trans (ohb.mono B_1.out.size))
    have S_1 := Lib.hid ohb.size
    have h1_2 := h1_1.below ohb
    have T_2 := T_1.below ohb
    have s1_2 := s1_1.below ohb
    clear h1_1 T_1 s1_1
    have o_2 := oho
    have kp_2 := below1 w2 (.cells #[.int .i64 VL, .slice oA VN oc] 27)
    clear s1_2
    go_wp2_with fail
    refine (toInt_any _ _ _ xs1 _ (h1_2.below kp_2) hn1).mono ?_
    rintro e w3 ⟨x1c, rfl, x1ho, x1hb⟩
    obtain ⟨x1A, x1e⟩ : ∃ x1A : Option Addr, x1A = (some ⟨(w2.alloc (.cells #[.int .i64 VL, .slice oA VN oc] 27)).heap.size, 0, none⟩) := ⟨_, rfl⟩
    rw [← x1e] at x1ho ⊢
    clear x1e
    have LTx1 : Hid (∀ k, (x1A : Option Addr).map (·.block) = some k → w2.heap.size + 1 ≤ k ∧ k < w3.heap.size) := Lib.hid (fun k hk => by have h9 := x1ho.lt k hk; have e9 : (w2.alloc (.cells #[.int .i64 VL, .slice oA VN oc] 27)).heap.size = w2.heap.size + 1 := (by simp); omega)
    have hbb_2 := kp_2.trans (x1hb.mono kp_2.size)
    have B_3 := Lib.hid (B_2.out.trans (hbb_2.mono B_2.out.size))
    have S_2 : Hid (w2.heap.size + 1 ≤ w3.heap.size) := Lib.hid (by have h9 := x1hb.size; have e9 : (w2.alloc (.cells #[.int .i64 VL, .slice oA VN oc] 27)).heap.size = w2.heap.size + 1 := (by simp); omega)
    have h1_3 := h1_2.below hbb_2
    have T_3 := T_2.below hbb_2
    have o_3 := o_2.below hbb_2
    have ox_3 := (box_new 27 w2 VL oA VN oc).next x1hb
    clear h1_2 T_2 o_2
    have x1_3 := x1ho.mono kp_2.size
    have f1 := ox_3.c0
    have f2 := ox_3.c1
    go_wp2_with fail
    refine (himpl _ _ _ hn1 x1_3.rd T_3).mono ?_
    rintro e w4 ⟨gA, gc, rfl, gho, ghb⟩
    clear f1 f2
    have LTg : Hid (∀ k, (gA : Option Addr).map (·.block) = some k → w3.heap.size ≤ k ∧ k < w4.heap.size) := Lib.hid (fun k hk => gho.lt k hk)
    have B_4 := Lib.hid (B_3.out.trans (ghb.mono B_3.out.size))
    have S_3 := Lib.hid ghb.size
    have h1_4 := h1_3.below ghb
    have T_4 := T_3.below ghb
    have o_4 := o_3.below ghb
    have ox_4 := ox_3.next ghb
    have x1_4 := x1_3.below ghb
    clear h1_3 T_3 o_3 ox_3 x1_3
    have g_4 := gho
    have kp_4 := below1 w4 (.cells #[.int .i64 VL, .slice gA VN gc] 27)
    have f4 := ox_4.c0
    have f5 := ox_4.c1
    have f6 := (ox_4.next kp_4).c0
    have f7 := (ox_4.next kp_4).c1
    go_wp2_with fail
    refine (eqAl_true VL _ _ _ _ _ VX _ (g_4.below kp_4).rd (o_4.below kp_4).rd (by omega)).mono ?_
    rintro e w5 ⟨rfl, hb3⟩
    clear f4 f5 f6 f7
    have hbb_4 := kp_4.trans (hb3.mono kp_4.size)
    have B_5 := Lib.hid (B_4.out.trans (hbb_4.mono B_4.out.size))
    have S_4 : Hid (w4.heap.size + 1 ≤ w5.heap.size) := Lib.hid (by have h9 := hb3.size; have e9 : (w4.alloc (.cells #[.int .i64 VL, .slice gA VN gc] 27)).heap.size = w4.heap.size + 1 := (by simp); omega)
    have h1_5 := h1_4.below hbb_4
    have T_5 := T_4.below hbb_4
    have o_5 := o_4.below hbb_4
    have ox_5 := ox_4.next hbb_4
    have x1_5 := x1_4.below hbb_4
    have g_5 := g_4.below hbb_4
    have gx_5 := (box_new 27 w4 VL gA VN gc).next hb3
    clear h1_4 T_4 o_4 ox_4 x1_4 g_4
    have f8 := ox_5.c0
    have f9 := ox_5.c1
    have f10 := gx_5.c0
    have f11 := gx_5.c1
    go_wp2_with fail
    refine (toInt_any _ _ _ xs1 _ h1_5 hn1).mono ?_
    rintro e w6 ⟨y1c, rfl, y1ho, y1hb⟩
    clear f8 f9 f10 f11
    obtain ⟨y1A, y1e⟩ : ∃ y1A : Option Addr, y1A = (some ⟨w5.heap.size, 0, none⟩) := ⟨_, rfl⟩
    rw [← y1e] at y1ho ⊢
    clear y1e
    have LTy1 : Hid (∀ k, (y1A : Option Addr).map (·.block) = some k → w5.heap.size ≤ k ∧ k < w6.heap.size) := Lib.hid (fun k hk => y1ho.lt k hk)
    have B_6 := Lib.hid (B_5.out.trans (y1hb.mono B_5.out.size))
    have S_5 := Lib.hid y1hb.size
    have h1_6 := h1_5.below y1hb
    have T_6 := T_5.below y1hb
    have o_6 := o_5.below y1hb
    have ox_6 := ox_5.next y1hb
    have x1_6 := x1_5.below y1hb
    have g_6 := g_5.below y1hb
    have gx_6 := gx_5.next y1hb
    clear h1_5 T_5 o_5 ox_5 x1_5 g_5 gx_5
    have y1_6 := y1ho
    have f13 := ox_6.c0
    have f14 := ox_6.c1
    have f15 := gx_6.c0
    have f16 := gx_6.c1
    go_wp2_with fail
    refine (eq_true _ _ _ _ _ xs1 _ x1_6.rd y1_6.rd (by omega)).mono ?_
    rintro e w7 ⟨rfl, hb12⟩
    clear f13 f14 f15 f16
    have B_7 := Lib.hid (B_6.out.trans (hb12.mono B_6.out.size))
    have S_6 := Lib.hid hb12.size
    have h1_7 := h1_6.below hb12
    have T_7 := T_6.below hb12
    have o_7 := o_6.below hb12
    have ox_7 := ox_6.next hb12
    have x1_7 := x1_6.below hb12
    have g_7 := g_6.below hb12
    have gx_7 := gx_6.next hb12
    have y1_7 := y1_6.below hb12
    clear h1_6 T_6 o_6 ox_6 x1_6 g_6 gx_6 y1_6
    clear y1_7
    have f17 := ox_7.c0
    have f18 := ox_7.c1
    have f19 := gx_7.c0
    have f20 := gx_7.c1
    go_wp2_with fail
    refine (mark_any _ _ _ _ _ (1) _ _ x1_7 hn1 (by omega)).mono ?_
    rintro e w8 ⟨rfl, mx1, mg1⟩
    clear f17 f18 f19 f20
    have S_7 := Lib.hid mg1.size
    have B_8 := Lib.hid (B_7.out.grown mg1 B_7.out.size (fun k hk => by have := (LTx1.out k hk).1; have := S_0.out; have := S_1.out; have := S_2.out; have := S_3.out; have := S_4.out; have := S_5.out; have := S_6.out; have := S0_.out; omega))
    have h1_8 := h1.below B_8.out
    have T_8 := hT.below B_8.out
    have o_8 := o_7.apart mg1 (fun k hk e => by have := LTo.out k hk; have := LTx1.out k e; have := S_0.out; have := S_1.out; have := S_2.out; have := S_3.out; have := S_4.out; have := S_5.out; have := S_6.out; omega)
    have ox_8 := ox_7.apart mg1 (fun e => by have := LTx1.out _ e; have := S_0.out; have := S_1.out; have := S_2.out; have := S_3.out; have := S_4.out; have := S_5.out; have := S_6.out; have := S0_.out; omega)
    have g_8 := g_7.apart mg1 (fun k hk e => by have := LTg.out k hk; have := LTx1.out k e; have := S_0.out; have := S_1.out; have := S_2.out; have := S_3.out; have := S_4.out; have := S_5.out; have := S_6.out; omega)
    have gx_8 := gx_7.apart mg1 (fun e => by have := LTx1.out _ e; have := S_0.out; have := S_1.out; have := S_2.out; have := S_3.out; have := S_4.out; have := S_5.out; have := S_6.out; have := S0_.out; omega)
    clear h1_7 T_7 o_7 ox_7 g_7 gx_7
    have x1_8 := mx1
    clear x1_8
    have f22 := ox_8.c0
    have f23 := ox_8.c1
    have f24 := gx_8.c0
    have f25 := gx_8.c1
    go_wp2_with fail
    refine (eqAl_true VL _ _ _ _ _ VX _ g_8.rd o_8.rd (by omega)).mono ?_
    rintro e w9 ⟨rfl, hb21⟩
    clear f22 f23 f24 f25
    have B_9 := Lib.hid (B_8.out.trans (hb21.mono B_8.out.size))
    have S_8 := Lib.hid hb21.size
    have h1_9 := h1_8.below hb21
    have T_9 := T_8.below hb21
    have o_9 := o_8.below hb21
    have ox_9 := ox_8.next hb21
    have g_9 := g_8.below hb21
    have gx_9 := gx_8.next hb21
    clear h1_8 T_8 o_8 ox_8 g_8 gx_8
    have f26 := ox_9.c0
    have f27 := ox_9.c1
    have f28 := gx_9.c0
    have f29 := gx_9.c1
    go_wp2_with fail
    refine (markAl_any _ _ VL _ _ _ 1 _ _ g_9 hVN (by omega)).mono ?_
    rintro e w10 ⟨rfl, mxg, mgg⟩
    clear f26 f27 f28 f29
    have S_9 := Lib.hid mgg.size
    have B_10 := Lib.hid (B_9.out.grown mgg B_9.out.size (fun k hk => by have := (LTg.out k hk).1; have := S_0.out; have := S_1.out; have := S_2.out; have := S_3.out; have := S_4.out; have := S_5.out; have := S_6.out; have := S_7.out; have := S_8.out; have := S0_.out; omega))
    have h1_10 := h1.below B_10.out
    have T_10 := hT.below B_10.out
    have o_10 := o_9.apart mgg (fun k hk e => by have := LTo.out k hk; have := LTg.out k e; have := S_0.out; have := S_1.out; have := S_2.out; have := S_3.out; have := S_4.out; have := S_5.out; have := S_6.out; have := S_7.out; have := S_8.out; omega)
    have ox_10 := ox_9.apart mgg (fun e => by have := LTg.out _ e; have := S_0.out; have := S_1.out; have := S_2.out; have := S_3.out; have := S_4.out; have := S_5.out; have := S_6.out; have := S_7.out; have := S_8.out; have := S0_.out; omega)
    have gx_10 := gx_9.apart mgg (fun e => by have := LTg.out _ e; have := S_0.out; have := S_1.out; have := S_2.out; have := S_3.out; have := S_4.out; have := S_5.out; have := S_6.out; have := S_7.out; have := S_8.out; have := S0_.out; omega)
    clear h1_9 T_9 o_9 ox_9 gx_9
    clear g_9
    have g_10 := mxg
    have f31 := ox_10.c0
    have f32 := ox_10.c1
    have f33 := gx_10.c0
    have f34 := gx_10.c1
    go_wp2_with fail
    refine (heldAl_any VL _ _ _ 1 _ g_10.rd hVN (by omega)).mono ?_
    rintro e w11 ⟨rfl, hh30⟩
    clear f31 f32 f33 f34
    have B_11 := Lib.hid (B_10.out.trans (hh30.mono B_10.out.size))
    have S_10 := Lib.hid hh30.size
    have h1_11 := h1_10.below hh30
    have T_11 := T_10.below hh30
    have o_11 := o_10.below hh30
    have ox_11 := ox_10.next hh30
    have g_11 := g_10.below hh30
    have gx_11 := gx_10.next hh30
    clear h1_10 T_10 o_10 ox_10 g_10 gx_10
    have f35 := ox_11.c0
    have f36 := ox_11.c1
    have f37 := gx_11.c0
    have f38 := gx_11.c1
    go_wp2_with fail
    refine (toInt_any _ _ _ xs1 _ h1_11 hn1).mono ?_
    rintro e w12 ⟨z1c, rfl, z1ho, z1hb⟩
    clear f35 f36 f37 f38
    obtain ⟨z1A, z1e⟩ : ∃ z1A : Option Addr, z1A = (some ⟨w11.heap.size, 0, none⟩) := ⟨_, rfl⟩
    rw [← z1e] at z1ho ⊢
    clear z1e
    have LTz1 : Hid (∀ k, (z1A : Option Addr).map (·.block) = some k → w11.heap.size ≤ k ∧ k < w12.heap.size) := Lib.hid (fun k hk => z1ho.lt k hk)
    have B_12 := Lib.hid (B_11.out.trans (z1hb.mono B_11.out.size))
    have S_11 := Lib.hid z1hb.size
    have h1_12 := h1_11.below z1hb
    have T_12 := T_11.below z1hb
    have o_12 := o_11.below z1hb
    have ox_12 := ox_11.next z1hb
    have g_12 := g_11.below z1hb
    have gx_12 := gx_11.next z1hb
    clear h1_11 T_11 o_11 ox_11 g_11 gx_11
    have z1_12 := z1ho
    have f39 := ox_12.c0
    have f40 := ox_12.c1
    have f41 := gx_12.c0
    have f42 := gx_12.c1
    go_wp2_with fail
    refine (himpl _ _ _ hn1 z1_12.rd T_12).mono ?_
    rintro e w13 ⟨qA, qc, rfl, qho, qhb⟩
    clear f39 f40 f41 f42
    have LTq : Hid (∀ k, (qA : Option Addr).map (·.block) = some k → w12.heap.size ≤ k ∧ k < w13.heap.size) := Lib.hid (fun k hk => qho.lt k hk)
    have B_13 := Lib.hid (B_12.out.trans (qhb.mono B_12.out.size))
    have S_12 := Lib.hid qhb.size
    have h1_13 := h1_12.below qhb
    have T_13 := T_12.below qhb
    have o_13 := o_12.below qhb
    have ox_13 := ox_12.next qhb
    have g_13 := g_12.below qhb
    have gx_13 := gx_12.next qhb
    have z1_13 := z1_12.below qhb
    clear h1_12 T_12 o_12 ox_12 g_12 gx_12 z1_12
    have q_13 := qho
    have kp_13 := below1 w13 (.cells #[.int .i64 VL, .slice qA VN qc] 27)
    clear z1_13
    have f44 := ox_13.c0
    have f45 := ox_13.c1
    have f46 := (ox_13.next kp_13).c0
    have f47 := (ox_13.next kp_13).c1
    have f48 := gx_13.c0
    have f49 := gx_13.c1
    have f50 := (gx_13.next kp_13).c0
    have f51 := (gx_13.next kp_13).c1
    go_wp2_with fail
    refine (eqAl_true VL _ _ _ _ _ VX _ (q_13.below kp_13).rd (o_13.below kp_13).rd (by omega)).mono ?_
    rintro e w14 ⟨rfl, hb43⟩
    clear f44 f45 f46 f47 f48 f49 f50 f51
    have hbb_13 := kp_13.trans (hb43.mono kp_13.size)
    have B_14 := Lib.hid (B_13.out.trans (hbb_13.mono B_13.out.size))
    have S_13 : Hid (w13.heap.size + 1 ≤ w14.heap.size) := Lib.hid (by have h9 := hb43.size; have e9 : (w13.alloc (.cells #[.int .i64 VL, .slice qA VN qc] 27)).heap.size = w13.heap.size + 1 := (by simp); omega)
    have h1_14 := h1_13.below hbb_13
    have T_14 := T_13.below hbb_13
    have o_14 := o_13.below hbb_13
    have ox_14 := ox_13.next hbb_13
    have g_14 := g_13.below hbb_13
    have gx_14 := gx_13.next hbb_13
    have q_14 := q_13.below hbb_13
    have qx_14 := (box_new 27 w13 VL qA VN qc).next hb43
    clear h1_13 T_13 o_13 ox_13 g_13 gx_13 q_13
    have f53 := ox_14.c0
    have f54 := ox_14.c1
    have f55 := gx_14.c0
    have f56 := gx_14.c1
    have f57 := qx_14.c0
    have f58 := qx_14.c1
    go_wp2_with fail
    refine (heldAl_any VL _ _ _ 1 _ g_14.rd hVN (by omega)).mono ?_
    rintro e w15 ⟨rfl, hh52⟩
    clear f53 f54 f55 f56 f57 f58
    have B_15 := Lib.hid (B_14.out.trans (hh52.mono B_14.out.size))
    have S_14 := Lib.hid hh52.size
    have h1_15 := h1_14.below hh52
    have T_15 := T_14.below hh52
    have o_15 := o_14.below hh52
    have ox_15 := ox_14.next hh52
    have g_15 := g_14.below hh52
    have gx_15 := gx_14.next hh52
    have q_15 := q_14.below hh52
    have qx_15 := qx_14.next hh52
    clear h1_14 T_14 o_14 ox_14 g_14 gx_14 q_14 qx_14
    have f59 := ox_15.c0
    have f60 := ox_15.c1
    have f61 := gx_15.c0
    have f62 := gx_15.c1
    have f63 := qx_15.c0
    have f64 := qx_15.c1
    go_wp2_with fail
    go_ret
    exact ⟨rfl, B_15.out⟩
  · go_enter Tryd.func5, Tryd.ntmps5
    go_wp2
    go_ret
    exact ⟨rfl, Below.refl _ _⟩
end Go.Proofs.YtbjkpkgnjeaimaaDoor

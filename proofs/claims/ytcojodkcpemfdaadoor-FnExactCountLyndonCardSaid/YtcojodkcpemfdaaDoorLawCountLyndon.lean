/-
  The walk of FnExactCountLyndon, over contracts of both sides.
-/
import Derived.Test.YtcojodkcpemfdaaDoorMl
import Derived.Deep.CutRange
import Derived.Deep.RegionWith
namespace Go.Proofs.YtcojodkcpemfdaaDoor
open Go.RowKit
set_option linter.unusedVariables false
set_option maxRecDepth 100000
set_option maxHeartbeats 3200000 in
theorem lawCountLyndon (L0 : Int) (A0 : Option Addr) (n0 c0 : Nat) (xs0 : List Int) (a1 : Int) (w : World) (hL01 : -9223372036854775808 ≤ L0) (hL02 : L0 ≤ 9223372036854775807) (h0 : Rd w A0 n0 xs0) (hwf0 : Wf xs0) (hl0 : n0 ≤ maxLen) (ha11 : -9223372036854775808 ≤ a1) (ha12 : a1 ≤ 9223372036854775807) (hT : Tab w) (V : Int) (C : Int)
    (hspec : ∀ (B0 : Option Addr) (d0 : Nat) (w' : World), n0 ≤ 1048576 → Rd w' B0 n0 xs0 → Calls Tryd.prog 40 #[.agg #[.int .i64 L0, .slice B0 n0 d0], .int .i64 a1] w' (fun e w'' => e = .returned (.tuple #[.int .i64 V, .int .i64 C]) ∧ Below w'.heap.size w' w''))
    (himpl : ∀ (B0 : Option Addr) (d0 : Nat) (w' : World), n0 ≤ 1048576 → Rd w' B0 n0 xs0 → Tab w' → Calls Tryd.prog 41 #[.agg #[.int .i64 L0, .slice B0 n0 d0], .int .i64 a1] w' (fun e w'' => e = .returned (.tuple #[.int .i64 V, .int .i64 C]) ∧ Below w'.heap.size w' w'')) :
    Calls Tryd.prog 9 #[.agg #[.int .i64 L0, .slice A0 n0 c0], .int .i64 a1] w fun e w' => e = .returned (.bool true) ∧ Below w.heap.size w w' := by
  unfold maxLen at hl0
  have hm0 : n0 ≤ 9223372036854775807 := by omega
  obtain ⟨w0, hw0⟩ : ∃ w0 : World, w0 = (w.alloc (.cells #[.int .i64 L0, .slice A0 n0 c0] 24)) := ⟨_, rfl⟩
  have B_0 := Lib.hid (show Below w.heap.size w w0 by rw [hw0]; exact below1 w _)
  have S0_ : Hid (w0.heap.size = w.heap.size + 1) := Lib.hid (by rw [hw0]; simp)
  have a0_0 : Box 24 w0 (w.heap.size) L0 A0 n0 c0 := by rw [hw0]; exact (box_new 24 w L0 A0 n0 c0)
  have h0_0 := h0.below B_0.out
  have T_0 := hT.below B_0.out
  by_cases hs0 : n0 ≤ 1048576
  · have hn0 : n0 ≤ 1048576 := by omega
    go_enter Tryd.func9, Tryd.ntmps9
    go_wp2_with fail
    rw [← hw0]
    refine (sz_law L0 A0 n0 c0 _ hs0).mono ?_
    rintro e w1 ⟨rfl, hz0⟩
    have B_1 := Lib.hid (B_0.out.trans (hz0.mono B_0.out.size))
    have S_0 := Lib.hid hz0.size
    have a0_1 := a0_0.next hz0
    have h0_1 := h0_0.below hz0
    have T_1 := T_0.below hz0
    clear a0_0 h0_0 T_0
    have f1 := a0_1.c0
    have f2 := a0_1.c1
    go_wp2_with fail
    refine (toAl_any L0 _ n0 _ xs0 _ h0_1 hn0).mono ?_
    rintro e w2 ⟨s0g, s0c, rfl, s0hg, s0ho, s0hb⟩
    clear f1 f2
    obtain ⟨s0A, s0e⟩ : ∃ s0A : Option Addr, s0A = (some ⟨s0g, 0, none⟩) := ⟨_, rfl⟩
    rw [← s0e] at s0ho ⊢
    clear s0e
    have LTs0 : Hid (∀ k, (s0A : Option Addr).map (·.block) = some k → w1.heap.size ≤ k ∧ k < w2.heap.size) := Lib.hid (fun k hk => s0ho.lt k hk)
    have B_2 := Lib.hid (B_1.out.trans (s0hb.mono B_1.out.size))
    have S_1 := Lib.hid s0hb.size
    have a0_2 := a0_1.next s0hb
    have h0_2 := h0_1.below s0hb
    have T_2 := T_1.below s0hb
    clear a0_1 h0_1 T_1
    have s0_2 := s0ho
    have f3 := a0_2.c0
    have f4 := a0_2.c1
    go_wp2_with fail
    refine (hspec _ _ _ hn0 s0_2.rd).mono ?_
    rintro e w3 ⟨rfl, ohb⟩
    clear f3 f4
    have B_3 := Lib.hid (B_2.out.trans (ohb.mono B_2.out.size))
    have S_2 := Lib.hid ohb.size
    have a0_3 := a0_2.next ohb
    have h0_3 := h0_2.below ohb
    have T_3 := T_2.below ohb
    have s0_3 := s0_2.below ohb
    clear a0_2 h0_2 T_2 s0_2
    clear s0_3
    have f5 := a0_3.c0
    have f6 := a0_3.c1
    go_wp2_with fail
    refine (toAl_any L0 _ n0 _ xs0 _ h0_3 hn0).mono ?_
    rintro e w4 ⟨x0g, x0c, rfl, x0hg, x0ho, x0hb⟩
    clear f5 f6
    obtain ⟨x0A, x0e⟩ : ∃ x0A : Option Addr, x0A = (some ⟨x0g, 0, none⟩) := ⟨_, rfl⟩
    rw [← x0e] at x0ho ⊢
    clear x0e
    have LTx0 : Hid (∀ k, (x0A : Option Addr).map (·.block) = some k → w3.heap.size ≤ k ∧ k < w4.heap.size) := Lib.hid (fun k hk => x0ho.lt k hk)
    have B_4 := Lib.hid (B_3.out.trans (x0hb.mono B_3.out.size))
    have S_3 := Lib.hid x0hb.size
    have a0_4 := a0_3.next x0hb
    have h0_4 := h0_3.below x0hb
    have T_4 := T_3.below x0hb
    clear a0_3 h0_3 T_3
    have x0_4 := x0ho
    have kp_4 := below1 w4 (.cells #[.int .i64 L0, .slice x0A n0 x0c] 29)
    have f7 := a0_4.c0
    have f8 := a0_4.c1
    have f9 := (a0_4.next kp_4).c0
    have f10 := (a0_4.next kp_4).c1
    go_wp2_with fail
    refine (himpl _ _ _ hn0 (x0_4.below kp_4).rd (T_4.below kp_4)).mono ?_
    rintro e w5 ⟨rfl, ghb⟩
    clear f7 f8 f9 f10
    have hbb_4 := kp_4.trans (ghb.mono kp_4.size)
    have B_5 := Lib.hid (B_4.out.trans (hbb_4.mono B_4.out.size))
    have S_4 : Hid (w4.heap.size + 1 ≤ w5.heap.size) := Lib.hid (by have h9 := ghb.size; have e9 : (w4.alloc (.cells #[.int .i64 L0, .slice x0A n0 x0c] 29)).heap.size = w4.heap.size + 1 := (by simp); omega)
    have a0_5 := a0_4.next hbb_4
    have h0_5 := h0_4.below hbb_4
    have T_5 := T_4.below hbb_4
    have x0_5 := x0_4.below hbb_4
    have x0x_5 := (box_new 29 w4 L0 x0A n0 x0c).next ghb
    clear a0_4 h0_4 T_4 x0_4
    have hvv : (V == V) = true := by simp
    have f11 := a0_5.c0
    have f12 := a0_5.c1
    have f13 := x0x_5.c0
    have f14 := x0x_5.c1
    go_upto_region 10 with fail
    go_cut [43] from 39 to 43 (fun v wx => v = .bool false ∧ Below w5.heap.size w5 wx)
    case first =>
      have Z0 : ∀ (ww : World), Below w5.heap.size w5 ww → Calls Tryd.prog 18 #[.agg #[.int .i64 L0, .slice A0 n0 c0]] ww fun e w' => ∃ g c', e = .returned (.agg #[.int .i64 L0, .slice (some ⟨g, 0, none⟩) n0 c']) ∧ Own 2 w' ww.heap.size (some ⟨g, 0, none⟩) n0 c' xs0 ∧ Below ww.heap.size ww w' := fun ww hww => (toAl_any L0 _ n0 _ xs0 _ (h0_5.below hww) hn0).mono fun e w' ⟨g, c', he, _, ho, hb⟩ => ⟨g, c', he, ho, hb⟩
      have hdr : Below w5.heap.size w5 w5.drew := (Below.refl _ _).drew
      have rc0 := (x0x_5.next hdr).c0
      have tc0 := (a0_5.next hdr).c0
      have rc1 := (x0x_5.next hdr).c1
      have tc1 := (a0_5.next hdr).c1
      go_region_with (first | (go_at_call 18; refine (Z0 _ hdr).mono ?_; rintro e wz ⟨gz, cz, rfl, hoz, hbz⟩; have hbz2 := hdr.trans (hbz.mono hdr.size); have q0 := (x0x_5.next hbz2).c0; have q1 := (x0x_5.next hbz2).c1) | (go_at_call 21; refine (eqAl_true L0 _ _ _ _ _ xs0 _ (x0_5.below hbz2).rd hoz.rd hm0).mono ?_; rintro e wy ⟨rfl, hby⟩; have hby2 := hbz2.trans (hby.mono hbz2.size)))
      all_goals (go_wp2_with fail; go_meet; exact ⟨rfl, hby2⟩)
    case rest =>
      obtain ⟨rfl, hcb⟩ := hcut
      obtain ⟨w6, rfl⟩ : ∃ w9 : World, w9 = wc := ⟨_, rfl⟩
      clear f11 f12 f13 f14
      have B_6 := Lib.hid (B_5.out.trans (hcb.mono B_5.out.size))
      have S_5 := Lib.hid hcb.size
      have a0_6 := a0_5.next hcb
      have h0_6 := h0_5.below hcb
      have T_6 := T_5.below hcb
      have x0_6 := x0_5.below hcb
      have x0x_6 := x0x_5.next hcb
      clear a0_5 h0_5 T_5 x0_5 x0x_5
      have f15 := a0_6.c0
      have f16 := a0_6.c1
      have f17 := x0x_6.c0
      have f18 := x0x_6.c1
      go_wp2_with fail
      go_ret
      exact ⟨rfl, B_6.out⟩
  · go_enter Tryd.func9, Tryd.ntmps9
    go_wp2_with fail
    rw [← hw0]
    refine (szno_any L0 A0 n0 c0 _ (by omega) hm0).mono ?_
    rintro e w1 ⟨rfl, hz0⟩
    go_wp2_with fail
    go_ret
    exact ⟨rfl, B_0.out.trans (hz0.mono B_0.out.size)⟩
end Go.Proofs.YtcojodkcpemfdaaDoor

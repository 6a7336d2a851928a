/-
  The walk of FnExactInverseSeries: a function from a list to a list and a code.
-/
import Derived.Test.YtkifadmoedackaaInvA
namespace Go.Proofs.Ytkifadmoedackaa
open Go.RowKit
set_option linter.unusedVariables false
set_option maxRecDepth 100000

set_option maxHeartbeats 1600000 in
theorem walkInverseSeries (A : Option Addr) (n c : Nat) (xs : List Int) (a : Int) (w : World) (h : Rd w A n xs) (hw : Wf xs) (hl : n ≤ maxLen) :
    Calls Try.prog 3 #[.slice A n c, .int .i64 a] w fun e w' => e = .returned (.bool true) ∧ Below w.heap.size w w' := by
  unfold maxLen at hl
  by_cases hn : n ≤ 1048576
  · have hn2 : n ≤ 9223372036854775807 := by omega
    have hys : (isAns xs a).1.length ≤ 1048576 := by have := isAns_small xs a; omega
    have hys2 : (isAns xs a).1.length ≤ 9223372036854775807 := by omega
    obtain ⟨N, hN⟩ : ∃ N, N = (isAns xs a).1.length := ⟨_, rfl⟩
    rw [← hN] at hys hys2
    have HN := Lib.hid hN
    clear hN
    go_enter Try.func3, Try.ntmps3
    go_wp2_with fail
    refine (toInt_any _ _ _ xs _ h hn).mono ?_
    rintro e w1 ⟨c1, rfl, ho1, hb1⟩
    go_wp2_with fail
    refine (specInverseSeries _ _ _ xs a _ ho1.rd hw hn).mono ?_
    rintro e w2 ⟨Aw, cw, rfl, ho2, hb2⟩
    rw [← HN.out] at ho2 ⊢
    have hb12 := hb1.trans (hb2.mono hb1.size)
    have h2 := h.below hb12
    go_wp2_with fail
    refine (toInt_any _ _ _ xs _ h2 hn).mono ?_
    rintro e w3 ⟨cx, rfl, hx3, hb3⟩
    have hb13 := hb12.trans (hb3.mono hb12.size)
    have ho3 := ho2.below hb3
    have hs23 := (hx3.lt _ rfl).2
    go_wp2_with fail
    refine (implInverseSeries _ _ _ xs a _ hx3.rd hw hn).mono ?_
    rintro e w4 ⟨Ag, cg, rfl, hg4, hb4⟩
    rw [← HN.out] at hg4 ⊢
    have hb14 := hb13.trans (hb4.mono hb13.size)
    have ho4 := ho3.below hb4
    have hx4 := hx3.below hb4
    go_wp2_with fail
    refine (eq_true _ _ _ _ _ _ _ hg4.rd ho4.rd hys2).mono ?_
    rintro e w5 ⟨rfl, hb5⟩
    have hb15 := hb14.trans (hb5.mono hb14.size)
    have ho5 := ho4.below hb5
    have hx5 := hx4.below hb5
    have hg5 := hg4.below hb5
    have h5 := h.below hb15
    clear ho3 ho4 hx4
    go_wp2_with fail
    refine (toInt_any _ _ _ xs _ h5 hn).mono ?_
    rintro e w6 ⟨c6, rfl, hy6, hb6⟩
    have hb16 := hb15.trans (hb6.mono hb15.size)
    have ho6 := ho5.below hb6
    have hx6 := hx5.below hb6
    have hg6 := hg5.below hb6
    go_wp2_with fail
    refine (eq_true _ _ _ _ _ xs _ hx6.rd hy6.rd hn2).mono ?_
    rintro e w7 ⟨rfl, hb7⟩
    have hb17 := hb16.trans (hb7.mono hb16.size)
    have ho7 := ho6.below hb7
    have hx7 := hx6.below hb7
    have hg7 := hg6.below hb7
    clear ho5 hx5 hg5 ho6 hx6 hg6 hy6
    go_wp2_with fail
    refine (mark_any _ _ _ _ _ 1 xs _ hx7 hn (by omega)).mono ?_
    rintro e w8 ⟨rfl, hx8, hgr8⟩
    have hb18 := hb17.grown hgr8 hb17.size (fun k hk => by have := (hx7.lt k hk).1; have := hb12.size; omega)
    have ho8 := ho7.apart hgr8 (fun k hk e => by have h1 := (ho2.lt k hk).2; have h2 := (hx7.lt k e).1; omega)
    have hg8 := hg7.apart hgr8 (fun k hk e => by have h1 := (hg4.lt k hk).1; have h2 := (hx3.lt k e).2; omega)
    have hk0 : (1 + n : Nat) ≤ 1048577 := by omega
    clear hx7 ho7 hg7
    go_wp2_with fail
    refine (eq_true _ _ _ _ _ _ _ hg8.rd ho8.rd hys2).mono ?_
    rintro e w9 ⟨rfl, hb9⟩
    have hb19 := hb18.trans (hb9.mono hb18.size)
    have ho9 := ho8.below hb9
    have hg9 := hg8.below hb9
    clear ho8 hg8 hx8
    go_wp2_with fail
    refine (mark_any _ _ _ _ _ 1 _ _ hg9 hys (by omega)).mono ?_
    rintro e w10 ⟨rfl, hg10, hgr10⟩
    have hb110 := hb19.grown hgr10 hb19.size (fun k hk => by have := (hg9.lt k hk).1; have := hb13.size; omega)
    have ho10 := ho9.apart hgr10 (fun k hk e => by have h1 := (ho2.lt k hk).2; have h2 := (hg9.lt k e).1; have := hb3.size; omega)
    clear ho9 hg9
    go_wp2_with fail
    refine (held_any _ _ _ 1 _ hg10.rd hys (by omega)).mono ?_
    rintro e w' ⟨rfl, rfl⟩
    have h10 := h.below hb110
    go_wp2_with fail
    refine (toInt_any _ _ _ xs _ h10 hn).mono ?_
    rintro e w11 ⟨c11, rfl, hz11, hb11⟩
    have hb111 := hb110.trans (hb11.mono hb110.size)
    have ho11 := ho10.below hb11
    have hg11 := hg10.below hb11
    go_wp2_with fail
    refine (implInverseSeries _ _ _ xs a _ hz11.rd hw hn).mono ?_
    rintro e w12 ⟨Ah, ch, rfl, hh12, hb12'⟩
    rw [← HN.out] at hh12 ⊢
    have hb112 := hb111.trans (hb12'.mono hb111.size)
    have ho12 := ho11.below hb12'
    have hg12 := hg11.below hb12'
    clear ho11 hg11 ho10 hz11
    go_wp2_with fail
    refine (eq_true _ _ _ _ _ _ _ hh12.rd ho12.rd hys2).mono ?_
    rintro e w13 ⟨rfl, hb13'⟩
    have hb113 := hb112.trans (hb13'.mono hb112.size)
    have hg13 := hg12.below hb13'
    clear ho12 hg12 hh12
    go_wp2_with fail
    refine (held_any _ _ _ 1 _ hg13.rd hys (by omega)).mono ?_
    rintro e w' ⟨rfl, rfl⟩
    go_wp2_with fail
    go_ret
    exact ⟨rfl, hb113⟩
  · go_enter Try.func3, Try.ntmps3
    go_wp2
    go_ret
    exact ⟨rfl, Below.refl _ _⟩
end Go.Proofs.Ytkifadmoedackaa

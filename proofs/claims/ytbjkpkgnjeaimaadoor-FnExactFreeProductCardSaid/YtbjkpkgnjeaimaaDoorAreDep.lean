/-
  AreDependent: both sides.
-/
import Derived.Test.YtbjkpkgnjeaimaaDoorIsAl
namespace Go.Proofs.YtbjkpkgnjeaimaaDoor
open Go.RowKit
set_option linter.unusedVariables false
set_option maxRecDepth 100000

/-- The answer: whether, and the code. -/
def areAns (L : Int) (xs : List Int) (a b : Int) : Bool × Int :=
  if alphB L xs = true then (if 0 ≤ a ∧ a < L ∧ 0 ≤ b ∧ b < L then (((xs.map Int.toNat).getD a.toNat 0).testBit b.toNat, 0) else (false, 2)) else (false, 1)
theorem areAns_no (L : Int) (xs : List Int) (a b : Int) (h : alphB L xs = false) : areAns L xs a b = (false, 1) := by unfold areAns; rw [if_neg (by rw [h]; decide)]
theorem areAns_out (L : Int) (xs : List Int) (a b : Int) (h : alphB L xs = true) (hab : ¬ (0 ≤ a ∧ a < L ∧ 0 ≤ b ∧ b < L)) : areAns L xs a b = (false, 2) := by unfold areAns; rw [if_pos h, if_neg hab]
theorem areAns_in (n : Nat) (rs : List Nat) (a b : Nat) (h : alphB (n : Int) (ints rs) = true) (ha : a < n) (hb : b < n) : areAns (n : Int) (ints rs) (a : Int) (b : Int) = ((rs.getD a 0).testBit b, 0) := by
  unfold areAns; rw [if_pos h, if_pos (by omega), ints_toNat]; rfl
theorem hasLetter_any (A : Option Addr) (n c : Nat) (a : Int) (w : World) : Calls Tryd.prog 53 #[.slice A n c, .int .i64 a] w fun e w' => e = .returned (.bool (decide (0 ≤ a ∧ a < (n : Int)))) ∧ w = w' := by
  by_cases h1 : 0 ≤ a
  · by_cases h2 : a < (n : Int)
    · go_enter Tryd.func53, Tryd.ntmps53
      go_wp2
      go_ret
      exact ⟨ret_b _ _ (by rw [decide_eq_true ⟨h1, h2⟩]), rfl⟩
    · go_enter Tryd.func53, Tryd.ntmps53
      go_wp2
      go_ret
      exact ⟨ret_b _ _ (by symm; simp; omega), rfl⟩
  · go_enter Tryd.func53, Tryd.ntmps53
    go_wp2
    go_ret
    exact ⟨ret_b _ _ (by symm; simp; omega), rfl⟩
theorem dep_any (L : Int) (A : Option Addr) (n c a b : Nat) (rs : List Nat) (w : World) (h : Rd w A n (ints rs)) (hn : n ≤ 24) (hr : ∀ i, rs.getD i 0 < 2 ^ n) (ha : a < n) (hb : b < n) :
    Calls Tryd.prog 52 #[.agg #[.int .i64 L, .slice A n c], .int .i64 (a : Int), .int .i64 (b : Int)] w fun e w' => e = .returned (.bool ((rs.getD a 0).testBit b)) ∧ Below w.heap.size w w' := by
  have HB := Lib.hid (below1 w (.cells #[.int .i64 L, .slice A n c] 27))
  have hh := h.below HB.out
  obtain ⟨bb, off, x, rfl, hbs, hx, hcx⟩ := hh.at_ ha
  have hlen : rs.length = n := by have := h.1; rw [ints_len] at this; exact this
  have hx2 := ints_getD rs a (by omega)
  rw [hx2] at hx
  injection hx with hx
  subst hx
  have hm := lt63 hn (hr a)
  have hb62 : b ≤ 62 := by omega
  obtain ⟨D, hD⟩ : ∃ D, D = rs.getD a 0 := ⟨_, rfl⟩
  rw [← hD] at hcx hm ⊢
  clear hx2 hD hlen
  go_enter Tryd.func52, Tryd.ntmps52
  go_wp2_with fail
  refine (bit_any D b hm hb62 _).mono ?_
  rintro e w' ⟨rfl, rfl⟩
  go_wp2_with fail
  go_ret
  exact ⟨rfl, HB.out⟩
set_option maxHeartbeats 1600000 in
theorem implAreDependent (L : Int) (A : Option Addr) (n c : Nat) (xs : List Int) (a b : Int) (w : World) (h : Rd w A n xs) (hwf : Wf xs) (hL1 : -9223372036854775808 ≤ L) (hL2 : L ≤ 9223372036854775807) (hn : n ≤ 9223372036854775807) (ha1 : -9223372036854775808 ≤ a) (ha2 : a ≤ 9223372036854775807) (hb1 : -9223372036854775808 ≤ b) (hb2 : b ≤ 9223372036854775807) (hT : Tab w) :
    Calls Tryd.prog 21 #[.agg #[.int .i64 L, .slice A n c], .int .i64 a, .int .i64 b] w fun e w' => e = .returned (.tuple #[.bool (areAns L xs a b).1, .int .i64 (areAns L xs a b).2]) ∧ Below w.heap.size w w' := by
  have HB := Lib.hid (below1 w (.cells #[.int .i64 L, .slice A n c] 27))
  have hh := h.below HB.out
  have hT1 := hT.below HB.out
  cases ha : alphB L xs
  · rw [areAns_no L xs a b ha]
    have HA := Lib.hid ha
    clear ha
    go_enter Tryd.func21, Tryd.ntmps21
    go_wp2_with fail
    refine (dependenceOf_no L _ _ _ xs _ hh hwf hL1 hL2 hn HA.out hT1).mono ?_
    rintro e w1 ⟨rfl, hb⟩
    go_wp2_with fail
    go_ret2
    exact ⟨rfl, HB.out.trans (hb.mono HB.out.size)⟩
  · by_cases hab : 0 ≤ a ∧ a < L ∧ 0 ≤ b ∧ b < L
    · obtain ⟨rs, rfl, rfl, h8, hr, hrel, hl, hd, _⟩ := alphB_nats L xs n h.1 ha
      obtain ⟨a', rfl⟩ : ∃ a' : Nat, a = (a' : Int) := ⟨a.toNat, by omega⟩
      obtain ⟨b', rfl⟩ : ∃ b' : Nat, b = (b' : Int) := ⟨b.toNat, by omega⟩
      have han : a' < n := by omega
      have hbn : b' < n := by omega
      rw [areAns_in n rs a' b' ha han hbn]
      have HNA := Lib.hid (decide_eq_true (show (0 : Int) ≤ (a' : Int) ∧ (a' : Int) < (n : Int) by omega))
      have HNB := Lib.hid (decide_eq_true (show (0 : Int) ≤ (b' : Int) ∧ (b' : Int) < (n : Int) by omega))
      have h24 : n ≤ 24 := by omega
      have hm := lt63 h24 (hr a')
      have hb62 : b' ≤ 62 := by omega
      have hx2 := ints_getD rs a' (by omega)
      obtain ⟨D, hD⟩ : ∃ D, D = rs.getD a' 0 := ⟨_, rfl⟩
      rw [← hD] at hm hx2 ⊢
      have HX2 := Lib.hid hx2
      clear ha hl hD hx2 hab
      go_enter Tryd.func21, Tryd.ntmps21
      go_wp2_with fail
      refine (dependenceOf_yes _ _ _ _ rs _ hh hwf h8 rfl hr hrel hd hT1).mono ?_
      rintro e w1 ⟨A1, c1, rfl, ho1, hb1'⟩
      obtain ⟨bb, off, x, rfl, hbs, hx, hcx⟩ := ho1.rd.at_ han
      rw [HX2.out] at hx
      injection hx with hx
      subst hx
      go_wp2_with fail
      refine (hasLetter_any _ _ _ _ _).mono ?_
      rintro e w' ⟨rfl, rfl⟩
      rw [HNA.out]
      go_wp2_with fail
      refine (hasLetter_any _ _ _ _ _).mono ?_
      rintro e w' ⟨rfl, rfl⟩
      rw [HNB.out]
      go_wp2_with fail
      refine (has_any D b' hm hb62 _).mono ?_
      rintro e w' ⟨rfl, rfl⟩
      go_wp2_with fail
      go_ret2
      exact ⟨rfl, HB.out.trans (hb1'.mono HB.out.size)⟩
    · rw [areAns_out L xs a b ha hab]
      obtain ⟨rs, rfl, rfl, h8, hr, hrel, hl, hd, _⟩ := alphB_nats L xs n h.1 ha
      clear ha hl
      by_cases haa : 0 ≤ a ∧ a < (n : Int)
      · have HNA := Lib.hid (decide_eq_true haa)
        have HNB := Lib.hid (decide_eq_false (show ¬ ((0 : Int) ≤ b ∧ b < (n : Int)) by omega))
        clear hab haa
        go_enter Tryd.func21, Tryd.ntmps21
        go_wp2_with fail
        refine (dependenceOf_yes _ _ _ _ rs _ hh hwf h8 rfl hr hrel hd hT1).mono ?_
        rintro e w1 ⟨A1, c1, rfl, ho1, hb1'⟩
        go_wp2_with fail
        refine (hasLetter_any _ _ _ _ _).mono ?_
        rintro e w' ⟨rfl, rfl⟩
        rw [HNA.out]
        go_wp2_with fail
        refine (hasLetter_any _ _ _ _ _).mono ?_
        rintro e w' ⟨rfl, rfl⟩
        rw [HNB.out]
        go_wp2_with fail
        go_ret2
        exact ⟨rfl, HB.out.trans (hb1'.mono HB.out.size)⟩
      · have HNA := Lib.hid (decide_eq_false haa)
        clear hab haa
        go_enter Tryd.func21, Tryd.ntmps21
        go_wp2_with fail
        refine (dependenceOf_yes _ _ _ _ rs _ hh hwf h8 rfl hr hrel hd hT1).mono ?_
        rintro e w1 ⟨A1, c1, rfl, ho1, hb1'⟩
        go_wp2_with fail
        refine (hasLetter_any _ _ _ _ _).mono ?_
        rintro e w' ⟨rfl, rfl⟩
        rw [HNA.out]
        go_wp2_with fail
        go_ret2
        exact ⟨rfl, HB.out.trans (hb1'.mono HB.out.size)⟩
set_option maxHeartbeats 1600000 in
theorem specAreDependent (L : Int) (A : Option Addr) (n c : Nat) (xs : List Int) (a b : Int) (w : World) (h : Rd w A n xs) (hwf : Wf xs) (hL1 : -9223372036854775808 ≤ L) (hL2 : L ≤ 9223372036854775807) (hn : n ≤ 9223372036854775807) (ha1 : -9223372036854775808 ≤ a) (ha2 : a ≤ 9223372036854775807) (hb1 : -9223372036854775808 ≤ b) (hb2 : b ≤ 9223372036854775807) :
    Calls Tryd.prog 20 #[.agg #[.int .i64 L, .slice A n c], .int .i64 a, .int .i64 b] w fun e w' => e = .returned (.tuple #[.bool (areAns L xs a b).1, .int .i64 (areAns L xs a b).2]) ∧ Below w.heap.size w w' := by
  have HB := Lib.hid (below1 w (.cells #[.int .i64 L, .slice A n c] 27))
  have hh := h.below HB.out
  have x0 := box_new 27 w L A n c
  cases ha : alphB L xs
  · rw [areAns_no L xs a b ha]
    have HA := Lib.hid ha
    clear ha
    go_enter Tryd.func20, Tryd.ntmps20
    go_wp2_with fail
    refine (l02Is_any L _ _ _ xs _ hh hn).mono ?_
    rintro e w1 ⟨rfl, hb⟩
    rw [HA.out]
    go_wp2_with fail
    go_ret2
    exact ⟨rfl, HB.out.trans (hb.mono HB.out.size)⟩
  · by_cases hab : 0 ≤ a ∧ a < L ∧ 0 ≤ b ∧ b < L
    · obtain ⟨rs, rfl, rfl, h8, hr, hrel, hl, hd, _⟩ := alphB_nats L xs n h.1 ha
      obtain ⟨a', rfl⟩ : ∃ a' : Nat, a = (a' : Int) := ⟨a.toNat, by omega⟩
      obtain ⟨b', rfl⟩ : ∃ b' : Nat, b = (b' : Int) := ⟨b.toNat, by omega⟩
      have han : a' < n := by omega
      have hbn : b' < n := by omega
      rw [areAns_in n rs a' b' ha han hbn]
      have h24 : n ≤ 24 := by omega
      have hw1 : wrap64 ((n : Int) - 1) = (n : Int) - 1 := by unfold wrap64; omega
      have HA := Lib.hid ha
      have hina : (0 : Int) ≤ (a' : Int) ∧ (a' : Int) ≤ (n : Int) - 1 := by omega
      have hinb : (0 : Int) ≤ (b' : Int) ∧ (b' : Int) ≤ (n : Int) - 1 := by omega
      have HIA := Lib.hid hina
      have HIB := Lib.hid hinb
      clear ha hl hab hina hinb
      go_enter Tryd.func20, Tryd.ntmps20
      go_wp2_with fail
      refine (l02Is_any _ _ _ _ _ _ hh hn).mono ?_
      rintro e w1 ⟨rfl, hb⟩
      rw [HA.out]
      have x1 := x0.next hb
      have y0 := x1.c0
      have y1 := x1.c1
      have h1 := hh.below hb
      have HB1 := Lib.hid (HB.out.trans (hb.mono HB.out.size))
      go_wp2_with fail
      refine (in_true _ _ _ HIA.out _).mono ?_
      rintro e w' ⟨rfl, rfl⟩
      go_wp2_with fail
      refine (in_true _ _ _ HIB.out _).mono ?_
      rintro e w' ⟨rfl, rfl⟩
      go_wp2_with fail
      refine (dep_any _ _ _ _ a' b' rs _ h1 h24 hr han hbn).mono ?_
      rintro e w2 ⟨rfl, hb2'⟩
      go_wp2_with fail
      go_ret2
      exact ⟨rfl, HB1.out.trans (hb2'.mono HB1.out.size)⟩
    · rw [areAns_out L xs a b ha hab]
      obtain ⟨rs, rfl, rfl, h8, hr, hrel, hl, hd, _⟩ := alphB_nats L xs n h.1 ha
      have hw1 : wrap64 ((n : Int) - 1) = (n : Int) - 1 := by unfold wrap64; omega
      have HA := Lib.hid ha
      clear ha hl
      by_cases haa : (0 : Int) ≤ a ∧ a ≤ (n : Int) - 1
      · have HIA := Lib.hid haa
        have HIB := Lib.hid (show ¬ ((0 : Int) ≤ b ∧ b ≤ (n : Int) - 1) by omega)
        clear hab haa
        go_enter Tryd.func20, Tryd.ntmps20
        go_wp2_with fail
        refine (l02Is_any _ _ _ _ _ _ hh hn).mono ?_
        rintro e w1 ⟨rfl, hb⟩
        rw [HA.out]
        have x1 := x0.next hb
        have y0 := x1.c0
        have y1 := x1.c1
        have HB1 := Lib.hid (HB.out.trans (hb.mono HB.out.size))
        go_wp2_with fail
        refine (in_true _ _ _ HIA.out _).mono ?_
        rintro e w' ⟨rfl, rfl⟩
        go_wp2_with fail
        refine (in_false _ _ _ HIB.out _).mono ?_
        rintro e w' ⟨rfl, rfl⟩
        go_wp2_with fail
        go_ret2
        exact ⟨rfl, HB1.out⟩
      · have HIA := Lib.hid haa
        clear hab haa
        go_enter Tryd.func20, Tryd.ntmps20
        go_wp2_with fail
        refine (l02Is_any _ _ _ _ _ _ hh hn).mono ?_
        rintro e w1 ⟨rfl, hb⟩
        rw [HA.out]
        have x1 := x0.next hb
        have y0 := x1.c0
        have y1 := x1.c1
        have HB1 := Lib.hid (HB.out.trans (hb.mono HB.out.size))
        go_wp2_with fail
        refine (in_false _ _ _ HIA.out _).mono ?_
        rintro e w' ⟨rfl, rfl⟩
        go_wp2_with fail
        go_ret2
        exact ⟨rfl, HB1.out⟩
end Go.Proofs.YtbjkpkgnjeaimaaDoor

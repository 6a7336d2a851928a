/-
  AreDependent: both sides.
-/
import Derived.Test.YtcojodkcpemfdaaDoorIsAl
namespace Go.Proofs.YtcojodkcpemfdaaDoor
open Go.RowKit
set_option linter.unusedVariables false
set_option maxRecDepth 100000

/-- The answer: whether, and the code. -/
def areAns (L : Int) (xs : List Int) (a b : Int) : Bool × Int :=
  if alphB L xs = true then (if 0 ≤ a ∧ a < L ∧ 0 ≤ b ∧ b < L then (((xs.map Int.toNat).getD a.toNat 0).testBit b.toNat, 0) else (false, 2)) else (false, 1)
theorem areAns_no (L : Int) (xs : List Int) (a b : Int) (h : alphB L xs = false) : areAns L xs a b = (false, 1) := by unfold areAns; rw [if_neg (by rw [h]; decide)]
theorem areAns_out (L : Int) (xs : List Int) (a b : Int) (h : alphB L xs = true) (hab : ¬ (0 ≤ a ∧ a < L ∧ 0 ≤ b ∧ b < L)) : areAns L xs a b = (false, 2) := by unfold areAns; rw [if_pos h, if_neg hab]
theorem areAns_in (n : Nat) (rs : List Nat) (a b : Nat) (h : alphB (n : Int) (ints rs) = true) (ha : a < n) (hb : b < n) : areAns (n : Int) (ints rs) (a : Int) (b : Int) = ((rs.getD a 0).testBit b, 0) := by
  unfold areAns; rw [if_pos h, if_pos (by omega), ints_toNat]; rfl
theorem dep_any (L : Int) (A : Option Addr) (n c a b : Nat) (rs : List Nat) (w : World) (h : Rd w A n (ints rs)) (hn : n ≤ 24) (hr : ∀ i, rs.getD i 0 < 2 ^ n) (ha : a < n) (hb : b < n) :
    Calls Tryd.prog 141 #[.agg #[.int .i64 L, .slice A n c], .int .i64 (a : Int), .int .i64 (b : Int)] w fun e w' => e = .returned (.bool ((rs.getD a 0).testBit b)) ∧ Below w.heap.size w w' := by
  have HB := Lib.hid (below1 w (.cells #[.int .i64 L, .slice A n c] 29))
  have hh := h.below HB.out
  obtain ⟨bb, off, x, rfl, hbs, hx, hcx⟩ := hh.at_ ha
  have hlen : rs.length = n := by have := h.1; rw [ints_len] at this; exact this
  have hx2 := ints_getD rs a (by omega)
  rw [hx2] at hx
  injection hx with hx
  subst hx
  have hm := lt63 hn (hr a)
  have hb62 : b ≤ 62 := by omega
  obtain ⟨D, hD⟩ : ∃ D, D = rs.getD a 0 := ⟨_, rfl⟩
  rw [← hD] at hcx hm ⊢
  clear hx2 hD hlen
  go_enter Tryd.func141, Tryd.ntmps141
  go_wp2_with fail
  refine (bit_any D b hm hb62 _).mono ?_
  rintro e w' ⟨rfl, rfl⟩
  go_wp2_with fail
  go_ret
  exact ⟨rfl, HB.out⟩
end Go.Proofs.YtcojodkcpemfdaaDoor

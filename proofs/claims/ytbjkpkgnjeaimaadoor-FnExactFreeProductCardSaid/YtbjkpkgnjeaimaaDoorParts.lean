/-
  PartsOfAlphabet: both sides.
-/
import Derived.Test.YtbjkpkgnjeaimaaDoorIsAl
import Derived.Test.YtbjkpkgnjeaimaaDoorComp
namespace Go.Proofs.YtbjkpkgnjeaimaaDoor
open Go.RowKit
set_option linter.unusedVariables false
set_option maxRecDepth 100000

theorem LsPost.of_ans {w : World} {ys : List Int} {code : Int} {e : Ending} {w' : World} (h : AnsPost w ys code e w') : LsPost w ys.length ys code e w' := h
theorem LsPost.from_ {w w1 w' : World} {VN : Nat} {VX : List Int} {C : Int} {e : Ending} (h : LsPost w1 VN VX C e w') (hb : Below w.heap.size w w1) : LsPost w VN VX C e w' := by
  obtain ⟨A, c, rfl, ho, hb2⟩ := h
  exact ⟨A, c, rfl, ho.mono hb.size, hb.trans (hb2.mono hb.size)⟩
/-- A list for a dependence, else ErrInvalid. -/
def lsAns (f : List Nat → List Nat) (L : Int) (xs : List Int) : List Int × Int := if alphB L xs = true then (ints (f (xs.map Int.toNat)), 0) else ([], 1)
theorem lsAns_no (f : List Nat → List Nat) (L : Int) (xs : List Int) (h : alphB L xs = false) : lsAns f L xs = ([], 1) := by unfold lsAns; rw [if_neg (by rw [h]; decide)]
theorem lsAns_yes (f : List Nat → List Nat) (n : Nat) (rs : List Nat) (h : alphB (n : Int) (ints rs) = true) : lsAns f (n : Int) (ints rs) = (ints (f rs), 0) := by unfold lsAns; rw [if_pos h, ints_toNat]
theorem lsAns_small (f : List Nat → List Nat) (b : Nat) (hf : ∀ rs, rs.length ≤ 8 → (f rs).length ≤ b) (L : Int) (xs : List Int) : (lsAns f L xs).1.length ≤ b := by
  unfold lsAns
  split
  · rename_i h
    obtain ⟨rs, rfl, rfl, h8, _, _, hl, _, e⟩ := alphB_nats L xs _ rfl h
    rw [e]
    show (ints _).length ≤ b
    rw [ints_len]; exact hf _ (by rw [hl]; exact h8)
  · exact Nat.zero_le _
def partsAns (L : Int) (xs : List Int) : List Int × Int := lsAns compM L xs
theorem partsAns_small (L : Int) (xs : List Int) : (partsAns L xs).1.length ≤ 8 := lsAns_small compM 8 (fun rs h => Nat.le_trans (compM_len rs) h) L xs
set_option maxHeartbeats 800000 in
theorem implPartsOfAlphabet (L : Int) (A : Option Addr) (n c : Nat) (xs : List Int) (w : World) (h : Rd w A n xs) (hwf : Wf xs) (hL1 : -9223372036854775808 ≤ L) (hL2 : L ≤ 9223372036854775807) (hn : n ≤ 9223372036854775807) (hT : Tab w) :
    Calls Tryd.prog 43 #[.agg #[.int .i64 L, .slice A n c]] w (LsPost w (partsAns L xs).1.length (partsAns L xs).1 (partsAns L xs).2) := by
  have HB := Lib.hid (below1 w (.cells #[.int .i64 L, .slice A n c] 27))
  have hh := h.below HB.out
  have hT1 := hT.below HB.out
  cases ha : alphB L xs
  · rw [show partsAns L xs = _ from lsAns_no compM L xs ha]
    have HA := Lib.hid ha
    clear ha
    go_enter Tryd.func43, Tryd.ntmps43
    go_wp2_with fail
    refine (dependenceOf_no L _ _ _ xs _ hh hwf hL1 hL2 hn HA.out hT1).mono ?_
    rintro e w1 ⟨rfl, hb⟩
    go_wp2_with fail
    go_ret2
    exact LsPost.of_ans (ans_no 1 (HB.out.trans (hb.mono HB.out.size)))
  · obtain ⟨rs, rfl, rfl, h8, hr, hrel, hl, hd, _⟩ := alphB_nats L xs n h.1 ha
    rw [show partsAns (n : Int) (ints rs) = _ from lsAns_yes compM n rs ha]
    have hcl := compM_len rs
    have h24 : n ≤ 24 := by omega
    have hn3 : (compM rs).length ≤ 1048576 := by omega
    clear ha hcl hl
    go_enter Tryd.func43, Tryd.ntmps43
    go_wp2_with fail
    refine (dependenceOf_yes _ _ _ _ rs _ hh hwf h8 rfl hr hrel hd hT1).mono ?_
    rintro e w1 ⟨A1, c1, rfl, ho1, hb1⟩
    have HB1 := Lib.hid (HB.out.trans (hb1.mono HB.out.size))
    have hT2 := hT1.below hb1
    go_wp2_with fail
    refine (classes_any _ _ _ rs _ ho1.rd h24 hr hT2).mono ?_
    rintro e w2 ⟨A2, c2, rfl, ho2, hb2⟩
    have HB2 := Lib.hid (HB1.out.trans (hb2.mono HB1.out.size))
    go_wp2_with fail
    refine (masksOf_any _ _ _ _ _ ho2.rd hn3).mono ?_
    rintro e w3 ⟨A3, c3, rfl, ho3, hb3⟩
    have ho4 := ho3.mono HB2.out.size
    have HB3 := Lib.hid (HB2.out.trans (hb3.mono HB2.out.size))
    go_wp2_with fail
    go_ret2
    exact LsPost.of_ans (ans_yes (by rw [ints_len]) ho4 HB3.out)
set_option maxHeartbeats 800000 in
theorem specPartsOfAlphabet (L : Int) (A : Option Addr) (n c : Nat) (xs : List Int) (w : World) (h : Rd w A n xs) (hwf : Wf xs) (hL1 : -9223372036854775808 ≤ L) (hL2 : L ≤ 9223372036854775807) (hn : n ≤ 9223372036854775807) :
    Calls Tryd.prog 42 #[.agg #[.int .i64 L, .slice A n c]] w (LsPost w (partsAns L xs).1.length (partsAns L xs).1 (partsAns L xs).2) := by
  have HB := Lib.hid (below1 w (.cells #[.int .i64 L, .slice A n c] 27))
  have hh := h.below HB.out
  have x0 := box_new 27 w L A n c
  cases ha : alphB L xs
  · rw [show partsAns L xs = _ from lsAns_no compM L xs ha]
    have HA := Lib.hid ha
    clear ha
    go_enter Tryd.func42, Tryd.ntmps42
    go_wp2_with fail
    refine (l02Is_any L _ _ _ xs _ hh hn).mono ?_
    rintro e w1 ⟨rfl, hb⟩
    rw [HA.out]
    go_wp2_with fail
    go_ret2
    exact LsPost.of_ans (ans_no 1 (HB.out.trans (hb.mono HB.out.size)))
  · obtain ⟨rs, rfl, rfl, h8, hr, hrel, hl, hd, _⟩ := alphB_nats L xs n h.1 ha
    rw [show partsAns (n : Int) (ints rs) = _ from lsAns_yes compM n rs ha]
    have HA := Lib.hid ha
    have h24 : n ≤ 24 := by omega
    clear ha hl
    go_enter Tryd.func42, Tryd.ntmps42
    go_wp2_with fail
    refine (l02Is_any _ _ _ _ _ _ hh hn).mono ?_
    rintro e w1 ⟨rfl, hb⟩
    rw [HA.out]
    have x1 := x0.next hb
    have y1 := x1.c1
    have h1 := hh.below hb
    have HB1 := Lib.hid (HB.out.trans (hb.mono HB.out.size))
    go_wp2_with fail
    refine (specComponents_yes _ n _ rs _ h1 h24 hr hrel).mono ?_
    rintro e w2 ⟨A2, c2, rfl, ho2, hb2⟩
    have ho3 := ho2.mono HB1.out.size
    have HB2 := Lib.hid (HB1.out.trans (hb2.mono HB1.out.size))
    go_wp2_with fail
    go_ret2
    exact LsPost.of_ans (ans_yes (by rw [ints_len]) ho3 HB2.out)
end Go.Proofs.YtbjkpkgnjeaimaaDoor

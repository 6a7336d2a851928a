/-
  PartsOfAlphabet: both sides.
-/
import Derived.Test.YtcojodkcpemfdaaDoorIsAl
import Derived.Test.YtcojodkcpemfdaaDoorB2
namespace Go.Proofs.YtcojodkcpemfdaaDoor
open Go.RowKit
set_option linter.unusedVariables false
set_option maxRecDepth 100000

theorem LsPost.of_ans {w : World} {ys : List Int} {code : Int} {e : Ending} {w' : World} (h : AnsPost w ys code e w') : LsPost w ys.length ys code e w' := h
theorem LsPost.from_ {w w1 w' : World} {VN : Nat} {VX : List Int} {C : Int} {e : Ending} (h : LsPost w1 VN VX C e w') (hb : Below w.heap.size w w1) : LsPost w VN VX C e w' := by
  obtain ⟨A, c, rfl, ho, hb2⟩ := h
  exact ⟨A, c, rfl, ho.mono hb.size, hb.trans (hb2.mono hb.size)⟩
/-- A list for a dependence, else ErrInvalid. -/
def lsAns (f : List Nat → List Nat) (L : Int) (xs : List Int) : List Int × Int := if alphB L xs = true then (ints (f (xs.map Int.toNat)), 0) else ([], 1)
theorem lsAns_no (f : List Nat → List Nat) (L : Int) (xs : List Int) (h : alphB L xs = false) : lsAns f L xs = ([], 1) := by unfold lsAns; rw [if_neg (by rw [h]; decide)]
theorem lsAns_yes (f : List Nat → List Nat) (n : Nat) (rs : List Nat) (h : alphB (n : Int) (ints rs) = true) : lsAns f (n : Int) (ints rs) = (ints (f rs), 0) := by unfold lsAns; rw [if_pos h, ints_toNat]
theorem lsAns_small (f : List Nat → List Nat) (b : Nat) (hf : ∀ rs, rs.length ≤ 8 → (f rs).length ≤ b) (L : Int) (xs : List Int) : (lsAns f L xs).1.length ≤ b := by
  unfold lsAns
  split
  · rename_i h
    obtain ⟨rs, rfl, rfl, h8, _, _, hl, _, e⟩ := alphB_nats L xs _ rfl h
    rw [e]
    show (ints _).length ≤ b
    rw [ints_len]; exact hf _ (by rw [hl]; exact h8)
  · exact Nat.zero_le _
end Go.Proofs.YtcojodkcpemfdaaDoor

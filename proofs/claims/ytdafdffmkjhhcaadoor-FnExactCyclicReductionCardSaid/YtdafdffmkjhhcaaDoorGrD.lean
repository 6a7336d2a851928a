/-
  Plain mathematics of signed letters: their numbers, the dependence of the numbers.
-/
import Derived.Test.YtdafdffmkjhhcaaDoorGrM
import Derived.Test.YtdafdffmkjhhcaaDoorM3
namespace Go.Proofs.YtdafdffmkjhhcaaDoor
open Go.RowKit
set_option linter.unusedVariables false
set_option maxRecDepth 100000

/-- The dependence of the numbers of the signed letters. -/
def dblR (rs : List Nat) : List Nat := relM (2 * rs.length) (fun a b => RDep rs (a / 2) (b / 2))
theorem dbl_len (rs : List Nat) : (dblR rs).length = 2 * rs.length := relM_len _ _
theorem dbl_lt (rs : List Nat) (i : Nat) : (dblR rs).getD i 0 < 2 ^ (2 * rs.length) := relM_lt _ _ i
theorem dbl_dep (rs : List Nat) (hr : ∀ i, rs.getD i 0 < 2 ^ rs.length) (a b : Nat) : RDep (dblR rs) a b = RDep rs (a / 2) (b / 2) := by
  have key : RDep (dblR rs) a b = true ↔ RDep rs (a / 2) (b / 2) = true := by
    by_cases ha : a < 2 * rs.length
    · unfold RDep dblR
      rw [relM_at _ _ a ha, mkM_bit]
      refine ⟨fun h => h.2, fun h => ⟨?_, h⟩⟩
      rcases Nat.lt_or_ge b (2 * rs.length) with hb | hb
      · exact hb
      · exfalso
        have h9 : (rs.getD (a / 2) 0).testBit (b / 2) = false := Nat.testBit_lt_two_pow (Nat.lt_of_lt_of_le (hr _) (Nat.pow_le_pow_right (by decide) (by omega)))
        unfold RDep at h
        rw [h9] at h; cases h
    · have e1 : (dblR rs).getD a 0 = 0 := by rw [List.getD_eq_getElem?_getD, List.getElem?_eq_none (by rw [dbl_len]; omega)]; rfl
      have e2 : rs.getD (a / 2) 0 = 0 := by rw [List.getD_eq_getElem?_getD, List.getElem?_eq_none (by omega)]; rfl
      unfold RDep
      rw [e1, e2]; simp
  cases h1 : RDep (dblR rs) a b <;> cases h2 : RDep rs (a / 2) (b / 2)
  · rfl
  · rw [key.2 h2] at h1; cases h1
  · rw [key.1 h1] at h2; cases h2
  · rfl
theorem dbl_gd (rs : List Nat) (n : Nat) (hl : rs.length = n) (hr : ∀ i, rs.getD i 0 < 2 ^ n) (hd : Dep rs) : GD (RDep (dblR rs)) (2 * n) := by
  subst hl
  refine ⟨fun a b => ?_, fun a ha => ?_, fun a b => ?_, fun a ha => ?_⟩
  · rw [dbl_dep rs hr, dbl_dep rs hr]; exact rdep_sym rs _ rfl hr hd _ _
  · rw [dbl_dep rs hr]; exact hd.1 _ (by omega)
  · rw [dbl_dep rs hr, dbl_dep rs hr, opp_half]
  · unfold opp; split <;> omega
theorem dbl_is (rs : List Nat) (n : Nat) (hl : rs.length = n) (hr : ∀ i, rs.getD i 0 < 2 ^ n) (hd : Dep rs) : Dep (dblR rs) := by
  have g := dbl_gd rs n hl hr hd
  refine ⟨fun i hi => g.ref i (by rw [dbl_len, hl] at hi; exact hi), fun i k _ _ => ?_⟩
  show RDep (dblR rs) i k = true ↔ RDep (dblR rs) k i = true
  rw [g.sym]
/-- A signed letter; its number, and back. -/
def sgB1 (L s : Int) : Bool := decide (-L ≤ s) && decide (s ≤ L) && decide (s ≠ 0)
def sgB (L : Int) (us : List Int) : Bool := decide (us.length ≤ 24) && us.all (sgB1 L)
def inN (s : Int) : Nat := if 0 < s then (2 * (s - 1)).toNat else (2 * (-s - 1) + 1).toNat
def outI (a : Nat) : Int := if a % 2 = 0 then ((a / 2 : Nat) : Int) + 1 else -(((a / 2 : Nat) : Int) + 1)
theorem sgB1_iff (L s : Int) : sgB1 L s = true ↔ -L ≤ s ∧ s ≤ L ∧ s ≠ 0 := by
  unfold sgB1
  rw [Bool.and_eq_true, Bool.and_eq_true, decide_eq_true_iff, decide_eq_true_iff, decide_eq_true_iff, and_assoc]
theorem inN_lt (n : Nat) (s : Int) (h : sgB1 (n : Int) s = true) : inN s < 2 * n := by
  obtain ⟨h1, h2, h3⟩ := (sgB1_iff _ _).1 h
  unfold inN; split <;> omega
theorem inN_pos {s : Int} (h : 0 < s) : ((inN s : Nat) : Int) = 2 * (s - 1) := by
  unfold inN; rw [if_pos h]; omega
theorem inN_neg {s : Int} (h : ¬ 0 < s) (h0 : s ≠ 0) : ((inN s : Nat) : Int) = 2 * (-s - 1) + 1 := by
  unfold inN; rw [if_neg h]; omega
theorem outI_even {a : Nat} (h : a % 2 = 0) : outI a = ((a / 2 : Nat) : Int) + 1 := if_pos h
theorem outI_odd {a : Nat} (h : ¬ a % 2 = 0) : outI a = -(((a / 2 : Nat) : Int) + 1) := if_neg h
theorem sgB_len {L : Int} {us : List Int} (h : sgB L us = true) : us.length ≤ 24 := by
  unfold sgB at h; rw [Bool.and_eq_true] at h; exact of_decide_eq_true h.1
theorem sgB_all {L : Int} {us : List Int} (h : sgB L us = true) : ∀ s, s ∈ us → sgB1 L s = true := by
  unfold sgB at h; rw [Bool.and_eq_true] at h; exact List.all_eq_true.1 h.2
theorem sgB_long (L : Int) (us : List Int) (h : 24 < us.length) : sgB L us = false := by
  unfold sgB; rw [decide_eq_false (by omega)]; rfl
theorem sgB_nats {n : Nat} {us : List Int} (h : sgB (n : Int) us = true) : ∀ x, x ∈ us.map inN → x < 2 * n := by
  intro x hx
  obtain ⟨s, hs, rfl⟩ := List.mem_map.1 hx
  exact inN_lt n s (sgB_all h s hs)
/-- The word of the inverses from the last one to the first one. -/
def invW (w : List Nat) : List Nat := w.reverse.map opp
theorem invW_len (w : List Nat) : (invW w).length = w.length := by simp [invW]
theorem invW_lt {D : Nat → Nat → Bool} {n : Nat} (g : GD D n) {w : List Nat} (h : ∀ x, x ∈ w → x < n) : ∀ x, x ∈ invW w → x < n := by
  intro x hx
  unfold invW at hx
  obtain ⟨y, hy, rfl⟩ := List.mem_map.1 hx
  exact g.lt y (h y (List.mem_reverse.1 hy))
/-- The set of the numbers of the signed letters whose letters are listed. -/
def sgL (L : List Nat) : Nat := L.foldl (fun m a => m ||| 2 ^ (2 * a) ||| 2 ^ (2 * a + 1)) 0
theorem sgL_snoc (L : List Nat) (a : Nat) : sgL (L ++ [a]) = sgL L ||| 2 ^ (2 * a) ||| 2 ^ (2 * a + 1) := by simp [sgL]
theorem sgF_bit (b : Nat) : ∀ (L : List Nat) (m : Nat), (L.foldl (fun m a => m ||| 2 ^ (2 * a) ||| 2 ^ (2 * a + 1)) m).testBit b = true ↔ m.testBit b = true ∨ b / 2 ∈ L
  | [], m => by simp
  | a :: L, m => by
    rw [List.foldl_cons, sgF_bit b L, Nat.testBit_or, Nat.testBit_or, Bool.or_eq_true, Bool.or_eq_true, p2_bit, p2_bit, List.mem_cons]
    constructor
    · rintro (((h | h) | h) | h)
      · exact .inl h
      · exact .inr (.inl (by omega))
      · exact .inr (.inl (by omega))
      · exact .inr (.inr h)
    · rintro (h | h | h)
      · exact .inl (.inl (.inl h))
      · rcases Nat.mod_two_eq_zero_or_one b with h4 | h4
        · exact .inl (.inl (.inr (by omega)))
        · exact .inl (.inr (by omega))
      · exact .inr h
theorem sgL_bit (L : List Nat) (b : Nat) : (sgL L).testBit b = true ↔ b / 2 ∈ L := by
  unfold sgL; rw [sgF_bit]; simp
theorem sgL_lt (L : List Nat) (h : ∀ a, a ∈ L → a < 8) : sgL L < 65536 := by
  rw [show 65536 = 2 ^ 16 by decide]
  refine Nat.lt_pow_two_of_testBit _ (fun b hb => ?_)
  cases h1 : (sgL L).testBit b with
  | false => rfl
  | true => have := h _ ((sgL_bit L b).1 h1); omega
/-- The rows of the doubled relation, one letter after the other. -/
def dblK (rs : List Nat) (k : Nat) : List Nat := (List.range (2 * k)).map fun a => sgL (bitsOf (rs.getD (a / 2) 0))
theorem dblK_next (rs : List Nat) (k : Nat) : dblK rs (k + 1) = dblK rs k ++ [sgL (bitsOf (rs.getD k 0)), sgL (bitsOf (rs.getD k 0))] := by
  unfold dblK
  rw [show 2 * (k + 1) = 2 * k + 1 + 1 by omega, List.range_succ, List.range_succ, List.map_append, List.map_append, List.append_assoc]
  simp only [List.map_cons, List.map_nil]
  rw [show 2 * k / 2 = k by omega, show (2 * k + 1) / 2 = k by omega]; rfl
theorem dblK_full (rs : List Nat) (n : Nat) (hl : rs.length = n) (h8 : n ≤ 8) (hr : ∀ i, rs.getD i 0 < 2 ^ n) : dblK rs n = dblR rs := by
  subst hl
  refine relM_eq _ _ _ (by simp [dblK]) (fun i => ?_) (fun i b hi hb => ?_)
  · rcases Nat.lt_or_ge i (2 * rs.length) with h | h
    · unfold dblK
      rw [getD_range_map _ _ _ h]
      refine Nat.lt_pow_two_of_testBit _ (fun b hb => ?_)
      cases h1 : (sgL (bitsOf (rs.getD (i / 2) 0))).testBit b with
      | false => rfl
      | true =>
        have h2 := ((bitsOf_mem _ _).1 ((sgL_bit _ _).1 h1)).2
        have h9 : (rs.getD (i / 2) 0).testBit (b / 2) = false := Nat.testBit_lt_two_pow (Nat.lt_of_lt_of_le (hr _) (Nat.pow_le_pow_right (by decide) (by omega)))
        rw [h9] at h2; cases h2
    · rw [getD_past _ _ i (by simp [dblK]) h]; exact p2_pos _
  · unfold R
    show ((dblK rs rs.length).getD i 0).testBit b = true ↔ _
    unfold dblK
    rw [getD_range_map _ _ _ hi, sgL_bit, bitsOf_mem]
    unfold RDep
    exact ⟨fun h => h.2, fun h => ⟨by omega, h⟩⟩
end Go.Proofs.YtdafdffmkjhhcaaDoor

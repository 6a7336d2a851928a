/-
  Plain mathematics: the least reflexive and transitive relation, by growing sets and by Warshall's rounds.
-/
import Derived.Test.YtmifkbmgpofjbaaDoorMath
namespace Go.Proofs.YtmifkbmgpofjbaaDoor
open Go.RowKit
set_option linter.unusedVariables false
set_option maxRecDepth 100000

def ints (rs : List Nat) : List Int := rs.map fun m => ((m : Nat) : Int)
theorem ints_len (rs : List Nat) : (ints rs).length = rs.length := by simp [ints]
theorem ints_at {rs : List Nat} {k : Nat} {m : Nat} (h : rs[k]? = some m) : (ints rs)[k]? = some (m : Int) := by simp [ints, h]
theorem ints_set (rs : List Nat) (k m : Nat) : (ints rs).set k ((m : Nat) : Int) = ints (rs.set k m) := by simp [ints, List.map_set]
theorem ints_getD (rs : List Nat) (k : Nat) (h : k < rs.length) : (ints rs)[k]? = some ((rs.getD k 0 : Nat) : Int) := by
  rw [List.getD_eq_getElem?_getD, List.getElem?_eq_getElem h]
  exact ints_at (List.getElem?_eq_getElem h)
/-- A relation's list, as natural numbers. -/
theorem relB_nats (xs : List Int) (h : relB xs = true) : ∃ rs : List Nat, xs = ints rs ∧ rs.length = xs.length ∧ ∀ i, rs.getD i 0 < 2 ^ xs.length := by
  refine ⟨xs.map Int.toNat, ?_, by simp, ?_⟩
  · unfold ints
    rw [List.map_map]
    conv => lhs; rw [← List.map_id xs]
    apply List.map_congr_left
    intro x hx
    obtain ⟨k, hk⟩ := List.getElem?_of_mem hx
    have := relB_mask xs h k x hk
    simp; omega
  · intro i
    rw [List.getD_eq_getElem?_getD, List.getElem?_map]
    cases hx : xs[i]? with
    | none => exact p2_pos _
    | some x =>
      have := relB_mask xs h i x hx
      simp; omega
theorem bit_lt {m n k : Nat} (h : m < 2 ^ n) (hb : m.testBit k = true) : k < n := by
  rcases Nat.lt_or_ge k n with h1 | h1
  · exact h1
  · rw [Nat.testBit_lt_two_pow (Nat.lt_of_lt_of_le h (Nat.pow_le_pow_right (by decide) h1))] at hb; cases hb
theorem nat_ext {a b n : Nat} (ha : a < 2 ^ n) (hb : b < 2 ^ n) (h : ∀ k, k < n → (a.testBit k = true ↔ b.testBit k = true)) : a = b := by
  apply Nat.eq_of_testBit_eq
  intro k
  rcases Nat.lt_or_ge k n with h1 | h1
  · exact Bool.eq_iff_iff.2 (h k h1)
  · rw [Nat.testBit_lt_two_pow (Nat.lt_of_lt_of_le ha (Nat.pow_le_pow_right (by decide) h1)), Nat.testBit_lt_two_pow (Nat.lt_of_lt_of_le hb (Nat.pow_le_pow_right (by decide) h1))]
theorem p2_bit (k b : Nat) : (2 ^ k).testBit b = true ↔ k = b := by rw [Nat.testBit_two_pow]; simp

/-- i is related to k. -/
def R (rs : List Nat) (i k : Nat) : Prop := (rs.getD i 0).testBit k = true
instance (rs : List Nat) (i k : Nat) : Decidable (R rs i k) := inferInstanceAs (Decidable (_ = true))
/-- Chains of related elements lead from i to k. -/
inductive RT (rs : List Nat) : Nat → Nat → Prop
  | refl (i : Nat) : RT rs i i
  | step {i j k : Nat} : RT rs i j → R rs j k → RT rs i k
theorem RT.trans {rs : List Nat} {i j k : Nat} (h : RT rs i j) (g : RT rs j k) : RT rs i k := by
  induction g with
  | refl => exact h
  | step _ r ih => exact ih.step r
theorem RT.lt {rs : List Nat} {n i k : Nat} (hr : ∀ i, rs.getD i 0 < 2 ^ n) (hi : i < n) (h : RT rs i k) : k < n := by
  cases h with
  | refl => exact hi
  | step _ r => exact bit_lt (hr _) r

/-! ### growing sets -/
def stepM (rs : List Nat) (m : Nat) : Nat → Nat
  | 0 => m
  | k + 1 => if m.testBit k = true then stepM rs m k ||| rs.getD k 0 else stepM rs m k
theorem stepM_bit (rs : List Nat) (m k b : Nat) : (stepM rs m k).testBit b = true ↔ m.testBit b = true ∨ ∃ i, i < k ∧ m.testBit i = true ∧ R rs i b := by
  induction k with
  | zero => simp [stepM]
  | succ k ih =>
    unfold stepM
    by_cases h : m.testBit k = true
    · rw [if_pos h, Nat.testBit_or, Bool.or_eq_true, ih]
      constructor
      · rintro ((h1 | ⟨i, hi, h2, h3⟩) | h4)
        · exact .inl h1
        · exact .inr ⟨i, by omega, h2, h3⟩
        · exact .inr ⟨k, by omega, h, h4⟩
      · rintro (h1 | ⟨i, hi, h2, h3⟩)
        · exact .inl (.inl h1)
        · by_cases e : i = k
          · subst e; exact .inr h3
          · exact .inl (.inr ⟨i, by omega, h2, h3⟩)
    · rw [if_neg h, ih]
      constructor
      · rintro (h1 | ⟨i, hi, h2, h3⟩)
        · exact .inl h1
        · exact .inr ⟨i, by omega, h2, h3⟩
      · rintro (h1 | ⟨i, hi, h2, h3⟩)
        · exact .inl h1
        · by_cases e : i = k
          · subst e; exact absurd h2 h
          · exact .inr ⟨i, by omega, h2, h3⟩
theorem stepM_lt (rs : List Nat) (n m k : Nat) (hr : ∀ i, rs.getD i 0 < 2 ^ n) (hm : m < 2 ^ n) : stepM rs m k < 2 ^ n := by
  induction k with
  | zero => exact hm
  | succ k ih => unfold stepM; split; exact Nat.or_lt_two_pow ih (hr k); exact ih
def reachM (rs : List Nat) (frm : Nat) : Nat → Nat
  | 0 => 2 ^ frm
  | t + 1 => stepM rs (reachM rs frm t) rs.length
theorem reachM_lt (rs : List Nat) (n frm t : Nat) (hr : ∀ i, rs.getD i 0 < 2 ^ n) (hf : frm < n) : reachM rs frm t < 2 ^ n := by
  induction t with
  | zero => exact Nat.pow_lt_pow_right (by decide) hf
  | succ t ih => exact stepM_lt rs n _ _ hr ih
def cnt (m : Nat) : Nat → Nat
  | 0 => 0
  | k + 1 => cnt m k + if m.testBit k = true then 1 else 0
theorem cnt_le (m n : Nat) : cnt m n ≤ n := by
  induction n with
  | zero => exact Nat.le_refl _
  | succ n ih => unfold cnt; split <;> omega
theorem cnt_mono (m m' n : Nat) (h : ∀ b, b < n → m.testBit b = true → m'.testBit b = true) : cnt m n ≤ cnt m' n := by
  induction n with
  | zero => exact Nat.le_refl _
  | succ n ih =>
    have := ih fun b hb => h b (by omega)
    unfold cnt
    by_cases e : m.testBit n = true
    · rw [if_pos e, if_pos (h n (by omega) e)]; omega
    · rw [if_neg e]; omega
theorem cnt_more (m m' n b : Nat) (h : ∀ b, b < n → m.testBit b = true → m'.testBit b = true) (hb : b < n) (h1 : ¬ m.testBit b = true) (h2 : m'.testBit b = true) : cnt m n + 1 ≤ cnt m' n := by
  induction n with
  | zero => omega
  | succ n ih =>
    unfold cnt
    by_cases e : b = n
    · subst e
      have := cnt_mono m m' b fun b hb => h b (by omega)
      rw [if_neg h1, if_pos h2]; omega
    · have := ih (fun b hb => h b (by omega)) (by omega)
      by_cases e2 : m.testBit n = true
      · rw [if_pos e2, if_pos (h n (by omega) e2)]; omega
      · rw [if_neg e2]; omega
def Closed (rs : List Nat) (m : Nat) : Prop := ∀ i k, m.testBit i = true → R rs i k → m.testBit k = true
theorem stepM_closed (rs : List Nat) (m : Nat) (h : Closed rs m) (k : Nat) : stepM rs m k = m := by
  apply Nat.eq_of_testBit_eq
  intro b
  apply Bool.eq_iff_iff.2
  rw [stepM_bit]
  constructor
  · rintro (h1 | ⟨i, _, h2, h3⟩)
    · exact h1
    · exact h i b h2 h3
  · exact .inl
theorem reachM_grows (rs : List Nat) (n frm : Nat) (hn : rs.length = n) (hr : ∀ i, rs.getD i 0 < 2 ^ n) (hf : frm < n) (t : Nat) : Closed rs (reachM rs frm t) ∨ t + 1 ≤ cnt (reachM rs frm t) n := by
  induction t with
  | zero =>
    right
    have := cnt_more 0 (2 ^ frm) n frm (fun b _ h => by simp at h) hf (by simp) (by rw [p2_bit])
    exact Nat.le_trans (by omega) this
  | succ t ih =>
    rcases Classical.em (Closed rs (reachM rs frm t)) with hc | hc
    · left
      show Closed rs (stepM rs _ _)
      rw [stepM_closed rs _ hc]; exact hc
    · right
      have h1 := ih.resolve_left hc
      have : ∃ b, b < n ∧ ¬ (reachM rs frm t).testBit b = true ∧ (reachM rs frm (t + 1)).testBit b = true := by
        apply Classical.byContradiction
        intro hno
        apply hc
        intro i k hi hk
        apply Classical.byContradiction
        intro hk2
        exact hno ⟨k, bit_lt (hr i) hk, hk2, (stepM_bit _ _ _ _).2 (.inr ⟨i, by rw [hn]; exact bit_lt (reachM_lt rs n frm t hr hf) hi, hi, hk⟩)⟩
      obtain ⟨b, hb, h2, h3⟩ := this
      have := cnt_more (reachM rs frm t) (reachM rs frm (t + 1)) n b (fun b _ h => (stepM_bit _ _ _ _).2 (.inl h)) hb h2 h3
      omega
/-- After as many rounds as there are elements, the set is what chains lead to. -/
theorem reachM_bit (rs : List Nat) (n frm : Nat) (hn : rs.length = n) (hr : ∀ i, rs.getD i 0 < 2 ^ n) (hf : frm < n) (b : Nat) : (reachM rs frm n).testBit b = true ↔ RT rs frm b := by
  have hsub : ∀ t b, (reachM rs frm t).testBit b = true → RT rs frm b := by
    intro t
    induction t with
    | zero => intro b h; have := (p2_bit frm b).1 h; subst this; exact .refl _
    | succ t ih =>
      intro b h
      rcases (stepM_bit _ _ _ _).1 h with h1 | ⟨i, _, h2, h3⟩
      · exact ih b h1
      · exact (ih i h2).step h3
  refine ⟨hsub n b, ?_⟩
  intro h
  have hc : Closed rs (reachM rs frm n) := by
    rcases reachM_grows rs n frm hn hr hf n with h | h
    · exact h
    · have := cnt_le (reachM rs frm n) n; omega
  have h0 : ∀ t, (reachM rs frm t).testBit frm = true := by
    intro t
    induction t with
    | zero => exact (p2_bit _ _).2 rfl
    | succ t ih => exact (stepM_bit _ _ _ _).2 (.inl ih)
  induction h with
  | refl => exact h0 n
  | step _ r ih => exact hc _ _ ih r

/-! ### Warshall's rounds -/
def W (rs : List Nat) : Nat → Nat → Nat → Prop
  | 0, i, k => i = k ∨ R rs i k
  | j + 1, i, k => W rs j i k ∨ (W rs j i j ∧ W rs j j k)
theorem W_sub (rs : List Nat) (j i k : Nat) (h : W rs j i k) : RT rs i k := by
  induction j generalizing i k with
  | zero =>
    rcases h with rfl | h
    · exact .refl _
    · exact (RT.refl i).step h
  | succ j ih =>
    rcases h with h | ⟨h1, h2⟩
    · exact ih _ _ h
    · exact (ih _ _ h1).trans (ih _ _ h2)
theorem W_base (rs : List Nat) (j i k : Nat) (h : i = k ∨ R rs i k) : W rs j i k := by
  induction j with
  | zero => exact h
  | succ j ih => exact .inl ih
theorem W_trans (rs : List Nat) (j m i k : Nat) (hm : m < j) (h1 : W rs j i m) (h2 : W rs j m k) : W rs j i k := by
  induction j generalizing m i k with
  | zero => omega
  | succ j ih =>
    by_cases e : m = j
    · subst e
      have h3 : W rs m i m := by rcases h1 with h | ⟨h, _⟩ <;> exact h
      have h4 : W rs m m k := by rcases h2 with h | ⟨_, h⟩ <;> exact h
      exact .inr ⟨h3, h4⟩
    · have hm' : m < j := by omega
      rcases h1 with h1 | ⟨h1, h1'⟩
      · rcases h2 with h2 | ⟨h2, h2'⟩
        · exact .inl (ih m i k hm' h1 h2)
        · exact .inr ⟨ih m i j hm' h1 h2, h2'⟩
      · rcases h2 with h2 | ⟨h2, h2'⟩
        · exact .inr ⟨h1, ih m j k hm' h1' h2⟩
        · exact .inr ⟨h1, h2'⟩
theorem W_full (rs : List Nat) (n i k : Nat) (hr : ∀ i, rs.getD i 0 < 2 ^ n) (hi : i < n) : W rs n i k ↔ RT rs i k := by
  refine ⟨W_sub rs n i k, fun h => ?_⟩
  induction h with
  | refl => exact W_base rs n i i (.inl rfl)
  | step h r ih => exact W_trans rs n _ i _ (RT.lt hr hi h) ih (W_base rs n _ _ (.inr r))
theorem W_row (rs : List Nat) (j k : Nat) : W rs (j + 1) j k ↔ W rs j j k := by
  constructor
  · rintro (h | ⟨_, h⟩) <;> exact h
  · exact .inl
/-- What the closure is, as a list. -/
def closM (rs : List Nat) : List Nat := (List.range rs.length).map fun i => reachM rs i rs.length
theorem closM_len (rs : List Nat) : (closM rs).length = rs.length := by simp [closM]
theorem closM_at (rs : List Nat) (i : Nat) (h : i < rs.length) : (closM rs).getD i 0 = reachM rs i rs.length := by
  rw [List.getD_eq_getElem?_getD]; simp [closM, h]
theorem closM_eq (rs cs : List Nat) (n : Nat) (hn : rs.length = n) (hc : cs.length = n) (hr : ∀ i, rs.getD i 0 < 2 ^ n) (hcl : ∀ i, cs.getD i 0 < 2 ^ n) (h : ∀ i k, i < n → ((cs.getD i 0).testBit k = true ↔ W rs n i k)) : cs = closM rs := by
  apply List.ext_getElem?
  intro i
  by_cases hi : i < n
  · have e1 : cs[i]? = some (cs.getD i 0) := by rw [List.getD_eq_getElem?_getD, List.getElem?_eq_getElem (by omega)]; rfl
    have e2 : (closM rs)[i]? = some ((closM rs).getD i 0) := by rw [List.getD_eq_getElem?_getD, List.getElem?_eq_getElem (by rw [closM_len]; omega)]; rfl
    rw [e1, e2, closM_at rs i (by omega)]
    congr 1
    refine nat_ext (hcl i) ?_ fun k hk => ?_
    · exact reachM_lt rs n i _ hr hi
    · rw [h i k hi, W_full rs n i k hr hi, hn, reachM_bit rs n i hn hr hi]
  · rw [List.getElem?_eq_none (by omega), List.getElem?_eq_none (by rw [closM_len]; omega)]
end Go.Proofs.YtmifkbmgpofjbaaDoor

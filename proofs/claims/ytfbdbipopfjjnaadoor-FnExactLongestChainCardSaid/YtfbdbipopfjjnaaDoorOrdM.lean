/-
  Plain mathematics of the order of a word's places: what is reached, by rows and by columns; first and last letters.
-/
import Derived.Test.YtfbdbipopfjjnaaDoorAlJoin
import Derived.Test.YtfbdbipopfjjnaaDoorSameM
namespace Go.Proofs.YtfbdbipopfjjnaaDoor
open Go.RowKit
set_option linter.unusedVariables false
set_option maxRecDepth 100000

/-- The places reached from i, of those below n. -/
def upGo (D : Nat → Nat → Bool) (us : List Nat) (i : Nat) : Nat → Nat
  | 0 => 0
  | k + 1 => if k = i then 2 ^ i else if (List.range k).any (fun j => (upGo D us i k).testBit j && D (us.getD j 0) (us.getD k 0)) = true then upGo D us i k ||| 2 ^ k else upGo D us i k
def lqB (D : Nat → Nat → Bool) (us : List Nat) (i k : Nat) : Bool := (upGo D us i (k + 1)).testBit k
theorem upGo_low (D : Nat → Nat → Bool) (us : List Nat) (i : Nat) : ∀ n, n ≤ i → upGo D us i n = 0
  | 0, _ => rfl
  | k + 1, h => by
    have ih := upGo_low D us i k (by omega)
    show (if k = i then 2 ^ i else if (List.range k).any (fun j => (upGo D us i k).testBit j && D (us.getD j 0) (us.getD k 0)) = true then upGo D us i k ||| 2 ^ k else upGo D us i k) = 0
    rw [if_neg (by omega), ih, if_neg]
    simp
theorem upGo_self (D : Nat → Nat → Bool) (us : List Nat) (i : Nat) : upGo D us i (i + 1) = 2 ^ i := by
  show (if i = i then 2 ^ i else _) = _
  rw [if_pos rfl]
theorem upGo_bit (D : Nat → Nat → Bool) (us : List Nat) (i : Nat) : ∀ n k, (upGo D us i n).testBit k = true ↔ k < n ∧ lqB D us i k = true
  | 0, k => by
    show (0 : Nat).testBit k = true ↔ _
    rw [Nat.zero_testBit]
    exact ⟨fun h => (by cases h), fun h => absurd h.1 (by omega)⟩
  | n + 1, k => by
    have ih := upGo_bit D us i n k
    rcases Nat.lt_trichotomy k n with h | h | h
    · have e : (upGo D us i (n + 1)).testBit k = (upGo D us i n).testBit k := by
        show (if n = i then 2 ^ i else if (List.range n).any (fun j => (upGo D us i n).testBit j && D (us.getD j 0) (us.getD n 0)) = true then upGo D us i n ||| 2 ^ n else upGo D us i n).testBit k = _
        split
        · rename_i h9
          rw [upGo_low D us i n (by omega), Nat.zero_testBit, Nat.testBit_two_pow]
          exact decide_eq_false (by omega)
        · split
          · rw [Nat.testBit_or, Nat.testBit_two_pow, decide_eq_false (by omega), Bool.or_false]
          · rfl
      rw [e, ih]
      exact ⟨fun h2 => ⟨by omega, h2.2⟩, fun h2 => ⟨h, h2.2⟩⟩
    · subst h
      exact ⟨fun h2 => ⟨by omega, h2⟩, fun h2 => h2.2⟩
    · constructor
      · intro h2
        exfalso
        have e : (upGo D us i (n + 1)).testBit k = (upGo D us i n).testBit k := by
          show (if n = i then 2 ^ i else if (List.range n).any (fun j => (upGo D us i n).testBit j && D (us.getD j 0) (us.getD n 0)) = true then upGo D us i n ||| 2 ^ n else upGo D us i n).testBit k = _
          split
          · rename_i h9
            rw [upGo_low D us i n (by omega), Nat.zero_testBit, Nat.testBit_two_pow]
            exact decide_eq_false (by omega)
          · split
            · rw [Nat.testBit_or, Nat.testBit_two_pow, decide_eq_false (by omega), Bool.or_false]
            · rfl
        rw [e] at h2
        have := (ih.1 h2).1
        omega
      · intro h2; omega
theorem lq_rec (D : Nat → Nat → Bool) (us : List Nat) (i k : Nat) : lqB D us i k = true ↔ k = i ∨ ∃ j, j < k ∧ lqB D us i j = true ∧ D (us.getD j 0) (us.getD k 0) = true := by
  unfold lqB
  by_cases h : k = i
  · subst h
    rw [upGo_self, p2_bit]
    exact ⟨fun _ => .inl rfl, fun _ => rfl⟩
  · have e : upGo D us i (k + 1) = if (List.range k).any (fun j => (upGo D us i k).testBit j && D (us.getD j 0) (us.getD k 0)) = true then upGo D us i k ||| 2 ^ k else upGo D us i k := by
      show (if k = i then 2 ^ i else _) = _
      rw [if_neg h]
    have hk : (upGo D us i k).testBit k = false := by
      rw [Bool.eq_false_iff]; intro h2
      have := ((upGo_bit D us i k k).1 h2).1
      omega
    have ha : (List.range k).any (fun j => (upGo D us i k).testBit j && D (us.getD j 0) (us.getD k 0)) = true ↔ ∃ j, j < k ∧ lqB D us i j = true ∧ D (us.getD j 0) (us.getD k 0) = true := by
      rw [List.any_eq_true]
      constructor
      · rintro ⟨j, hj, h2⟩
        rw [Bool.and_eq_true, upGo_bit] at h2
        exact ⟨j, h2.1.1, h2.1.2, h2.2⟩
      · rintro ⟨j, hj, h2, h3⟩
        exact ⟨j, List.mem_range.2 hj, by rw [Bool.and_eq_true, upGo_bit]; exact ⟨⟨hj, h2⟩, h3⟩⟩
    rw [e]
    split
    · rename_i h9
      rw [Nat.testBit_or, hk, Bool.false_or, p2_bit]
      exact ⟨fun _ => .inr (ha.1 h9), fun _ => rfl⟩
    · rename_i h9
      rw [hk]
      constructor
      · intro h2; cases h2
      · rintro (h2 | h2)
        · exact absurd h2 h
        · exact absurd (ha.2 h2) h9
theorem lq_refl (D : Nat → Nat → Bool) (us : List Nat) (i : Nat) : lqB D us i i = true := (lq_rec D us i i).2 (.inl rfl)
theorem lq_le (D : Nat → Nat → Bool) (us : List Nat) (i : Nat) : ∀ k, lqB D us i k = true → i ≤ k := by
  intro k
  induction k using Nat.strongRecOn with
  | ind k ih =>
    intro h
    rcases (lq_rec D us i k).1 h with rfl | ⟨j, hj, h2, _⟩
    · exact Nat.le_refl _
    · have := ih j hj h2; omega
theorem lq_trans (D : Nat → Nat → Bool) (us : List Nat) (i j : Nat) (h : lqB D us i j = true) : ∀ k, lqB D us j k = true → lqB D us i k = true := by
  intro k
  induction k using Nat.strongRecOn with
  | ind k ih =>
    intro h2
    rcases (lq_rec D us j k).1 h2 with rfl | ⟨q, hq, h3, h4⟩
    · exact h
    · exact (lq_rec D us i k).2 (.inr ⟨q, hq, ih q hq h3, h4⟩)

/-- Row i of the order of m places; the rows of the order; the places below k; those below k by way of the places below i. -/
def upW (D : Nat → Nat → Bool) (us : List Nat) (m i : Nat) : Nat := mkM (lqB D us i) m
def ordM (D : Nat → Nat → Bool) (us : List Nat) (m : Nat) : List Nat := (List.range m).map fun i => upW D us m i
def dnW (D : Nat → Nat → Bool) (us : List Nat) (k : Nat) : Nat := mkM (fun a => lqB D us a k) 24
def dnP (D : Nat → Nat → Bool) (us : List Nat) (k i : Nat) : Nat := mkM (fun a => (List.range i).any fun j => D (us.getD k 0) (us.getD j 0) && lqB D us a j) 24
theorem ordM_len (D : Nat → Nat → Bool) (us : List Nat) (m : Nat) : (ordM D us m).length = m := by simp [ordM]
theorem ordM_at (D : Nat → Nat → Bool) (us : List Nat) (m i : Nat) (h : i < m) : (ordM D us m).getD i 0 = upW D us m i := getD_range_map _ _ _ h
theorem upW_lt (D : Nat → Nat → Bool) (us : List Nat) (m i : Nat) : upW D us m i < 2 ^ m := mkM_lt _ _ _ (Nat.le_refl _)
theorem ordM_lt (D : Nat → Nat → Bool) (us : List Nat) (m i : Nat) : (ordM D us m).getD i 0 < 2 ^ m := by
  rcases Nat.lt_or_ge i m with h | h
  · rw [ordM_at _ _ _ _ h]; exact upW_lt _ _ _ _
  · rw [getD_past _ m i (ordM_len _ _ _) h]; exact p2_pos m
theorem upW_bit (D : Nat → Nat → Bool) (us : List Nat) (m i k : Nat) : (upW D us m i).testBit k = true ↔ k < m ∧ lqB D us i k = true := mkM_bit _ _ _
theorem dnW_bit (D : Nat → Nat → Bool) (us : List Nat) (k a : Nat) : (dnW D us k).testBit a = true ↔ a < 24 ∧ lqB D us a k = true := mkM_bit _ _ _
theorem dnW_lt24 (D : Nat → Nat → Bool) (us : List Nat) (k : Nat) : dnW D us k < 2 ^ 24 := mkM_lt _ _ _ (Nat.le_refl _)
theorem dnP_lt24 (D : Nat → Nat → Bool) (us : List Nat) (k i : Nat) : dnP D us k i < 2 ^ 24 := mkM_lt _ _ _ (Nat.le_refl _)
theorem dnW_lt (D : Nat → Nat → Bool) (us : List Nat) (m k : Nat) (hk : k < m) : dnW D us k < 2 ^ m := by
  apply Nat.lt_pow_two_of_testBit
  intro a ha
  rw [Bool.eq_false_iff]; intro h
  have := lq_le D us a k ((dnW_bit _ _ _ _).1 h).2
  omega
theorem dnP_zero (D : Nat → Nat → Bool) (us : List Nat) (k : Nat) : dnP D us k 0 = 0 := by
  apply Nat.eq_of_testBit_eq
  intro a
  rw [Nat.zero_testBit, Bool.eq_false_iff]; intro h
  have := (mkM_bit _ _ _).1 h
  simp at this
theorem dnP_bit (D : Nat → Nat → Bool) (us : List Nat) (k i a : Nat) : (dnP D us k i).testBit a = true ↔ a < 24 ∧ ∃ j, j < i ∧ D (us.getD k 0) (us.getD j 0) = true ∧ lqB D us a j = true := by
  unfold dnP
  rw [mkM_bit, List.any_eq_true]
  constructor
  · rintro ⟨h, j, hj, h2⟩
    rw [Bool.and_eq_true] at h2
    exact ⟨h, j, List.mem_range.1 hj, h2.1, h2.2⟩
  · rintro ⟨h, j, hj, h2, h3⟩
    exact ⟨h, j, List.mem_range.2 hj, by rw [Bool.and_eq_true]; exact ⟨h2, h3⟩⟩
theorem dnP_yes (D : Nat → Nat → Bool) (us : List Nat) (k i : Nat) (h : D (us.getD k 0) (us.getD i 0) = true) : dnP D us k i ||| dnW D us i = dnP D us k (i + 1) := by
  refine nat_ext (n := 24) (Nat.or_lt_two_pow (dnP_lt24 _ _ _ _) (dnW_lt24 _ _ _)) (dnP_lt24 _ _ _ _) fun a ha => ?_
  rw [Nat.testBit_or, Bool.or_eq_true, dnP_bit, dnW_bit, dnP_bit]
  constructor
  · rintro (⟨h1, j, hj, h2⟩ | ⟨h1, h2⟩)
    · exact ⟨h1, j, by omega, h2⟩
    · exact ⟨h1, i, by omega, h, h2⟩
  · rintro ⟨h1, j, hj, h2, h3⟩
    rcases Nat.lt_or_ge j i with h4 | h4
    · exact .inl ⟨h1, j, h4, h2, h3⟩
    · have : j = i := by omega
      subst this
      exact .inr ⟨h1, h3⟩
theorem dnP_no (D : Nat → Nat → Bool) (us : List Nat) (k i : Nat) (h : D (us.getD k 0) (us.getD i 0) = false) : dnP D us k i = dnP D us k (i + 1) := by
  refine nat_ext (n := 24) (dnP_lt24 _ _ _ _) (dnP_lt24 _ _ _ _) fun a ha => ?_
  rw [dnP_bit, dnP_bit]
  constructor
  · rintro ⟨h1, j, hj, h2⟩
    exact ⟨h1, j, by omega, h2⟩
  · rintro ⟨h1, j, hj, h2, h3⟩
    rcases Nat.lt_or_ge j i with h4 | h4
    · exact ⟨h1, j, h4, h2, h3⟩
    · have : j = i := by omega
      subst this
      rw [h] at h2; cases h2
theorem dnP_end (D : Nat → Nat → Bool) (hsym : ∀ a b, D a b = D b a) (us : List Nat) (k : Nat) (hk : k < 24) : dnP D us k k ||| 2 ^ k = dnW D us k := by
  refine nat_ext (n := 24) (Nat.or_lt_two_pow (dnP_lt24 _ _ _ _) (Nat.pow_lt_pow_right (by decide) hk)) (dnW_lt24 _ _ _) fun a ha => ?_
  rw [Nat.testBit_or, Bool.or_eq_true, dnP_bit, p2_bit, dnW_bit, lq_rec D us a k]
  constructor
  · rintro (⟨h1, j, hj, h2, h3⟩ | rfl)
    · exact ⟨h1, .inr ⟨j, hj, h3, by rw [hsym]; exact h2⟩⟩
    · exact ⟨ha, .inl rfl⟩
  · rintro ⟨h1, rfl | ⟨j, hj, h2, h3⟩⟩
    · exact .inr rfl
    · exact .inl ⟨h1, j, hj, by rw [hsym]; exact h3, h2⟩
/-- One more place above i. -/
theorem upW_next (D : Nat → Nat → Bool) (us : List Nat) (k i : Nat) : upW D us (k + 1) i = if lqB D us i k = true then upW D us k i ||| 2 ^ k else upW D us k i := rfl
theorem upW_upGo (D : Nat → Nat → Bool) (us : List Nat) (m i : Nat) : upW D us m i = upGo D us i m := by
  apply Nat.eq_of_testBit_eq
  intro k
  rw [Bool.eq_iff_iff, upW_bit, upGo_bit]
theorem upW_zero (D : Nat → Nat → Bool) (us : List Nat) (i : Nat) : upW D us 0 i = 0 := rfl
/-- The model's inner rounds: row i before place k, and what the places before j say of k. -/
def upJ (D : Nat → Nat → Bool) (us : List Nat) (i k j : Nat) : Nat := if (List.range j).any (fun q => (upGo D us i k).testBit q && D (us.getD q 0) (us.getD k 0)) = true then upGo D us i k ||| 2 ^ k else upGo D us i k
theorem upJ_start (D : Nat → Nat → Bool) (us : List Nat) (i k : Nat) : upJ D us i k i = upGo D us i k := by
  unfold upJ
  rw [if_neg]
  rw [Bool.not_eq_true, List.any_eq_false]
  intro q hq
  have hq' := List.mem_range.1 hq
  rw [Bool.and_eq_true, upGo_bit]
  rintro ⟨⟨_, h⟩, _⟩
  have := lq_le D us i q h
  omega
theorem upJ_end (D : Nat → Nat → Bool) (us : List Nat) (i k : Nat) (h : i < k) : upJ D us i k k = upGo D us i (k + 1) := by
  show _ = (if k = i then 2 ^ i else if (List.range k).any (fun j => (upGo D us i k).testBit j && D (us.getD j 0) (us.getD k 0)) = true then upGo D us i k ||| 2 ^ k else upGo D us i k)
  rw [if_neg (by omega)]; rfl
theorem upJ_bit (D : Nat → Nat → Bool) (us : List Nat) (i k j q : Nat) (h : q < k) : (upJ D us i k j).testBit q = (upGo D us i k).testBit q := by
  unfold upJ
  split
  · rw [Nat.testBit_or, Nat.testBit_two_pow, decide_eq_false (by omega), Bool.or_false]
  · rfl
theorem upJ_no (D : Nat → Nat → Bool) (us : List Nat) (i k j : Nat) (h : ((upGo D us i k).testBit j && D (us.getD j 0) (us.getD k 0)) = false) : upJ D us i k (j + 1) = upJ D us i k j := by
  unfold upJ
  rw [List.range_succ, List.any_append, List.any_cons, List.any_nil, h, Bool.or_false, Bool.or_false]
theorem upJ_yes (D : Nat → Nat → Bool) (us : List Nat) (i k j : Nat) (h : ((upGo D us i k).testBit j && D (us.getD j 0) (us.getD k 0)) = true) : upJ D us i k (j + 1) = upJ D us i k j ||| 2 ^ k := by
  unfold upJ
  rw [List.range_succ, List.any_append, List.any_cons, List.any_nil, h, Bool.or_false, Bool.or_true, if_pos rfl]
  split
  · rw [Nat.or_assoc, Nat.or_self]
  · rfl
theorem upGo_lt (D : Nat → Nat → Bool) (us : List Nat) (i m : Nat) : upGo D us i m < 2 ^ m := by rw [← upW_upGo]; exact upW_lt _ _ _ _
theorem upJ_lt (D : Nat → Nat → Bool) (us : List Nat) (i k j m : Nat) (h : k < m) : upJ D us i k j < 2 ^ m := by
  have h1 : upGo D us i k < 2 ^ m := Nat.lt_of_lt_of_le (upGo_lt _ _ _ _) (Nat.pow_le_pow_right (by decide) (by omega))
  unfold upJ
  split
  · exact Nat.or_lt_two_pow h1 (Nat.pow_lt_pow_right (by decide) h)
  · exact h1
theorem ordM_snoc (D : Nat → Nat → Bool) (us : List Nat) (m i : Nat) : (List.range (i + 1)).map (fun i => upGo D us i m) = (List.range i).map (fun i => upGo D us i m) ++ [upGo D us i m] := by
  rw [List.range_succ, List.map_append]; rfl
theorem ordM_upGo (D : Nat → Nat → Bool) (us : List Nat) (m : Nat) : ordM D us m = (List.range m).map (fun i => upGo D us i m) := by
  unfold ordM
  exact List.map_congr_left fun i _ => upW_upGo _ _ _ _

/-! ### alone in a row or in a column -/
theorem dn_alone (D : Nat → Nat → Bool) (us : List Nat) (k : Nat) (hk : k < 24) : dnW D us k = 2 ^ k ↔ ∀ j, j < k → D (us.getD j 0) (us.getD k 0) = false := by
  constructor
  · intro h j hj
    cases hD : D (us.getD j 0) (us.getD k 0)
    · rfl
    · have h2 : (dnW D us k).testBit j = true := (dnW_bit _ _ _ _).2 ⟨by omega, (lq_rec D us j k).2 (.inr ⟨j, hj, lq_refl _ _ _, hD⟩)⟩
      rw [h, p2_bit] at h2
      omega
  · intro h
    refine nat_ext (n := 24) (dnW_lt24 _ _ _) (Nat.pow_lt_pow_right (by decide) hk) fun a ha => ?_
    rw [dnW_bit, p2_bit, lq_rec]
    constructor
    · rintro ⟨_, rfl | ⟨j, hj, _, h3⟩⟩
      · rfl
      · rw [h j hj] at h3; cases h3
    · rintro rfl; exact ⟨ha, .inl rfl⟩
theorem lq_first (D : Nat → Nat → Bool) (us : List Nat) (i k : Nat) (h : lqB D us i k = true) (hne : i ≠ k) : ∃ j, i < j ∧ j ≤ k ∧ D (us.getD i 0) (us.getD j 0) = true := by
  revert hne h
  induction k using Nat.strongRecOn with
  | ind k ih =>
    intro h hne
    rcases (lq_rec D us i k).1 h with rfl | ⟨j, hj, h2, h3⟩
    · exact absurd rfl hne
    · by_cases e : i = j
      · subst e; exact ⟨k, hj, Nat.le_refl _, h3⟩
      · obtain ⟨q, h4, h5, h6⟩ := ih j hj h2 e
        exact ⟨q, h4, by omega, h6⟩
theorem up_alone (D : Nat → Nat → Bool) (us : List Nat) (m i : Nat) (hi : i < m) : upW D us m i = 2 ^ i ↔ ∀ k, i < k → k < m → D (us.getD i 0) (us.getD k 0) = false := by
  constructor
  · intro h k hk hm
    cases hD : D (us.getD i 0) (us.getD k 0)
    · rfl
    · have h2 : (upW D us m i).testBit k = true := (upW_bit _ _ _ _ _).2 ⟨hm, (lq_rec D us i k).2 (.inr ⟨i, hk, lq_refl _ _ _, hD⟩)⟩
      rw [h, p2_bit] at h2
      omega
  · intro h
    refine nat_ext (n := m) (upW_lt _ _ _ _) (Nat.pow_lt_pow_right (by decide) hi) fun k hk => ?_
    rw [upW_bit, p2_bit]
    constructor
    · rintro ⟨_, h2⟩
      apply Classical.byContradiction
      intro hne
      obtain ⟨j, h3, h4, h5⟩ := lq_first D us i k h2 hne
      rw [h j h3 (by omega)] at h5; cases h5
    · rintro rfl; exact ⟨hk, lq_refl _ _ _⟩
/-- The letters at the places that meet a test, of the first k. -/
def aloneM (us : List Nat) (p : Nat → Bool) : Nat → Nat
  | 0 => 0
  | k + 1 => if p k = true then aloneM us p k ||| 2 ^ us.getD k 0 else aloneM us p k
theorem aloneM_bit (us : List Nat) (p : Nat → Bool) (a : Nat) : ∀ k, (aloneM us p k).testBit a = true ↔ ∃ i, i < k ∧ p i = true ∧ us.getD i 0 = a
  | 0 => by
    show (0 : Nat).testBit a = true ↔ _
    rw [Nat.zero_testBit]
    exact ⟨fun h => (by cases h), fun ⟨i, h, _⟩ => absurd h (by omega)⟩
  | k + 1 => by
    have ih := aloneM_bit us p a k
    show (if p k = true then aloneM us p k ||| 2 ^ us.getD k 0 else aloneM us p k).testBit a = true ↔ _
    split
    · rename_i h
      rw [Nat.testBit_or, Bool.or_eq_true, ih, p2_bit]
      constructor
      · rintro (⟨i, h1, h2⟩ | h1)
        · exact ⟨i, by omega, h2⟩
        · exact ⟨k, by omega, h, h1⟩
      · rintro ⟨i, h1, h2, h3⟩
        rcases Nat.lt_or_ge i k with h4 | h4
        · exact .inl ⟨i, h4, h2, h3⟩
        · have : i = k := by omega
          subst this
          exact .inr h3
    · rename_i h
      rw [ih]
      constructor
      · rintro ⟨i, h1, h2⟩; exact ⟨i, by omega, h2⟩
      · rintro ⟨i, h1, h2, h3⟩
        rcases Nat.lt_or_ge i k with h4 | h4
        · exact ⟨i, h4, h2, h3⟩
        · have : i = k := by omega
          subst this
          exact absurd h2 h
theorem aloneM_lt (us : List Nat) (p : Nat → Bool) (n k : Nat) (h : ∀ i, i < k → us.getD i 0 < n) : aloneM us p k < 2 ^ n := by
  apply Nat.lt_pow_two_of_testBit
  intro a ha
  rw [Bool.eq_false_iff]; intro h2
  obtain ⟨i, h3, _, h4⟩ := (aloneM_bit us p a k).1 h2
  have := h i h3
  omega
theorem map_getD_range (us : List Nat) : (List.range us.length).map (fun p => us.getD p 0) = us :=
  list_eq_getD _ _ us.length (by simp) rfl fun p hp => getD_range_map _ _ _ hp
theorem free_places (D : Nat → Nat → Bool) (us : List Nat) (m a : Nat) (hm : us.length = m) : freeB D us a = true ↔ ∃ p, p < m ∧ us.getD p 0 = a ∧ ∀ q, q < p → D (us.getD q 0) a = false := by
  have h := free_iff D (fun p => us.getD p 0) a (List.range m) List.pairwise_lt_range
  have e : (List.range m).map (fun p => us.getD p 0) = us := by subst hm; exact map_getD_range us
  rw [e] at h
  rw [h]
  constructor
  · rintro ⟨p, hp, h1, h2⟩
    have hp' := List.mem_range.1 hp
    exact ⟨p, hp', h1, fun q hq => h2 q (List.mem_range.2 (by omega)) hq⟩
  · rintro ⟨p, hp, h1, h2⟩
    exact ⟨p, List.mem_range.2 hp, h1, fun q _ hq => h2 q hq⟩
/-- The first letters of a word's trace. -/
def firstM (D : Nat → Nat → Bool) (n : Nat) (us : List Nat) : Nat := mkM (freeB D us) n
theorem firstM_lt (D : Nat → Nat → Bool) (n : Nat) (us : List Nat) : firstM D n us < 2 ^ n := mkM_lt _ _ _ (Nat.le_refl _)
theorem dn_first (D : Nat → Nat → Bool) (n m : Nat) (us : List Nat) (hm : us.length = m) (h24 : m ≤ 24) (hn : ∀ p, p < m → us.getD p 0 < n) :
    aloneM us (fun i => dnW D us i == 2 ^ i) m = firstM D n us := by
  refine nat_ext (n := n) (aloneM_lt us _ n m hn) (firstM_lt _ _ _) fun a ha => ?_
  unfold firstM
  rw [aloneM_bit, mkM_bit, free_places D us m a hm]
  constructor
  · rintro ⟨i, h1, h2, h3⟩
    rw [beq_iff_eq, dn_alone D us i (by omega)] at h2
    exact ⟨ha, i, h1, h3, fun q hq => by rw [← h3]; exact h2 q hq⟩
  · rintro ⟨_, i, h1, h3, h2⟩
    refine ⟨i, h1, ?_, h3⟩
    rw [beq_iff_eq, dn_alone D us i (by omega)]
    intro j hj
    rw [h3]; exact h2 j hj
theorem getD_rev (us : List Nat) (m p : Nat) (hm : us.length = m) (hp : p < m) : us.reverse.getD p 0 = us.getD (m - 1 - p) 0 := by
  subst hm
  rw [List.getD_eq_getElem?_getD, List.getD_eq_getElem?_getD, List.getElem?_reverse hp]
theorem up_last (D : Nat → Nat → Bool) (hsym : ∀ a b, D a b = D b a) (n m : Nat) (us : List Nat) (hm : us.length = m) (hn : ∀ p, p < m → us.getD p 0 < n) :
    aloneM us (fun i => upW D us m i == 2 ^ i) m = firstM D n us.reverse := by
  refine nat_ext (n := n) (aloneM_lt us _ n m hn) (firstM_lt _ _ _) fun a ha => ?_
  unfold firstM
  rw [aloneM_bit, mkM_bit, free_places D us.reverse m a (by rw [List.length_reverse]; exact hm)]
  constructor
  · rintro ⟨i, h1, h2, h3⟩
    rw [beq_iff_eq, up_alone D us m i h1] at h2
    refine ⟨ha, m - 1 - i, by omega, ?_, fun q hq => ?_⟩
    · rw [getD_rev us m _ hm (by omega), show m - 1 - (m - 1 - i) = i by omega]; exact h3
    · rw [getD_rev us m _ hm (by omega), hsym, ← h3]
      exact h2 _ (by omega) (by omega)
  · rintro ⟨_, p, h1, h3, h2⟩
    rw [getD_rev us m _ hm h1] at h3
    refine ⟨m - 1 - p, by omega, ?_, h3⟩
    rw [beq_iff_eq, up_alone D us m _ (by omega)]
    intro k hk hkm
    have h4 := h2 (m - 1 - k) (by omega)
    rw [getD_rev us m _ hm (by omega), show m - 1 - (m - 1 - k) = k by omega] at h4
    rw [h3, hsym]; exact h4
theorem Eqv.firstM_ {D : Nat → Nat → Bool} {n : Nat} {u v : List Nat} (href : ∀ a, a < n → D a a = true) (h : Eqv D u v) : firstM D n u = firstM D n v := by
  refine nat_ext (n := n) (firstM_lt _ _ _) (firstM_lt _ _ _) fun a ha => ?_
  unfold firstM
  rw [mkM_bit, mkM_bit, h.free (href a ha)]
theorem Eqv.reverse_ {D : Nat → Nat → Bool} {u v : List Nat} (h : Eqv D u v) : Eqv D u.reverse v.reverse := fun x y d => by
  have := h x y d
  unfold prj at this ⊢
  rw [List.filter_reverse, List.filter_reverse, this]
theorem nfM_eqv {D : Nat → Nat → Bool} {n : Nat} (hsym : ∀ a b, D a b = D b a) (href : ∀ a, a < n → D a a = true) (u : List Nat) (hu : ∀ x, x ∈ u → x < n) : Eqv D (nfM D n u) u := nfGo_eqv hsym href u.length u rfl hu
/-- The places that are neither below nor above. -/
def concM (D : Nat → Nat → Bool) (us : List Nat) (m i : Nat) : Nat := dif (2 ^ m - 1) (dnW D us i ||| upW D us m i)
theorem dif_full (m y : Nat) (hm : m ≤ 24) (hy : y < 2 ^ m) : dif (2 ^ m - 1) y = 2 ^ m - 1 - y := by
  have h24 := p24 m hm
  have hp := p2_pos m
  apply Nat.eq_of_testBit_eq
  intro i
  rw [dif_bit _ _ i (by omega) (by omega), Nat.testBit_two_pow_sub_one, show 2 ^ m - 1 - y = 2 ^ m - (y + 1) by omega, Nat.testBit_two_pow_sub_succ hy]
theorem conc_full (D : Nat → Nat → Bool) (us : List Nat) (m i : Nat) (hm : m ≤ 24) (hi : i < m) : concM D us m i = 2 ^ m - 1 - (dnW D us i ||| upW D us m i) :=
  dif_full m _ hm (Nat.or_lt_two_pow (dnW_lt _ _ _ _ hi) (upW_lt _ _ _ _))
theorem col_ord (D : Nat → Nat → Bool) (us : List Nat) (m i : Nat) (hm : m ≤ 24) (hi : i < m) : colM (ordM D us m) i m = dnW D us i := by
  refine nat_ext (n := m) (colM_lt _ _ _ _ (Nat.le_refl _)) (dnW_lt _ _ _ _ hi) fun a ha => ?_
  rw [colM_bit, dnW_bit]
  unfold R
  rw [ordM_at _ _ _ _ ha, upW_bit]
  exact ⟨fun h => ⟨by omega, h.2.2⟩, fun h => ⟨ha, hi, h.2⟩⟩
end Go.Proofs.YtfbdbipopfjjnaaDoor
